import Derived.Test.YtmkknfdjoajpcaaSortK
import Derived.Test.YtmkknfdjoajpcaaIter
import Derived.Test.YtmkknfdjoajpcaaFw
import Derived.Maps.OwnIn
/-! slices.Collect and slices.Sorted over an iterator that reads cells. -/
namespace Go.Proofs.Ytmkknfdjoajpcaa
open Go.RowKit Go.Maps Go.Sort Go.Shelf

attribute [local go_sem] Oper.semAt_some

/-- The list that is being appended to: it lies in the call's own memory, and its variable holds it. -/
structure ApW (w W : World) (v : Value) (xs : List Int) : Prop where
  below : Below w.heap.size w W
  box : W.heap[w.heap.size]? = some (.cells #[v] 22 (0, 0))
  row : W.ownsRow (w.heap.size + 3) 2 1 v xs.length (xs.map (Value.int .i64))

theorem ApW.turn {w W W' : World} {v : Value} {xs : List Int} (h : ApW w W v xs) {row : Option Nat} (hg : W.grownBy W' row) (hr : ∀ r, row = some r → w.heap.size + 1 ≤ r ∧ v.ownBlock ≠ some r) : ApW w W' v xs where
  below := h.below.grown hg h.below.size (fun k e => by have := (hr k e).1; omega)
  box := (hg.block _ (lt_of_get h.box) (fun e => by have := (hr _ e.symm).1; omega)).trans h.box
  row := by
    cases hv : v.ownBlock with
    | none => exact h.row.kept hg (.inl hv)
    | some g => exact h.row.kept hg (.inr (fun e => by rw [hv] at e; exact (hr g e.symm).2 hv))

theorem apw_ownIn {α : Type} {w : World} (f : List α → List Int) : OwnIn (w.heap.size + 1) 2 (fun (pre : List α) W' => ∃ v, ApW w W' v (f pre)) := by
  rintro s A C row ⟨v, h⟩ hg hr
  refine ⟨v, h.turn hg (fun r e => ?_)⟩
  obtain ⟨h1, h2⟩ := hr r e
  refine ⟨h1, fun ev => ?_⟩
  have hb := (h.row.lt r ev).1
  rcases h2 with h2 | ⟨o, ho, hc⟩
  · omega
  · rcases h.row.2 with ⟨rfl, _⟩ | ⟨g, cp, cur, rfl, _, hg', _⟩
    · simp [Value.ownBlock] at ev
    · simp [Value.ownBlock] at ev
      subst ev
      rw [hg'] at ho
      injection ho with ho
      rw [← ho] at hc
      simp [Obj.isCells] at hc

theorem ApW.grow {w W W' : World} {v v' : Value} {xs ys : List Int} (h : ApW w W v xs) (hq : W'.ownsRow (w.heap.size + 3) 2 1 v' ys.length (ys.map (Value.int .i64))) (hg : W.grownBy W' v.ownBlock) :
    ApW w (W'.setCell ⟨w.heap.size, 0, none⟩ v') v' ys := by
  have hlt := h.row.lt
  have ne : ∀ j, j < w.heap.size + 3 → v.ownBlock ≠ some j := fun j hj e => by have := (hlt j e).1; omega
  have ne' : v'.ownBlock ≠ some w.heap.size := fun e => by have := (hq.lt _ e).1; omega
  have hgs := grownBy_set W' ⟨w.heap.size, 0, none⟩ v'
  have b4' : W'.heap[w.heap.size]? = some (.cells #[v] 22 (0, 0)) := (hg.block _ (lt_of_get h.box) (fun e => ne _ (by omega) e.symm)).trans h.box
  refine ⟨?_, ?_, ownsRow_set hq ne' _⟩
  · have hb := h.below.grown hg h.below.size (fun k e => by have := (hlt k e).1; omega)
    exact hb.grown hgs hb.size (fun k e => by cases e; exact Nat.le_refl _)
  · simp only [World.setCell, Array.getElem?_modify, b4']
    simp

theorem ApW.leaves {w W w' : World} {v : Value} {xs : List Int} (h : ApW w W v xs) (hw' : Shut [w.heap.size + 1] W w') : Res w w' v xs := by
  refine ⟨?_, h.below.trans (hw'.below (fun D hD => by simp at hD; omega))⟩
  have hr := h.row
  refine ⟨hr.1, ?_⟩
  rcases hr.2 with hn | ⟨g, cap, cur, hv, hb, hg, rest⟩
  · exact .inl hn
  · exact .inr ⟨g, cap, cur, hv, by omega, (hw'.block g (fun hm => by simp at hm; omega)).trans hg, rest⟩

theorem append_intK {F : Fence} {nF : Nat} {w : World} {ops : Array Oper} {rest : List Oper} {o : Oper} {a : Act} {Q : Exit → Act → World → Prop} (hgd : o.guard = none) {s y : Operand}
    (ho : o.op = .call { callee := .builtin .append, args := #[s, y], argTypes := #[22, 22] })
    {base : Nat} {v : Value} {L : List Int} {x : Int} (hown : w.ownsRow base 2 1 v L.length (L.map (Value.int .i64))) (hbase : base ≤ w.heap.size) (hl : L.length ≤ 1099511627776)
    (hs : a.eval s = v) (hy : a.eval y = .slice (some ⟨w.heap.size, 0, none⟩) 1 1)
    (hK : ∀ v' w', w'.ownsRow base 2 1 v' (L ++ [x]).length ((L ++ [x]).map (Value.int .i64)) → w.grownBy w' v.ownBlock → wpListIn F nF Try.prog ops Q rest (a.put o.dst v') w') :
    wpListIn F nF Try.prog ops Q (o :: rest) a (w.alloc (.cells #[.int .i64 x] 2)) := by
  obtain ⟨i0, hi, hz0, hz1, hz2⟩ := info_parts info_i64
  refine wpListIn_append_own_at _ hgd s y 22 ho base 2 i0 (.int .i64 0) 1 8 Try.underlying22 hi hz0 hz1 hz2 rfl (by decide) v _ _ hs (hown.alloc _) ⟨w.heap.size, 0, none⟩ 1 1 [.int .i64 x] hy rfl (cell_one_new _ _ _) (by simp [Value.oneCell']) (by unfold maxLen; omega) (by omega) (by simp; omega) ?_
  intro v' w1 hown1 hgrow1 _ _
  exact hK v' w1 (by simpa using hown1) ((World.grownBy_alloc w _ _).trans hgrow1)

set_option maxRecDepth 100000 in
set_option maxHeartbeats 4000000 in
/-- slices.AppendSeq(nil, seq): what the iterator hands over, in its order. -/
theorem appendSeq_in {α : Type} (n : Nat) (hn : 12 ≤ n) (gf : Nat) (lb : Array Value) (eg : ∀ args w, (callFunc gf args).run Try.prog w = .ok (.enter gf args) w) (f : α → Int) (Bs : List Nat) (L : List α) (w : World) (hBs : ∀ b ∈ Bs, b < w.heap.size) (hL : L.length ≤ 1048576)
    (hseq : SeqStopsP Fence.wide (n - 1) Try.prog gf lb (fun x => #[.int .i64 (f x)]) Bs 0 L w) :
    CallsIn Fence.wide n Try.prog 130 #[.slice none 0 0, .func (.func gf) #[] lb] w fun e w' => ∃ v, e = .returned v ∧ Res w w' v (L.map f) := by
  refine callsIn_of_wp_marks Try.func130 rfl trivial ?_ rfl
  simp only [Try.ntmps130, List.size_toArray, List.length_cons, List.length_nil, Nat.reduceAdd, Nat.reduceSub, Array.replicate_succ, Array.replicate_zero, List.push_toArray, List.append_toArray, List.nil_append, List.cons_append]
  gi_wp2_with fail
  obtain ⟨W0, hW0⟩ : ∃ W0, W0 = w.alloc (.cells #[.slice none 0 0] 22) := ⟨_, rfl⟩
  have hs0 : W0.heap.size = w.heap.size + 1 := by rw [hW0]; simp
  have hB0 : Below w.heap.size w W0 := by rw [hW0]; exact (Below.refl _ w).alloc (Nat.le_refl _) _
  have hap : ApW w W0 (.slice none 0 0) [] := ⟨hB0, by rw [hW0]; exact heap_alloc_new _ _, World.ownsRow_nil _ _ _ _⟩
  rw [← hW0]
  have Hap := hid hap
  clear hap hW0
  refine wpIn_rangeFunc_P rfl (by omega) (gf := gf) (lb := lb) rfl trivial eg hseq (fun b hb => by have := hBs b hb; omega) hB0 (fun _ => rfl)
    (fun pre W' => ∃ v, ApW w W' v (pre.map f)) (fun _ _ _ => False)
    (by rw [hs0]; exact apw_ownIn (fun pre => pre.map f)) (fun _ => ownIn_pure _ _ _) ⟨_, Hap.out⟩
    (fun x => { tmps := #[.slice none 0 0, .func (.func gf) #[] lb, .pointer (some ⟨w.heap.size, 0, none⟩), undef, .slice none 0 0, .int .i64 (f x), .func (.func gf) #[] lb, .int .i64 (f x), undef, undef, undef, undef, undef], defers := [] }) ?assign ?body ?done ?stop
  case assign =>
    intro l x W3 K hK
    gi_wp2
    exact hK
  case stop =>
    rintro c pre W3 hpre hF hD
    exact hF.elim
  case body =>
    rintro l pre x W3 hpre hsz3 ⟨v, hA⟩
    have hpl : (pre.map f).length ≤ 1048576 := by have := hpre.length_le; simp at this ⊢; omega
    obtain ⟨c0, f0⟩ := box_cell hA.box
    have HA := hid hA
    have hba : w.heap.size + 3 ≤ W3.heap.size := by omega
    clear hA
    gi_wp2_with (gi_at_builtin; refine append_intK rfl rfl HA.out.row hba (by omega) rfl rfl ?_; intro v' w6 hq6 hg6; obtain ⟨_, av6, cp6, rfl, _⟩ := ownsRow_slI hq6; have c66 := (box_cell ((hg6.block _ (lt_of_get HA.out.box) (fun e => by have := (HA.out.row.lt _ e.symm).1; omega)).trans HA.out.box)).1; have f66 := (box_cell ((hg6.block _ (lt_of_get HA.out.box) (fun e => by have := (HA.out.row.lt _ e.symm).1; omega)).trans HA.out.box)).2; have Hq6 := hid hq6; have Hg6 := hid hg6; clear hq6 hg6)
    refine ⟨⟨by have := Hg6.out.size; simp [World.setCell]; omega, fun r hr => ?_⟩, ?_⟩
    · have hne : v.ownBlock ≠ some r := fun e => by
        have := (HA.out.row.lt _ e).1
        rcases hr with h | h
        · have := hBs r h; omega
        · omega
      refine (Below.heap_setCell _ _ _ _ (fun e => ?_)).trans (Hg6.out.block r (by rcases hr with h | h; have := hBs r h; omega; omega) (fun e => hne e.symm))
      simp only at e
      rcases hr with h | h
      · have := hBs r h; omega
      · omega
    · exact ⟨_, HA.out.grow (ys := (pre ++ [x]).map f) (by simpa using Hq6.out) Hg6.out⟩
  case done =>
    rintro W4 ⟨v, hA⟩ hD4
    obtain ⟨c0, f0⟩ := box_cell hA.box
    have HA := hid hA
    rw [hs0] at hD4
    have HD := hid hD4
    clear hA hD4
    gi_wp2
    refine leaves_marks (by simp) [_] _ (by simp) (fun D hD => by simp only [List.mem_singleton] at hD; subst hD; first | exact HD.out | (rw [hs0]; exact HD.out)) (fun w' hw' => ?_)
    refine ⟨_, results_tmp rfl _ _ _, _, rfl, HA.out.leaves ?_⟩
    first | exact hw' | (rw [hs0] at hw'; exact hw')

set_option maxRecDepth 100000 in
set_option maxHeartbeats 1000000 in
theorem collect_in {α : Type} (n : Nat) (hn : 13 ≤ n) (gf : Nat) (lb : Array Value) (eg : ∀ args w, (callFunc gf args).run Try.prog w = .ok (.enter gf args) w) (f : α → Int) (Bs : List Nat) (L : List α) (w : World) (hBs : ∀ b ∈ Bs, b < w.heap.size) (hL : L.length ≤ 1048576)
    (hseq : SeqStopsP Fence.wide (n - 1 - 1) Try.prog gf lb (fun x => #[.int .i64 (f x)]) Bs 0 L w) :
    CallsIn Fence.wide n Try.prog 118 #[.func (.func gf) #[] lb] w fun e w' => ∃ v, e = .returned v ∧ Res w w' v (L.map f) := by
  have h1 : 1 ≤ n := by omega
  have HA := hid (appendSeq_in (n - 1) (by omega) gf lb eg f Bs L w hBs hL hseq)
  refine callsIn_of_wp Try.func118 rfl trivial ?_ rfl
  simp only [Try.ntmps118, List.size_toArray, List.length_cons, List.length_nil, Nat.reduceAdd, Nat.reduceSub, Array.replicate_succ, Array.replicate_zero, List.push_toArray, List.append_toArray, List.nil_append, List.cons_append]
  gi_wp2_with (refine ⟨trivial, ?_⟩; gi_at_call 130; refine HA.out.mono ?_; rintro e w1 ⟨v, rfl, hr⟩)
  go_ret
  exact ⟨v, rfl, hr⟩

set_option maxRecDepth 100000 in
set_option maxHeartbeats 1000000 in
theorem sortedP_in {α : Type} (n : Nat) (hn : 14 ≤ n) (gf : Nat) (lb : Array Value) (eg : ∀ args w, (callFunc gf args).run Try.prog w = .ok (.enter gf args) w) (f : α → Int) (Bs : List Nat) (L : List α) (w : World) (hBs : ∀ b ∈ Bs, b < w.heap.size) (hL : L.length ≤ 1048576)
    (hseq : SeqStopsP Fence.wide (n - 1 - 1 - 1) Try.prog gf lb (fun x => #[.int .i64 (f x)]) Bs 0 L w) :
    CallsIn Fence.wide n Try.prog 100 #[.func (.func gf) #[] lb] w fun e w' => ∃ v, e = .returned v ∧ Res w w' v ((L.map f).mergeSort fun x y => decide (x ≤ y)) := by
  have h1 : 1 ≤ n := by omega
  have HA := hid (collect_in (n - 1) (by omega) gf lb eg f Bs L w hBs hL hseq)
  obtain ⟨ss, hss⟩ : ∃ ss, ss = L.map f := ⟨_, rfl⟩
  have hsl : ss.length ≤ 1048576 := by rw [hss]; simpa using hL
  rw [← hss] at HA ⊢
  clear hss
  refine callsIn_of_wp Try.func100 rfl trivial ?_ rfl
  simp only [Try.ntmps100, List.size_toArray, List.length_cons, List.length_nil, Nat.reduceAdd, Nat.reduceSub, Array.replicate_succ, Array.replicate_zero, List.push_toArray, List.append_toArray, List.nil_append, List.cons_append]
  gi_wp2_with (refine ⟨trivial, ?_⟩; gi_at_call 118; refine HA.out.mono ?_; rintro e W ⟨v, rfl, hr⟩)
  obtain ⟨hrow, hb⟩ := hr
  rcases hrow.2 with ⟨rfl, hz⟩ | ⟨gb, cap, cur, rfl, hbase, hgb, r1, r2, r3, r4⟩
  · have hss : ss = [] := List.eq_nil_of_length_eq_zero hz
    subst hss
    gi_wp2_with (refine ⟨trivial, ?_⟩; gi_at_call 119; refine ((sortsL (n - 1)).2 none 0 W).mono ?_; rintro e w' ⟨rfl, rfl⟩)
    go_ret
    exact ⟨.slice none 0 0, rfl, by simpa using hrow, hb⟩
  · have hH : Holds (Value.int .i64) W gb 0 ss.toArray := holds_of_block_i hgb (by simpa using r4)
    have hgl : gb < W.heap.size := (Array.getElem?_eq_some_iff.1 hgb).1
    have hsz : ss.length < 4611686018427387904 := by omega
    have cS := (sortsL (n - 1)).1 gb 0 cap ss W hH hgl hsz
    gi_wp2_with (refine ⟨trivial, ?_⟩; gi_at_call 119; refine cS.mono ?_; rintro e w' ⟨rfl, nn, os, rfl⟩)
    go_ret
    refine ⟨_, rfl, ?_, hb.grown (grownBy_sorted_i _) hb.size (fun j hj => by cases hj; exact hbase)⟩
    have h1 := ownsRow_sorted_i (ts := ss.mergeSort fun x y => decide (x ≤ y)) (os := os) (n := nn) (by simp) hbase hgb r1 r2 r3
    rw [show (ss.mergeSort fun x y => decide (x ≤ y)).length = ss.length by simp]
    exact h1

end Go.Proofs.Ytmkknfdjoajpcaa
