import Derived.Test.YthmhdfhjjpfbfaaBfs
import Derived.Test.YthmhdfhjjpfbfaaQueue
import Derived.Deep.LoopGhost
/-! reachedFrom: the program's search. -/
namespace Go.Proofs.Ythmhdfhjjpfbfaa
open Go.RowKit Go.Shelf Go.ChangeMaps

attribute [local go_sem] Oper.semAt_some

/-- 'append(queue, x)', at the operation. -/
theorem wpListIn_append_q {F : Fence} {nF : Nat} {w : World} {ops : Array Oper} {rest : List Oper} {o : Oper} {a : Act} {Q : Exit → Act → World → Prop} (hgd : o.guard = none) {s y : Operand}
    (ho : o.op = .call { callee := .builtin .append, args := #[s, y], argTypes := #[22, 22] })
    {base : Nat} {v : Value} {xs : List Int} {x : Int} (hq : OwnsQ w base v xs) (hb : base ≤ w.heap.size) (hl : xs.length ≤ 1048576)
    (hs : a.eval s = v) (hy : a.eval y = .slice (some ⟨w.heap.size, 0, none⟩) 1 1)
    (hK : ∀ v' w', OwnsQ w' base v' (xs ++ [x]) → w.grownBy w' v.ownBlock → (v'.ownBlock = v.ownBlock ∨ ∃ k, v'.ownBlock = some k ∧ w.heap.size < k) → wpListIn F nF Try.prog ops Q rest (a.put o.dst v') w') :
    wpListIn F nF Try.prog ops Q (o :: rest) a (w.alloc (.cells #[.int .i64 x] 2)) := by
  refine wpListIn_plain hgd fun K hK' => ?_
  have hq1 : OwnsQ (w.alloc (.cells #[.int .i64 x] 2)) base v xs := hq.kept (World.grownBy_alloc w _ none) (by obtain ⟨g, e, _⟩ := hq.lt; rw [e]; simp)
  obtain ⟨v', w', hr, h1, h2, h3⟩ := hq1.push (by simp; omega) hl o.type ⟨w.heap.size, 0, none⟩ 1 x (by simp [go_sem, Addr.add])
  unfold Oper.wpIn
  refine ⟨by simp [Oper.about, ho, resolve, Target.leads, Sem.run_pure], ?_⟩
  rw [Oper.semAt_plain F _ _ (by rw [ho]; intro c hc'; cases hc')]
  simp [execOp, ho, resolve, invoke, builtin, hs, hy, hr, Result.andThen]
  refine hK' _ _ (hK v' w' h1 ((World.grownBy_alloc w _ _).trans h2) ?_)
  rcases h3 with h | ⟨k, h, hk⟩
  · exact .inl h
  · exact .inr ⟨k, h, by simp at hk; omega⟩

/-- What the search keeps of the world. -/
structure RfW (w W : World) (met qs : List Int) (v : Value) (Ds : List Nat) : Prop where
  below : Below w.heap.size w W
  own : W.ownsMap Try.prog 2 (plainElem (H := Unit) Try.prog 4) w.heap.size met.length (knownD met)
  b5 : W.heap[w.heap.size + 1]? = some (.cells #[.map (some w.heap.size)] 65 (0, 0))
  b6 : W.heap[w.heap.size + 3]? = some (.cells #[v] 22 (0, 0))
  q : OwnsQ W w.heap.size v qs
  ne : ∀ g, v.ownBlock = some g → g = w.heap.size + 2 ∨ w.heap.size + 4 ≤ g
  off : ∀ D ∈ Ds, v.ownBlock ≠ some D
  nodup : Ds.Nodup
  marks : ∀ D ∈ Ds, w.heap.size + 4 ≤ D ∧ W.heap[D]? = some (.deferred (some []))
theorem RfW.size {w W : World} {met qs : List Int} {v : Value} {Ds : List Nat} (h : RfW w W met qs v Ds) : w.heap.size + 4 ≤ W.heap.size := by
  have := lt_of_get h.b6; omega
/-- A turn of what lies beyond. -/
theorem RfW.turn {w W W' : World} {met qs : List Int} {v : Value} {Ds : List Nat} (h : RfW w W met qs v Ds) {row : Option Nat} (hg : W.grownBy W' row) (hr : ∀ r, row = some r → w.heap.size + 4 ≤ r ∧ r ∉ Ds ∧ v.ownBlock ≠ some r) : RfW w W' met qs v Ds where
  below := h.below.grown hg (by have := h.size; omega) (fun k e => by have := (hr k e).1; omega)
  own := h.own.kept hg (fun e => by have := (hr _ e.symm).1; omega)
  b5 := (hg.block _ (lt_of_get h.b5) (fun e => by have := (hr _ e.symm).1; omega)).trans h.b5
  b6 := (hg.block _ (lt_of_get h.b6) (fun e => by have := (hr _ e.symm).1; omega)).trans h.b6
  q := h.q.kept hg (fun e => by
    obtain ⟨g, e1, _⟩ := h.q.lt
    rw [e1] at e
    exact (hr g e.symm).2.2 e1)
  ne := h.ne
  off := h.off
  nodup := h.nodup
  marks := fun D hD => ⟨(h.marks D hD).1, (hg.block _ (lt_of_get (h.marks D hD).2) (fun e => (hr _ e.symm).2.1 hD)).trans (h.marks D hD).2⟩
/-- A number is met. -/
theorem RfW.meet {w W W' : World} {met qs : List Int} {v : Value} {Ds : List Nat} (h : RfW w W met qs v Ds) {y : Int} (hown : W'.ownsMap Try.prog 2 (plainElem (H := Unit) Try.prog 4) w.heap.size (met.length + 1) ((knownD met).put (.int .i64 y) (.lit (.bool true)))) (hg : W.grownBy W' (some w.heap.size)) :
    RfW w W' (met ++ [y]) qs v Ds where
  below := h.below.grown hg (by have := h.size; omega) (fun k e => by cases e; exact Nat.le_refl _)
  own := by rw [knownD_snoc]; simpa using hown
  b5 := (hg.block _ (lt_of_get h.b5) (fun e => by injection e with e; omega)).trans h.b5
  b6 := (hg.block _ (lt_of_get h.b6) (fun e => by injection e with e; omega)).trans h.b6
  q := h.q.kept hg (fun e => by have := h.ne _ e; omega)
  ne := h.ne
  off := h.off
  nodup := h.nodup
  marks := fun D hD => ⟨(h.marks D hD).1, (hg.block _ (lt_of_get (h.marks D hD).2) (fun e => by injection e with e; have := (h.marks D hD).1; omega)).trans (h.marks D hD).2⟩
/-- The queue is another one, and its variable holds it. -/
theorem RfW.queue {w W W' : World} {met qs qs' : List Int} {v v' : Value} {Ds : List Nat} (h : RfW w W met qs v Ds) (hq : OwnsQ W' w.heap.size v' qs') (hg : W.grownBy W' v.ownBlock) (hat : v'.ownBlock = v.ownBlock ∨ ∃ k, v'.ownBlock = some k ∧ W.heap.size ≤ k) :
    RfW w (W'.setCell ⟨w.heap.size + 3, 0, none⟩ v') met qs' v' Ds := by
  obtain ⟨g, eg, hg1, hg2⟩ := h.q.lt
  have hgn := h.ne g eg
  have hsz := h.size
  rw [eg] at hg hat
  have hne' : ∀ k, v'.ownBlock = some k → k = w.heap.size + 2 ∨ w.heap.size + 4 ≤ k := fun k hk => by
    rcases hat with e | ⟨j, e, hj⟩
    · rw [e] at hk; injection hk with hk; omega
    · rw [e] at hk; injection hk with hk; omega
  have b6' : W'.heap[w.heap.size + 3]? = some (.cells #[v] 22 (0, 0)) := (hg.block _ (lt_of_get h.b6) (fun e => by injection e with e; omega)).trans h.b6
  have hgs := grownBy_set W' ⟨w.heap.size + 3, 0, none⟩ v'
  refine ⟨?_, ?_, ?_, ?_, hq.kept hgs (fun e => by have := hne' _ e; simp only at this; omega), hne', fun D hD e => ?_, h.nodup, fun D hD => ⟨(h.marks D hD).1, ?_⟩⟩
  · have hb := h.below.grown hg (by omega) (fun k e => by cases e; omega)
    exact hb.grown hgs (by have := hb.size; omega) (fun k e => by cases e; simp only; omega)
  · exact (h.own.kept hg (fun e => by injection e with e; omega)).kept hgs (fun e => by injection e with e; simp only at e; omega)
  · exact (Below.heap_setCell _ _ _ _ (by simp only; omega)).trans ((hg.block _ (lt_of_get h.b5) (fun e => by injection e with e; omega)).trans h.b5)
  · simp only [World.setCell, Array.getElem?_modify, b6']
    simp
  · rcases hat with e1 | ⟨j, e1, hj⟩
    · exact h.off D hD (by rw [eg, ← e1]; exact e)
    · rw [e1] at e
      injection e with e
      have := lt_of_get (h.marks D hD).2
      omega
  · exact (Below.heap_setCell _ _ _ _ (by have := (h.marks D hD).1; simp only; omega)).trans ((hg.block _ (lt_of_get (h.marks D hD).2) (fun e => by injection e with e; exact h.off D hD (by rw [eg, ← e]))).trans (h.marks D hD).2)

theorem RfW.mark {w W : World} {met qs : List Int} {v : Value} {Ds : List Nat} (h : RfW w W met qs v Ds) {D : Nat} (hD : W.heap[D]? = some (.deferred (some []))) (hb : w.heap.size + 4 ≤ D) (hn : D ∉ Ds) (hv : v.ownBlock ≠ some D) : RfW w W met qs v (D :: Ds) where
  below := h.below
  own := h.own
  b5 := h.b5
  b6 := h.b6
  q := h.q
  ne := h.ne
  off := fun E hE => by
    rcases List.mem_cons.1 hE with rfl | hE
    · exact hv
    · exact h.off E hE
  nodup := List.nodup_cons.2 ⟨hn, h.nodup⟩
  marks := fun E hE => by
    rcases List.mem_cons.1 hE with rfl | hE
    · exact ⟨hb, hD⟩
    · exact h.marks E hE
theorem rf_ownIn {w : World} {Ds : List Nat} {lo k : Nat} (g : List (Fin 64) → List Int × List Int) (hlo : w.heap.size + 4 ≤ lo) (hD : ∀ D ∈ Ds, D < lo) :
    OwnIn lo k (fun pre W' => ∃ v, RfW w W' (g pre).1 (g pre).2 v Ds ∧ ∀ j, v.ownBlock = some j → j < lo ∨ lo + k ≤ j) := by
  rintro s A B row ⟨v, h, hb⟩ hg hr
  refine ⟨v, h.turn hg (fun r e => ?_), hb⟩
  obtain ⟨h1, h2⟩ := hr r e
  refine ⟨by omega, fun hm => by have := hD r hm; omega, fun ev => ?_⟩
  rcases hb r ev with h3 | h3
  · omega
  · rcases h2 with h2 | ⟨o, ho, hc⟩
    · omega
    · obtain ⟨g', off', cap', cur', rfl, q'⟩ := h.q
      simp [Value.ownBlock] at ev
      subst ev
      rw [q'.heap] at ho
      injection ho with ho
      rw [← ho] at hc
      simp [Obj.isCells] at hc

theorem wpIn_loop_ghost {F : Fence} {nF : Nat} {P : Program} {Q : Exit → Act → World → Prop} {a : Act} {w : World} {c : Code} (I : Nat → Act → World → Prop) (n₀ : Nat) (h₀ : I n₀ a w)
    (round : ∀ g a w, I g a w → c.wpIn F nF P (Exit.then (fun a' w' => ∃ g', g' < g ∧ I g' a' w') Q) a w) : (Code.loop c).wpIn F nF P Q a w := by
  refine wpIn_loop (fun a w => ∃ g, I g a w) (fun a w => Go.leastOf (fun g => I g a w)) ⟨n₀, h₀⟩ ?_
  intro a w hI
  refine wpIn_mono (round _ a w (Go.leastOf_spec hI).1) ?_
  intro e a' w' hq
  cases e with
  | normal =>
    obtain ⟨g', hlt, hI'⟩ := hq
    exact show (∃ g, I g a' w') ∧ Go.leastOf (fun g => I g a' w') < Go.leastOf (fun g => I g a w) from ⟨⟨g', hI'⟩, Nat.lt_of_le_of_lt ((Go.leastOf_spec ⟨g', hI'⟩).2 g' hI') hlt⟩
  | exit id => exact hq
  | goto l => exact hq
  | ret => exact hq
  | panic ch => exact hq
  | outgrown => exact hq

theorem Bfs.range {ps : List Int} {n : Nat} (hh : HighsB ps n) {a x : Int} (h : x = a ∨ Way ps n a x) : x = a ∨ (0 ≤ x ∧ x < 64) := by
  rcases h with h | h
  · exact .inl h
  · cases h with
    | one h1 => exact .inr (next_range hh h1)
    | more _ h1 => exact .inr (next_range hh h1)

/-- The loop's state ahead of a round. -/
def RfInv (w : World) (M n : Nat) (ps : List Int) (a : Int) (g : Nat) (a' : Act) (W : World) : Prop :=
  ∃ (met qs : List Int) (v : Value) (Ds : List Nat) (us : Nat → Value), a' = { tmps := #[.map (some M), .int .i64 a, undef, undef, .map none, .pointer (some ⟨w.heap.size + 1, 0, none⟩), .pointer (some ⟨w.heap.size + 1 + 1 + 1, 0, none⟩), us 7, us 8, .map (some w.heap.size), .int .i64 a, .map (some w.heap.size), .int .i64 a, .slice (some ⟨w.heap.size + 1 + 1, 0, none⟩) 1 1, us 14, us 15, us 16, us 17, us 18, us 19, us 20, us 21, us 22, us 23, us 24, us 25, us 26, us 27, us 28, us 29, us 30, us 31, us 32, us 33, us 34, us 35, us 36], defers := marks Ds } ∧ Hid (RfW w W met qs v Ds) ∧ Hid (Bfs ps n a met qs) ∧ 2 * unmet met + qs.length ≤ g
theorem rfInv_of {w W : World} {M n : Nat} {ps : List Int} {a : Int} {g : Nat} {met qs : List Int} {v : Value} {Ds : List Nat} (tm : Array Value) (ds : List Deferred) (hds : ds = marks Ds) (h : tm = #[.map (some M), .int .i64 a, undef, undef, .map none, .pointer (some ⟨w.heap.size + 1, 0, none⟩), .pointer (some ⟨w.heap.size + 1 + 1 + 1, 0, none⟩), tm.getD 7 undef, tm.getD 8 undef, .map (some w.heap.size), .int .i64 a, .map (some w.heap.size), .int .i64 a, .slice (some ⟨w.heap.size + 1 + 1, 0, none⟩) 1 1, tm.getD 14 undef, tm.getD 15 undef, tm.getD 16 undef, tm.getD 17 undef, tm.getD 18 undef, tm.getD 19 undef, tm.getD 20 undef, tm.getD 21 undef, tm.getD 22 undef, tm.getD 23 undef, tm.getD 24 undef, tm.getD 25 undef, tm.getD 26 undef, tm.getD 27 undef, tm.getD 28 undef, tm.getD 29 undef, tm.getD 30 undef, tm.getD 31 undef, tm.getD 32 undef, tm.getD 33 undef, tm.getD 34 undef, tm.getD 35 undef, tm.getD 36 undef]) (HW : Hid (RfW w W met qs v Ds)) (HB : Hid (Bfs ps n a met qs)) (hg : 2 * unmet met + qs.length ≤ g) :
    RfInv w M n ps a g { tmps := tm, defers := ds } W :=
  ⟨met, qs, v, Ds, fun i => tm.getD i undef, by rw [hds]; exact congrArg (fun t => ({ tmps := t, defers := marks Ds } : Act)) h, HW, HB, hg⟩

set_option maxRecDepth 1000000 in
set_option maxHeartbeats 4000000 in
theorem reachedF_in (M N n : Nat) (ps : List Int) (a : Int) (w : World) (hown : w.ownsMap Try.prog 2 pairElem M N (lowsD ps n)) (hd : LowsApart ps n) (hh : HighsB ps n) (ha : (Lit.int .i64 a).wf = true) :
    CallsIn Fence.wide 10 Try.prog 81 #[.map (some M), .int .i64 a] w fun e w' => ∃ met, e = .returned (.map (some w.heap.size)) ∧ w'.ownsMap Try.prog 2 (plainElem (H := Unit) Try.prog 4) w.heap.size met.length (knownD met) ∧ Hid (Bfs ps n a met []) ∧ Below w.heap.size w w' := by
  have hmm := @run_makeMap Try.prog
  have hm0 := World.ownsMap_made w Try.prog 2 (plainElem (H := Unit) Try.prog 4)
  obtain ⟨wa, hrun1, hwa, ht⟩ := World.ownsMap.store hm0 (Maps.int_keyed Try.underlying2) Try.underlying65 (show 0 < maxLen by decide) (Maps.keyOf_int_mk Try.underlying2 ha) (plainElem_bool Try.underlying4 true)
  have hsa : wa.heap.size = w.heap.size + 1 := by
    obtain ⟨es, c, es', c', hb, rfl⟩ := ht
    simp [setBlock]
  have hga : (w.alloc (.map #[] 0)).grownBy wa (some w.heap.size) := by
    obtain ⟨es, c, es', c', hb, rfl⟩ := ht
    exact ⟨rfl, rfl, rfl, by simp [setBlock], fun i _ hi => heap_setBlock_other hb _ (fun e => hi (by rw [e]))⟩
  have hba : Below w.heap.size w wa := ((Below.refl _ w).alloc (Nat.le_refl _) _).grown hga (by simp) (fun r e => by cases e; exact Nat.le_refl _)
  have H0 : Hid (RfW w (((wa.alloc (.cells #[.map (some w.heap.size)] 65)).alloc (.cells #[.int .i64 a] 2)).alloc (.cells #[.slice (some ⟨w.heap.size + 2, 0, none⟩) 1 1] 22)) [a] [a] (.slice (some ⟨w.heap.size + 2, 0, none⟩) 1 1) []) := by
    have e3 := heap_alloc_new ((wa.alloc (.cells #[.map (some w.heap.size)] 65)).alloc (.cells #[.int .i64 a] 2)) (.cells #[.slice (some ⟨w.heap.size + 2, 0, none⟩) 1 1] 22)
    rw [World.size_alloc, World.size_alloc, hsa] at e3
    have e1 := heap_alloc_new wa (.cells #[.map (some w.heap.size)] 65)
    rw [hsa] at e1
    have q1 := OwnsQ.one (W := wa.alloc (.cells #[.map (some w.heap.size)] 65)) (base := w.heap.size) (by simp; omega) a
    rw [World.size_alloc, hsa] at q1
    exact hid {
      below := ((hba.alloc (by omega) _).alloc (by simp; omega) _).alloc (by simp; omega) _
      own := ((hwa.alloc _).alloc _).alloc _
      b5 := (Below.heap_alloc _ _ _ (by simp; omega)).trans ((Below.heap_alloc _ _ _ (by simp; omega)).trans e1)
      b6 := e3
      q := q1.kept (World.grownBy_alloc _ _ none) (by simp [Value.ownBlock])
      ne := fun g e => by simp [Value.ownBlock] at e; exact .inl e.symm
      off := by simp
      nodup := by simp
      marks := by simp }
  clear hm0 hwa ht hga hba
  have HL : Hid (∀ W, Below w.heap.size w W → W.ownsMap Try.prog 2 pairElem M N (lowsD ps n)) := hid (fun W hW => by
    have hlt := hown.lt
    obtain ⟨es, clock, hb, F, hs, hD⟩ := hown
    exact ⟨es, clock, (hW.block M hlt).trans hb, F, hs, hD⟩)
  have HH := hid hh
  have HD := hid hd
  have Ha := hid ha
  clear hown hh hd
  refine callsIn_of_wp_marks Try.func81 rfl trivial ?_ rfl
  simp only [Try.ntmps81, List.size_toArray, List.length_cons, List.length_nil, Nat.reduceAdd, Nat.reduceSub, Array.replicate_succ, Array.replicate_zero, List.push_toArray, List.append_toArray, List.nil_append, List.cons_append]
  gi_wp2
  clear hmm hrun1
  refine wpIn_loop_ghost (RfInv w M n ps a) 129 ?start ?round
  case start => exact rfInv_of (met := [a]) (qs := [a]) (Ds := []) _ _ rfl rfl H0 (hid (Bfs.begin ps n a)) (Bfs.begin ps n a).few
  case round =>
    rintro gg a' Wk ⟨met, qs, v, Ds, us, rfl, HW, HB, hgg⟩
    clear H0
    have hsz := HW.out.size
    cases qs with
    | nil =>
      obtain ⟨g, off, cap, cur, rfl, hq⟩ := HW.out.q
      obtain ⟨c6, _⟩ := box_cell HW.out.b6
      obtain ⟨c5, _⟩ := box_cell HW.out.b5
      have e6 : w.heap.size + 1 + 1 + 1 = w.heap.size + 3 := rfl
      clear hq
      gi_wp2
      refine leaves_marks (by simp) Ds _ HW.out.nodup (fun D hD => (HW.out.marks D hD).2) (fun w' hw' => ?_)
      have hno : w.heap.size ∉ Ds := fun hm => by have := (HW.out.marks _ hm).1; omega
      refine ⟨_, results_tmp rfl _ _ _, rfl, met, ?_, HB, HW.out.below.trans (hw'.below (fun D hD => by have := (HW.out.marks D hD).1; omega))⟩
      obtain ⟨es, clock, hb, F, hs, hD⟩ := HW.out.own
      exact ⟨es, clock, (hw'.block _ hno).trans hb, F, hs, hD⟩
    | cons x qs =>
      obtain ⟨g, off, cap, rfl, hcap, hcx, hp1, hp2⟩ := HW.out.q.pop
      obtain ⟨c6, f6⟩ := box_cell HW.out.b6
      obtain ⟨m, hm⟩ : ∃ m, m = qs.length := ⟨_, rfl⟩
      rw [← hm] at hcap hp1 hp2 c6
      have Hm := hid hm
      have hl0 : (0 : Int) < (m : Int) + 1 := by omega
      have hl1 : (1 : Int) ≤ (m : Int) + 1 := by omega
      have HP1 := hid hp1
      have HP2 := hid hp2
      have Hcap := hid hcap
      have e6 : w.heap.size + 1 + 1 + 1 = w.heap.size + 3 := rfl
      have hxw : (Lit.int .i64 x).wf = true := by
        rcases Bfs.range HH.out (HB.out.way x (HB.out.sub x (by simp))) with h | h
        · rw [h]; exact Ha.out
        · exact WalkArith.wf_i64 (by omega)
      have Hxw := hid hxw
      clear hm hp1 hp2 hxw
      gi_wp2_with (first
        | (refine ⟨trivial, ?_⟩; gi_at_call 121; refine (stepsFrom_in _ M x _).mono ?_; rintro e w' ⟨rfl, rfl⟩))
      case inl =>
        obtain ⟨v1, hv1⟩ : ∃ v1, v1 = Value.slice (some ⟨g, off, none⟩) m 0 := ⟨_, rfl⟩
        have HQ1 : Hid (OwnsQ Wk w.heap.size v1 qs) := hid (by rw [hv1]; exact HP2.out (by first | assumption | omega))
        have hvb : v1.ownBlock = some g := by rw [hv1]; rfl
        rw [← hv1]
        have hR1 : RfW w (Wk.setCell ⟨w.heap.size + 3, 0, none⟩ v1) met qs v1 Ds := HW.out.queue HQ1.out ⟨rfl, rfl, rfl, Nat.le_refl _, fun _ _ _ => rfl⟩ (.inl hvb)
        have hgk : g < Wk.heap.size := by obtain ⟨g', e1, _, h2⟩ := HW.out.q.lt; simp [Value.ownBlock] at e1; omega
        have hDs : ∀ D ∈ Ds, D < Wk.heap.size := fun D hD => lt_of_get (HW.out.marks D hD).2
        obtain ⟨W1, hW1⟩ : ∃ W1, W1 = Wk.setCell ⟨w.heap.size + 3, 0, none⟩ v1 := ⟨_, rfl⟩
        have hs1 : W1.heap.size = Wk.heap.size := by rw [hW1]; simp [World.setCell]
        rw [← hW1] at hR1 ⊢
        obtain ⟨W2, hW2⟩ : ∃ W2, W2 = (W1.alloc (.cells #[.map (some M)] 92)).alloc (.cells #[.int .i64 x] 2) := ⟨_, rfl⟩
        have hbm : W2.heap[Wk.heap.size]? = some (.cells #[.map (some M)] 92 (0, 0)) := by rw [hW2, ← hs1]; exact (Below.heap_alloc _ _ _ (by simp)).trans (heap_alloc_new _ _)
        have hbx : W2.heap[Wk.heap.size + 1]? = some (.cells #[.int .i64 x] 2 (0, 0)) := by rw [hW2, ← hs1]; have := heap_alloc_new (W1.alloc (.cells #[.map (some M)] 92)) (.cells #[.int .i64 x] 2); rwa [World.size_alloc] at this
        have hs2 : W2.heap.size = Wk.heap.size + 2 := by rw [hW2]; simp [hs1]
        have hR2 : RfW w W2 met qs v1 Ds := by
          rw [hW2]
          exact (hR1.turn (World.grownBy_alloc W1 _ none) (fun r e => by cases e)).turn (World.grownBy_alloc _ _ none) (fun r e => by cases e)
        have HLo := HL.out W2 hR2.below
        rw [← hW2]
        clear hW2 hW1 hR1 hcx c6 f6 hv1 HP1 HP2
        have HR2 := hid hR2
        have HDs := hid hDs
        clear hR2 hDs
        refine wpIn_rangeFunc_P rfl (by decide) (gf := 142) (lb := #[.pointer (some ⟨Wk.heap.size, 0, none⟩), .pointer (some ⟨Wk.heap.size + 1, 0, none⟩)]) rfl trivial (enters_of Try.func142 (by kernel_rfl) rfl)
          (steps_P 9 (by decide) Wk.heap.size (Wk.heap.size + 1) M N n ps x W2 hbm hbx HLo HD.out HH.out Hxw.out) (by simp) (Below.refl _ _) (fun _ => rfl)
          (fun pre W' => ∃ v, RfW w W' (visits (met, qs) pre).1 (visits (met, qs) pre).2 v Ds ∧ ∀ j, v.ownBlock = some j → j < W2.heap.size ∨ W2.heap.size + (2 + 5) ≤ j)
          (fun _ _ _ => False)
          (rf_ownIn (visits (met, qs)) (by omega) (fun D hD => by have := HDs.out D hD; omega))
          (fun _ => ownIn_pure _ _ _)
          ⟨v1, HR2.out, fun j e => by rw [hvb] at e; injection e with e; omega⟩
          (fun y => { tmps := #[.map (some M), .int .i64 a, undef, undef, .map none, .pointer (some ⟨w.heap.size + 1, 0, none⟩), .pointer (some ⟨w.heap.size + 3, 0, none⟩), .int .i64 x, .int .i64 (y.val : Int), .map (some w.heap.size), .int .i64 a, .map (some w.heap.size), .int .i64 a, .slice (some ⟨w.heap.size + 1 + 1, 0, none⟩) 1 1, .slice (some ⟨g, off, none⟩) (m + 1) 1, .int .i64 ((m : Int) + 1), .bool true, .slice (some ⟨g, off, none⟩) (m + 1) 1, .pointer (some ⟨g, off, none⟩), .int .i64 x, .slice (some ⟨g, off, none⟩) (m + 1) 1, v1, .map (some M), .int .i64 x, .func (.func 142) #[] #[.pointer (some ⟨Wk.heap.size, 0, none⟩), .pointer (some ⟨Wk.heap.size + 1, 0, none⟩)], .int .i64 (y.val : Int), us 26, us 27, us 28, us 29, us 30, us 31, us 32, us 33, us 34, us 35, us 36], defers := [] }) ?assign ?body ?done ?stop
        case assign =>
          intro l y W3 K hK
          gi_wp2
          exact hK
        case body =>
          rintro l pre y W3 hpre hsz3 ⟨v, hR, hb⟩
          obtain ⟨s, hs⟩ : ∃ s, s = visits (met, qs) pre := ⟨_, rfl⟩
          have Hsn : Hid (visits (met, qs) (pre ++ [y]) = visit s (y.val : Int)) := hid (by rw [visits_snoc, ← hs])
          rw [← hs] at hR
          have hyw : (Lit.int .i64 (y.val : Int)).wf = true := WalkArith.wf_i64 (by have := y.isLt; omega)
          obtain ⟨c5, _⟩ := box_cell hR.b5
          obtain ⟨c6, f6⟩ := box_cell hR.b6
          have hlk := lookup_known hR.own hyw
          have hsp := visits_spec pre met qs (fun z hz => HB.out.sub z (List.mem_cons_of_mem _ hz))
          rw [← hs] at hsp
          have hlen1 : s.1.length ≤ 65 := by have := hsp.2.2.2.2.2; have := HB.out.small; omega
          have hlen2 : s.2.length ≤ 129 := by have := hsp.2.2.2.2.1; have := HB.out.few; simp at this; omega
          clear hs hsp
          have HR := hid hR
          have Hb := hid hb
          by_cases hy : (y.val : Int) ∈ s.1
          · rw [decide_eq_true hy] at hlk
            have Hv : Hid (visits (met, qs) (pre ++ [y]) = s) := hid (by rw [Hsn.out]; unfold visit; rw [if_pos hy])
            clear hy hR hb hyw
            gi_wp2
            exact ⟨KeepP.refl _ _ _ _, v, by rw [Hv.out]; exact HR.out, Hb.out⟩
          · rw [decide_eq_false hy] at hlk
            have Hv : Hid (visits (met, qs) (pre ++ [y]) = (s.1 ++ [(y.val : Int)], s.2 ++ [(y.val : Int)])) := hid (by rw [Hsn.out]; unfold visit; rw [if_neg hy])
            obtain ⟨w4, hrun4, hown4, hg4⟩ := World.ownsMap.update hR.own (Maps.int_keyed Try.underlying2) Try.underlying65 (show s.1.length < maxLen by unfold maxLen; omega) (Maps.keyOf_int_mk Try.underlying2 hyw) (plainElem_bool Try.underlying4 true)
            have HR4 := hid (hR.meet hown4 hg4)
            obtain ⟨c64, f64⟩ := box_cell HR4.out.b6
            have Hg4 := hid hg4
            have hsz4 := HR4.out.size
            clear hy hR hb hyw hown4 hg4
            gi_wp2_with (gi_at_builtin; refine wpListIn_append_q rfl rfl HR4.out.q (by omega) (by omega) rfl rfl ?_; intro v' w5 hq5 hg5 hat5; obtain ⟨g5, o5, p5, hv5⟩ := hq5.form; subst hv5; have b65 : w5.heap[w.heap.size + 3]? = some (.cells #[v] 22 (0, 0)) := (hg5.block _ (lt_of_get HR4.out.b6) (fun e => by have := HR4.out.ne _ e.symm; omega)).trans HR4.out.b6; obtain ⟨c65, f65⟩ := box_cell b65; have Hq5 := hid hq5; have Hg5 := hid hg5; have Hat5 := hid hat5; clear hq5 hg5 hat5 b65)
            have hs34 : W3.heap.size ≤ w4.heap.size := Hg4.out.size
            have hs45 : w4.heap.size ≤ w5.heap.size := Hg5.out.size
            have el : (s.2 ++ [(y.val : Int)]).length = s.2.length + 1 := by simp
            rw [el] at Hq5 Hat5
            refine ⟨⟨by simp [World.setCell]; omega, fun r hr => ?_⟩, .slice (some ⟨g5, o5, none⟩) (s.2.length + 1) p5, ?_, ?_⟩
            · have hrr : W2.heap.size ≤ r ∧ r < W2.heap.size + (2 + 5) := by
                rcases hr with h | h
                · simp at h
                · exact h
              refine (Below.heap_setCell _ _ _ _ (by simp only; omega)).trans ((Hg5.out.block r (by omega) (fun e => ?_)).trans (Hg4.out.block r (by omega) (fun e => by injection e with e; omega)))
              rcases Hb.out r e.symm with h | h <;> omega
            · rw [Hv.out]
              refine HR4.out.queue Hq5.out Hg5.out ?_
              rcases Hat5.out with h | ⟨j, h, hj⟩
              · exact .inl h
              · exact .inr ⟨j, h, by omega⟩
            · intro j hj
              rcases Hat5.out with h | ⟨i, h, hi⟩
              · exact Hb.out j (by rw [← h]; exact hj)
              · rw [h] at hj
                injection hj with hj
                right
                omega
        case done =>
          rintro W3 ⟨v, hR, hb⟩ hD
          have hRm := hR.mark hD (by omega) (fun hm => by have := HDs.out _ hm; omega) (fun e => by rcases hb _ e with h | h <;> omega)
          have HRm := hid hRm
          have HB' := hid (HB.out.round HH.out)
          have hls := HB.out.less
          clear hR hb hD hRm
          gi_wp2
          exact ⟨_, Nat.lt_of_lt_of_le hls hgg, rfInv_of (Ds := W2.heap.size :: Ds) _ _ rfl rfl HRm HB' (Nat.le_refl _)⟩
        case stop =>
          rintro c pre W3 hpre hF hD
          exact hF.elim
      case inr =>
        obtain ⟨v1, hv1⟩ : ∃ v1, v1 = Value.slice (some ⟨g, off + 1, none⟩) m (cap - 1) := ⟨_, rfl⟩
        have HQ1 : Hid (OwnsQ Wk w.heap.size v1 qs) := hid (by rw [hv1]; exact HP1.out (by omega))
        have hvb : v1.ownBlock = some g := by rw [hv1]; rfl
        rw [← hv1]
        have hR1 : RfW w (Wk.setCell ⟨w.heap.size + 3, 0, none⟩ v1) met qs v1 Ds := HW.out.queue HQ1.out ⟨rfl, rfl, rfl, Nat.le_refl _, fun _ _ _ => rfl⟩ (.inl hvb)
        have hgk : g < Wk.heap.size := by obtain ⟨g', e1, _, h2⟩ := HW.out.q.lt; simp [Value.ownBlock] at e1; omega
        have hDs : ∀ D ∈ Ds, D < Wk.heap.size := fun D hD => lt_of_get (HW.out.marks D hD).2
        obtain ⟨W1, hW1⟩ : ∃ W1, W1 = Wk.setCell ⟨w.heap.size + 3, 0, none⟩ v1 := ⟨_, rfl⟩
        have hs1 : W1.heap.size = Wk.heap.size := by rw [hW1]; simp [World.setCell]
        rw [← hW1] at hR1 ⊢
        obtain ⟨W2, hW2⟩ : ∃ W2, W2 = (W1.alloc (.cells #[.map (some M)] 92)).alloc (.cells #[.int .i64 x] 2) := ⟨_, rfl⟩
        have hbm : W2.heap[Wk.heap.size]? = some (.cells #[.map (some M)] 92 (0, 0)) := by rw [hW2, ← hs1]; exact (Below.heap_alloc _ _ _ (by simp)).trans (heap_alloc_new _ _)
        have hbx : W2.heap[Wk.heap.size + 1]? = some (.cells #[.int .i64 x] 2 (0, 0)) := by rw [hW2, ← hs1]; have := heap_alloc_new (W1.alloc (.cells #[.map (some M)] 92)) (.cells #[.int .i64 x] 2); rwa [World.size_alloc] at this
        have hs2 : W2.heap.size = Wk.heap.size + 2 := by rw [hW2]; simp [hs1]
        have hR2 : RfW w W2 met qs v1 Ds := by
          rw [hW2]
          exact (hR1.turn (World.grownBy_alloc W1 _ none) (fun r e => by cases e)).turn (World.grownBy_alloc _ _ none) (fun r e => by cases e)
        have HLo := HL.out W2 hR2.below
        rw [← hW2]
        clear hW2 hW1 hR1 hcx c6 f6 hv1 HP1 HP2
        have HR2 := hid hR2
        have HDs := hid hDs
        clear hR2 hDs
        refine wpIn_rangeFunc_P rfl (by decide) (gf := 142) (lb := #[.pointer (some ⟨Wk.heap.size, 0, none⟩), .pointer (some ⟨Wk.heap.size + 1, 0, none⟩)]) rfl trivial (enters_of Try.func142 (by kernel_rfl) rfl)
          (steps_P 9 (by decide) Wk.heap.size (Wk.heap.size + 1) M N n ps x W2 hbm hbx HLo HD.out HH.out Hxw.out) (by simp) (Below.refl _ _) (fun _ => rfl)
          (fun pre W' => ∃ v, RfW w W' (visits (met, qs) pre).1 (visits (met, qs) pre).2 v Ds ∧ ∀ j, v.ownBlock = some j → j < W2.heap.size ∨ W2.heap.size + (2 + 5) ≤ j)
          (fun _ _ _ => False)
          (rf_ownIn (visits (met, qs)) (by omega) (fun D hD => by have := HDs.out D hD; omega))
          (fun _ => ownIn_pure _ _ _)
          ⟨v1, HR2.out, fun j e => by rw [hvb] at e; injection e with e; omega⟩
          (fun y => { tmps := #[.map (some M), .int .i64 a, undef, undef, .map none, .pointer (some ⟨w.heap.size + 1, 0, none⟩), .pointer (some ⟨w.heap.size + 3, 0, none⟩), .int .i64 x, .int .i64 (y.val : Int), .map (some w.heap.size), .int .i64 a, .map (some w.heap.size), .int .i64 a, .slice (some ⟨w.heap.size + 1 + 1, 0, none⟩) 1 1, .slice (some ⟨g, off, none⟩) (m + 1) cap, .int .i64 ((m : Int) + 1), .bool true, .slice (some ⟨g, off, none⟩) (m + 1) cap, .pointer (some ⟨g, off, none⟩), .int .i64 x, .slice (some ⟨g, off, none⟩) (m + 1) cap, v1, .map (some M), .int .i64 x, .func (.func 142) #[] #[.pointer (some ⟨Wk.heap.size, 0, none⟩), .pointer (some ⟨Wk.heap.size + 1, 0, none⟩)], .int .i64 (y.val : Int), us 26, us 27, us 28, us 29, us 30, us 31, us 32, us 33, us 34, us 35, us 36], defers := [] }) ?assign ?body ?done ?stop
        case assign =>
          intro l y W3 K hK
          gi_wp2
          exact hK
        case body =>
          rintro l pre y W3 hpre hsz3 ⟨v, hR, hb⟩
          obtain ⟨s, hs⟩ : ∃ s, s = visits (met, qs) pre := ⟨_, rfl⟩
          have Hsn : Hid (visits (met, qs) (pre ++ [y]) = visit s (y.val : Int)) := hid (by rw [visits_snoc, ← hs])
          rw [← hs] at hR
          have hyw : (Lit.int .i64 (y.val : Int)).wf = true := WalkArith.wf_i64 (by have := y.isLt; omega)
          obtain ⟨c5, _⟩ := box_cell hR.b5
          obtain ⟨c6, f6⟩ := box_cell hR.b6
          have hlk := lookup_known hR.own hyw
          have hsp := visits_spec pre met qs (fun z hz => HB.out.sub z (List.mem_cons_of_mem _ hz))
          rw [← hs] at hsp
          have hlen1 : s.1.length ≤ 65 := by have := hsp.2.2.2.2.2; have := HB.out.small; omega
          have hlen2 : s.2.length ≤ 129 := by have := hsp.2.2.2.2.1; have := HB.out.few; simp at this; omega
          clear hs hsp
          have HR := hid hR
          have Hb := hid hb
          by_cases hy : (y.val : Int) ∈ s.1
          · rw [decide_eq_true hy] at hlk
            have Hv : Hid (visits (met, qs) (pre ++ [y]) = s) := hid (by rw [Hsn.out]; unfold visit; rw [if_pos hy])
            clear hy hR hb hyw
            gi_wp2
            exact ⟨KeepP.refl _ _ _ _, v, by rw [Hv.out]; exact HR.out, Hb.out⟩
          · rw [decide_eq_false hy] at hlk
            have Hv : Hid (visits (met, qs) (pre ++ [y]) = (s.1 ++ [(y.val : Int)], s.2 ++ [(y.val : Int)])) := hid (by rw [Hsn.out]; unfold visit; rw [if_neg hy])
            obtain ⟨w4, hrun4, hown4, hg4⟩ := World.ownsMap.update hR.own (Maps.int_keyed Try.underlying2) Try.underlying65 (show s.1.length < maxLen by unfold maxLen; omega) (Maps.keyOf_int_mk Try.underlying2 hyw) (plainElem_bool Try.underlying4 true)
            have HR4 := hid (hR.meet hown4 hg4)
            obtain ⟨c64, f64⟩ := box_cell HR4.out.b6
            have Hg4 := hid hg4
            have hsz4 := HR4.out.size
            clear hy hR hb hyw hown4 hg4
            gi_wp2_with (gi_at_builtin; refine wpListIn_append_q rfl rfl HR4.out.q (by omega) (by omega) rfl rfl ?_; intro v' w5 hq5 hg5 hat5; obtain ⟨g5, o5, p5, hv5⟩ := hq5.form; subst hv5; have b65 : w5.heap[w.heap.size + 3]? = some (.cells #[v] 22 (0, 0)) := (hg5.block _ (lt_of_get HR4.out.b6) (fun e => by have := HR4.out.ne _ e.symm; omega)).trans HR4.out.b6; obtain ⟨c65, f65⟩ := box_cell b65; have Hq5 := hid hq5; have Hg5 := hid hg5; have Hat5 := hid hat5; clear hq5 hg5 hat5 b65)
            have hs34 : W3.heap.size ≤ w4.heap.size := Hg4.out.size
            have hs45 : w4.heap.size ≤ w5.heap.size := Hg5.out.size
            have el : (s.2 ++ [(y.val : Int)]).length = s.2.length + 1 := by simp
            rw [el] at Hq5 Hat5
            refine ⟨⟨by simp [World.setCell]; omega, fun r hr => ?_⟩, .slice (some ⟨g5, o5, none⟩) (s.2.length + 1) p5, ?_, ?_⟩
            · have hrr : W2.heap.size ≤ r ∧ r < W2.heap.size + (2 + 5) := by
                rcases hr with h | h
                · simp at h
                · exact h
              refine (Below.heap_setCell _ _ _ _ (by simp only; omega)).trans ((Hg5.out.block r (by omega) (fun e => ?_)).trans (Hg4.out.block r (by omega) (fun e => by injection e with e; omega)))
              rcases Hb.out r e.symm with h | h <;> omega
            · rw [Hv.out]
              refine HR4.out.queue Hq5.out Hg5.out ?_
              rcases Hat5.out with h | ⟨j, h, hj⟩
              · exact .inl h
              · exact .inr ⟨j, h, by omega⟩
            · intro j hj
              rcases Hat5.out with h | ⟨i, h, hi⟩
              · exact Hb.out j (by rw [← h]; exact hj)
              · rw [h] at hj
                injection hj with hj
                right
                omega
        case done =>
          rintro W3 ⟨v, hR, hb⟩ hD
          have hRm := hR.mark hD (by omega) (fun hm => by have := HDs.out _ hm; omega) (fun e => by rcases hb _ e with h | h <;> omega)
          have HRm := hid hRm
          have HB' := hid (HB.out.round HH.out)
          have hls := HB.out.less
          clear hR hb hD hRm
          gi_wp2
          exact ⟨_, Nat.lt_of_lt_of_le hls hgg, rfInv_of (Ds := W2.heap.size :: Ds) _ _ rfl rfl HRm HB' (Nat.le_refl _)⟩
        case stop =>
          rintro c pre W3 hpre hF hD
          exact hF.elim

end Go.Proofs.Ythmhdfhjjpfbfaa
