import Derived.Laws.StructEq
import Derived.Laws.Cover2
import Derived.ArgAppend
import Derived.Deep.LoopGhost
import Derived.WideKeyPair
import Derived.Test.YtgefpllmelpahaaMH1
import Derived.Test.YtgefpllmelpahaaMH2
import Derived.Test.YtgefpllmelpahaaMH3
import Derived.Test.YtgefpllmelpahaaMH4
/-! stepsFrom: the steps from a face as an iterator. -/
namespace Go.Proofs.Ytgefpllmelpahaa
open Go.RowKit Go.Shelf

attribute [local go_sem] Oper.semAt_some

/-- The sides that a step leads to: all but the face itself. -/
def otherF (a : Int) (l : List (Fin 64)) : List (Fin 64) := l.filter fun x => decide ((x.val : Int) ≠ a)
def stepsF (ps : List Int) (n : Nat) (a : Int) : List (Fin 64) := if highOf ps n a = 0 then [] else otherF a (sidesF (highOf ps n a).toNat)
theorem otherF_snoc (a : Int) (l : List (Fin 64)) (x : Fin 64) : otherF a (l ++ [x]) = otherF a l ++ (if (x.val : Int) = a then [] else [x]) := by
  unfold otherF
  rw [List.filter_append]
  by_cases h : (x.val : Int) = a <;> simp [h]
theorem otherF_prefix {a : Int} {l l' : List (Fin 64)} (h : l <+: l') : otherF a l <+: otherF a l' := by
  obtain ⟨t, rfl⟩ := h
  unfold otherF
  rw [List.filter_append]
  exact List.prefix_append _ _

set_option maxHeartbeats 1000000 in
/-- stepsFrom: its arguments are boxed; the function value captures the boxes. -/
theorem stepsFrom_in (n : Nat) (M : Nat) (a : Int) (w : World) :
    CallsIn Fence.wide n Try.prog 142 #[.map (some M), .int .i64 a] w fun e w' => e = .returned (.func (.func 211) #[] #[.pointer (some ⟨w.heap.size, 0, none⟩), .pointer (some ⟨w.heap.size + 1, 0, none⟩)]) ∧ w' = (w.alloc (  .cells #[.map (some M)] 151)).alloc (.cells #[.int .i64 a] 2) := by
  refine callsIn_of_wp Try.func142 rfl trivial ?_ rfl
  simp only [Try.ntmps142, List.size_toArray, List.length_cons, List.length_nil, Nat.reduceAdd, Nat.reduceSub, Array.replicate_succ, Array.replicate_zero, List.push_toArray, List.append_toArray, List.nil_append, List.cons_append]
  gi_wp2
  go_ret
  exact ⟨rfl, rfl⟩

/-- Two pairs are compared number by number. -/
theorem eq_pair (x y x' y' : Int) (w : World) : (Op.equalIn 10000 62 (.agg #[.int .i64 x, .int .i64 y]) (.agg #[.int .i64 x', .int .i64 y'])).run Try.prog w = .ok (x == x' && y == y') w := by
  have hu := Try.underlying2
  have hi := Try.isAgg2
  have hs := Try.sizeOf2
  rw [show (10000 : Nat) = 9999 + 1 from rfl, Op.equalIn]
  simp only [Sem.run_bind, run_underlying Try.underlying62, Result.andThen_ok]
  simp only [Std.Legacy.Range.forIn_eq_forIn_range', Std.Legacy.Range.size, Nat.sub_zero, Nat.add_sub_cancel, Nat.div_one, List.range'_succ, List.range'_zero, List.forIn_cons, List.forIn_nil]
  go_simp
  by_cases e1 : x = x' <;> by_cases e2 : y = y' <;> simp [e1, e2]

theorem KeepP.new {Bs : List Nat} {lo k : Nat} {W : World} (o : Obj) (hB : ∀ b ∈ Bs, b < W.heap.size) (hk : lo + k ≤ W.heap.size) : KeepP Bs lo k W (W.alloc o) :=
  ⟨by simp, fun r hr => Below.heap_alloc _ _ _ (by rcases hr with h | h; exact hB r h; omega)⟩
theorem stepsF_hit (ps : List Int) (n : Nat) (a : Int) : stepsF ps n a = otherF a (sidesF (highOf ps n a).toNat) := by
  unfold stepsF
  split
  · rename_i h
    rw [h]
    have : sidesF (0 : Int).toNat = [] := by decide
    rw [this]
    rfl
  · rfl

set_option maxRecDepth 100000 in
set_option maxHeartbeats 2000000 in
/-- Its iterator. -/
theorem steps_P (n : Nat) (hn : 4 ≤ n) (bm ba M N k : Nat) (ps : List Int) (a : Int) (w : World)
    (hcm : w.heap[bm]? = some (.cells #[.map (some M)] 151 (0, 0))) (hca : w.heap[ba]? = some (.cells #[.int .i64 a] 2 (0, 0)))
    (hown : w.ownsMap Try.prog 2 pairElem M N (lowsD ps k)) (hd : LowsApart ps k) (hh : HighsB ps k) (ha : (Lit.int .i64 a).wf = true) :
    SeqStopsP Fence.wide n Try.prog 211 #[.pointer (some ⟨bm, 0, none⟩), .pointer (some ⟨ba, 0, none⟩)] (fun x : Fin 64 => #[Value.int .i64 (x.val : Int)]) [] 5 (stepsF ps k a) w := by
  intro l J Jx W hW hJ hJx hY h0
  have hcmW := (hW.block bm (lt_of_get hcm)).trans hcm
  have hcaW := (hW.block ba (lt_of_get hca)).trans hca
  have cm := (box_cell hcmW).1
  have ca := (box_cell hcaW).1
  have hbm : bm < W.heap.size := lt_of_get hcmW
  have hba : ba < W.heap.size := lt_of_get hcaW
  have hMW : W.ownsMap Try.prog 2 pairElem M N (lowsD ps k) := by
    have hlt := hown.lt
    obtain ⟨es, clock, hb, F, hs, hD⟩ := hown
    exact ⟨es, clock, (hW.block M hlt).trans hb, F, hs, hD⟩
  have HY := hid hY
  have h1 : 1 ≤ n := by omega
  have cm1 : (W.alloc (.cells #[.func (.yield l) #[] #[]] 102)).cell? ⟨bm, 0, none⟩ = some (.map (some M)) := cell_alloc0 cm _
  have ca1 : (W.alloc (.cells #[.func (.yield l) #[] #[]] 102)).cell? ⟨ba, 0, none⟩ = some (.int .i64 a) := cell_alloc0 ca _
  have hlk := lows_look (w := W.alloc (.cells #[.func (.yield l) #[] #[]] 102)) (hMW.alloc _) hd ha
  clear hY hcmW hcaW hcm hca hown hMW cm ca
  show CallsIn Fence.wide n Try.prog 211 #[.func (.yield l) #[] #[], .pointer (some ⟨bm, 0, none⟩), .pointer (some ⟨ba, 0, none⟩)] W _
  rcases hlk with ⟨i, hi, hia, hio, hrun⟩ | ⟨hz, hrun⟩
  · obtain ⟨f, hf⟩ : ∃ f : Nat, highOf ps k a = f := ⟨(highOf ps k a).toNat, by have := hh a; omega⟩
    have hf64 : f < 64 := by have := hh a; omega
    rw [stepsF_hit, hf, Int.toNat_natCast] at HY ⊢
    rw [hf] at hrun
    clear hi hia hio hf hd hh
    refine callsIn_of_wp_marks Try.func211 rfl trivial ?_ rfl
    simp only [Try.ntmps211, List.size_toArray, List.length_cons, List.length_nil, Nat.reduceAdd, Nat.reduceSub, Array.replicate_succ, Array.replicate_zero, List.push_toArray, List.append_toArray, List.nil_append, List.cons_append]
    gi_wp2_with (first
      | (refine ⟨trivial, ?_⟩; gi_at_call 154; refine (sides_in _ _ _).mono ?_; rintro e w' ⟨rfl, rfl⟩))
    clear hrun cm1 ca1
    have hb1 := heap_alloc_new W (.cells #[.func (.yield l) #[] #[]] 102)
    have hb2 := heap_alloc_new (W.alloc (.cells #[.func (.yield l) #[] #[]] 102)) (.cells #[.int .i64 a, .int .i64 (f : Int)] 62)
    have hb3 := heap_alloc_new ((W.alloc (.cells #[.func (.yield l) #[] #[]] 102)).alloc (.cells #[.int .i64 a, .int .i64 (f : Int)] 62)) (.cells #[.int .i64 (f : Int)] 2)
    rw [World.size_alloc] at hb2
    rw [World.size_alloc, World.size_alloc] at hb3
    have hJ3 := hJ.alloc (.cells #[.int .i64 (f : Int)] 2) (hJ.alloc (.cells #[.int .i64 a, .int .i64 (f : Int)] 62) (hJ.alloc (.cells #[.func (.yield l) #[] #[]] 102) h0))
    refine wpIn_rangeFunc_P rfl h1 (gf := 215) (lb := #[.pointer (some ⟨W.heap.size + 1 + 1, 0, none⟩)]) rfl trivial (enters_of Try.func215 (by kernel_rfl) rfl)
      (sides_P (n - 1) (by omega) (W.heap.size + 1 + 1) f hf64 _ (by simp) hb3) (by simp) (Below.refl _ _) (fun _ => rfl)
      (fun pre W' => J (otherF a pre) W' ∧ W'.heap[W.heap.size]? = some (.cells #[.func (.yield l) #[] #[]] 102 (0, 0)) ∧ W'.heap[W.heap.size + 1]? = some (.cells #[.int .i64 a, .int .i64 (f : Int)] 62 (0, 0)))
      (fun c _ W' => c = .ret ∧ ∃ q, q <+: otherF a (sidesF f) ∧ Jx q W')
      (OwnIn.and ((hJ.map (otherF a)).less (by simp <;> omega) (by simp <;> omega)) (OwnIn.and (ownIn_block (β := List (Fin 64)) (fun _ => _) (by simp <;> omega)) (ownIn_block (β := List (Fin 64)) (fun _ => _) (by simp <;> omega))))
      (fun c s A B row hs hg hr => ⟨hs.1, by obtain ⟨q, hq, hx⟩ := hs.2; exact ⟨q, hq, (hJx.less (by simp <;> omega) (by simp <;> omega)) q A B row hx hg hr⟩⟩)
      ⟨hJ3, ?_, ?_⟩
      (fun x => { tmps := #[.func (.yield l) #[] #[], .pointer (some ⟨bm, 0, none⟩), .pointer (some ⟨ba, 0, none⟩), .pointer (some ⟨W.heap.size, 0, none⟩), .pointer (some ⟨W.heap.size + 1, 0, none⟩), .bool true, .int .i64 (x.val : Int), undef, .tuple #[.agg #[.int .i64 a, .int .i64 (f : Int)], .bool true], .map (some M), .int .i64 a, .tuple #[.agg #[.int .i64 a, .int .i64 (f : Int)], .bool true], .agg #[.int .i64 a, .int .i64 (f : Int)], .bool true, .bool true, .bool false, .pointer (some ⟨W.heap.size + 1, 1, none⟩), .int .i64 (f : Int), .func (.func 215) #[] #[.pointer (some ⟨W.heap.size + 1 + 1, 0, none⟩)], .int .i64 (x.val : Int), undef, undef, undef, undef, undef, undef, undef, undef, undef, undef, undef, undef, undef], defers := [] }) ?assign ?body ?done ?stop
    · exact (Below.heap_alloc _ _ _ (by simp <;> omega)).trans ((Below.heap_alloc _ _ _ (by simp <;> omega)).trans hb1)
    · exact (Below.heap_alloc _ _ _ (by simp <;> omega)).trans hb2
    case assign =>
      intro l' x W3 K hK
      gi_wp2
      exact hK
    case body =>
      rintro l' pre x W3 hpre hsz ⟨hj, hyb, hpb⟩
      simp only [World.size_alloc] at hsz
      have cy := (box_cell hyb).1
      obtain ⟨co0, co1, _, _⟩ := two_of hpb
      have d0 : ∀ o : Obj, (W3.alloc o).cell? ⟨W.heap.size + 1, 0, none⟩ = some (.int .i64 a) := fun o => cell_alloc0 co0 o
      have d1 : ∀ o : Obj, (W3.alloc o).cell? ⟨W.heap.size + 1, 1, none⟩ = some (.int .i64 (f : Int)) := fun o => cell_alloc0 co1 o
      have dy : ∀ o : Obj, (W3.alloc o).cell? ⟨W.heap.size, 0, none⟩ = some (.func (.yield l) #[] #[]) := fun o => cell_alloc0 cy o
      have Heq := eq_pair (x.val : Int) (f : Int) a (f : Int)
      have hff : ((f : Int) == (f : Int)) = true := by simp
      have Hpre := hid (otherF_prefix (a := a) hpre)
      have Hsn := hid (otherF_snoc a pre x)
      have Hyb := hid hyb
      have Hpb := hid hpb
      by_cases hxa : (x.val : Int) = a
      · have e : otherF a (pre ++ [x]) = otherF a pre := by rw [Hsn.out, if_pos hxa]; simp
        have HJ3 := hid hj
        have g1 : ((x.val : Int) == a) = true := by simp [hxa]
        rw [hxa] at Heq
        clear hyb hpb hj hpre
        gi_wp2
        refine ⟨(fun _ h => by cases h), ?_⟩
        gi_wp2
        refine ⟨KeepP.new _ (by simp; omega) (by simp; omega), ?_⟩
        exact ⟨by rw [e]; exact hJ.alloc _ HJ3.out, (Below.heap_alloc _ _ _ (by omega)).trans Hyb.out, (Below.heap_alloc _ _ _ (by omega)).trans Hpb.out⟩
      · have e : otherF a (pre ++ [x]) = otherF a pre ++ [x] := by rw [Hsn.out, if_neg hxa]
        have g1 : ((x.val : Int) == a) = false := by simpa using hxa
        have hys := HY.out (otherF a pre) x (W3.alloc (.cells #[.int .i64 (x.val : Int), .int .i64 (f : Int)] 62)) (by rw [← e]; exact Hpre.out) (by simp; omega) (hJ.alloc _ hj)
        rw [← e] at hys
        clear hyb hpb hj hpre
        obtain ⟨fn, tmps, assign, body, hy, hR⟩ := yieldRound (l0 := l') (yieldAny (n - 1 - 1 - 1) hys)
        have He := hid e
        clear e
        gi_wp2
        refine ⟨fun _ => by omega, hR.mono ?_⟩
        rintro e W4 ⟨hk, (⟨rfl, hj4⟩ | ⟨rfl, hx4⟩)⟩
        · have hpb4 := (hk.same (W.heap.size + 1) (.inr ⟨by omega, by omega⟩)).trans ((Below.heap_alloc _ _ _ (by omega)).trans Hpb.out)
          have hyb4 := (hk.same W.heap.size (.inr ⟨by omega, by omega⟩)).trans ((Below.heap_alloc _ _ _ (by omega)).trans Hyb.out)
          have Hk := hid hk
          have Hpb4 := hid hpb4
          have Hyb4 := hid hyb4
          have HJ4 := hid hj4
          clear hk hpb4 hyb4 hj4
          gi_wp2
          refine ⟨?_, HJ4.out, Hyb4.out, Hpb4.out⟩
          exact (KeepP.new _ (by simp; omega) (by simp; omega)).trans (Hk.out.less (fun b hb => by simp at hb; subst hb; exact .inr ⟨by omega, by omega⟩) (by simp <;> omega) (by simp <;> omega))
        · gi_wp2
          exact ⟨(KeepP.new _ (by simp; omega) (by simp; omega)).trans (hk.less (fun b hb => by simp at hb; subst hb; exact .inr ⟨by omega, by omega⟩) (by simp <;> omega) (by simp <;> omega)), rfl, _, Hpre.out, hx4⟩
    case done =>
      rintro W3 ⟨hj, _, _⟩ hD
      simp only [World.size_alloc] at hD
      gi_wp2
      refine leaves_marks (by simp) [_] _ (by simp) (fun D hD' => by simp only [List.mem_singleton] at hD'; subst hD'; simp only [World.size_alloc]; exact hD) (fun w' hw' => ?_)
      exact ⟨_, results_none rfl _ _ _, ⟨_, rfl⟩, .inl (hJ _ W3 w' (some (W.heap.size + 3)) hj (shut_grown hw' (by simp)) (fun r e => by cases e; exact ⟨by omega, .inl (by omega)⟩))⟩
    case stop =>
      rintro c pre W3 hpre ⟨rfl, q, hq, hx⟩ hD
      simp only [World.size_alloc] at hD
      gi_wp2
      refine leaves_marks (by simp) [_] _ (by simp) (fun D hD' => by simp only [List.mem_singleton] at hD'; subst hD'; simp only [World.size_alloc]; exact hD) (fun w' hw' => ?_)
      exact ⟨_, results_none rfl _ _ _, ⟨_, rfl⟩, .inr ⟨q, hq, hJx _ W3 w' (some (W.heap.size + 3)) hx (shut_grown hw' (by simp)) (fun r e => by cases e; exact ⟨by omega, .inl (by omega)⟩)⟩⟩
  · have hs0 : stepsF ps k a = [] := by unfold stepsF; rw [if_pos hz]
    rw [hs0]
    have hJ2 := hJ.alloc (.cells #[.int .i64 0, .int .i64 0] 62) (hJ.alloc (.cells #[.func (.yield l) #[] #[]] 102) h0)
    refine callsIn_of_wp_marks Try.func211 rfl trivial ?_ rfl
    simp only [Try.ntmps211, List.size_toArray, List.length_cons, List.length_nil, Nat.reduceAdd, Nat.reduceSub, Array.replicate_succ, Array.replicate_zero, List.push_toArray, List.append_toArray, List.nil_append, List.cons_append]
    gi_wp2
    refine leaves_marks (by simp) [] _ (by simp) (by simp) (fun w' hw' => ?_)
    exact ⟨_, results_none rfl _ _ _, ⟨_, rfl⟩, .inl (hJ _ _ w' none hJ2 ⟨hw'.os, hw'.tape, hw'.output, by rw [hw'.size]; exact Nat.le_refl _, fun j _ _ => hw'.block j (by simp)⟩ (fun r e => by cases e))⟩

end Go.Proofs.Ytgefpllmelpahaa

/-! The program's search, the mathematics: a queue, and what has been met. -/
namespace Go.Proofs.Ytgefpllmelpahaa
open Go.RowKit

/-- A number comes up: if it is new, it is met and waits. -/
def visit (s : List Int × List Int) (y : Int) : List Int × List Int := if y ∈ s.1 then s else (s.1 ++ [y], s.2 ++ [y])
def visits (s : List Int × List Int) (l : List (Fin 64)) : List Int × List Int := l.foldl (fun s x => visit s (x.val : Int)) s
theorem visits_snoc (s : List Int × List Int) (l : List (Fin 64)) (x : Fin 64) : visits s (l ++ [x]) = visit (visits s l) (x.val : Int) := by simp [visits]

/-- How many numbers below 64 have not been met. -/
def unmet (met : List Int) : Nat := (List.range 64).countP fun i : Nat => decide ((i : Int) ∉ met)
theorem countP_lt {l : List Nat} {p q : Nat → Bool} (h : ∀ x ∈ l, q x = true → p x = true) {y : Nat} (hy : y ∈ l) (hp : p y = true) (hq : q y = false) : l.countP q < l.countP p := by
  induction l with
  | nil => simp at hy
  | cons x l ih =>
    have hle : l.countP q ≤ l.countP p := List.countP_mono_left (fun z hz hqz => h z (List.mem_cons_of_mem _ hz) hqz)
    rw [List.countP_cons, List.countP_cons]
    by_cases e : y = x
    · subst e
      rw [hp, hq]
      simp
      omega
    · have hyl : y ∈ l := by
        rcases List.mem_cons.1 hy with h1 | h1
        · exact absurd h1 e
        · exact h1
      have := ih (fun z hz => h z (List.mem_cons_of_mem _ hz)) hyl
      by_cases hqx : q x = true
      · rw [hqx, h x (by simp) hqx]; omega
      · have hqx' : q x = false := by simpa using hqx
        rw [hqx']
        simp
        omega
theorem unmet_le (met : List Int) : unmet met ≤ 64 := by unfold unmet; exact Nat.le_trans List.countP_le_length (by simp)
theorem unmet_snoc {met : List Int} {y : Int} (h0 : 0 ≤ y) (h64 : y < 64) (hn : y ∉ met) : unmet (met ++ [y]) < unmet met := by
  unfold unmet
  refine countP_lt (y := y.toNat) (fun x _ hx => ?_) (by simp; omega) ?_ ?_
  · simp at hx ⊢
    exact hx.1
  · rw [show ((y.toNat : Nat) : Int) = y by omega]; simpa using hn
  · rw [show ((y.toNat : Nat) : Int) = y by omega]; simp

/-- The search's state. -/
structure Bfs (ps : List Int) (n : Nat) (a : Int) (met qs : List Int) : Prop where
  start : a ∈ met
  way : ∀ x ∈ met, x = a ∨ Way ps n a x
  sub : ∀ x ∈ qs, x ∈ met
  clos : ∀ x ∈ met, x ∈ qs ∨ ∀ y ∈ nextL ps n x, y ∈ met
  small : met.length + unmet met ≤ 65
  few : 2 * unmet met + qs.length ≤ 129
theorem Bfs.begin (ps : List Int) (n : Nat) (a : Int) : Bfs ps n a [a] [a] :=
  ⟨by simp, fun x hx => .inl (by simpa using hx), fun x hx => hx, fun x hx => .inl hx, by have := unmet_le [a]; simp; omega, by have := unmet_le [a]; simp; omega⟩

theorem visits_spec : ∀ (l : List (Fin 64)) (met qs : List Int), (∀ x ∈ qs, x ∈ met) →
    (∀ z, z ∈ (visits (met, qs) l).1 ↔ z ∈ met ∨ ∃ y ∈ l, z = (y.val : Int)) ∧ (∀ z ∈ (visits (met, qs) l).2, z ∈ (visits (met, qs) l).1) ∧ (∀ z ∈ (visits (met, qs) l).1, z ∈ met ∨ z ∈ (visits (met, qs) l).2) ∧ (∀ z ∈ qs, z ∈ (visits (met, qs) l).2) ∧
      2 * unmet (visits (met, qs) l).1 + (visits (met, qs) l).2.length ≤ 2 * unmet met + qs.length ∧ (visits (met, qs) l).1.length + unmet (visits (met, qs) l).1 ≤ met.length + unmet met
  | [], met, qs, hsub => ⟨fun z => by simp [visits], hsub, fun z hz => .inl hz, fun z hz => hz, Nat.le_refl _, Nat.le_refl _⟩
  | y :: l, met, qs, hsub => by
    have hv : visits (met, qs) (y :: l) = visits (visit (met, qs) (y.val : Int)) l := rfl
    rw [hv]
    by_cases hm : (y.val : Int) ∈ met
    · have e : visit (met, qs) (y.val : Int) = (met, qs) := by unfold visit; rw [if_pos hm]
      rw [e]
      obtain ⟨h1, h2, h3, h4, h5, h6⟩ := visits_spec l met qs hsub
      refine ⟨fun z => ?_, h2, h3, h4, h5, h6⟩
      rw [h1 z]
      constructor
      · rintro (h | ⟨u, hu, ez⟩)
        · exact .inl h
        · exact .inr ⟨u, List.mem_cons_of_mem _ hu, ez⟩
      · rintro (h | ⟨u, hu, ez⟩)
        · exact .inl h
        · rcases List.mem_cons.1 hu with rfl | hu
          · exact .inl (by rw [ez]; exact hm)
          · exact .inr ⟨u, hu, ez⟩
    · have e : visit (met, qs) (y.val : Int) = (met ++ [(y.val : Int)], qs ++ [(y.val : Int)]) := by unfold visit; rw [if_neg hm]
      rw [e]
      have hsub' : ∀ x ∈ qs ++ [(y.val : Int)], x ∈ met ++ [(y.val : Int)] := fun x hx => by
        rcases List.mem_append.1 hx with h | h
        · exact List.mem_append_left _ (hsub x h)
        · exact List.mem_append_right _ h
      obtain ⟨h1, h2, h3, h4, h5, h6⟩ := visits_spec l _ _ hsub'
      have hu := unmet_snoc (met := met) (y := (y.val : Int)) (by omega) (by have := y.isLt; omega) hm
      refine ⟨fun z => ?_, h2, fun z hz => ?_, fun z hz => h4 z (List.mem_append_left _ hz), ?_, ?_⟩
      · rw [h1 z]
        constructor
        · rintro (h | ⟨u, hu, ez⟩)
          · rcases List.mem_append.1 h with h | h
            · exact .inl h
            · exact .inr ⟨y, by simp, by simpa using h⟩
          · exact .inr ⟨u, List.mem_cons_of_mem _ hu, ez⟩
        · rintro (h | ⟨u, hu, ez⟩)
          · exact .inl (List.mem_append_left _ h)
          · rcases List.mem_cons.1 hu with rfl | hu
            · exact .inl (by rw [ez]; simp)
            · exact .inr ⟨u, hu, ez⟩
      · rcases h3 z hz with h | h
        · rcases List.mem_append.1 h with h | h
          · exact .inl h
          · exact .inr (h4 z (List.mem_append_right _ h))
        · exact .inr h
      · simp at h5; omega
      · simp at h6; omega

theorem sides_below : ∀ f : Fin 64, (sidesF f.val).map (fun x => (x.val : Int)) = (belowR f.val 63).reverse := by decide +kernel
theorem mem_stepsF {ps : List Int} {n : Nat} (hh : HighsB ps n) (a z : Int) : (∃ y ∈ stepsF ps n a, z = (y.val : Int)) ↔ z ∈ nextL ps n a := by
  unfold stepsF nextL
  split
  · simp
  · have h := hh a
    have e := sides_below ⟨(highOf ps n a).toNat, by omega⟩
    simp only at e
    have hz : ∀ z : Int, z ∈ belowR (highOf ps n a).toNat 63 ↔ ∃ y ∈ sidesF (highOf ps n a).toNat, (y.val : Int) = z := fun z => by
      rw [← List.mem_reverse, ← e, List.mem_map]
    unfold otherF
    simp only [List.mem_filter, hz, decide_eq_true_eq]
    constructor
    · rintro ⟨y, ⟨h1, h2⟩, rfl⟩
      exact ⟨⟨y, h1, rfl⟩, h2⟩
    · rintro ⟨⟨y, h1, rfl⟩, h2⟩
      exact ⟨y, ⟨h1, h2⟩, rfl⟩

/-- A round: the first that waits is gone through. -/
theorem Bfs.round {ps : List Int} {n : Nat} (hh : HighsB ps n) {a x : Int} {met qs : List Int} (h : Bfs ps n a met (x :: qs)) : Bfs ps n a (visits (met, qs) (stepsF ps n x)).1 (visits (met, qs) (stepsF ps n x)).2 := by
  have hxm := h.sub x (by simp)
  obtain ⟨h1, h2, h3, h4, h5, h6⟩ := visits_spec (stepsF ps n x) met qs (fun z hz => h.sub z (List.mem_cons_of_mem _ hz))
  refine ⟨(h1 a).2 (.inl h.start), fun z hz => ?_, h2, fun z hz => ?_, Nat.le_trans h6 h.small, ?_⟩
  · rcases (h1 z).1 hz with hz | hz
    · exact h.way z hz
    · have hn := (mem_stepsF hh x z).1 hz
      rcases h.way x hxm with rfl | hw
      · exact .inr (.one hn)
      · exact .inr (.more hw hn)
  · rcases h3 z hz with hz | hz
    · rcases h.clos z hz with hq | hc
      · rcases List.mem_cons.1 hq with rfl | hq
        · exact .inr (fun y hy => (h1 y).2 (.inr ((mem_stepsF hh z y).2 hy)))
        · exact .inl (h4 z hq)
      · exact .inr (fun y hy => (h1 y).2 (.inl (hc y hy)))
    · exact .inl hz
  · have := h.few
    simp at this
    omega
theorem Bfs.less {ps : List Int} {n : Nat} {a x : Int} {met qs : List Int} (h : Bfs ps n a met (x :: qs)) : 2 * unmet (visits (met, qs) (stepsF ps n x)).1 + (visits (met, qs) (stepsF ps n x)).2.length < 2 * unmet met + (x :: qs).length := by
  obtain ⟨_, _, _, _, h5, _⟩ := visits_spec (stepsF ps n x) met qs (fun z hz => h.sub z (List.mem_cons_of_mem _ hz))
  simp
  omega
/-- Nothing waits: what has been met is what is reached. -/
theorem Bfs.done {ps : List Int} {n : Nat} {a : Int} {met : List Int} (h : Bfs ps n a met []) (z : Int) : z ∈ met ↔ z = a ∨ Way ps n a z := by
  have hc : ∀ x ∈ met, ∀ y ∈ nextL ps n x, y ∈ met := fun x hx => (h.clos x hx).resolve_left (by simp)
  constructor
  · exact h.way z
  · rintro (rfl | hw)
    · exact h.start
    · induction hw with
      | one h1 => exact hc a h.start _ h1
      | more _ h2 ih => exact hc _ ih _ h2

end Go.Proofs.Ytgefpllmelpahaa

/-! settledPairs, the mathematics: pairs that settle one behind the other. -/
namespace Go.Proofs.Ytgefpllmelpahaa
open Go.RowKit

/-- A step leads from the low face of pair i to that of pair j. -/
def StepP (ps : List Int) (n i j : Nat) : Prop := at0 ps (j * 2) ∈ nextL ps n (at0 ps (i * 2))
/-- Each pair of the list has all pairs to which its steps lead ahead of it. -/
def Ordered (ps : List Int) (n : Nat) (L : List Nat) : Prop := ∀ pre i post, L = pre ++ i :: post → ∀ j, j < n → StepP ps n i j → j ∈ pre
theorem Ordered.nil (ps : List Int) (n : Nat) : Ordered ps n [] := fun pre i post h => by
  have := congrArg List.length h
  simp at this
theorem Ordered.snoc {ps : List Int} {n : Nat} {L : List Nat} (h : Ordered ps n L) {i : Nat} (hi : ∀ j, j < n → StepP ps n i j → j ∈ L) : Ordered ps n (L ++ [i]) := by
  intro pre k post he j hj hs
  rcases List.eq_nil_or_concat post with hp | ⟨post', z, hp⟩
  · subst hp
    have h1 := List.append_inj' he rfl
    have h2 : i = k := by simpa using h1.2
    rw [← h1.1]
    exact hi j hj (by rw [h2]; exact hs)
  · rw [List.concat_eq_append] at hp
    subst hp
    have he' : L ++ [i] = (pre ++ k :: post') ++ [z] := by rw [he]; simp
    have h1 := List.append_inj' he' rfl
    exact h pre k post' h1.1 j hj hs

/-- A number that has steps is the low face of a pair. -/
theorem next_low {ps : List Int} {n : Nat} {x y : Int} (h : y ∈ nextL ps n x) : ∃ i, i < n ∧ at0 ps (i * 2) = x := by
  refine Classical.byContradiction fun hn => ?_
  have : highOf ps n x = 0 := highOf_none (fun i hi e => hn ⟨i, hi, e⟩)
  unfold nextL at h
  rw [if_pos this] at h
  simp at h

/-- Along a way the pairs stand ever further ahead. -/
theorem way_ahead {ps : List Int} {n : Nat} {L : List Nat} (hO : Ordered ps n L) {i : Nat} {y : Int} (hw : Way ps n (at0 ps (i * 2)) y) :
    ∀ pre post, L = pre ++ i :: post → ∀ j, j < n → at0 ps (j * 2) = y → j ∈ pre := by
  induction hw with
  | one h1 =>
    intro pre post he j hj hy
    exact hO pre i post he j hj (by unfold StepP; rw [hy]; exact h1)
  | @more x y _ h2 ih =>
    intro pre post he j hj hy
    obtain ⟨k, hk, hkx⟩ := next_low h2
    have hkp := ih pre post he k hk hkx
    obtain ⟨p1, p2, hp⟩ := List.append_of_mem hkp
    have hj1 := hO p1 k (p2 ++ i :: post) (by rw [he, hp]; simp) j hj (by unfold StepP; rw [hy, hkx]; exact h2)
    rw [hp]
    exact List.mem_append_left _ hj1
/-- All settled: no cycle. -/
theorem settled_acyclic {ps : List Int} {n : Nat} {L : List Nat} (hO : Ordered ps n L) (hall : ∀ i, i < n → i ∈ L) : NoCycle ps n := by
  intro i hi hw
  obtain ⟨pre, post, he, hn⟩ : ∃ pre post, L = pre ++ i :: post ∧ i ∉ pre := by
    have := List.eq_append_cons_of_mem (hall i hi)
    obtain ⟨pre, post, h1, h2⟩ := this
    exact ⟨pre, post, h1, h2⟩
  exact hn (way_ahead hO hw pre post he i hi rfl)

theorem way_trans {ps : List Int} {n : Nat} {a b c : Int} (h1 : Way ps n a b) (h2 : Way ps n b c) : Way ps n a c := by
  induction h2 with
  | one h => exact .more h1 h
  | more _ h ih => exact .more ih h
/-- Nothing more can settle, and there is no cycle: all are settled. -/
theorem acyclic_settled {ps : List Int} {n : Nat} {L : List Nat} (hc : NoCycle ps n) (hs : ∀ i, i < n → i ∉ L → ∃ j, j < n ∧ StepP ps n i j ∧ j ∉ L) : ∀ i, i < n → i ∈ L := by
  have key : ∀ (m i : Nat), (List.range n).countP (fun j => wayB ps n (at0 ps (i * 2)) (at0 ps (j * 2))) = m → i < n → i ∈ L := by
    intro m
    induction m using Nat.strongRecOn with
    | _ m ih =>
      intro i hm hi
      refine Classical.byContradiction fun hn => ?_
      obtain ⟨j, hj, hst, hjn⟩ := hs i hi hn
      have hw : Way ps n (at0 ps (i * 2)) (at0 ps (j * 2)) := .one hst
      have hlt : (List.range n).countP (fun k => wayB ps n (at0 ps (j * 2)) (at0 ps (k * 2))) < (List.range n).countP (fun k => wayB ps n (at0 ps (i * 2)) (at0 ps (k * 2))) := by
        refine countP_lt (y := j) (fun k _ hk => ?_) (by simpa using hj) (wayB_true hw) (wayB_false (hc j hj))
        by_cases hw2 : Way ps n (at0 ps (j * 2)) (at0 ps (k * 2))
        · exact wayB_true (way_trans hw hw2)
        · rw [wayB_false hw2] at hk; cases hk
      exact hjn (ih _ (by omega) j rfl hj)
  exact fun i hi => key _ i rfl hi

end Go.Proofs.Ytgefpllmelpahaa

/-! The number of gradient ways, the mathematics. -/
namespace Go.Proofs.Ytgefpllmelpahaa
open Go.RowKit

/-- The number of ways from a to b with less than f steps. -/
def gwN (ps : List Int) (n : Nat) (b : Int) : Nat → Int → Int
  | 0, _ => 0
  | f + 1, a => (if a = b then 1 else 0) + ((nextL ps n a).map (gwN ps n b f)).sum
/-- The number of gradient ways from a to b, for an acyclic pairing. -/
def gw (ps : List Int) (n : Nat) (b a : Int) : Int := gwN ps n b (n + 2) a

theorem nextL_nil {ps : List Int} {n : Nat} {x : Int} (h : ∀ i, i < n → at0 ps (i * 2) ≠ x) : nextL ps n x = [] := by
  have := highOf_none (ps := ps) (n := n) (a := x) (fun i hi => h i hi)
  unfold nextL
  rw [if_pos this]

/-- How many pairs are reached from the low face of a pair. -/
noncomputable def rkP (ps : List Int) (n : Nat) (i : Nat) : Nat := (List.range n).countP fun k => wayB ps n (at0 ps (i * 2)) (at0 ps (k * 2))
theorem rkP_le (ps : List Int) (n i : Nat) : rkP ps n i ≤ n := by
  have := List.countP_le_length (p := fun k => wayB ps n (at0 ps (i * 2)) (at0 ps (k * 2))) (l := List.range n)
  simpa [rkP] using this
theorem rkP_lt {ps : List Int} {n : Nat} (hc : NoCycle ps n) {i j : Nat} (hj : j < n) (hs : StepP ps n i j) : rkP ps n j < rkP ps n i := by
  have hw : Way ps n (at0 ps (i * 2)) (at0 ps (j * 2)) := .one hs
  refine countP_lt (y := j) (fun k _ hk => ?_) (by simpa using hj) (wayB_true hw) (wayB_false (hc j hj))
  by_cases hw2 : Way ps n (at0 ps (j * 2)) (at0 ps (k * 2))
  · exact wayB_true (way_trans hw hw2)
  · rw [wayB_false hw2] at hk; cases hk

theorem gwN_low {ps : List Int} {n : Nat} (hc : NoCycle ps n) (b : Int) : ∀ (m i f g : Nat), rkP ps n i ≤ m → i < n → m + 2 ≤ f → m + 2 ≤ g → gwN ps n b f (at0 ps (i * 2)) = gwN ps n b g (at0 ps (i * 2)) := by
  intro m
  induction m using Nat.strongRecOn with
  | _ m ih =>
    intro i f g hm hi hf hg
    obtain ⟨f', rfl⟩ : ∃ f', f = f' + 1 := ⟨f - 1, by omega⟩
    obtain ⟨g', rfl⟩ : ∃ g', g = g' + 1 := ⟨g - 1, by omega⟩
    unfold gwN
    congr 2
    refine List.map_congr_left (fun y hy => ?_)
    by_cases hex : ∃ j, j < n ∧ at0 ps (j * 2) = y
    · obtain ⟨j, hj, rfl⟩ := hex
      have hlt := rkP_lt hc hj (show StepP ps n i j from hy)
      exact ih (rkP ps n j) (by omega) j f' g' (Nat.le_refl _) hj (by omega) (by omega)
    · obtain ⟨f'', rfl⟩ : ∃ f'', f' = f'' + 1 := ⟨f' - 1, by omega⟩
      obtain ⟨g'', rfl⟩ : ∃ g'', g' = g'' + 1 := ⟨g' - 1, by omega⟩
      have hnil := nextL_nil (fun i hi e => hex ⟨i, hi, e⟩)
      unfold gwN
      rw [hnil]
      rfl
theorem gwN_any {ps : List Int} {n : Nat} (hc : NoCycle ps n) (b : Int) (f : Nat) (hf : n + 2 ≤ f) (a : Int) : gwN ps n b f a = gw ps n b a := by
  unfold gw
  by_cases hex : ∃ j, j < n ∧ at0 ps (j * 2) = a
  · obtain ⟨j, hj, rfl⟩ := hex
    exact gwN_low hc b n j f (n + 2) (rkP_le ps n j) hj hf (Nat.le_refl _)
  · obtain ⟨f', rfl⟩ : ∃ f', f = f' + 1 := ⟨f - 1, by omega⟩
    have hnil := nextL_nil (fun i hi e => hex ⟨i, hi, e⟩)
    unfold gwN
    rw [hnil]
    rfl
/-- By a first step. -/
theorem gw_step {ps : List Int} {n : Nat} (hc : NoCycle ps n) (b a : Int) : gw ps n b a = (if a = b then 1 else 0) + ((nextL ps n a).map (gw ps n b)).sum := by
  rw [← gwN_any hc b (n + 2 + 1) (by omega) a]
  show (if a = b then 1 else 0) + ((nextL ps n a).map (gwN ps n b (n + 2))).sum = _
  rfl
theorem gw_none {ps : List Int} {n : Nat} {b x : Int} (h : ∀ i, i < n → at0 ps (i * 2) ≠ x) : gw ps n b x = if x = b then 1 else 0 := by
  unfold gw gwN
  rw [nextL_nil h]
  simp

theorem nextL_ne {ps : List Int} {n : Nat} {x y : Int} (h : y ∈ nextL ps n x) : y ≠ x := by
  unfold nextL at h
  split at h
  · simp at h
  · have := List.mem_filter.1 h
    simpa using this.2
theorem int_sum_reverse (l : List Int) : l.reverse.sum = l.sum := by
  induction l with
  | nil => rfl
  | cons x l ih => simp [ih, Int.add_comm]
/-- The steps in the program's order. -/
theorem gw_steps {ps : List Int} {n : Nat} (hh : HighsB ps n) (a : Int) (g : Int → Int) : ((stepsF ps n a).map fun z => g (z.val : Int)).sum = ((nextL ps n a).map g).sum := by
  unfold stepsF nextL
  split
  · rfl
  · have h := hh a
    have e := sides_below ⟨(highOf ps n a).toNat, by omega⟩
    simp only at e
    have e2 : (otherF a (sidesF (highOf ps n a).toNat)).map (fun z => (z.val : Int)) = ((belowR (highOf ps n a).toNat 63).filter fun y => decide (y ≠ a)).reverse := by
      rw [← List.filter_reverse, ← e]
      unfold otherF
      rw [List.filter_map]
      rfl
    have e3 : (otherF a (sidesF (highOf ps n a).toNat)).map (fun z => g (z.val : Int)) = (((belowR (highOf ps n a).toNat 63).filter fun y => decide (y ≠ a)).map g).reverse := by
      rw [← List.map_reverse, ← e2, List.map_map]
      rfl
    rw [e3, int_sum_reverse]

theorem wrap64_add (a b : Int) : wrap64 (wrap64 a + wrap64 b) = wrap64 (a + b) := by unfold wrap64; omega
theorem wrap64_wrap (a : Int) : wrap64 (wrap64 a) = wrap64 a := by unfold wrap64; omega

end Go.Proofs.Ytgefpllmelpahaa

/-! A queue: a row of int64 that is cut at its front and grows at its end. -/
namespace Go.Proofs.Ytgefpllmelpahaa
open Go.RowKit

structure QAt (W : World) (base g off cap : Nat) (cur : Array Value) (xs : List Int) : Prop where
  base : base ≤ g
  heap : W.heap[g]? = some (.cells cur 2 (0, 0))
  len : xs.length ≤ cap
  size : off + cap ≤ cur.size
  at_ : ∀ i, i < xs.length → cur[off + i]? = some (.int .i64 (xs[i]?.getD 0))
def OwnsQ (W : World) (base : Nat) (v : Value) (xs : List Int) : Prop := ∃ g off cap cur, v = .slice (some ⟨g, off, none⟩) xs.length cap ∧ QAt W base g off cap cur xs

theorem QAt.cell {W : World} {base g off cap : Nat} {cur : Array Value} {xs : List Int} (h : QAt W base g off cap cur xs) {i : Nat} (hi : i < xs.length) : W.cell? ⟨g, off + i, none⟩ = some (.int .i64 (xs[i]?.getD 0)) := by
  rw [cell_of_row W g (off + i) cur _ (0, 0) h.heap]
  exact h.at_ i hi
theorem QAt.lt {W : World} {base g off cap : Nat} {cur : Array Value} {xs : List Int} (h : QAt W base g off cap cur xs) : g < W.heap.size := (Array.getElem?_eq_some_iff.1 h.heap).1
theorem OwnsQ.kept {W W' : World} {base : Nat} {v : Value} {xs : List Int} {row : Option Nat} (h : OwnsQ W base v xs) (hg : W.grownBy W' row) (hne : v.ownBlock ≠ row) : OwnsQ W' base v xs := by
  obtain ⟨g, off, cap, cur, rfl, q⟩ := h
  exact ⟨g, off, cap, cur, rfl, q.base, (hg.block g q.lt (by simpa [Value.ownBlock] using hne)).trans q.heap, q.len, q.size, q.at_⟩
theorem OwnsQ.lt {W : World} {base : Nat} {v : Value} {xs : List Int} (h : OwnsQ W base v xs) : ∃ g, v.ownBlock = some g ∧ base ≤ g ∧ g < W.heap.size := by
  obtain ⟨g, off, cap, cur, rfl, q⟩ := h
  exact ⟨g, rfl, q.base, q.lt⟩

theorem OwnsQ.form {W : World} {base : Nat} {v : Value} {xs : List Int} (h : OwnsQ W base v xs) : ∃ g off cap, v = .slice (some ⟨g, off, none⟩) xs.length cap := by
  obtain ⟨g, off, cap, _, e, _⟩ := h
  exact ⟨g, off, cap, e⟩

/-- 'append(queue, x)', as the run of the operation. -/
theorem OwnsQ.push {W : World} {base : Nat} {v : Value} {xs : List Int} (h : OwnsQ W base v xs) (hb : base ≤ W.heap.size) (hl : xs.length ≤ 1048576) (ty : TypeId) (ad : Addr) (c : Nat) (x : Int) (hx : W.cell? (ad.add 0) = some (.int .i64 x)) :
    ∃ v' W', (Builtin.append_ #[22, 22] ty #[v, .slice (some ad) 1 c]).run Try.prog W = .ok v' W' ∧ OwnsQ W' base v' (xs ++ [x]) ∧ W.grownBy W' v.ownBlock ∧ (v'.ownBlock = v.ownBlock ∨ ∃ k, v'.ownBlock = some k ∧ W.heap.size ≤ k) := by
  obtain ⟨i0, hi, hz0, hz1, hz2⟩ := info_parts info_i64
  obtain ⟨g, off, cap, cur, rfl, q⟩ := h
  have hnews : ∀ j u, [Value.int .i64 x][j]? = some u → W.cell? (ad.add j) = some u := by
    intro j u hj
    match j, hj with
    | 0, hj => simp at hj; subst hj; exact hx
  by_cases hroom : xs.length + 1 ≤ cap
  · have hcl : W.cell? ⟨g, off + xs.length, none⟩ = cur[off + xs.length]? := cell_of_row W g (off + xs.length) cur _ (0, 0) q.heap
    have hlt : off + xs.length < cur.size := by have := q.size; omega
    have hr := run_append_room_cells (P := Try.prog) W 22 ty 2 i0 Try.underlying22 hi g off xs.length cap ad 1 c [.int .i64 x] (by rw [hz1]; rfl) hnews (by simp [Value.oneCell']) hroom
      (fun j hj => by
        have : j = 0 := by simpa using hj
        subst this
        rw [hz1, Nat.mul_one, Nat.add_zero, hcl, Array.getElem?_eq_getElem hlt]; rfl)
      (fun j hj => by simp [World.frozen?, q.heap])
    rw [hz1, Nat.mul_one] at hr
    have hh : (W.setCell ⟨g, off + xs.length, none⟩ (.int .i64 x)).heap[g]? = some (.cells (cur.setIfInBounds (off + xs.length) (.int .i64 x)) 2 (0, 0)) := by
      simp only [World.setCell, Array.getElem?_modify, q.heap]
      simp
    refine ⟨_, _, hr, ⟨g, off, cap, cur.setIfInBounds (off + xs.length) (.int .i64 x), by simp, q.base, hh, by simp; omega, by simp; exact q.size, fun i hi => ?_⟩, grownBy_set W ⟨g, off + xs.length, none⟩ _, .inl rfl⟩
    by_cases e : i = xs.length
    · subst e
      simp [hlt]
    · have hil : i < xs.length := by simp at hi; omega
      rw [Array.getElem?_setIfInBounds_ne (by omega), q.at_ i hil, List.getElem?_append_left hil]
  · have hcap : cap = xs.length := by have := q.len; omega
    obtain ⟨v', W', hr, hown, hg⟩ := run_append_arg_grows (P := Try.prog) W 22 ty 2 i0 (.int .i64 0) 1 8 Try.underlying22 hi hz0 hz1 hz2 rfl (by decide) ⟨g, off, none⟩ xs.length cap (xs.map (Value.int .i64)) (by simp)
      (fun j u hj => by
        have hjl : j < xs.length := by have := (List.getElem?_eq_some_iff.1 hj).1; simpa using this
        have hadd : (⟨g, off, none⟩ : Addr).add j = ⟨g, off + j, none⟩ := by unfold Addr.add; split <;> simp_all
        rw [hadd, q.cell hjl]
        rw [List.getElem?_map, List.getElem?_eq_getElem hjl] at hj
        rw [List.getElem?_eq_getElem hjl]
        simpa using hj)
      ad 1 c [.int .i64 x] (by simp) hnews (by omega) (by unfold maxLen; omega) (by omega)
    rcases hown.2 with ⟨_, h0⟩ | ⟨g', cap', cur', rfl, hg', hh', h1, _, h3, h4⟩
    · omega
    · refine ⟨_, W', hr, ⟨g', 0, cap', cur', by simp, Nat.le_trans hb hg', hh', by simpa using h1, by omega, fun i hi => ?_⟩, ⟨hg.os, hg.tape, hg.output, hg.size, fun k hk _ => hg.block k hk (by simp)⟩, .inr ⟨g', rfl, hg'⟩⟩
      · have h5 : (cur'.toList.take ((xs.length + 1) * 1))[i]? = (xs.map (Value.int .i64) ++ [.int .i64 x])[i]? := by rw [h4]
        have hi' : i < xs.length + 1 := by simpa using hi
        rw [List.getElem?_take, if_pos (by omega)] at h5
        rw [Nat.zero_add, ← Array.getElem?_toList, h5]
        by_cases e : i = xs.length
        · subst e; simp
        · have hil : i < xs.length := by omega
          rw [List.getElem?_append_left (by simpa using hil), List.getElem?_append_left hil, List.getElem?_map, List.getElem?_eq_getElem hil]
          rfl

/-- 'queue[0]' and 'queue[1:]'. -/
theorem OwnsQ.pop {W : World} {base : Nat} {v : Value} {x : Int} {xs : List Int} (h : OwnsQ W base v (x :: xs)) :
    ∃ g off cap, v = .slice (some ⟨g, off, none⟩) (xs.length + 1) cap ∧ xs.length + 1 ≤ cap ∧ W.cell? ⟨g, off, none⟩ = some (.int .i64 x) ∧
      (cap ≠ 1 → OwnsQ W base (.slice (some ⟨g, off + 1, none⟩) xs.length (cap - 1)) xs) ∧ (cap = 1 → OwnsQ W base (.slice (some ⟨g, off, none⟩) xs.length 0) xs) := by
  obtain ⟨g, off, cap, cur, rfl, q⟩ := h
  have hl := q.len
  have hs := q.size
  simp only [List.length_cons] at hl
  refine ⟨g, off, cap, by simp, hl, by have := q.cell (i := 0) (by simp); simpa using this, fun hc => ⟨g, off + 1, cap - 1, cur, rfl, q.base, q.heap, by omega, by omega, fun i hi => ?_⟩, fun hc => ⟨g, off, 0, cur, rfl, q.base, q.heap, by omega, by omega, fun i hi => absurd hi (by omega)⟩⟩
  have := q.at_ (i + 1) (by simp; omega)
  rw [show off + 1 + i = off + (i + 1) by omega, this]
  simp
/-- '[]int64{a}'. -/
theorem OwnsQ.one {W : World} {base : Nat} (hb : base ≤ W.heap.size) (a : Int) : OwnsQ (W.alloc (.cells #[.int .i64 a] 2)) base (.slice (some ⟨W.heap.size, 0, none⟩) 1 1) [a] :=
  ⟨W.heap.size, 0, 1, #[.int .i64 a], rfl, hb, heap_alloc_new W _, by simp, by simp, fun i hi => by
    have : i = 0 := by simpa using hi
    subst this
    rfl⟩

end Go.Proofs.Ytgefpllmelpahaa

/-! reachedFrom: the program's search. -/
namespace Go.Proofs.Ytgefpllmelpahaa
open Go.RowKit Go.Shelf Go.ChangeMaps

attribute [local go_sem] Oper.semAt_some

/-- 'append(queue, x)', at the operation. -/
theorem wpListIn_append_q {F : Fence} {nF : Nat} {w : World} {ops : Array Oper} {rest : List Oper} {o : Oper} {a : Act} {Q : Exit → Act → World → Prop} (hgd : o.guard = none) {s y : Operand}
    (ho : o.op = .call { callee := .builtin .append, args := #[s, y], argTypes := #[22, 22] })
    {base : Nat} {v : Value} {xs : List Int} {x : Int} (hq : OwnsQ w base v xs) (hb : base ≤ w.heap.size) (hl : xs.length ≤ 1048576)
    (hs : a.eval s = v) (hy : a.eval y = .slice (some ⟨w.heap.size, 0, none⟩) 1 1)
    (hK : ∀ v' w', OwnsQ w' base v' (xs ++ [x]) → w.grownBy w' v.ownBlock → (v'.ownBlock = v.ownBlock ∨ ∃ k, v'.ownBlock = some k ∧ w.heap.size < k) → wpListIn F nF Try.prog ops Q rest (a.put o.dst v') w') :
    wpListIn F nF Try.prog ops Q (o :: rest) a (w.alloc (.cells #[.int .i64 x] 2)) := by
  refine wpListIn_plain hgd fun K hK' => ?_
  have hq1 : OwnsQ (w.alloc (.cells #[.int .i64 x] 2)) base v xs := hq.kept (World.grownBy_alloc w _ none) (by obtain ⟨g, e, _⟩ := hq.lt; rw [e]; simp)
  obtain ⟨v', w', hr, h1, h2, h3⟩ := hq1.push (by simp; omega) hl o.type ⟨w.heap.size, 0, none⟩ 1 x (by simp [go_sem, Addr.add])
  unfold Oper.wpIn
  refine ⟨by simp [Oper.about, ho, resolve, Target.leads, Sem.run_pure], ?_⟩
  rw [Oper.semAt_plain F _ _ (by rw [ho]; intro c hc'; cases hc')]
  simp [execOp, ho, resolve, invoke, builtin, hs, hy, hr, Result.andThen]
  refine hK' _ _ (hK v' w' h1 ((World.grownBy_alloc w _ _).trans h2) ?_)
  rcases h3 with h | ⟨k, h, hk⟩
  · exact .inl h
  · exact .inr ⟨k, h, by simp at hk; omega⟩

/-- What the search keeps of the world. -/
structure RfW (w W : World) (met qs : List Int) (v : Value) (Ds : List Nat) : Prop where
  below : Below w.heap.size w W
  own : W.ownsMap Try.prog 2 (plainElem (H := Unit) Try.prog 4) w.heap.size met.length (knownD met)
  b5 : W.heap[w.heap.size + 1]? = some (.cells #[.map (some w.heap.size)] 93 (0, 0))
  b6 : W.heap[w.heap.size + 3]? = some (.cells #[v] 22 (0, 0))
  q : OwnsQ W w.heap.size v qs
  ne : ∀ g, v.ownBlock = some g → g = w.heap.size + 2 ∨ w.heap.size + 4 ≤ g
  off : ∀ D ∈ Ds, v.ownBlock ≠ some D
  nodup : Ds.Nodup
  marks : ∀ D ∈ Ds, w.heap.size + 4 ≤ D ∧ W.heap[D]? = some (.deferred (some []))
theorem RfW.size {w W : World} {met qs : List Int} {v : Value} {Ds : List Nat} (h : RfW w W met qs v Ds) : w.heap.size + 4 ≤ W.heap.size := by
  have := lt_of_get h.b6; omega
/-- A turn of what lies beyond. -/
theorem RfW.turn {w W W' : World} {met qs : List Int} {v : Value} {Ds : List Nat} (h : RfW w W met qs v Ds) {row : Option Nat} (hg : W.grownBy W' row) (hr : ∀ r, row = some r → w.heap.size + 4 ≤ r ∧ r ∉ Ds ∧ v.ownBlock ≠ some r) : RfW w W' met qs v Ds where
  below := h.below.grown hg (by have := h.size; omega) (fun k e => by have := (hr k e).1; omega)
  own := h.own.kept hg (fun e => by have := (hr _ e.symm).1; omega)
  b5 := (hg.block _ (lt_of_get h.b5) (fun e => by have := (hr _ e.symm).1; omega)).trans h.b5
  b6 := (hg.block _ (lt_of_get h.b6) (fun e => by have := (hr _ e.symm).1; omega)).trans h.b6
  q := h.q.kept hg (fun e => by
    obtain ⟨g, e1, _⟩ := h.q.lt
    rw [e1] at e
    exact (hr g e.symm).2.2 e1)
  ne := h.ne
  off := h.off
  nodup := h.nodup
  marks := fun D hD => ⟨(h.marks D hD).1, (hg.block _ (lt_of_get (h.marks D hD).2) (fun e => (hr _ e.symm).2.1 hD)).trans (h.marks D hD).2⟩
/-- A number is met. -/
theorem RfW.meet {w W W' : World} {met qs : List Int} {v : Value} {Ds : List Nat} (h : RfW w W met qs v Ds) {y : Int} (hown : W'.ownsMap Try.prog 2 (plainElem (H := Unit) Try.prog 4) w.heap.size (met.length + 1) ((knownD met).put (.int .i64 y) (.lit (.bool true)))) (hg : W.grownBy W' (some w.heap.size)) :
    RfW w W' (met ++ [y]) qs v Ds where
  below := h.below.grown hg (by have := h.size; omega) (fun k e => by cases e; exact Nat.le_refl _)
  own := by rw [knownD_snoc]; simpa using hown
  b5 := (hg.block _ (lt_of_get h.b5) (fun e => by injection e with e; omega)).trans h.b5
  b6 := (hg.block _ (lt_of_get h.b6) (fun e => by injection e with e; omega)).trans h.b6
  q := h.q.kept hg (fun e => by have := h.ne _ e; omega)
  ne := h.ne
  off := h.off
  nodup := h.nodup
  marks := fun D hD => ⟨(h.marks D hD).1, (hg.block _ (lt_of_get (h.marks D hD).2) (fun e => by injection e with e; have := (h.marks D hD).1; omega)).trans (h.marks D hD).2⟩
/-- The queue is another one, and its variable holds it. -/
theorem RfW.queue {w W W' : World} {met qs qs' : List Int} {v v' : Value} {Ds : List Nat} (h : RfW w W met qs v Ds) (hq : OwnsQ W' w.heap.size v' qs') (hg : W.grownBy W' v.ownBlock) (hat : v'.ownBlock = v.ownBlock ∨ ∃ k, v'.ownBlock = some k ∧ W.heap.size ≤ k) :
    RfW w (W'.setCell ⟨w.heap.size + 3, 0, none⟩ v') met qs' v' Ds := by
  obtain ⟨g, eg, hg1, hg2⟩ := h.q.lt
  have hgn := h.ne g eg
  have hsz := h.size
  rw [eg] at hg hat
  have hne' : ∀ k, v'.ownBlock = some k → k = w.heap.size + 2 ∨ w.heap.size + 4 ≤ k := fun k hk => by
    rcases hat with e | ⟨j, e, hj⟩
    · rw [e] at hk; injection hk with hk; omega
    · rw [e] at hk; injection hk with hk; omega
  have b6' : W'.heap[w.heap.size + 3]? = some (.cells #[v] 22 (0, 0)) := (hg.block _ (lt_of_get h.b6) (fun e => by injection e with e; omega)).trans h.b6
  have hgs := grownBy_set W' ⟨w.heap.size + 3, 0, none⟩ v'
  refine ⟨?_, ?_, ?_, ?_, hq.kept hgs (fun e => by have := hne' _ e; simp only at this; omega), hne', fun D hD e => ?_, h.nodup, fun D hD => ⟨(h.marks D hD).1, ?_⟩⟩
  · have hb := h.below.grown hg (by omega) (fun k e => by cases e; omega)
    exact hb.grown hgs (by have := hb.size; omega) (fun k e => by cases e; simp only; omega)
  · exact (h.own.kept hg (fun e => by injection e with e; omega)).kept hgs (fun e => by injection e with e; simp only at e; omega)
  · exact (Below.heap_setCell _ _ _ _ (by simp only; omega)).trans ((hg.block _ (lt_of_get h.b5) (fun e => by injection e with e; omega)).trans h.b5)
  · simp only [World.setCell, Array.getElem?_modify, b6']
    simp
  · rcases hat with e1 | ⟨j, e1, hj⟩
    · exact h.off D hD (by rw [eg, ← e1]; exact e)
    · rw [e1] at e
      injection e with e
      have := lt_of_get (h.marks D hD).2
      omega
  · exact (Below.heap_setCell _ _ _ _ (by have := (h.marks D hD).1; simp only; omega)).trans ((hg.block _ (lt_of_get (h.marks D hD).2) (fun e => by injection e with e; exact h.off D hD (by rw [eg, ← e]))).trans (h.marks D hD).2)

theorem RfW.mark {w W : World} {met qs : List Int} {v : Value} {Ds : List Nat} (h : RfW w W met qs v Ds) {D : Nat} (hD : W.heap[D]? = some (.deferred (some []))) (hb : w.heap.size + 4 ≤ D) (hn : D ∉ Ds) (hv : v.ownBlock ≠ some D) : RfW w W met qs v (D :: Ds) where
  below := h.below
  own := h.own
  b5 := h.b5
  b6 := h.b6
  q := h.q
  ne := h.ne
  off := fun E hE => by
    rcases List.mem_cons.1 hE with rfl | hE
    · exact hv
    · exact h.off E hE
  nodup := List.nodup_cons.2 ⟨hn, h.nodup⟩
  marks := fun E hE => by
    rcases List.mem_cons.1 hE with rfl | hE
    · exact ⟨hb, hD⟩
    · exact h.marks E hE
theorem rf_ownIn {w : World} {Ds : List Nat} {lo k : Nat} (g : List (Fin 64) → List Int × List Int) (hlo : w.heap.size + 4 ≤ lo) (hD : ∀ D ∈ Ds, D < lo) :
    OwnIn lo k (fun pre W' => ∃ v, RfW w W' (g pre).1 (g pre).2 v Ds ∧ ∀ j, v.ownBlock = some j → j < lo ∨ lo + k ≤ j) := by
  rintro s A B row ⟨v, h, hb⟩ hg hr
  refine ⟨v, h.turn hg (fun r e => ?_), hb⟩
  obtain ⟨h1, h2⟩ := hr r e
  refine ⟨by omega, fun hm => by have := hD r hm; omega, fun ev => ?_⟩
  rcases hb r ev with h3 | h3
  · omega
  · rcases h2 with h2 | ⟨o, ho, hc⟩
    · omega
    · obtain ⟨g', off', cap', cur', rfl, q'⟩ := h.q
      simp [Value.ownBlock] at ev
      subst ev
      rw [q'.heap] at ho
      injection ho with ho
      rw [← ho] at hc
      simp [Obj.isCells] at hc

theorem wpIn_loop_ghost {F : Fence} {nF : Nat} {P : Program} {Q : Exit → Act → World → Prop} {a : Act} {w : World} {c : Code} (I : Nat → Act → World → Prop) (n₀ : Nat) (h₀ : I n₀ a w)
    (round : ∀ g a w, I g a w → c.wpIn F nF P (Exit.then (fun a' w' => ∃ g', g' < g ∧ I g' a' w') Q) a w) : (Code.loop c).wpIn F nF P Q a w := by
  refine wpIn_loop (fun a w => ∃ g, I g a w) (fun a w => Go.leastOf (fun g => I g a w)) ⟨n₀, h₀⟩ ?_
  intro a w hI
  refine wpIn_mono (round _ a w (Go.leastOf_spec hI).1) ?_
  intro e a' w' hq
  cases e with
  | normal =>
    obtain ⟨g', hlt, hI'⟩ := hq
    exact show (∃ g, I g a' w') ∧ Go.leastOf (fun g => I g a' w') < Go.leastOf (fun g => I g a w) from ⟨⟨g', hI'⟩, Nat.lt_of_le_of_lt ((Go.leastOf_spec ⟨g', hI'⟩).2 g' hI') hlt⟩
  | exit id => exact hq
  | goto l => exact hq
  | ret => exact hq
  | panic ch => exact hq
  | outgrown => exact hq

theorem Bfs.range {ps : List Int} {n : Nat} (hh : HighsB ps n) {a x : Int} (h : x = a ∨ Way ps n a x) : x = a ∨ (0 ≤ x ∧ x < 64) := by
  rcases h with h | h
  · exact .inl h
  · cases h with
    | one h1 => exact .inr (next_range hh h1)
    | more _ h1 => exact .inr (next_range hh h1)

/-- The loop's state ahead of a round. -/
def RfInv (w : World) (M n : Nat) (ps : List Int) (a : Int) (g : Nat) (a' : Act) (W : World) : Prop :=
  ∃ (met qs : List Int) (v : Value) (Ds : List Nat) (us : Nat → Value), a' = { tmps := #[.map (some M), .int .i64 a, undef, undef, .map none, .pointer (some ⟨w.heap.size + 1, 0, none⟩), .pointer (some ⟨w.heap.size + 1 + 1 + 1, 0, none⟩), us 7, us 8, .map (some w.heap.size), .int .i64 a, .map (some w.heap.size), .int .i64 a, .slice (some ⟨w.heap.size + 1 + 1, 0, none⟩) 1 1, us 14, us 15, us 16, us 17, us 18, us 19, us 20, us 21, us 22, us 23, us 24, us 25, us 26, us 27, us 28, us 29, us 30, us 31, us 32, us 33, us 34, us 35, us 36], defers := marks Ds } ∧ Hid (RfW w W met qs v Ds) ∧ Hid (Bfs ps n a met qs) ∧ 2 * unmet met + qs.length ≤ g
theorem rfInv_of {w W : World} {M n : Nat} {ps : List Int} {a : Int} {g : Nat} {met qs : List Int} {v : Value} {Ds : List Nat} (tm : Array Value) (ds : List Deferred) (hds : ds = marks Ds) (h : tm = #[.map (some M), .int .i64 a, undef, undef, .map none, .pointer (some ⟨w.heap.size + 1, 0, none⟩), .pointer (some ⟨w.heap.size + 1 + 1 + 1, 0, none⟩), tm.getD 7 undef, tm.getD 8 undef, .map (some w.heap.size), .int .i64 a, .map (some w.heap.size), .int .i64 a, .slice (some ⟨w.heap.size + 1 + 1, 0, none⟩) 1 1, tm.getD 14 undef, tm.getD 15 undef, tm.getD 16 undef, tm.getD 17 undef, tm.getD 18 undef, tm.getD 19 undef, tm.getD 20 undef, tm.getD 21 undef, tm.getD 22 undef, tm.getD 23 undef, tm.getD 24 undef, tm.getD 25 undef, tm.getD 26 undef, tm.getD 27 undef, tm.getD 28 undef, tm.getD 29 undef, tm.getD 30 undef, tm.getD 31 undef, tm.getD 32 undef, tm.getD 33 undef, tm.getD 34 undef, tm.getD 35 undef, tm.getD 36 undef]) (HW : Hid (RfW w W met qs v Ds)) (HB : Hid (Bfs ps n a met qs)) (hg : 2 * unmet met + qs.length ≤ g) :
    RfInv w M n ps a g { tmps := tm, defers := ds } W :=
  ⟨met, qs, v, Ds, fun i => tm.getD i undef, by rw [hds]; exact congrArg (fun t => ({ tmps := t, defers := marks Ds } : Act)) h, HW, HB, hg⟩

set_option maxRecDepth 1000000 in
set_option maxHeartbeats 4000000 in
theorem reachedF_in (M N n : Nat) (ps : List Int) (a : Int) (w : World) (hown : w.ownsMap Try.prog 2 pairElem M N (lowsD ps n)) (hd : LowsApart ps n) (hh : HighsB ps n) (ha : (Lit.int .i64 a).wf = true) :
    CallsIn Fence.wide 10 Try.prog 141 #[.map (some M), .int .i64 a] w fun e w' => ∃ met, e = .returned (.map (some w.heap.size)) ∧ w'.ownsMap Try.prog 2 (plainElem (H := Unit) Try.prog 4) w.heap.size met.length (knownD met) ∧ Hid (Bfs ps n a met []) ∧ Below w.heap.size w w' := by
  have hmm := @run_makeMap Try.prog
  have hm0 := World.ownsMap_made w Try.prog 2 (plainElem (H := Unit) Try.prog 4)
  obtain ⟨wa, hrun1, hwa, ht⟩ := World.ownsMap.store hm0 (Maps.int_keyed Try.underlying2) Try.underlying93 (show 0 < maxLen by decide) (Maps.keyOf_int_mk Try.underlying2 ha) (plainElem_bool Try.underlying4 true)
  have hsa : wa.heap.size = w.heap.size + 1 := by
    obtain ⟨es, c, es', c', hb, rfl⟩ := ht
    simp [setBlock]
  have hga : (w.alloc (.map #[] 0)).grownBy wa (some w.heap.size) := by
    obtain ⟨es, c, es', c', hb, rfl⟩ := ht
    exact ⟨rfl, rfl, rfl, by simp [setBlock], fun i _ hi => heap_setBlock_other hb _ (fun e => hi (by rw [e]))⟩
  have hba : Below w.heap.size w wa := ((Below.refl _ w).alloc (Nat.le_refl _) _).grown hga (by simp) (fun r e => by cases e; exact Nat.le_refl _)
  have H0 : Hid (RfW w (((wa.alloc (.cells #[.map (some w.heap.size)] 93)).alloc (.cells #[.int .i64 a] 2)).alloc (.cells #[.slice (some ⟨w.heap.size + 2, 0, none⟩) 1 1] 22)) [a] [a] (.slice (some ⟨w.heap.size + 2, 0, none⟩) 1 1) []) := by
    have e3 := heap_alloc_new ((wa.alloc (.cells #[.map (some w.heap.size)] 93)).alloc (.cells #[.int .i64 a] 2)) (.cells #[.slice (some ⟨w.heap.size + 2, 0, none⟩) 1 1] 22)
    rw [World.size_alloc, World.size_alloc, hsa] at e3
    have e1 := heap_alloc_new wa (.cells #[.map (some w.heap.size)] 93)
    rw [hsa] at e1
    have q1 := OwnsQ.one (W := wa.alloc (.cells #[.map (some w.heap.size)] 93)) (base := w.heap.size) (by simp; omega) a
    rw [World.size_alloc, hsa] at q1
    exact hid {
      below := ((hba.alloc (by omega) _).alloc (by simp; omega) _).alloc (by simp; omega) _
      own := ((hwa.alloc _).alloc _).alloc _
      b5 := (Below.heap_alloc _ _ _ (by simp; omega)).trans ((Below.heap_alloc _ _ _ (by simp; omega)).trans e1)
      b6 := e3
      q := q1.kept (World.grownBy_alloc _ _ none) (by simp [Value.ownBlock])
      ne := fun g e => by simp [Value.ownBlock] at e; exact .inl e.symm
      off := by simp
      nodup := by simp
      marks := by simp }
  clear hm0 hwa ht hga hba
  have HL : Hid (∀ W, Below w.heap.size w W → W.ownsMap Try.prog 2 pairElem M N (lowsD ps n)) := hid (fun W hW => by
    have hlt := hown.lt
    obtain ⟨es, clock, hb, F, hs, hD⟩ := hown
    exact ⟨es, clock, (hW.block M hlt).trans hb, F, hs, hD⟩)
  have HH := hid hh
  have HD := hid hd
  have Ha := hid ha
  clear hown hh hd
  refine callsIn_of_wp_marks Try.func141 rfl trivial ?_ rfl
  simp only [Try.ntmps141, List.size_toArray, List.length_cons, List.length_nil, Nat.reduceAdd, Nat.reduceSub, Array.replicate_succ, Array.replicate_zero, List.push_toArray, List.append_toArray, List.nil_append, List.cons_append]
  gi_wp2
  clear hmm hrun1
  refine wpIn_loop_ghost (RfInv w M n ps a) 129 ?start ?round
  case start => exact rfInv_of (met := [a]) (qs := [a]) (Ds := []) _ _ rfl rfl H0 (hid (Bfs.begin ps n a)) (Bfs.begin ps n a).few
  case round =>
    rintro gg a' Wk ⟨met, qs, v, Ds, us, rfl, HW, HB, hgg⟩
    clear H0
    have hsz := HW.out.size
    cases qs with
    | nil =>
      obtain ⟨g, off, cap, cur, rfl, hq⟩ := HW.out.q
      obtain ⟨c6, _⟩ := box_cell HW.out.b6
      obtain ⟨c5, _⟩ := box_cell HW.out.b5
      have e6 : w.heap.size + 1 + 1 + 1 = w.heap.size + 3 := rfl
      clear hq
      gi_wp2
      refine leaves_marks (by simp) Ds _ HW.out.nodup (fun D hD => (HW.out.marks D hD).2) (fun w' hw' => ?_)
      have hno : w.heap.size ∉ Ds := fun hm => by have := (HW.out.marks _ hm).1; omega
      refine ⟨_, results_tmp rfl _ _ _, rfl, met, ?_, HB, HW.out.below.trans (hw'.below (fun D hD => by have := (HW.out.marks D hD).1; omega))⟩
      obtain ⟨es, clock, hb, F, hs, hD⟩ := HW.out.own
      exact ⟨es, clock, (hw'.block _ hno).trans hb, F, hs, hD⟩
    | cons x qs =>
      obtain ⟨g, off, cap, rfl, hcap, hcx, hp1, hp2⟩ := HW.out.q.pop
      obtain ⟨c6, f6⟩ := box_cell HW.out.b6
      obtain ⟨m, hm⟩ : ∃ m, m = qs.length := ⟨_, rfl⟩
      rw [← hm] at hcap hp1 hp2 c6
      have Hm := hid hm
      have hl0 : (0 : Int) < (m : Int) + 1 := by omega
      have hl1 : (1 : Int) ≤ (m : Int) + 1 := by omega
      have HP1 := hid hp1
      have HP2 := hid hp2
      have Hcap := hid hcap
      have e6 : w.heap.size + 1 + 1 + 1 = w.heap.size + 3 := rfl
      have hxw : (Lit.int .i64 x).wf = true := by
        rcases Bfs.range HH.out (HB.out.way x (HB.out.sub x (by simp))) with h | h
        · rw [h]; exact Ha.out
        · exact WalkArith.wf_i64 (by omega)
      have Hxw := hid hxw
      clear hm hp1 hp2 hxw
      gi_wp2_with (first
        | (refine ⟨trivial, ?_⟩; gi_at_call 142; refine (stepsFrom_in _ M x _).mono ?_; rintro e w' ⟨rfl, rfl⟩))
      case inl =>
        obtain ⟨v1, hv1⟩ : ∃ v1, v1 = Value.slice (some ⟨g, off, none⟩) m 0 := ⟨_, rfl⟩
        have HQ1 : Hid (OwnsQ Wk w.heap.size v1 qs) := hid (by rw [hv1]; exact HP2.out (by first | assumption | omega))
        have hvb : v1.ownBlock = some g := by rw [hv1]; rfl
        rw [← hv1]
        have hR1 : RfW w (Wk.setCell ⟨w.heap.size + 3, 0, none⟩ v1) met qs v1 Ds := HW.out.queue HQ1.out ⟨rfl, rfl, rfl, Nat.le_refl _, fun _ _ _ => rfl⟩ (.inl hvb)
        have hgk : g < Wk.heap.size := by obtain ⟨g', e1, _, h2⟩ := HW.out.q.lt; simp [Value.ownBlock] at e1; omega
        have hDs : ∀ D ∈ Ds, D < Wk.heap.size := fun D hD => lt_of_get (HW.out.marks D hD).2
        obtain ⟨W1, hW1⟩ : ∃ W1, W1 = Wk.setCell ⟨w.heap.size + 3, 0, none⟩ v1 := ⟨_, rfl⟩
        have hs1 : W1.heap.size = Wk.heap.size := by rw [hW1]; simp [World.setCell]
        rw [← hW1] at hR1 ⊢
        obtain ⟨W2, hW2⟩ : ∃ W2, W2 = (W1.alloc (.cells #[.map (some M)] 151)).alloc (.cells #[.int .i64 x] 2) := ⟨_, rfl⟩
        have hbm : W2.heap[Wk.heap.size]? = some (.cells #[.map (some M)] 151 (0, 0)) := by rw [hW2, ← hs1]; exact (Below.heap_alloc _ _ _ (by simp)).trans (heap_alloc_new _ _)
        have hbx : W2.heap[Wk.heap.size + 1]? = some (.cells #[.int .i64 x] 2 (0, 0)) := by rw [hW2, ← hs1]; have := heap_alloc_new (W1.alloc (.cells #[.map (some M)] 151)) (.cells #[.int .i64 x] 2); rwa [World.size_alloc] at this
        have hs2 : W2.heap.size = Wk.heap.size + 2 := by rw [hW2]; simp [hs1]
        have hR2 : RfW w W2 met qs v1 Ds := by
          rw [hW2]
          exact (hR1.turn (World.grownBy_alloc W1 _ none) (fun r e => by cases e)).turn (World.grownBy_alloc _ _ none) (fun r e => by cases e)
        have HLo := HL.out W2 hR2.below
        rw [← hW2]
        clear hW2 hW1 hR1 hcx c6 f6 hv1 HP1 HP2
        have HR2 := hid hR2
        have HDs := hid hDs
        clear hR2 hDs
        refine wpIn_rangeFunc_P rfl (by decide) (gf := 211) (lb := #[.pointer (some ⟨Wk.heap.size, 0, none⟩), .pointer (some ⟨Wk.heap.size + 1, 0, none⟩)]) rfl trivial (enters_of Try.func211 (by kernel_rfl) rfl)
          (steps_P 9 (by decide) Wk.heap.size (Wk.heap.size + 1) M N n ps x W2 hbm hbx HLo HD.out HH.out Hxw.out) (by simp) (Below.refl _ _) (fun _ => rfl)
          (fun pre W' => ∃ v, RfW w W' (visits (met, qs) pre).1 (visits (met, qs) pre).2 v Ds ∧ ∀ j, v.ownBlock = some j → j < W2.heap.size ∨ W2.heap.size + (2 + 5) ≤ j)
          (fun _ _ _ => False)
          (rf_ownIn (visits (met, qs)) (by omega) (fun D hD => by have := HDs.out D hD; omega))
          (fun _ => ownIn_pure _ _ _)
          ⟨v1, HR2.out, fun j e => by rw [hvb] at e; injection e with e; omega⟩
          (fun y => { tmps := #[.map (some M), .int .i64 a, undef, undef, .map none, .pointer (some ⟨w.heap.size + 1, 0, none⟩), .pointer (some ⟨w.heap.size + 3, 0, none⟩), .int .i64 x, .int .i64 (y.val : Int), .map (some w.heap.size), .int .i64 a, .map (some w.heap.size), .int .i64 a, .slice (some ⟨w.heap.size + 1 + 1, 0, none⟩) 1 1, .slice (some ⟨g, off, none⟩) (m + 1) 1, .int .i64 ((m : Int) + 1), .bool true, .slice (some ⟨g, off, none⟩) (m + 1) 1, .pointer (some ⟨g, off, none⟩), .int .i64 x, .slice (some ⟨g, off, none⟩) (m + 1) 1, v1, .map (some M), .int .i64 x, .func (.func 211) #[] #[.pointer (some ⟨Wk.heap.size, 0, none⟩), .pointer (some ⟨Wk.heap.size + 1, 0, none⟩)], .int .i64 (y.val : Int), us 26, us 27, us 28, us 29, us 30, us 31, us 32, us 33, us 34, us 35, us 36], defers := [] }) ?assign ?body ?done ?stop
        case assign =>
          intro l y W3 K hK
          gi_wp2
          exact hK
        case body =>
          rintro l pre y W3 hpre hsz3 ⟨v, hR, hb⟩
          obtain ⟨s, hs⟩ : ∃ s, s = visits (met, qs) pre := ⟨_, rfl⟩
          have Hsn : Hid (visits (met, qs) (pre ++ [y]) = visit s (y.val : Int)) := hid (by rw [visits_snoc, ← hs])
          rw [← hs] at hR
          have hyw : (Lit.int .i64 (y.val : Int)).wf = true := WalkArith.wf_i64 (by have := y.isLt; omega)
          obtain ⟨c5, _⟩ := box_cell hR.b5
          obtain ⟨c6, f6⟩ := box_cell hR.b6
          have hlk := lookup_known hR.own hyw
          have hsp := visits_spec pre met qs (fun z hz => HB.out.sub z (List.mem_cons_of_mem _ hz))
          rw [← hs] at hsp
          have hlen1 : s.1.length ≤ 65 := by have := hsp.2.2.2.2.2; have := HB.out.small; omega
          have hlen2 : s.2.length ≤ 129 := by have := hsp.2.2.2.2.1; have := HB.out.few; simp at this; omega
          clear hs hsp
          have HR := hid hR
          have Hb := hid hb
          by_cases hy : (y.val : Int) ∈ s.1
          · rw [decide_eq_true hy] at hlk
            have Hv : Hid (visits (met, qs) (pre ++ [y]) = s) := hid (by rw [Hsn.out]; unfold visit; rw [if_pos hy])
            clear hy hR hb hyw
            gi_wp2
            exact ⟨KeepP.refl _ _ _ _, v, by rw [Hv.out]; exact HR.out, Hb.out⟩
          · rw [decide_eq_false hy] at hlk
            have Hv : Hid (visits (met, qs) (pre ++ [y]) = (s.1 ++ [(y.val : Int)], s.2 ++ [(y.val : Int)])) := hid (by rw [Hsn.out]; unfold visit; rw [if_neg hy])
            obtain ⟨w4, hrun4, hown4, hg4⟩ := World.ownsMap.update hR.own (Maps.int_keyed Try.underlying2) Try.underlying93 (show s.1.length < maxLen by unfold maxLen; omega) (Maps.keyOf_int_mk Try.underlying2 hyw) (plainElem_bool Try.underlying4 true)
            have HR4 := hid (hR.meet hown4 hg4)
            obtain ⟨c64, f64⟩ := box_cell HR4.out.b6
            have Hg4 := hid hg4
            have hsz4 := HR4.out.size
            clear hy hR hb hyw hown4 hg4
            gi_wp2_with (gi_at_builtin; refine wpListIn_append_q rfl rfl HR4.out.q (by omega) (by omega) rfl rfl ?_; intro v' w5 hq5 hg5 hat5; obtain ⟨g5, o5, p5, hv5⟩ := hq5.form; subst hv5; have b65 : w5.heap[w.heap.size + 3]? = some (.cells #[v] 22 (0, 0)) := (hg5.block _ (lt_of_get HR4.out.b6) (fun e => by have := HR4.out.ne _ e.symm; omega)).trans HR4.out.b6; obtain ⟨c65, f65⟩ := box_cell b65; have Hq5 := hid hq5; have Hg5 := hid hg5; have Hat5 := hid hat5; clear hq5 hg5 hat5 b65)
            have hs34 : W3.heap.size ≤ w4.heap.size := Hg4.out.size
            have hs45 : w4.heap.size ≤ w5.heap.size := Hg5.out.size
            have el : (s.2 ++ [(y.val : Int)]).length = s.2.length + 1 := by simp
            rw [el] at Hq5 Hat5
            refine ⟨⟨by simp [World.setCell]; omega, fun r hr => ?_⟩, .slice (some ⟨g5, o5, none⟩) (s.2.length + 1) p5, ?_, ?_⟩
            · have hrr : W2.heap.size ≤ r ∧ r < W2.heap.size + (2 + 5) := by
                rcases hr with h | h
                · simp at h
                · exact h
              refine (Below.heap_setCell _ _ _ _ (by simp only; omega)).trans ((Hg5.out.block r (by omega) (fun e => ?_)).trans (Hg4.out.block r (by omega) (fun e => by injection e with e; omega)))
              rcases Hb.out r e.symm with h | h <;> omega
            · rw [Hv.out]
              refine HR4.out.queue Hq5.out Hg5.out ?_
              rcases Hat5.out with h | ⟨j, h, hj⟩
              · exact .inl h
              · exact .inr ⟨j, h, by omega⟩
            · intro j hj
              rcases Hat5.out with h | ⟨i, h, hi⟩
              · exact Hb.out j (by rw [← h]; exact hj)
              · rw [h] at hj
                injection hj with hj
                right
                omega
        case done =>
          rintro W3 ⟨v, hR, hb⟩ hD
          have hRm := hR.mark hD (by omega) (fun hm => by have := HDs.out _ hm; omega) (fun e => by rcases hb _ e with h | h <;> omega)
          have HRm := hid hRm
          have HB' := hid (HB.out.round HH.out)
          have hls := HB.out.less
          clear hR hb hD hRm
          gi_wp2
          exact ⟨_, Nat.lt_of_lt_of_le hls hgg, rfInv_of (Ds := W2.heap.size :: Ds) _ _ rfl rfl HRm HB' (Nat.le_refl _)⟩
        case stop =>
          rintro c pre W3 hpre hF hD
          exact hF.elim
      case inr =>
        obtain ⟨v1, hv1⟩ : ∃ v1, v1 = Value.slice (some ⟨g, off + 1, none⟩) m (cap - 1) := ⟨_, rfl⟩
        have HQ1 : Hid (OwnsQ Wk w.heap.size v1 qs) := hid (by rw [hv1]; exact HP1.out (by omega))
        have hvb : v1.ownBlock = some g := by rw [hv1]; rfl
        rw [← hv1]
        have hR1 : RfW w (Wk.setCell ⟨w.heap.size + 3, 0, none⟩ v1) met qs v1 Ds := HW.out.queue HQ1.out ⟨rfl, rfl, rfl, Nat.le_refl _, fun _ _ _ => rfl⟩ (.inl hvb)
        have hgk : g < Wk.heap.size := by obtain ⟨g', e1, _, h2⟩ := HW.out.q.lt; simp [Value.ownBlock] at e1; omega
        have hDs : ∀ D ∈ Ds, D < Wk.heap.size := fun D hD => lt_of_get (HW.out.marks D hD).2
        obtain ⟨W1, hW1⟩ : ∃ W1, W1 = Wk.setCell ⟨w.heap.size + 3, 0, none⟩ v1 := ⟨_, rfl⟩
        have hs1 : W1.heap.size = Wk.heap.size := by rw [hW1]; simp [World.setCell]
        rw [← hW1] at hR1 ⊢
        obtain ⟨W2, hW2⟩ : ∃ W2, W2 = (W1.alloc (.cells #[.map (some M)] 151)).alloc (.cells #[.int .i64 x] 2) := ⟨_, rfl⟩
        have hbm : W2.heap[Wk.heap.size]? = some (.cells #[.map (some M)] 151 (0, 0)) := by rw [hW2, ← hs1]; exact (Below.heap_alloc _ _ _ (by simp)).trans (heap_alloc_new _ _)
        have hbx : W2.heap[Wk.heap.size + 1]? = some (.cells #[.int .i64 x] 2 (0, 0)) := by rw [hW2, ← hs1]; have := heap_alloc_new (W1.alloc (.cells #[.map (some M)] 151)) (.cells #[.int .i64 x] 2); rwa [World.size_alloc] at this
        have hs2 : W2.heap.size = Wk.heap.size + 2 := by rw [hW2]; simp [hs1]
        have hR2 : RfW w W2 met qs v1 Ds := by
          rw [hW2]
          exact (hR1.turn (World.grownBy_alloc W1 _ none) (fun r e => by cases e)).turn (World.grownBy_alloc _ _ none) (fun r e => by cases e)
        have HLo := HL.out W2 hR2.below
        rw [← hW2]
        clear hW2 hW1 hR1 hcx c6 f6 hv1 HP1 HP2
        have HR2 := hid hR2
        have HDs := hid hDs
        clear hR2 hDs
        refine wpIn_rangeFunc_P rfl (by decide) (gf := 211) (lb := #[.pointer (some ⟨Wk.heap.size, 0, none⟩), .pointer (some ⟨Wk.heap.size + 1, 0, none⟩)]) rfl trivial (enters_of Try.func211 (by kernel_rfl) rfl)
          (steps_P 9 (by decide) Wk.heap.size (Wk.heap.size + 1) M N n ps x W2 hbm hbx HLo HD.out HH.out Hxw.out) (by simp) (Below.refl _ _) (fun _ => rfl)
          (fun pre W' => ∃ v, RfW w W' (visits (met, qs) pre).1 (visits (met, qs) pre).2 v Ds ∧ ∀ j, v.ownBlock = some j → j < W2.heap.size ∨ W2.heap.size + (2 + 5) ≤ j)
          (fun _ _ _ => False)
          (rf_ownIn (visits (met, qs)) (by omega) (fun D hD => by have := HDs.out D hD; omega))
          (fun _ => ownIn_pure _ _ _)
          ⟨v1, HR2.out, fun j e => by rw [hvb] at e; injection e with e; omega⟩
          (fun y => { tmps := #[.map (some M), .int .i64 a, undef, undef, .map none, .pointer (some ⟨w.heap.size + 1, 0, none⟩), .pointer (some ⟨w.heap.size + 3, 0, none⟩), .int .i64 x, .int .i64 (y.val : Int), .map (some w.heap.size), .int .i64 a, .map (some w.heap.size), .int .i64 a, .slice (some ⟨w.heap.size + 1 + 1, 0, none⟩) 1 1, .slice (some ⟨g, off, none⟩) (m + 1) cap, .int .i64 ((m : Int) + 1), .bool true, .slice (some ⟨g, off, none⟩) (m + 1) cap, .pointer (some ⟨g, off, none⟩), .int .i64 x, .slice (some ⟨g, off, none⟩) (m + 1) cap, v1, .map (some M), .int .i64 x, .func (.func 211) #[] #[.pointer (some ⟨Wk.heap.size, 0, none⟩), .pointer (some ⟨Wk.heap.size + 1, 0, none⟩)], .int .i64 (y.val : Int), us 26, us 27, us 28, us 29, us 30, us 31, us 32, us 33, us 34, us 35, us 36], defers := [] }) ?assign ?body ?done ?stop
        case assign =>
          intro l y W3 K hK
          gi_wp2
          exact hK
        case body =>
          rintro l pre y W3 hpre hsz3 ⟨v, hR, hb⟩
          obtain ⟨s, hs⟩ : ∃ s, s = visits (met, qs) pre := ⟨_, rfl⟩
          have Hsn : Hid (visits (met, qs) (pre ++ [y]) = visit s (y.val : Int)) := hid (by rw [visits_snoc, ← hs])
          rw [← hs] at hR
          have hyw : (Lit.int .i64 (y.val : Int)).wf = true := WalkArith.wf_i64 (by have := y.isLt; omega)
          obtain ⟨c5, _⟩ := box_cell hR.b5
          obtain ⟨c6, f6⟩ := box_cell hR.b6
          have hlk := lookup_known hR.own hyw
          have hsp := visits_spec pre met qs (fun z hz => HB.out.sub z (List.mem_cons_of_mem _ hz))
          rw [← hs] at hsp
          have hlen1 : s.1.length ≤ 65 := by have := hsp.2.2.2.2.2; have := HB.out.small; omega
          have hlen2 : s.2.length ≤ 129 := by have := hsp.2.2.2.2.1; have := HB.out.few; simp at this; omega
          clear hs hsp
          have HR := hid hR
          have Hb := hid hb
          by_cases hy : (y.val : Int) ∈ s.1
          · rw [decide_eq_true hy] at hlk
            have Hv : Hid (visits (met, qs) (pre ++ [y]) = s) := hid (by rw [Hsn.out]; unfold visit; rw [if_pos hy])
            clear hy hR hb hyw
            gi_wp2
            exact ⟨KeepP.refl _ _ _ _, v, by rw [Hv.out]; exact HR.out, Hb.out⟩
          · rw [decide_eq_false hy] at hlk
            have Hv : Hid (visits (met, qs) (pre ++ [y]) = (s.1 ++ [(y.val : Int)], s.2 ++ [(y.val : Int)])) := hid (by rw [Hsn.out]; unfold visit; rw [if_neg hy])
            obtain ⟨w4, hrun4, hown4, hg4⟩ := World.ownsMap.update hR.own (Maps.int_keyed Try.underlying2) Try.underlying93 (show s.1.length < maxLen by unfold maxLen; omega) (Maps.keyOf_int_mk Try.underlying2 hyw) (plainElem_bool Try.underlying4 true)
            have HR4 := hid (hR.meet hown4 hg4)
            obtain ⟨c64, f64⟩ := box_cell HR4.out.b6
            have Hg4 := hid hg4
            have hsz4 := HR4.out.size
            clear hy hR hb hyw hown4 hg4
            gi_wp2_with (gi_at_builtin; refine wpListIn_append_q rfl rfl HR4.out.q (by omega) (by omega) rfl rfl ?_; intro v' w5 hq5 hg5 hat5; obtain ⟨g5, o5, p5, hv5⟩ := hq5.form; subst hv5; have b65 : w5.heap[w.heap.size + 3]? = some (.cells #[v] 22 (0, 0)) := (hg5.block _ (lt_of_get HR4.out.b6) (fun e => by have := HR4.out.ne _ e.symm; omega)).trans HR4.out.b6; obtain ⟨c65, f65⟩ := box_cell b65; have Hq5 := hid hq5; have Hg5 := hid hg5; have Hat5 := hid hat5; clear hq5 hg5 hat5 b65)
            have hs34 : W3.heap.size ≤ w4.heap.size := Hg4.out.size
            have hs45 : w4.heap.size ≤ w5.heap.size := Hg5.out.size
            have el : (s.2 ++ [(y.val : Int)]).length = s.2.length + 1 := by simp
            rw [el] at Hq5 Hat5
            refine ⟨⟨by simp [World.setCell]; omega, fun r hr => ?_⟩, .slice (some ⟨g5, o5, none⟩) (s.2.length + 1) p5, ?_, ?_⟩
            · have hrr : W2.heap.size ≤ r ∧ r < W2.heap.size + (2 + 5) := by
                rcases hr with h | h
                · simp at h
                · exact h
              refine (Below.heap_setCell _ _ _ _ (by simp only; omega)).trans ((Hg5.out.block r (by omega) (fun e => ?_)).trans (Hg4.out.block r (by omega) (fun e => by injection e with e; omega)))
              rcases Hb.out r e.symm with h | h <;> omega
            · rw [Hv.out]
              refine HR4.out.queue Hq5.out Hg5.out ?_
              rcases Hat5.out with h | ⟨j, h, hj⟩
              · exact .inl h
              · exact .inr ⟨j, h, by omega⟩
            · intro j hj
              rcases Hat5.out with h | ⟨i, h, hi⟩
              · exact Hb.out j (by rw [← h]; exact hj)
              · rw [h] at hj
                injection hj with hj
                right
                omega
        case done =>
          rintro W3 ⟨v, hR, hb⟩ hD
          have hRm := hR.mark hD (by omega) (fun hm => by have := HDs.out _ hm; omega) (fun e => by rcases hb _ e with h | h <;> omega)
          have HRm := hid hRm
          have HB' := hid (HB.out.round HH.out)
          have hls := HB.out.less
          clear hR hb hD hRm
          gi_wp2
          exact ⟨_, Nat.lt_of_lt_of_le hls hgg, rfInv_of (Ds := W2.heap.size :: Ds) _ _ rfl rfl HRm HB' (Nat.le_refl _)⟩
        case stop =>
          rintro c pre W3 hpre hF hD
          exact hF.elim

end Go.Proofs.Ytgefpllmelpahaa

/-! slices.Contains on a list of int64. -/
namespace Go.Proofs.Ytgefpllmelpahaa
open Go.RowKit

set_option maxRecDepth 100000 in
set_option maxHeartbeats 1000000 in
theorem index_any (a : Option Addr) (cap : Nat) (xs : List Int) (x : Int) (w : World) (hx : SlI w w.heap.size a xs) (hl : xs.length ≤ 1048576) :
    Calls Try.prog 227 #[.slice a xs.length cap, .int .i64 x] w fun e w' => ∃ i : Int, e = .returned (.int .i64 i) ∧ -1 ≤ i ∧ (0 ≤ i ↔ x ∈ xs) ∧ w = w' := by
  rcases hx with rfl | ⟨b, off, hb, rfl, hc⟩
  · go_enter Try.func227, Try.ntmps227
    go_wp2
    refine wp_loop_rounds 1 ?_; rw [rounds_succ]
    go_wp2
    go_ret
    exact ⟨-1, rfl, by decide, by simp, rfl⟩
  · have Hc := hid hc
    clear hc
    go_enter Try.func227, Try.ntmps227
    go_wp2
    go_loop [8] (fun i => ∃ k : Nat, k ≤ xs.length ∧ i = .int .i64 k ∧ Hid (x ∉ xs.take k)) (fun i => xs.length - (intOf i).toNat)
    case atStart => exact ⟨0, Nat.zero_le _, rfl, hid (by simp)⟩
    case round =>
      obtain ⟨k, hk, rfl, Hk⟩ := hrel
      by_cases hlt : k < xs.length
      · obtain ⟨y, hy⟩ : ∃ y, y = xs[k]?.getD 0 := ⟨_, rfl⟩
        have hck : w.cell? ⟨b, off + k, none⟩ = some (.int .i64 y) := by rw [hy]; exact Hc.out k hlt
        have Hy := hid hy
        have hi0 : (0 : Int) ≤ (k : Int) := by omega
        have hi1 : (k : Int) < (xs.length : Int) := by omega
        clear hy
        by_cases hxy : x = y
        · have hd : (x == y) = true := by simp [hxy]
          have He : Hid (x ∈ xs) := hid (by rw [hxy, Hy.out]; exact getD_mem hlt)
          clear hxy
          go_wp2
          go_ret
          exact ⟨k, rfl, by omega, ⟨fun _ => He.out, fun _ => by omega⟩, rfl⟩
        · have hd : (x == y) = false := by simp [hxy]
          have He : Hid (x ∉ xs.take (k + 1)) := hid (by
            rw [take_snoc hlt, ← Hy.out]
            intro h
            rcases List.mem_append.1 h with h | h
            · exact Hk.out h
            · simp at h; exact hxy h)
          clear hxy
          go_wp2
          go_round
          case rel => exact ⟨k + 1, by omega, by go_num, He.out⟩
          case measure => simp [intOf]; omega
      · have He : Hid (x ∉ xs) := hid (by have := Hk.out; rwa [List.take_of_length_le (by omega)] at this)
        go_wp2
        go_ret
        exact ⟨-1, rfl, by decide, ⟨fun h => absurd h (by decide), fun h => absurd h He.out⟩, rfl⟩

set_option maxRecDepth 100000 in
set_option maxHeartbeats 1000000 in
theorem contains_any (a : Option Addr) (cap : Nat) (xs : List Int) (x : Int) (w : World) (hx : SlI w w.heap.size a xs) (hl : xs.length ≤ 1048576) :
    Calls Try.prog 175 #[.slice a xs.length cap, .int .i64 x] w fun e w' => e = .returned (.bool (decide (x ∈ xs))) ∧ w = w' := by
  have HI := hid (index_any a cap xs x w hx hl)
  obtain ⟨c, hc⟩ : ∃ c, c = decide (x ∈ xs) := ⟨_, rfl⟩
  have Hc := hid hc
  rw [← hc]
  clear hc hx
  go_enter Try.func175, Try.ntmps175
  go_wp2_with fail
  refine HI.out.mono ?_
  rintro e w' ⟨i, rfl, h1, h2, rfl⟩
  have Hi := hid h2
  have H1 := hid h1
  clear h1 h2
  by_cases h0 : 0 ≤ i
  · have He : Hid (c = true) := hid (by rw [Hc.out]; exact decide_eq_true (Hi.out.1 h0))
    go_wp2_with fail
    go_ret
    exact ⟨ret_bool (by rw [He.out]), rfl⟩
  · have He : Hid (c = false) := hid (by rw [Hc.out]; exact decide_eq_false (fun h => h0 (Hi.out.2 h)))
    have hlt : i < 0 := by omega
    go_wp2_with fail
    go_ret
    exact ⟨ret_bool (by rw [He.out]; simp [hlt]), rfl⟩

end Go.Proofs.Ytgefpllmelpahaa

/-! Lists of pairs: all pairs of a complex; maps whose keys are pairs. -/
namespace Go.Proofs.Ytgefpllmelpahaa
open Go.RowKit

def flatP (L : List (Int × Int)) : List Int := L.flatMap fun p => [p.1, p.2]
theorem flatP_snoc (L : List (Int × Int)) (p : Int × Int) : flatP (L ++ [p]) = flatP L ++ [p.1, p.2] := by simp [flatP]
theorem flatP_len : ∀ L : List (Int × Int), (flatP L).length = 2 * L.length
  | [] => rfl
  | p :: L => by have := flatP_len L; unfold flatP at *; simp only [List.flatMap_cons, List.length_append, List.length_cons, List.length_nil]; omega
theorem flatP_at : ∀ (L : List (Int × Int)) (i : Nat), i < L.length → at0 (flatP L) (i * 2) = (L[i]?.getD (0, 0)).1 ∧ at0 (flatP L) (i * 2 + 1) = (L[i]?.getD (0, 0)).2
  | [], i, h => by simp at h
  | p :: L, 0, _ => by simp [flatP, at0]
  | p :: L, i + 1, h => by
    have ih := flatP_at L i (by simpa using h)
    have e : flatP (p :: L) = p.1 :: p.2 :: flatP L := by simp [flatP]
    have e1 : (i + 1) * 2 = i * 2 + 1 + 1 := by omega
    rw [e, e1]
    unfold at0 at *
    simpa using ih

/-- The pairs of a low face, over the first vertices. -/
def upS (fs : List Int) (x m : Nat) : List (Int × Int) := ((List.range m).filter fun v => decide (x ||| 2 ^ v ≠ x) && decide (((x ||| 2 ^ v : Nat) : Int) ∈ fs)).map fun v => ((x : Int), ((x ||| 2 ^ v : Nat) : Int))
theorem upS_succ (fs : List Int) (x m : Nat) (c : Bool) (h : (decide (x ||| 2 ^ m ≠ x) && decide (((x ||| 2 ^ m : Nat) : Int) ∈ fs)) = c) : upS fs x (m + 1) = upS fs x m ++ (if c then [((x : Int), ((x ||| 2 ^ m : Nat) : Int))] else []) := by
  unfold upS
  rw [List.range_succ, List.filter_append, List.map_append]
  cases c
  · rw [List.filter_cons, if_neg (by rw [h]; simp)]; simp
  · rw [List.filter_cons, if_pos h]; simp
theorem upS_len (fs : List Int) (x m : Nat) : (upS fs x m).length ≤ m := by
  unfold upS
  rw [List.length_map]
  exact Nat.le_trans (List.length_filter_le _ _) (by simp)

/-- All pairs whose low faces are among the first k faces. -/
def pairsL (fs : List Int) (V k : Nat) : List (Int × Int) := (fs.take k).flatMap fun x => upS fs x.toNat V
theorem pairsL_succ {fs : List Int} {V k : Nat} (hlt : k < fs.length) : pairsL fs V (k + 1) = pairsL fs V k ++ upS fs (fs[k]?.getD 0).toNat V := by
  unfold pairsL
  rw [take_snoc hlt, List.flatMap_append]
  simp
theorem pairsL_len (fs : List Int) (V : Nat) : ∀ k, k ≤ fs.length → (pairsL fs V k).length ≤ k * V
  | 0, _ => by simp [pairsL]
  | k + 1, h => by
    have h1 := pairsL_len fs V k (by omega)
    have h2 := upS_len fs (fs[k]?.getD 0).toNat V
    rw [pairsL_succ (by omega), List.length_append, Nat.add_mul]
    omega

theorem up_pair : ∀ x : Fin 64, ∀ v : Fin 6, x.val ||| 2 ^ v.val ≠ x.val → x.val &&& (x.val ||| 2 ^ v.val) = x.val ∧ ones (x.val ||| 2 ^ v.val) = ones x.val + 1 := by decide +kernel
theorem pair_up : ∀ x : Fin 64, ∀ y : Fin 64, x.val &&& y.val = x.val → ones y.val = ones x.val + 1 → ∃ v : Fin 6, x.val ||| 2 ^ v.val = y.val ∧ y.val ≠ x.val := by decide +kernel

theorem mem_pairsL {V : Int} {fs : List Int} (hC : IsC V fs) (x y : Int) : (x, y) ∈ pairsL fs V.toNat fs.length ↔ pairB fs x y = true := by
  have hr := hC.range63
  have hlo := hC.lo
  have hhi := hC.hi
  unfold pairsL upS pairB
  rw [List.take_of_length_le (Nat.le_refl _)]
  simp only [List.mem_flatMap, List.mem_map, List.mem_filter, List.mem_range, Bool.and_eq_true, decide_eq_true_eq, Prod.mk.injEq]
  constructor
  · rintro ⟨x0, hx0, v, ⟨hv, hne, hm⟩, rfl, rfl⟩
    have h0 := hr x0 hx0
    have hu := up_pair ⟨x0.toNat, by omega⟩ ⟨v, by omega⟩ hne
    rw [Int.toNat_of_nonneg (by omega)]
    simp only [Int.toNat_natCast]
    exact ⟨⟨⟨hx0, hm⟩, hu.1⟩, hu.2⟩
  · rintro ⟨⟨⟨hx, hy⟩, hb⟩, ho⟩
    have h0 := hr x hx
    have h1 := hr y hy
    obtain ⟨v, hv, hne⟩ := pair_up ⟨x.toNat, by omega⟩ ⟨y.toNat, by omega⟩ hb ho
    simp only at hv hne
    have hyr := (hC.range y hy).2
    have hle : 2 ^ v.val ≤ y.toNat := by rw [← hv]; exact Nat.right_le_or
    refine ⟨x, hx, v.val, ⟨?_, by rw [hv]; exact hne, by rw [hv, Int.toNat_of_nonneg (by omega)]; exact hy⟩, Int.toNat_of_nonneg (by omega), by rw [hv, Int.toNat_of_nonneg (by omega)]⟩
    rcases Nat.lt_or_ge v.val V.toNat with h | h
    · exact h
    · exfalso
      have hp := Nat.pow_le_pow_right (n := 2) (by decide) h
      unfold allV at hyr
      have e : ((2 : Int) ^ V.toNat) = ((2 ^ V.toNat : Nat) : Int) := by simp
      rw [e] at hyr
      generalize (2 : Nat) ^ V.toNat = q at *
      generalize (2 : Nat) ^ v.val = q' at *
      omega

/-! ### maps whose keys are pairs -/

theorem arrP : Go.WideMaps.ArrKey Try.prog 62 2 2 := ⟨Try.underlying62, by kernel_rfl, by kernel_rfl, by kernel_rfl⟩
theorem keyedP : Maps.Keyed Try.prog 62 := Maps.Keyed.of_law arrP.law
def keyP (p : Int × Int) : Lit := .string (keyBytes [.int .i64 p.1, .int .i64 p.2])
def wfP (p : Int × Int) : Prop := (Lit.int .i64 p.1).wf = true ∧ (Lit.int .i64 p.2).wf = true
theorem keyOfP {p : Int × Int} (h : wfP p) : keyOf Try.prog 62 (.agg #[.int .i64 p.1, .int .i64 p.2]) = some (keyP p) :=
  Go.WideMaps.keyOf_pair arrP Try.underlying2 ⟨Try.prog.types.size - 1, by kernel_rfl⟩ h.1 h.2
theorem keyP_inj {p q : Int × Int} (hp : wfP p) (hq : wfP q) (h : keyP p = keyP q) : p = q := by
  have := keyedP.inj (keyOfP hp) (by rw [h]; exact keyOfP hq)
  simp only [Value.agg.injEq, Array.mk.injEq, List.cons.injEq, Value.int.injEq, true_and, and_true] at this
  exact Prod.ext this.1 this.2

def pknFrom (D : DataW Unit) (pre : List (Int × Int)) : DataW Unit := pre.foldl (fun D p => D.put (keyP p) (.lit (.bool true))) D
def pknD (pre : List (Int × Int)) : DataW Unit := pknFrom (.map []) pre
theorem pknD_snoc (pre : List (Int × Int)) (p : Int × Int) : pknD (pre ++ [p]) = (pknD pre).put (keyP p) (.lit (.bool true)) := by simp [pknD, pknFrom]
theorem isKey_keyP (p : Int × Int) (h : wfP p) : WideAt.IsKeyLit (keyP p) := keyedP.key (keyOfP h)
theorem pknFrom_at (p : Int × Int) (hp : wfP p) : ∀ (pre : List (Int × Int)) (D : DataW Unit), (∀ q ∈ pre, wfP q) → Maps.IsMap D → (pknFrom D pre).atKey (keyP p) (.lit (.bool false)) = if p ∈ pre then .lit (.bool true) else D.atKey (keyP p) (.lit (.bool false))
  | [], D, _, _ => by simp [pknFrom]
  | x :: pre, D, hw, hD => by
    have ih := pknFrom_at p hp pre (D.put (keyP x) (.lit (.bool true))) (fun q hq => hw q (by simp [hq])) (hD.put _ _)
    have e : pknFrom D (x :: pre) = pknFrom (D.put (keyP x) (.lit (.bool true))) pre := rfl
    rw [e, ih]
    by_cases hm : p ∈ pre
    · simp [hm]
    · by_cases hx : p = x
      · subst hx
        rw [if_neg hm, if_pos (by simp), Maps.atKey_put_same hD (isKey_keyP p hp)]
      · rw [if_neg hm, if_neg (by simp [hm, hx]), Maps.atKey_put_other (fun e => hx (keyP_inj hp (hw x (by simp)) e))]

theorem pknD_at (p : Int × Int) (hp : wfP p) (pre : List (Int × Int)) (hw : ∀ q ∈ pre, wfP q) : (pknD pre).atKey (keyP p) (.lit (.bool false)) = .lit (.bool (decide (p ∈ pre))) := by
  unfold pknD
  rw [pknFrom_at p hp pre _ hw Maps.isMap_empty]
  by_cases h : p ∈ pre
  · simp [h]
  · simp [h]
    rfl

/-- The map of pairs. -/
def MapP (w' : World) (b n : Nat) (L : List (Int × Int)) : Prop := w'.ownsMap Try.prog 62 (plainElem (H := Unit) Try.prog 4) b n (pknD L)

theorem MapP.later {w w' : World} {b n : Nat} {L : List (Int × Int)} (h : MapP w b n L) (hB : Below w.heap.size w w') : MapP w' b n L :=
  World.ownsMap.kept h (row := none) ⟨hB.os, hB.tape, hB.output, hB.size, fun k hk _ => hB.block k hk⟩ (by simp)

theorem lookup_pair {w : World} {b n : Nat} {L : List (Int × Int)} (hown : MapP w b n L) (hw : ∀ q ∈ L, wfP q) {p : Int × Int} (hp : wfP p) :
    (Instr.lookup 157 (.map (some b)) (.agg #[.int .i64 p.1, .int .i64 p.2]) false).run Try.prog w = .ok (.bool (decide (p ∈ L))) w := by
  obtain ⟨v, ps, hrun, hv⟩ := World.ownsMap.lookup hown keyedP Try.underlying157 (zero_bool w) (plainElem_bool Try.underlying4 false) (keyOfP hp)
  rw [pknD_at p hp L hw] at hv
  rw [bool_inv hv] at hrun
  exact hrun

end Go.Proofs.Ytgefpllmelpahaa

/-! The laws' helpers for lists of pairs: a list of n pairs is read as 2 * n integers. -/
namespace Go.Proofs.Ytgefpllmelpahaa
open Go.RowKit

set_option maxRecDepth 100000 in
set_option maxHeartbeats 400000 in
theorem szPairs (a : Option Addr) (n cap : Nat) (left : Int) (w : World) (h1 : 0 ≤ left) (h2 : left ≤ 1048576) (hn : n ≤ 9223372036854775807) :
    Calls Try.prog 14 #[.slice a n cap, .int .i64 left] w fun e w' => e = .returned (.int .i64 (szR left n)) ∧ w = w' := by
  by_cases h : left < n
  · have H := hid (szR_big h)
    go_enter Try.func14, Try.ntmps14
    go_wp2
    go_ret
    exact ⟨ret_int (by rw [H.out]), rfl⟩
  · have H := hid (szR_fit h)
    go_enter Try.func14, Try.ntmps14
    go_wp2
    go_ret
    exact ⟨ret_int (by rw [H.out]), rfl⟩

set_option maxRecDepth 100000 in
set_option maxHeartbeats 400000 in
theorem toPair_any (x y : Int) (w : World) :
    Calls Try.prog 51 #[.agg #[.int .i64 x, .int .i64 y]] w fun e w' => e = .returned (.agg #[.int .i64 x, .int .i64 y]) ∧ Below w.heap.size w w' := by
  go_enter Try.func51, Try.ntmps51
  go_wp2
  refine wp_loop_rounds 3 ?_; rw [rounds_succ]
  go_wp2
  rw [rounds_succ]
  go_wp2
  rw [rounds_succ]
  go_wp2
  exact bodyPost_ret (v := .agg #[.int .i64 x, .int .i64 y]) (by simp [results, Try.results51, go_sem]) rfl ⟨rfl, ((((Below.refl _ w).alloc (Nat.le_refl _) _).alloc (by simp) _).alloc (by simp <;> omega) _)⟩

set_option maxRecDepth 100000 in
set_option maxHeartbeats 400000 in
theorem eqPair_any (x y x' y' : Int) (w : World) :
    Calls Try.prog 56 #[.agg #[.int .i64 x, .int .i64 y], .agg #[.int .i64 x', .int .i64 y']] w fun e w' => e = .returned (.bool (decide (x = x' ∧ y = y'))) ∧ Below w.heap.size w w' := by
  go_enter Try.func56, Try.ntmps56
  go_wp2
  refine wp_loop_rounds 3 ?_; rw [rounds_succ]
  go_wp2
  go_quiet (fail)
  have hB : ∀ n, Below w.heap.size w (((w.alloc (.cells #[.int .i64 x, .int .i64 y] 62)).alloc (.cells #[.int .i64 x', .int .i64 y'] 62)).drewN n) := fun n => Below.trans (((Below.refl _ w).alloc (Nat.le_refl _) _).alloc (by simp) _) ⟨rfl, rfl, rfl, Nat.le_refl _, fun _ _ => rfl⟩
  have HB := hid hB
  clear hB
  by_cases hx : x = x'
  · have hd : (x != x') = false := by simp [hx]
    have Hx := hid hx
    clear hx
    go_wp2_with fail
    rw [rounds_succ]
    go_wp2_with fail
    go_quiet (fail)
    by_cases hy : y = y'
    · have hd2 : (y != y') = false := by simp [hy]
      have Hy := hid hy
      clear hy
      go_wp2_with fail
      rw [rounds_succ]
      go_wp2_with fail
      go_ret
      exact ⟨ret_bool (decide_eq_true ⟨Hx.out, Hy.out⟩).symm, HB.out _⟩
    · have hd2 : (y != y') = true := by simp [hy]
      have Hy := hid hy
      clear hy
      go_wp2_with fail
      go_ret
      refine ⟨ret_bool (decide_eq_false (fun h => Hy.out h.2)).symm, ?_⟩
      first | exact HB.out _ | exact (HB.out 0).trans ⟨rfl, rfl, rfl, Nat.le_refl _, fun _ _ => rfl⟩
  · have hd : (x != x') = true := by simp [hx]
    have Hx := hid hx
    clear hx
    go_wp2_with fail
    go_ret
    exact ⟨ret_bool (decide_eq_false (fun h => Hx.out h.1)).symm, HB.out _⟩

theorem info_pair : (Try.prog.info? 62).map (fun i => (i.zero, i.size, i.bytes)) = some (some (.agg #[.int .i64 0, .int .i64 0]), 2, 16) := by kernel_rfl

theorem made_two (m : Nat) : (madeCells #[Value.int .i64 0, Value.int .i64 0] m).toList = (List.replicate m (0 : Int)).map (Value.int .i64) := by
  refine List.ext_getElem (by simp [madeCells]) (fun i h1 h2 => ?_)
  have : i % 2 = 0 ∨ i % 2 = 1 := Nat.mod_two_eq_zero_or_one i
  rcases this with h | h <;> simp [madeCells, h]

/-- 'make([]Pair, n)'. -/
theorem make_pair {w : World} {ops : Array Oper} {rest : List Oper} {o : Oper} {a : Act} {Q : Exit → Act → World → Prop} (hgd : o.guard = none) {l c : Operand} (hop : o.op = Op.makeSlice 32 l c)
    {n : Nat} (hl : a.eval l = .int .i64 (n : Int)) (hc : a.eval c = .int .i64 (n : Int)) (hn : n ≤ 1048576)
    (hK : ∀ w', w'.ownsRow w.heap.size 62 2 (.slice (some ⟨w.heap.size, 0, none⟩) n n) n ((List.replicate (2 * n) (0 : Int)).map (Value.int .i64)) → Below w.heap.size w w' →
      wpList Try.prog ops Q rest (a.put o.dst (.slice (some ⟨w.heap.size, 0, none⟩) n n)) w') :
    wpList Try.prog ops Q (o :: rest) a w := by
  obtain ⟨i0, hi, hz0, hz1, hz2⟩ := info_parts info_pair
  refine wpList_make_full w hgd l c 32 hop w.heap.size 62 i0 (.agg #[.int .i64 0, .int .i64 0]) 2 Try.underlying32 hi hz0 hz1 .i64 .i64 _ _ n hl hc rfl rfl (by rw [hz2]; omega) (by unfold maxLen; omega) (Nat.le_refl _) ?_
  intro w' hown hg
  rw [show (Value.agg #[Value.int .i64 0, Value.int .i64 0]).cells = #[Value.int .i64 0, Value.int .i64 0] by kernel_rfl, made_two, Nat.mul_comm] at hown
  exact hK w' hown ((Below.refl _ w).grown hg (Nat.le_refl _) (fun k hk => by cases hk))

set_option maxRecDepth 100000 in
set_option maxHeartbeats 400000 in
theorem toPairs (a : Option Addr) (n cap : Nat) (ps : List Int) (w : World) (hx : SlI w w.heap.size a ps) (hp : ps.length = 2 * n) (hl : n ≤ 1048576) :
    Calls Try.prog 17 #[.slice a n cap] w fun e w' =>
      e = .returned (.slice (some ⟨w.heap.size, 0, none⟩) n n) ∧ w'.ownsRow w.heap.size 62 2 (.slice (some ⟨w.heap.size, 0, none⟩) n n) n (ps.map (Value.int .i64)) ∧ Below w.heap.size w w' := by
  go_enter Try.func17, Try.ntmps17
  go_wp2_with (at_make; refine make_pair rfl rfl rfl rfl (by omega) ?_; intro w1 hown hB)
  rcases hx with rfl | ⟨b, off, hb, rfl, hc⟩
  · obtain rfl : n = 0 := by simp at hp; omega
    refine wp_loop_rounds 1 ?_; rw [rounds_succ]
    go_wp2
    go_ret
    exact ⟨rfl, hown, hB⟩
  · go_loopw [4] (fun i wr => ∃ k : Nat, k ≤ n ∧ i = .int .i64 k ∧ wr.ownsRow w.heap.size 62 2 (.slice (some ⟨w.heap.size, 0, none⟩) n n) n ((ps.take (k * 2) ++ List.replicate (ps.length - k * 2) (0 : Int)).map (Value.int .i64)) ∧ Below w.heap.size w wr) (fun i _ => n - (intOf i).toNat)
    case atStart => exact ⟨0, Nat.zero_le _, rfl, by simpa [hp] using hown, hB⟩
    case round =>
      obtain ⟨k, hk, rfl, hown, hB⟩ := hrel
      by_cases hlt : k < n
      · obtain ⟨x, hx⟩ : ∃ x, x = ps[k * 2]?.getD 0 := ⟨_, rfl⟩
        obtain ⟨y, hy⟩ : ∃ y, y = ps[k * 2 + 1]?.getD 0 := ⟨_, rfl⟩
        have hck : wr.cell? ⟨b, off + k * 2, none⟩ = some (.int .i64 x) := by rw [hx]; exact (hB.cell (p := ⟨b, off + k * 2, none⟩) hb).trans (hc (k * 2) (by omega))
        have hck2 : wr.cell? ⟨b, off + k * 2 + 1, none⟩ = some (.int .i64 y) := by rw [hy]; exact (hB.cell (p := ⟨b, off + (k * 2 + 1), none⟩) hb).trans (hc (k * 2 + 1) (by omega))
        have hg0 : wr.cell? ⟨w.heap.size, k * 2, none⟩ = some (.int .i64 0) := by
          rw [hown.cellAt (k * 2) (by omega)]
          rw [List.getElem?_map, List.getElem?_append_right (by simp <;> omega)]
          simp [List.getElem?_replicate, Nat.min_eq_left (show k * 2 ≤ ps.length by omega)]
          omega
        have hg1 : wr.cell? ⟨w.heap.size, k * 2 + 1, none⟩ = some (.int .i64 0) := by
          rw [hown.cellAt (k * 2 + 1) (by omega)]
          rw [List.getElem?_map, List.getElem?_append_right (by simp <;> omega)]
          simp [List.getElem?_replicate, Nat.min_eq_left (show k * 2 ≤ ps.length by omega)]
          omega
        have hf0 := hown.frozenAt (k * 2)
        have hf1 := hown.frozenAt (k * 2 + 1)
        have Hx := hid hx
        have Hy := hid hy
        have Hc := hid hc
        have Hown := hid hown
        have HB := hid hB
        clear hx hy hc hown hB
        go_wp2_with fail
        refine (toPair_any x y wr).mono ?_
        rintro e w2 ⟨rfl, hB2⟩
        have hwb : w.heap.size < wr.heap.size := World.block_lt_of_cell? wr _ hg0
        have hg02 := (hB2.cell (p := ⟨w.heap.size, k * 2, none⟩) hwb).trans hg0
        have hg12 := (hB2.cell (p := ⟨w.heap.size, k * 2 + 1, none⟩) hwb).trans hg1
        have hf02 := (hB2.frozen (p := ⟨w.heap.size, k * 2, none⟩) hwb).trans hf0
        have hf12 := (hB2.frozen (p := ⟨w.heap.size, k * 2 + 1, none⟩) hwb).trans hf1
        have Hown2 := hid (ownsRow_below Hown.out hB2 (fun g hg => by simp [Value.ownBlock] at hg; omega))
        have HB2 := hid (HB.out.trans (hB2.mono HB.out.size))
        clear hg0 hg1 hf0 hf1 Hown HB hB2
        go_wp2_with fail
        go_roundw
        case rel =>
          refine ⟨k + 1, by omega, by go_num, ?_, (HB2.out.setCell (p := ⟨w.heap.size, k * 2, none⟩) (Nat.le_refl _) _).setCell (p := ⟨w.heap.size, k * 2 + 1, none⟩) (Nat.le_refl _) _⟩
          have h := ((Hown2.out.stored (k * 2) (.int .i64 x)).1.stored (k * 2 + 1) (.int .i64 y)).1
          rw [Hx.out, fill_step (by omega), Hy.out, fill_step (by omega), ← Hx.out, ← Hy.out] at h
          rw [show (k + 1) * 2 = k * 2 + 1 + 1 by omega]
          exact h
        case measure => simp [intOf]; omega
      · go_wp2
        go_ret
        obtain rfl : k = n := by omega
        rw [Nat.mul_comm, ← hp] at hown
        exact ⟨rfl, by simpa using hown, hB⟩

set_option maxRecDepth 100000 in
set_option maxHeartbeats 400000 in
theorem eqPairs_yes (a1 a2 : Option Addr) (n c1 c2 : Nat) (ps : List Int) (w : World) (hx : SlI w w.heap.size a1 ps) (hy : SlI w w.heap.size a2 ps) (hp : ps.length = 2 * n) (hl : n ≤ 1048576) :
    Calls Try.prog 21 #[.slice a1 n c1, .slice a2 n c2] w fun e w' => e = .returned (.bool true) ∧ Below w.heap.size w w' := by
  by_cases h0 : n = 0
  · subst h0
    clear hx hy
    go_enter Try.func21, Try.ntmps21
    go_wp2
    refine wp_loop_rounds 1 ?_; rw [rounds_succ]
    go_wp2
    go_ret
    exact ⟨rfl, Below.refl _ _⟩
  · obtain ⟨b, off, hb, rfl, hc⟩ : ∃ b off, b < w.heap.size ∧ a1 = some ⟨b, off, none⟩ ∧ ∀ i, i < ps.length → w.cell? ⟨b, off + i, none⟩ = some (.int .i64 (ps[i]?.getD 0)) := by
      rcases hx with rfl | h
      · simp at hp; omega
      · exact h
    obtain ⟨b2, off2, hb2, rfl, hc2⟩ : ∃ b off, b < w.heap.size ∧ a2 = some ⟨b, off, none⟩ ∧ ∀ i, i < ps.length → w.cell? ⟨b, off + i, none⟩ = some (.int .i64 (ps[i]?.getD 0)) := by
      rcases hy with rfl | h
      · simp at hp; omega
      · exact h
    have Hc := hid hc
    have Hc2 := hid hc2
    have hne : ((n : Int) != (n : Int)) = false := by simp
    clear hc hc2 hx hy h0
    go_enter Try.func21, Try.ntmps21
    go_wp2
    go_loopw [5] (fun i wr => ∃ k : Nat, k ≤ n ∧ i = .int .i64 k ∧ Below w.heap.size w wr) (fun i _ => n - (intOf i).toNat)
    case atStart => exact ⟨0, Nat.zero_le _, rfl, Below.refl _ _⟩
    case round =>
      obtain ⟨k, hk, rfl, hB⟩ := hrel
      by_cases hlt : k < n
      · obtain ⟨x, hx⟩ : ∃ x, x = ps[k * 2]?.getD 0 := ⟨_, rfl⟩
        obtain ⟨y, hy⟩ : ∃ y, y = ps[k * 2 + 1]?.getD 0 := ⟨_, rfl⟩
        have hck : wr.cell? ⟨b, off + k * 2, none⟩ = some (.int .i64 x) := by rw [hx]; exact (hB.cell (p := ⟨b, off + k * 2, none⟩) hb).trans (Hc.out (k * 2) (by omega))
        have hck2 : wr.cell? ⟨b, off + k * 2 + 1, none⟩ = some (.int .i64 y) := by rw [hy]; exact (hB.cell (p := ⟨b, off + (k * 2 + 1), none⟩) hb).trans (Hc.out (k * 2 + 1) (by omega))
        have hdk : wr.cell? ⟨b2, off2 + k * 2, none⟩ = some (.int .i64 x) := by rw [hx]; exact (hB.cell (p := ⟨b2, off2 + k * 2, none⟩) hb2).trans (Hc2.out (k * 2) (by omega))
        have hdk2 : wr.cell? ⟨b2, off2 + k * 2 + 1, none⟩ = some (.int .i64 y) := by rw [hy]; exact (hB.cell (p := ⟨b2, off2 + (k * 2 + 1), none⟩) hb2).trans (Hc2.out (k * 2 + 1) (by omega))
        have hi0 : (0 : Int) ≤ (k : Int) := by omega
        have hi1 : (k : Int) < (n : Int) := by omega
        have HB := hid hB
        clear hx hy hB
        go_wp2_with fail
        go_region_with (go_at_call 56; refine (eqPair_any x y x y _).mono ?_; rintro e w2 ⟨rfl, hB2⟩; rw [decide_eq_true (And.intro rfl rfl)])
        all_goals
          have HB2 := hid (HB.out.trans (Below.mono (w := wr) ⟨hB2.os, hB2.tape, hB2.output, hB2.size, hB2.block⟩ HB.out.size))
          clear hB2
          go_wp2_with fail
          go_roundw
          case rel => exact ⟨k + 1, by omega, by go_num, HB2.out⟩
          case measure => simp [intOf]; omega
      · go_wp2
        go_ret
        exact ⟨rfl, hB⟩

set_option maxRecDepth 100000 in
set_option maxHeartbeats 1000000 in
theorem markPairs (base : Nat) (a : Option Addr) (n cap : Nat) (ps : List Int) (k : Int) (w : World) (hown : w.ownsRow base 62 2 (.slice a n cap) n (ps.map (Value.int .i64))) (hl : n ≤ 1048576) (h0 : 0 ≤ k) (h1 : k ≤ 1099511627776) :
    Calls Try.prog 23 #[.slice a n cap, .int .i64 k] w fun e w' => e = .returned (.int .i64 (k + 2 * n)) ∧
      w'.ownsRow base 62 2 (.slice a n cap) n ((count k (n * 2)).map (Value.int .i64)) ∧ w.grownBy w' (Value.ownBlock (.slice a n cap)) := by
  have hp : ps.length = n * 2 := by simpa using hown.1
  rcases hown.2 with ⟨hv, hn⟩ | ⟨g, cap', cur, hv, hb, hg, rest⟩
  · subst hn
    obtain rfl : ps = [] := List.eq_nil_of_length_eq_zero (by omega)
    have Hown := hid hown
    clear hown hv
    go_enter Try.func23, Try.ntmps23
    go_wp2
    refine wp_loop_rounds 1 ?_; rw [rounds_succ]
    go_wp2
    go_ret
    exact ⟨ret_int (by simp), Hown.out, ⟨rfl, rfl, rfl, Nat.le_refl _, fun _ _ _ => rfl⟩⟩
  · cases hv
    clear hb hg rest
    go_enter Try.func23, Try.ntmps23
    go_wp2
    go_loopw [1, 5] (fun m i wr => ∃ j : Nat, j ≤ n ∧ i = .int .i64 j ∧ m = .int .i64 (k + 2 * j) ∧ wr.ownsRow base 62 2 (.slice (some ⟨g, 0, none⟩) n cap) n ((count k (j * 2) ++ ps.drop (j * 2)).map (Value.int .i64)) ∧ w.grownBy wr (some g)) (fun _ i _ => n - (intOf i).toNat)
    case atStart => exact ⟨0, Nat.zero_le _, rfl, by simp, by simpa [count] using hown, ⟨rfl, rfl, rfl, Nat.le_refl _, fun _ _ _ => rfl⟩⟩
    case round =>
      obtain ⟨j, hj, rfl, rfl, hown, hgr⟩ := hrel
      by_cases hlt : j < n
      · have hcg : ∃ u, wr.cell? ⟨g, j * 2, none⟩ = some (.int .i64 u) := by
          rw [hown.cellAt (j * 2) (by omega)]
          refine ⟨ps[j * 2]?.getD 0, ?_⟩
          rw [List.getElem?_map, List.getElem?_append_right (by rw [count_len]; exact Nat.le_refl _), count_len, Nat.sub_self]
          simp [show j * 2 < ps.length by omega]
        have hcg2 : ∃ u, wr.cell? ⟨g, j * 2 + 1, none⟩ = some (.int .i64 u) := by
          rw [hown.cellAt (j * 2 + 1) (by omega)]
          refine ⟨ps[j * 2 + 1]?.getD 0, ?_⟩
          rw [List.getElem?_map, List.getElem?_append_right (by rw [count_len]; omega), count_len]
          simp [show j * 2 + 1 < ps.length by omega]
        obtain ⟨u, hcu⟩ := hcg
        obtain ⟨u2, hcu2⟩ := hcg2
        have hfg := hown.frozenAt (j * 2)
        have hfg2 := hown.frozenAt (j * 2 + 1)
        have hst := hown.stored (j * 2) (.int .i64 (k + 2 * j))
        have hst2 := hst.1.stored (j * 2 + 1) (.int .i64 (k + 2 * j + 1))
        have hm1 := mark_step (k := k) (xs := ps) (j := j * 2) (by omega)
        have hm2 := mark_step (k := k) (xs := ps) (j := j * 2 + 1) (by omega)
        rw [show k + ((j * 2 : Nat) : Int) = k + 2 * j by omega] at hm1
        rw [show k + ((j * 2 + 1 : Nat) : Int) = k + 2 * j + 1 by omega] at hm2
        rw [hm1, hm2] at hst2
        have Hst := hid hst2
        have Hst1 := hid hst.2
        have Hgr := hid hgr
        have hi0 : (0 : Int) ≤ (j : Int) := by omega
        have hi1 : (j : Int) < (n : Int) := by omega
        clear hst hst2 hown hgr hm1 hm2
        go_wp2
        refine wp_loop_rounds 3 ?_; rw [rounds_succ]
        go_wp2
        rw [rounds_succ]
        go_wp2
        rw [rounds_succ]
        go_wp2
        go_roundw
        case rel =>
          exact ⟨j + 1, by omega, by go_num, by go_num, by rw [show (j + 1) * 2 = j * 2 + 1 + 1 by omega]; exact Hst.out.1, (Hgr.out.trans Hst1.out).trans Hst.out.2⟩
        case measure => simp [intOf]; omega
      · go_wp2
        go_ret
        obtain rfl : j = n := by omega
        exact ⟨rfl, by simpa [hp, List.drop_of_length_le] using hown, hgr⟩

set_option maxRecDepth 100000 in
set_option maxHeartbeats 1000000 in
theorem heldPairs (a : Option Addr) (cap : Nat) (n : Nat) (ps : List Int) (k : Int) (w : World) (hps : ps = count k (n * 2)) (hx : SlI w w.heap.size a ps) (hl : n ≤ 1048576) (h0 : 0 ≤ k) (h1 : k ≤ 1099511627776) :
    Calls Try.prog 28 #[.slice a n cap, .int .i64 k] w fun e w' => e = .returned (.int .i64 (k + 2 * n)) ∧ Below w.heap.size w w' := by
  have hlen : ps.length = n * 2 := by rw [hps, count_len]
  rcases hx with rfl | ⟨b, off, hb, rfl, hc⟩
  · obtain rfl : n = 0 := by simp at hlen; omega
    clear hps hlen
    go_enter Try.func28, Try.ntmps28
    go_wp2
    refine wp_loop_rounds 1 ?_; rw [rounds_succ]
    go_wp2
    go_ret
    exact ⟨ret_int (by simp), Below.refl _ _⟩
  · have Hc := hid hc
    have Hps := hid hps
    have Hlen := hid hlen
    clear hc hps hlen
    go_enter Try.func28, Try.ntmps28
    go_wp2
    go_loop [1, 5] (fun m i => ∃ j : Nat, j ≤ n ∧ i = .int .i64 j ∧ m = .int .i64 (k + 2 * j)) (fun _ i => n - (intOf i).toNat)
    case atStart => exact ⟨0, Nat.zero_le _, rfl, by simp⟩
    case round =>
      obtain ⟨j, hj, rfl, rfl⟩ := hrel
      by_cases hlt : j < n
      · have hck : w.cell? ⟨b, off + j * 2, none⟩ = some (.int .i64 (k + 2 * j)) := by
          have := Hc.out (j * 2) (by rw [Hlen.out]; omega)
          rw [Hps.out, count_get _ _ _ (by omega), show k + ((j * 2 : Nat) : Int) = k + 2 * j by omega] at this
          exact this
        have hck2 : w.cell? ⟨b, off + j * 2 + 1, none⟩ = some (.int .i64 (k + 2 * j + 1)) := by
          have := Hc.out (j * 2 + 1) (by rw [Hlen.out]; omega)
          rw [Hps.out, count_get _ _ _ (by omega), show k + ((j * 2 + 1 : Nat) : Int) = k + 2 * j + 1 by omega] at this
          exact this
        have hi0 : (0 : Int) ≤ (j : Int) := by omega
        have hi1 : (j : Int) < (n : Int) := by omega
        go_wp2
        refine wp_loop_rounds 3 ?_; rw [rounds_succ]
        go_wp2
        rw [rounds_succ]
        go_wp2
        rw [rounds_succ]
        go_wp2
        go_round
        case rel => exact ⟨j + 1, by omega, by go_num, by go_num⟩
        case measure => simp [intOf]; omega
      · go_wp2
        go_ret
        obtain rfl : j = n := by omega
        exact ⟨rfl, Below.refl _ _⟩

end Go.Proofs.Ytgefpllmelpahaa
