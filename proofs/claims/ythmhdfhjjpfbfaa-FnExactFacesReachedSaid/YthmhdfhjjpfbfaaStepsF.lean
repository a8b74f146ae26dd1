import Derived.Test.YthmhdfhjjpfbfaaIterS
import Derived.Test.YthmhdfhjjpfbfaaLows
import Derived.Test.YthmhdfhjjpfbfaaReachM
import Derived.Test.YthmhdfhjjpfbfaaDim
import Derived.Laws.StructEq
import Derived.Laws.Cover2
/-! stepsFrom: the steps from a face as an iterator. -/
namespace Go.Proofs.Ythmhdfhjjpfbfaa
open Go.RowKit Go.Shelf

attribute [local go_sem] Oper.semAt_some

/-- The sides that a step leads to: all but the face itself. -/
def otherF (a : Int) (l : List (Fin 64)) : List (Fin 64) := l.filter fun x => decide ((x.val : Int) ≠ a)
def stepsF (ps : List Int) (n : Nat) (a : Int) : List (Fin 64) := if highOf ps n a = 0 then [] else otherF a (sidesF (highOf ps n a).toNat)
theorem otherF_snoc (a : Int) (l : List (Fin 64)) (x : Fin 64) : otherF a (l ++ [x]) = otherF a l ++ (if (x.val : Int) = a then [] else [x]) := by
  unfold otherF
  rw [List.filter_append]
  by_cases h : (x.val : Int) = a <;> simp [h]
theorem otherF_prefix {a : Int} {l l' : List (Fin 64)} (h : l <+: l') : otherF a l <+: otherF a l' := by
  obtain ⟨t, rfl⟩ := h
  unfold otherF
  rw [List.filter_append]
  exact List.prefix_append _ _

set_option maxHeartbeats 1000000 in
/-- stepsFrom: its arguments are boxed; the function value captures the boxes. -/
theorem stepsFrom_in (n : Nat) (M : Nat) (a : Int) (w : World) :
    CallsIn Fence.wide n Try.prog 121 #[.map (some M), .int .i64 a] w fun e w' => e = .returned (.func (.func 142) #[] #[.pointer (some ⟨w.heap.size, 0, none⟩), .pointer (some ⟨w.heap.size + 1, 0, none⟩)]) ∧ w' = (w.alloc (  .cells #[.map (some M)] 92)).alloc (.cells #[.int .i64 a] 2) := by
  refine callsIn_of_wp Try.func121 rfl trivial ?_ rfl
  simp only [Try.ntmps121, List.size_toArray, List.length_cons, List.length_nil, Nat.reduceAdd, Nat.reduceSub, Array.replicate_succ, Array.replicate_zero, List.push_toArray, List.append_toArray, List.nil_append, List.cons_append]
  gi_wp2
  go_ret
  exact ⟨rfl, rfl⟩

/-- Two pairs are compared number by number. -/
theorem eq_pair (x y x' y' : Int) (w : World) : (Op.equalIn 10000 79 (.agg #[.int .i64 x, .int .i64 y]) (.agg #[.int .i64 x', .int .i64 y'])).run Try.prog w = .ok (x == x' && y == y') w := by
  have hu := Try.underlying2
  have hi := Try.isAgg2
  have hs := Try.sizeOf2
  rw [show (10000 : Nat) = 9999 + 1 from rfl, Op.equalIn]
  simp only [Sem.run_bind, run_underlying Try.underlying79, Result.andThen_ok]
  simp only [Std.Legacy.Range.forIn_eq_forIn_range', Std.Legacy.Range.size, Nat.sub_zero, Nat.add_sub_cancel, Nat.div_one, List.range'_succ, List.range'_zero, List.forIn_cons, List.forIn_nil]
  go_simp
  by_cases e1 : x = x' <;> by_cases e2 : y = y' <;> simp [e1, e2]

theorem KeepP.new {Bs : List Nat} {lo k : Nat} {W : World} (o : Obj) (hB : ∀ b ∈ Bs, b < W.heap.size) (hk : lo + k ≤ W.heap.size) : KeepP Bs lo k W (W.alloc o) :=
  ⟨by simp, fun r hr => Below.heap_alloc _ _ _ (by rcases hr with h | h; exact hB r h; omega)⟩
theorem stepsF_hit (ps : List Int) (n : Nat) (a : Int) : stepsF ps n a = otherF a (sidesF (highOf ps n a).toNat) := by
  unfold stepsF
  split
  · rename_i h
    rw [h]
    have : sidesF (0 : Int).toNat = [] := by decide
    rw [this]
    rfl
  · rfl

set_option maxRecDepth 100000 in
set_option maxHeartbeats 2000000 in
/-- Its iterator. -/
theorem steps_P (n : Nat) (hn : 4 ≤ n) (bm ba M N k : Nat) (ps : List Int) (a : Int) (w : World)
    (hcm : w.heap[bm]? = some (.cells #[.map (some M)] 92 (0, 0))) (hca : w.heap[ba]? = some (.cells #[.int .i64 a] 2 (0, 0)))
    (hown : w.ownsMap Try.prog 2 pairElem M N (lowsD ps k)) (hd : LowsApart ps k) (hh : HighsB ps k) (ha : (Lit.int .i64 a).wf = true) :
    SeqStopsP Fence.wide n Try.prog 142 #[.pointer (some ⟨bm, 0, none⟩), .pointer (some ⟨ba, 0, none⟩)] (fun x : Fin 64 => #[Value.int .i64 (x.val : Int)]) [] 5 (stepsF ps k a) w := by
  intro l J Jx W hW hJ hJx hY h0
  have hcmW := (hW.block bm (lt_of_get hcm)).trans hcm
  have hcaW := (hW.block ba (lt_of_get hca)).trans hca
  have cm := (box_cell hcmW).1
  have ca := (box_cell hcaW).1
  have hbm : bm < W.heap.size := lt_of_get hcmW
  have hba : ba < W.heap.size := lt_of_get hcaW
  have hMW : W.ownsMap Try.prog 2 pairElem M N (lowsD ps k) := by
    have hlt := hown.lt
    obtain ⟨es, clock, hb, F, hs, hD⟩ := hown
    exact ⟨es, clock, (hW.block M hlt).trans hb, F, hs, hD⟩
  have HY := hid hY
  have h1 : 1 ≤ n := by omega
  have cm1 : (W.alloc (.cells #[.func (.yield l) #[] #[]] 95)).cell? ⟨bm, 0, none⟩ = some (.map (some M)) := cell_alloc0 cm _
  have ca1 : (W.alloc (.cells #[.func (.yield l) #[] #[]] 95)).cell? ⟨ba, 0, none⟩ = some (.int .i64 a) := cell_alloc0 ca _
  have hlk := lows_look (w := W.alloc (.cells #[.func (.yield l) #[] #[]] 95)) (hMW.alloc _) hd ha
  clear hY hcmW hcaW hcm hca hown hMW cm ca
  show CallsIn Fence.wide n Try.prog 142 #[.func (.yield l) #[] #[], .pointer (some ⟨bm, 0, none⟩), .pointer (some ⟨ba, 0, none⟩)] W _
  rcases hlk with ⟨i, hi, hia, hio, hrun⟩ | ⟨hz, hrun⟩
  · obtain ⟨f, hf⟩ : ∃ f : Nat, highOf ps k a = f := ⟨(highOf ps k a).toNat, by have := hh a; omega⟩
    have hf64 : f < 64 := by have := hh a; omega
    rw [stepsF_hit, hf, Int.toNat_natCast] at HY ⊢
    rw [hf] at hrun
    clear hi hia hio hf hd hh
    refine callsIn_of_wp_marks Try.func142 rfl trivial ?_ rfl
    simp only [Try.ntmps142, List.size_toArray, List.length_cons, List.length_nil, Nat.reduceAdd, Nat.reduceSub, Array.replicate_succ, Array.replicate_zero, List.push_toArray, List.append_toArray, List.nil_append, List.cons_append]
    gi_wp2_with (first
      | (refine ⟨trivial, ?_⟩; gi_at_call 104; refine (sides_in _ _ _).mono ?_; rintro e w' ⟨rfl, rfl⟩))
    clear hrun cm1 ca1
    have hb1 := heap_alloc_new W (.cells #[.func (.yield l) #[] #[]] 95)
    have hb2 := heap_alloc_new (W.alloc (.cells #[.func (.yield l) #[] #[]] 95)) (.cells #[.int .i64 a, .int .i64 (f : Int)] 79)
    have hb3 := heap_alloc_new ((W.alloc (.cells #[.func (.yield l) #[] #[]] 95)).alloc (.cells #[.int .i64 a, .int .i64 (f : Int)] 79)) (.cells #[.int .i64 (f : Int)] 2)
    rw [World.size_alloc] at hb2
    rw [World.size_alloc, World.size_alloc] at hb3
    have hJ3 := hJ.alloc (.cells #[.int .i64 (f : Int)] 2) (hJ.alloc (.cells #[.int .i64 a, .int .i64 (f : Int)] 79) (hJ.alloc (.cells #[.func (.yield l) #[] #[]] 95) h0))
    refine wpIn_rangeFunc_P rfl h1 (gf := 133) (lb := #[.pointer (some ⟨W.heap.size + 1 + 1, 0, none⟩)]) rfl trivial (enters_of Try.func133 (by kernel_rfl) rfl)
      (sides_P (n - 1) (by omega) (W.heap.size + 1 + 1) f hf64 _ (by simp) hb3) (by simp) (Below.refl _ _) (fun _ => rfl)
      (fun pre W' => J (otherF a pre) W' ∧ W'.heap[W.heap.size]? = some (.cells #[.func (.yield l) #[] #[]] 95 (0, 0)) ∧ W'.heap[W.heap.size + 1]? = some (.cells #[.int .i64 a, .int .i64 (f : Int)] 79 (0, 0)))
      (fun c _ W' => c = .ret ∧ ∃ q, q <+: otherF a (sidesF f) ∧ Jx q W')
      (OwnIn.and ((hJ.map (otherF a)).less (by simp <;> omega) (by simp <;> omega)) (OwnIn.and (ownIn_block (β := List (Fin 64)) (fun _ => _) (by simp <;> omega)) (ownIn_block (β := List (Fin 64)) (fun _ => _) (by simp <;> omega))))
      (fun c s A B row hs hg hr => ⟨hs.1, by obtain ⟨q, hq, hx⟩ := hs.2; exact ⟨q, hq, (hJx.less (by simp <;> omega) (by simp <;> omega)) q A B row hx hg hr⟩⟩)
      ⟨hJ3, ?_, ?_⟩
      (fun x => { tmps := #[.func (.yield l) #[] #[], .pointer (some ⟨bm, 0, none⟩), .pointer (some ⟨ba, 0, none⟩), .pointer (some ⟨W.heap.size, 0, none⟩), .pointer (some ⟨W.heap.size + 1, 0, none⟩), .bool true, .int .i64 (x.val : Int), undef, .tuple #[.agg #[.int .i64 a, .int .i64 (f : Int)], .bool true], .map (some M), .int .i64 a, .tuple #[.agg #[.int .i64 a, .int .i64 (f : Int)], .bool true], .agg #[.int .i64 a, .int .i64 (f : Int)], .bool true, .bool true, .bool false, .pointer (some ⟨W.heap.size + 1, 1, none⟩), .int .i64 (f : Int), .func (.func 133) #[] #[.pointer (some ⟨W.heap.size + 1 + 1, 0, none⟩)], .int .i64 (x.val : Int), undef, undef, undef, undef, undef, undef, undef, undef, undef, undef, undef, undef, undef], defers := [] }) ?assign ?body ?done ?stop
    · exact (Below.heap_alloc _ _ _ (by simp <;> omega)).trans ((Below.heap_alloc _ _ _ (by simp <;> omega)).trans hb1)
    · exact (Below.heap_alloc _ _ _ (by simp <;> omega)).trans hb2
    case assign =>
      intro l' x W3 K hK
      gi_wp2
      exact hK
    case body =>
      rintro l' pre x W3 hpre hsz ⟨hj, hyb, hpb⟩
      simp only [World.size_alloc] at hsz
      have cy := (box_cell hyb).1
      obtain ⟨co0, co1, _, _⟩ := two_of hpb
      have d0 : ∀ o : Obj, (W3.alloc o).cell? ⟨W.heap.size + 1, 0, none⟩ = some (.int .i64 a) := fun o => cell_alloc0 co0 o
      have d1 : ∀ o : Obj, (W3.alloc o).cell? ⟨W.heap.size + 1, 1, none⟩ = some (.int .i64 (f : Int)) := fun o => cell_alloc0 co1 o
      have dy : ∀ o : Obj, (W3.alloc o).cell? ⟨W.heap.size, 0, none⟩ = some (.func (.yield l) #[] #[]) := fun o => cell_alloc0 cy o
      have Heq := eq_pair (x.val : Int) (f : Int) a (f : Int)
      have hff : ((f : Int) == (f : Int)) = true := by simp
      have Hpre := hid (otherF_prefix (a := a) hpre)
      have Hsn := hid (otherF_snoc a pre x)
      have Hyb := hid hyb
      have Hpb := hid hpb
      by_cases hxa : (x.val : Int) = a
      · have e : otherF a (pre ++ [x]) = otherF a pre := by rw [Hsn.out, if_pos hxa]; simp
        have HJ3 := hid hj
        have g1 : ((x.val : Int) == a) = true := by simp [hxa]
        rw [hxa] at Heq
        clear hyb hpb hj hpre
        gi_wp2
        refine ⟨(fun _ h => by cases h), ?_⟩
        gi_wp2
        refine ⟨KeepP.new _ (by simp; omega) (by simp; omega), ?_⟩
        exact ⟨by rw [e]; exact hJ.alloc _ HJ3.out, (Below.heap_alloc _ _ _ (by omega)).trans Hyb.out, (Below.heap_alloc _ _ _ (by omega)).trans Hpb.out⟩
      · have e : otherF a (pre ++ [x]) = otherF a pre ++ [x] := by rw [Hsn.out, if_neg hxa]
        have g1 : ((x.val : Int) == a) = false := by simpa using hxa
        have hys := HY.out (otherF a pre) x (W3.alloc (.cells #[.int .i64 (x.val : Int), .int .i64 (f : Int)] 79)) (by rw [← e]; exact Hpre.out) (by simp; omega) (hJ.alloc _ hj)
        rw [← e] at hys
        clear hyb hpb hj hpre
        obtain ⟨fn, tmps, assign, body, hy, hR⟩ := yieldRound (l0 := l') (yieldAny (n - 1 - 1 - 1) hys)
        have He := hid e
        clear e
        gi_wp2
        refine ⟨fun _ => by omega, hR.mono ?_⟩
        rintro e W4 ⟨hk, (⟨rfl, hj4⟩ | ⟨rfl, hx4⟩)⟩
        · have hpb4 := (hk.same (W.heap.size + 1) (.inr ⟨by omega, by omega⟩)).trans ((Below.heap_alloc _ _ _ (by omega)).trans Hpb.out)
          have hyb4 := (hk.same W.heap.size (.inr ⟨by omega, by omega⟩)).trans ((Below.heap_alloc _ _ _ (by omega)).trans Hyb.out)
          have Hk := hid hk
          have Hpb4 := hid hpb4
          have Hyb4 := hid hyb4
          have HJ4 := hid hj4
          clear hk hpb4 hyb4 hj4
          gi_wp2
          refine ⟨?_, HJ4.out, Hyb4.out, Hpb4.out⟩
          exact (KeepP.new _ (by simp; omega) (by simp; omega)).trans (Hk.out.less (fun b hb => by simp at hb; subst hb; exact .inr ⟨by omega, by omega⟩) (by simp <;> omega) (by simp <;> omega))
        · gi_wp2
          exact ⟨(KeepP.new _ (by simp; omega) (by simp; omega)).trans (hk.less (fun b hb => by simp at hb; subst hb; exact .inr ⟨by omega, by omega⟩) (by simp <;> omega) (by simp <;> omega)), rfl, _, Hpre.out, hx4⟩
    case done =>
      rintro W3 ⟨hj, _, _⟩ hD
      simp only [World.size_alloc] at hD
      gi_wp2
      refine leaves_marks (by simp) [_] _ (by simp) (fun D hD' => by simp only [List.mem_singleton] at hD'; subst hD'; simp only [World.size_alloc]; exact hD) (fun w' hw' => ?_)
      exact ⟨_, results_none rfl _ _ _, ⟨_, rfl⟩, .inl (hJ _ W3 w' (some (W.heap.size + 3)) hj (shut_grown hw' (by simp)) (fun r e => by cases e; exact ⟨by omega, .inl (by omega)⟩))⟩
    case stop =>
      rintro c pre W3 hpre ⟨rfl, q, hq, hx⟩ hD
      simp only [World.size_alloc] at hD
      gi_wp2
      refine leaves_marks (by simp) [_] _ (by simp) (fun D hD' => by simp only [List.mem_singleton] at hD'; subst hD'; simp only [World.size_alloc]; exact hD) (fun w' hw' => ?_)
      exact ⟨_, results_none rfl _ _ _, ⟨_, rfl⟩, .inr ⟨q, hq, hJx _ W3 w' (some (W.heap.size + 3)) hx (shut_grown hw' (by simp)) (fun r e => by cases e; exact ⟨by omega, .inl (by omega)⟩)⟩⟩
  · have hs0 : stepsF ps k a = [] := by unfold stepsF; rw [if_pos hz]
    rw [hs0]
    have hJ2 := hJ.alloc (.cells #[.int .i64 0, .int .i64 0] 79) (hJ.alloc (.cells #[.func (.yield l) #[] #[]] 95) h0)
    refine callsIn_of_wp_marks Try.func142 rfl trivial ?_ rfl
    simp only [Try.ntmps142, List.size_toArray, List.length_cons, List.length_nil, Nat.reduceAdd, Nat.reduceSub, Array.replicate_succ, Array.replicate_zero, List.push_toArray, List.append_toArray, List.nil_append, List.cons_append]
    gi_wp2
    refine leaves_marks (by simp) [] _ (by simp) (by simp) (fun w' hw' => ?_)
    exact ⟨_, results_none rfl _ _ _, ⟨_, rfl⟩, .inl (hJ _ _ w' none hJ2 ⟨hw'.os, hw'.tape, hw'.output, by rw [hw'.size]; exact Nat.le_refl _, fun j _ _ => hw'.block j (by simp)⟩ (fun r e => by cases e))⟩

end Go.Proofs.Ythmhdfhjjpfbfaa
