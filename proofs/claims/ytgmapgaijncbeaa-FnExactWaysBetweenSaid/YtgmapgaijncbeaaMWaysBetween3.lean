import Derived.Deep.RegionHeld3
import Derived.Laws.StructEq
import Derived.Laws.Cover2
import Derived.ArgAppend
import Derived.Deep.LoopGhost
import Derived.Maps.OwnIn
import Derived.Maps.OwnSet
import Derived.RangeFuncNested
import Derived.Scope
import Derived.Test.YtgmapgaijncbeaaMWaysBetween1
import Derived.Test.YtgmapgaijncbeaaMWaysBetween2
/-! The dimension of a complex, the model's and the program's. -/
namespace Go.Proofs.Ytgmapgaijncbeaa
open Go.RowKit

/-- The greater number, as the model has it. -/
def more (m y : Int) : Int := if m < y then y else m

/-- The dimension of a list of faces. -/
def top (fs : List Int) : Int := fs.foldl (fun m x => more m ((ones x.toNat : Int) - 1)) (-1)

theorem top_snoc (pre : List Int) (x : Int) : top (pre ++ [x]) = more (top pre) ((ones x.toNat : Int) - 1) := by simp [top]

theorem top_from (fs : List Int) : ∀ m : Int, -1 ≤ m → m ≤ 5 → -1 ≤ fs.foldl (fun m x => more m ((ones x.toNat : Int) - 1)) m ∧ fs.foldl (fun m x => more m ((ones x.toNat : Int) - 1)) m ≤ 5 ∧ m ≤ fs.foldl (fun m x => more m ((ones x.toNat : Int) - 1)) m ∧ ∀ x ∈ fs, (ones x.toNat : Int) - 1 ≤ fs.foldl (fun m x => more m ((ones x.toNat : Int) - 1)) m := by
  induction fs with
  | nil => intro m h0 h1; exact ⟨h0, h1, Int.le_refl _, by simp⟩
  | cons x fs ih =>
    intro m h0 h1
    have ho := ones_le x.toNat
    have hm : -1 ≤ more m ((ones x.toNat : Int) - 1) ∧ more m ((ones x.toNat : Int) - 1) ≤ 5 ∧ m ≤ more m ((ones x.toNat : Int) - 1) ∧ (ones x.toNat : Int) - 1 ≤ more m ((ones x.toNat : Int) - 1) := by
      unfold more
      split <;> omega
    obtain ⟨a1, a2, a3, a4⟩ := ih _ hm.1 hm.2.1
    simp only [List.foldl_cons]
    refine ⟨a1, a2, by omega, ?_⟩
    intro y hy
    rcases List.mem_cons.1 hy with rfl | hy
    · omega
    · exact a4 y hy

theorem top_lo (fs : List Int) : -1 ≤ top fs := (top_from fs (-1) (by omega) (by omega)).1
theorem top_hi (fs : List Int) : top fs ≤ 5 := (top_from fs (-1) (by omega) (by omega)).2.1
theorem top_ge (fs : List Int) {x : Int} (hx : x ∈ fs) : (ones x.toNat : Int) - 1 ≤ top fs := (top_from fs (-1) (by omega) (by omega)).2.2.2 x hx

theorem cell_alloc0 {W : World} {p : Addr} {v : Value} (h : W.cell? p = some v) (o : Obj) : (W.alloc o).cell? p = some v :=
  (World.cell?_alloc_some W p o (show (W.cell? p).isSome = true by rw [h]; rfl)).trans h


set_option maxHeartbeats 1000000 in
theorem dimI_any (V : Int) (a0 : Option Addr) (cap : Nat) (fs : List Int) (w : World) (hx : SlI w w.heap.size a0 fs) (hl : fs.length ≤ 1048576) (hf : ∀ x ∈ fs, 1 ≤ x ∧ x ≤ 63) :
    Calls Try.prog 115 #[.agg #[.int .i64 V, .slice a0 fs.length cap]] w fun e w' => e = .returned (.int .i64 (top fs)) ∧ Below w.heap.size w w' := by
  have hB0 : Below w.heap.size w (w.alloc (.cells #[.int .i64 V, .slice a0 fs.length cap] 30)) := (Below.refl _ w).alloc (Nat.le_refl _) _
  have Hx0 := hid hx
  have Hf := hid hf
  clear hx hf
  go_enter Try.func115, Try.ntmps115
  go_wp2
  go_loopw [3, 9] (fun m i wr => ∃ k : Nat, k ≤ fs.length ∧ i = .int .i64 k ∧ m = .int .i64 (top (fs.take k)) ∧ wr = w.alloc (.cells #[.int .i64 V, .slice a0 fs.length cap] 30)) (fun _ i _ => fs.length - (intOf i).toNat)
  case atStart => exact ⟨0, Nat.zero_le _, rfl, by simp [top], rfl⟩
  case round =>
    obtain ⟨k, hk, rfl, rfl, rfl⟩ := hrel
    by_cases hlt : k < fs.length
    · obtain ⟨b, off, hb, rfl, hc⟩ : ∃ b off, b < w.heap.size ∧ a0 = some ⟨b, off, none⟩ ∧ ∀ i, i < fs.length → w.cell? ⟨b, off + i, none⟩ = some (.int .i64 (fs[i]?.getD 0)) := by
        rcases Hx0.out with rfl | h
        · simp at hlt
        · exact h
      obtain ⟨x, hx⟩ : ∃ x : Nat, (x : Int) = fs[k]?.getD 0 := ⟨(fs[k]?.getD 0).toNat, by have := Hf.out _ (getD_mem hlt); omega⟩
      have hx64 : x < 64 := by have := Hf.out _ (getD_mem hlt); omega
      have hck : ∀ o, (w.alloc o).cell? ⟨b, off + k, none⟩ = some (.int .i64 (x : Int)) := cell_alloc0 (by rw [hx]; exact hc k hlt)
      have hi0 : (0 : Int) ≤ (k : Int) := by omega
      have hi1 : (k : Int) < (fs.length : Int) := by omega
      have Ht : Hid (top (fs.take (k + 1)) = more (top (fs.take k)) ((ones x : Int) - 1)) := hid (by rw [take_snoc hlt, ← hx, top_snoc]; simp)
      have ht0 := top_lo (fs.take k)
      have ht1 := top_hi (fs.take k)
      obtain ⟨t, htt⟩ : ∃ t, t = top (fs.take k) := ⟨_, rfl⟩
      rw [← htt] at Ht ht0 ht1 ⊢
      have ho := ones_le x
      clear hx hc htt
      by_cases hm : t < (ones x : Int) - 1
      · have hmm : more t ((ones x : Int) - 1) = (ones x : Int) - 1 := by unfold more; rw [if_pos hm]
        rw [hmm] at Ht
        clear hmm
        go_wp2_with (go_at_call 66; refine (dim_any x _ hx64).mono ?_; rintro e w' ⟨rfl, rfl⟩)
        go_roundw
        case rel => exact ⟨k + 1, by omega, by go_num, by first | (rw [Ht.out]; done) | (rw [Ht.out]; congr 1; omega), trivial⟩
        case measure => simp [intOf]; omega
      · have hmm : more t ((ones x : Int) - 1) = t := by unfold more; rw [if_neg hm]
        rw [hmm] at Ht
        have hm' : (ones x : Int) - 1 ≤ t := by omega
        clear hmm
        go_wp2_with (go_at_call 66; refine (dim_any x _ hx64).mono ?_; rintro e w' ⟨rfl, rfl⟩)
        go_roundw
        case rel => exact ⟨k + 1, by omega, by go_num, by first | (rw [Ht.out]; done) | (rw [Ht.out]; congr 1; omega), trivial⟩
        case measure => simp [intOf]; omega
    · go_wp2
      go_ret
      obtain rfl : k = fs.length := by omega
      exact ⟨ret_int (by rw [List.take_of_length_le (Nat.le_refl _)]), hB0⟩

end Go.Proofs.Ytgmapgaijncbeaa

/-! stepsFrom: the steps from a face as an iterator. -/
namespace Go.Proofs.Ytgmapgaijncbeaa
open Go.RowKit Go.Shelf

attribute [local go_sem] Oper.semAt_some

/-- The sides that a step leads to: all but the face itself. -/
def otherF (a : Int) (l : List (Fin 64)) : List (Fin 64) := l.filter fun x => decide ((x.val : Int) ≠ a)
def stepsF (ps : List Int) (n : Nat) (a : Int) : List (Fin 64) := if highOf ps n a = 0 then [] else otherF a (sidesF (highOf ps n a).toNat)
theorem otherF_snoc (a : Int) (l : List (Fin 64)) (x : Fin 64) : otherF a (l ++ [x]) = otherF a l ++ (if (x.val : Int) = a then [] else [x]) := by
  unfold otherF
  rw [List.filter_append]
  by_cases h : (x.val : Int) = a <;> simp [h]
theorem otherF_prefix {a : Int} {l l' : List (Fin 64)} (h : l <+: l') : otherF a l <+: otherF a l' := by
  obtain ⟨t, rfl⟩ := h
  unfold otherF
  rw [List.filter_append]
  exact List.prefix_append _ _

set_option maxHeartbeats 1000000 in
/-- stepsFrom: its arguments are boxed; the function value captures the boxes. -/
theorem stepsFrom_in (n : Nat) (M : Nat) (a : Int) (w : World) :
    CallsIn Fence.wide n Try.prog 61 #[.map (some M), .int .i64 a] w fun e w' => e = .returned (.func (.func 101) #[] #[.pointer (some ⟨w.heap.size, 0, none⟩), .pointer (some ⟨w.heap.size + 1, 0, none⟩)]) ∧ w' = (w.alloc (  .cells #[.map (some M)] 69)).alloc (.cells #[.int .i64 a] 2) := by
  refine callsIn_of_wp Try.func61 rfl trivial ?_ rfl
  simp only [Try.ntmps61, List.size_toArray, List.length_cons, List.length_nil, Nat.reduceAdd, Nat.reduceSub, Array.replicate_succ, Array.replicate_zero, List.push_toArray, List.append_toArray, List.nil_append, List.cons_append]
  gi_wp2
  go_ret
  exact ⟨rfl, rfl⟩

/-- Two pairs are compared number by number. -/
theorem eq_pair (x y x' y' : Int) (w : World) : (Op.equalIn 10000 56 (.agg #[.int .i64 x, .int .i64 y]) (.agg #[.int .i64 x', .int .i64 y'])).run Try.prog w = .ok (x == x' && y == y') w := by
  have hu := Try.underlying2
  have hi := Try.isAgg2
  have hs := Try.sizeOf2
  rw [show (10000 : Nat) = 9999 + 1 from rfl, Op.equalIn]
  simp only [Sem.run_bind, run_underlying Try.underlying56, Result.andThen_ok]
  simp only [Std.Legacy.Range.forIn_eq_forIn_range', Std.Legacy.Range.size, Nat.sub_zero, Nat.add_sub_cancel, Nat.div_one, List.range'_succ, List.range'_zero, List.forIn_cons, List.forIn_nil]
  go_simp
  by_cases e1 : x = x' <;> by_cases e2 : y = y' <;> simp [e1, e2]

theorem KeepP.new {Bs : List Nat} {lo k : Nat} {W : World} (o : Obj) (hB : ∀ b ∈ Bs, b < W.heap.size) (hk : lo + k ≤ W.heap.size) : KeepP Bs lo k W (W.alloc o) :=
  ⟨by simp, fun r hr => Below.heap_alloc _ _ _ (by rcases hr with h | h; exact hB r h; omega)⟩
theorem stepsF_hit (ps : List Int) (n : Nat) (a : Int) : stepsF ps n a = otherF a (sidesF (highOf ps n a).toNat) := by
  unfold stepsF
  split
  · rename_i h
    rw [h]
    have : sidesF (0 : Int).toNat = [] := by decide
    rw [this]
    rfl
  · rfl

set_option maxRecDepth 100000 in
set_option maxHeartbeats 2000000 in
/-- Its iterator. -/
theorem steps_P (n : Nat) (hn : 4 ≤ n) (bm ba M N k : Nat) (ps : List Int) (a : Int) (w : World)
    (hcm : w.heap[bm]? = some (.cells #[.map (some M)] 69 (0, 0))) (hca : w.heap[ba]? = some (.cells #[.int .i64 a] 2 (0, 0)))
    (hown : w.ownsMap Try.prog 2 pairElem M N (lowsD ps k)) (hd : LowsApart ps k) (hh : HighsB ps k) (ha : (Lit.int .i64 a).wf = true) :
    SeqStopsP Fence.wide n Try.prog 101 #[.pointer (some ⟨bm, 0, none⟩), .pointer (some ⟨ba, 0, none⟩)] (fun x : Fin 64 => #[Value.int .i64 (x.val : Int)]) [] 5 (stepsF ps k a) w := by
  intro l J Jx W hW hJ hJx hY h0
  have hcmW := (hW.block bm (lt_of_get hcm)).trans hcm
  have hcaW := (hW.block ba (lt_of_get hca)).trans hca
  have cm := (box_cell hcmW).1
  have ca := (box_cell hcaW).1
  have hbm : bm < W.heap.size := lt_of_get hcmW
  have hba : ba < W.heap.size := lt_of_get hcaW
  have hMW : W.ownsMap Try.prog 2 pairElem M N (lowsD ps k) := by
    have hlt := hown.lt
    obtain ⟨es, clock, hb, F, hs, hD⟩ := hown
    exact ⟨es, clock, (hW.block M hlt).trans hb, F, hs, hD⟩
  have HY := hid hY
  have h1 : 1 ≤ n := by omega
  have cm1 : (W.alloc (.cells #[.func (.yield l) #[] #[]] 112)).cell? ⟨bm, 0, none⟩ = some (.map (some M)) := cell_alloc0 cm _
  have ca1 : (W.alloc (.cells #[.func (.yield l) #[] #[]] 112)).cell? ⟨ba, 0, none⟩ = some (.int .i64 a) := cell_alloc0 ca _
  have hlk := lows_look (w := W.alloc (.cells #[.func (.yield l) #[] #[]] 112)) (hMW.alloc _) hd ha
  clear hY hcmW hcaW hcm hca hown hMW cm ca
  show CallsIn Fence.wide n Try.prog 101 #[.func (.yield l) #[] #[], .pointer (some ⟨bm, 0, none⟩), .pointer (some ⟨ba, 0, none⟩)] W _
  rcases hlk with ⟨i, hi, hia, hio, hrun⟩ | ⟨hz, hrun⟩
  · obtain ⟨f, hf⟩ : ∃ f : Nat, highOf ps k a = f := ⟨(highOf ps k a).toNat, by have := hh a; omega⟩
    have hf64 : f < 64 := by have := hh a; omega
    rw [stepsF_hit, hf, Int.toNat_natCast] at HY ⊢
    rw [hf] at hrun
    clear hi hia hio hf hd hh
    refine callsIn_of_wp_marks Try.func101 rfl trivial ?_ rfl
    simp only [Try.ntmps101, List.size_toArray, List.length_cons, List.length_nil, Nat.reduceAdd, Nat.reduceSub, Array.replicate_succ, Array.replicate_zero, List.push_toArray, List.append_toArray, List.nil_append, List.cons_append]
    gi_wp2_with (first
      | (refine ⟨trivial, ?_⟩; gi_at_call 102; refine (sides_in _ _ _).mono ?_; rintro e w' ⟨rfl, rfl⟩))
    clear hrun cm1 ca1
    have hb1 := heap_alloc_new W (.cells #[.func (.yield l) #[] #[]] 112)
    have hb2 := heap_alloc_new (W.alloc (.cells #[.func (.yield l) #[] #[]] 112)) (.cells #[.int .i64 a, .int .i64 (f : Int)] 56)
    have hb3 := heap_alloc_new ((W.alloc (.cells #[.func (.yield l) #[] #[]] 112)).alloc (.cells #[.int .i64 a, .int .i64 (f : Int)] 56)) (.cells #[.int .i64 (f : Int)] 2)
    rw [World.size_alloc] at hb2
    rw [World.size_alloc, World.size_alloc] at hb3
    have hJ3 := hJ.alloc (.cells #[.int .i64 (f : Int)] 2) (hJ.alloc (.cells #[.int .i64 a, .int .i64 (f : Int)] 56) (hJ.alloc (.cells #[.func (.yield l) #[] #[]] 112) h0))
    refine wpIn_rangeFunc_P rfl h1 (gf := 146) (lb := #[.pointer (some ⟨W.heap.size + 1 + 1, 0, none⟩)]) rfl trivial (enters_of Try.func146 (by kernel_rfl) rfl)
      (sides_P (n - 1) (by omega) (W.heap.size + 1 + 1) f hf64 _ (by simp) hb3) (by simp) (Below.refl _ _) (fun _ => rfl)
      (fun pre W' => J (otherF a pre) W' ∧ W'.heap[W.heap.size]? = some (.cells #[.func (.yield l) #[] #[]] 112 (0, 0)) ∧ W'.heap[W.heap.size + 1]? = some (.cells #[.int .i64 a, .int .i64 (f : Int)] 56 (0, 0)))
      (fun c _ W' => c = .ret ∧ ∃ q, q <+: otherF a (sidesF f) ∧ Jx q W')
      (OwnIn.and ((hJ.map (otherF a)).less (by simp <;> omega) (by simp <;> omega)) (OwnIn.and (ownIn_block (β := List (Fin 64)) (fun _ => _) (by simp <;> omega)) (ownIn_block (β := List (Fin 64)) (fun _ => _) (by simp <;> omega))))
      (fun c s A B row hs hg hr => ⟨hs.1, by obtain ⟨q, hq, hx⟩ := hs.2; exact ⟨q, hq, (hJx.less (by simp <;> omega) (by simp <;> omega)) q A B row hx hg hr⟩⟩)
      ⟨hJ3, ?_, ?_⟩
      (fun x => { tmps := #[.func (.yield l) #[] #[], .pointer (some ⟨bm, 0, none⟩), .pointer (some ⟨ba, 0, none⟩), .pointer (some ⟨W.heap.size, 0, none⟩), .pointer (some ⟨W.heap.size + 1, 0, none⟩), .bool true, .int .i64 (x.val : Int), undef, .tuple #[.agg #[.int .i64 a, .int .i64 (f : Int)], .bool true], .map (some M), .int .i64 a, .tuple #[.agg #[.int .i64 a, .int .i64 (f : Int)], .bool true], .agg #[.int .i64 a, .int .i64 (f : Int)], .bool true, .bool true, .bool false, .pointer (some ⟨W.heap.size + 1, 1, none⟩), .int .i64 (f : Int), .func (.func 146) #[] #[.pointer (some ⟨W.heap.size + 1 + 1, 0, none⟩)], .int .i64 (x.val : Int), undef, undef, undef, undef, undef, undef, undef, undef, undef, undef, undef, undef, undef], defers := [] }) ?assign ?body ?done ?stop
    · exact (Below.heap_alloc _ _ _ (by simp <;> omega)).trans ((Below.heap_alloc _ _ _ (by simp <;> omega)).trans hb1)
    · exact (Below.heap_alloc _ _ _ (by simp <;> omega)).trans hb2
    case assign =>
      intro l' x W3 K hK
      gi_wp2
      exact hK
    case body =>
      rintro l' pre x W3 hpre hsz ⟨hj, hyb, hpb⟩
      simp only [World.size_alloc] at hsz
      have cy := (box_cell hyb).1
      obtain ⟨co0, co1, _, _⟩ := two_of hpb
      have d0 : ∀ o : Obj, (W3.alloc o).cell? ⟨W.heap.size + 1, 0, none⟩ = some (.int .i64 a) := fun o => cell_alloc0 co0 o
      have d1 : ∀ o : Obj, (W3.alloc o).cell? ⟨W.heap.size + 1, 1, none⟩ = some (.int .i64 (f : Int)) := fun o => cell_alloc0 co1 o
      have dy : ∀ o : Obj, (W3.alloc o).cell? ⟨W.heap.size, 0, none⟩ = some (.func (.yield l) #[] #[]) := fun o => cell_alloc0 cy o
      have Heq := eq_pair (x.val : Int) (f : Int) a (f : Int)
      have hff : ((f : Int) == (f : Int)) = true := by simp
      have Hpre := hid (otherF_prefix (a := a) hpre)
      have Hsn := hid (otherF_snoc a pre x)
      have Hyb := hid hyb
      have Hpb := hid hpb
      by_cases hxa : (x.val : Int) = a
      · have e : otherF a (pre ++ [x]) = otherF a pre := by rw [Hsn.out, if_pos hxa]; simp
        have HJ3 := hid hj
        have g1 : ((x.val : Int) == a) = true := by simp [hxa]
        rw [hxa] at Heq
        clear hyb hpb hj hpre
        gi_wp2
        refine ⟨(fun _ h => by cases h), ?_⟩
        gi_wp2
        refine ⟨KeepP.new _ (by simp; omega) (by simp; omega), ?_⟩
        exact ⟨by rw [e]; exact hJ.alloc _ HJ3.out, (Below.heap_alloc _ _ _ (by omega)).trans Hyb.out, (Below.heap_alloc _ _ _ (by omega)).trans Hpb.out⟩
      · have e : otherF a (pre ++ [x]) = otherF a pre ++ [x] := by rw [Hsn.out, if_neg hxa]
        have g1 : ((x.val : Int) == a) = false := by simpa using hxa
        have hys := HY.out (otherF a pre) x (W3.alloc (.cells #[.int .i64 (x.val : Int), .int .i64 (f : Int)] 56)) (by rw [← e]; exact Hpre.out) (by simp; omega) (hJ.alloc _ hj)
        rw [← e] at hys
        clear hyb hpb hj hpre
        obtain ⟨fn, tmps, assign, body, hy, hR⟩ := yieldRound (l0 := l') (yieldAny (n - 1 - 1 - 1) hys)
        have He := hid e
        clear e
        gi_wp2
        refine ⟨fun _ => by omega, hR.mono ?_⟩
        rintro e W4 ⟨hk, (⟨rfl, hj4⟩ | ⟨rfl, hx4⟩)⟩
        · have hpb4 := (hk.same (W.heap.size + 1) (.inr ⟨by omega, by omega⟩)).trans ((Below.heap_alloc _ _ _ (by omega)).trans Hpb.out)
          have hyb4 := (hk.same W.heap.size (.inr ⟨by omega, by omega⟩)).trans ((Below.heap_alloc _ _ _ (by omega)).trans Hyb.out)
          have Hk := hid hk
          have Hpb4 := hid hpb4
          have Hyb4 := hid hyb4
          have HJ4 := hid hj4
          clear hk hpb4 hyb4 hj4
          gi_wp2
          refine ⟨?_, HJ4.out, Hyb4.out, Hpb4.out⟩
          exact (KeepP.new _ (by simp; omega) (by simp; omega)).trans (Hk.out.less (fun b hb => by simp at hb; subst hb; exact .inr ⟨by omega, by omega⟩) (by simp <;> omega) (by simp <;> omega))
        · gi_wp2
          exact ⟨(KeepP.new _ (by simp; omega) (by simp; omega)).trans (hk.less (fun b hb => by simp at hb; subst hb; exact .inr ⟨by omega, by omega⟩) (by simp <;> omega) (by simp <;> omega)), rfl, _, Hpre.out, hx4⟩
    case done =>
      rintro W3 ⟨hj, _, _⟩ hD
      simp only [World.size_alloc] at hD
      gi_wp2
      refine leaves_marks (by simp) [_] _ (by simp) (fun D hD' => by simp only [List.mem_singleton] at hD'; subst hD'; simp only [World.size_alloc]; exact hD) (fun w' hw' => ?_)
      exact ⟨_, results_none rfl _ _ _, ⟨_, rfl⟩, .inl (hJ _ W3 w' (some (W.heap.size + 3)) hj (shut_grown hw' (by simp)) (fun r e => by cases e; exact ⟨by omega, .inl (by omega)⟩))⟩
    case stop =>
      rintro c pre W3 hpre ⟨rfl, q, hq, hx⟩ hD
      simp only [World.size_alloc] at hD
      gi_wp2
      refine leaves_marks (by simp) [_] _ (by simp) (fun D hD' => by simp only [List.mem_singleton] at hD'; subst hD'; simp only [World.size_alloc]; exact hD) (fun w' hw' => ?_)
      exact ⟨_, results_none rfl _ _ _, ⟨_, rfl⟩, .inr ⟨q, hq, hJx _ W3 w' (some (W.heap.size + 3)) hx (shut_grown hw' (by simp)) (fun r e => by cases e; exact ⟨by omega, .inl (by omega)⟩)⟩⟩
  · have hs0 : stepsF ps k a = [] := by unfold stepsF; rw [if_pos hz]
    rw [hs0]
    have hJ2 := hJ.alloc (.cells #[.int .i64 0, .int .i64 0] 56) (hJ.alloc (.cells #[.func (.yield l) #[] #[]] 112) h0)
    refine callsIn_of_wp_marks Try.func101 rfl trivial ?_ rfl
    simp only [Try.ntmps101, List.size_toArray, List.length_cons, List.length_nil, Nat.reduceAdd, Nat.reduceSub, Array.replicate_succ, Array.replicate_zero, List.push_toArray, List.append_toArray, List.nil_append, List.cons_append]
    gi_wp2
    refine leaves_marks (by simp) [] _ (by simp) (by simp) (fun w' hw' => ?_)
    exact ⟨_, results_none rfl _ _ _, ⟨_, rfl⟩, .inl (hJ _ _ w' none hJ2 ⟨hw'.os, hw'.tape, hw'.output, by rw [hw'.size]; exact Nat.le_refl _, fun j _ _ => hw'.block j (by simp)⟩ (fun r e => by cases e))⟩

end Go.Proofs.Ytgmapgaijncbeaa

/-! The program's search, the mathematics: a queue, and what has been met. -/
namespace Go.Proofs.Ytgmapgaijncbeaa
open Go.RowKit

/-- A number comes up: if it is new, it is met and waits. -/
def visit (s : List Int × List Int) (y : Int) : List Int × List Int := if y ∈ s.1 then s else (s.1 ++ [y], s.2 ++ [y])
def visits (s : List Int × List Int) (l : List (Fin 64)) : List Int × List Int := l.foldl (fun s x => visit s (x.val : Int)) s
theorem visits_snoc (s : List Int × List Int) (l : List (Fin 64)) (x : Fin 64) : visits s (l ++ [x]) = visit (visits s l) (x.val : Int) := by simp [visits]

/-- How many numbers below 64 have not been met. -/
def unmet (met : List Int) : Nat := (List.range 64).countP fun i : Nat => decide ((i : Int) ∉ met)
theorem countP_lt {l : List Nat} {p q : Nat → Bool} (h : ∀ x ∈ l, q x = true → p x = true) {y : Nat} (hy : y ∈ l) (hp : p y = true) (hq : q y = false) : l.countP q < l.countP p := by
  induction l with
  | nil => simp at hy
  | cons x l ih =>
    have hle : l.countP q ≤ l.countP p := List.countP_mono_left (fun z hz hqz => h z (List.mem_cons_of_mem _ hz) hqz)
    rw [List.countP_cons, List.countP_cons]
    by_cases e : y = x
    · subst e
      rw [hp, hq]
      simp
      omega
    · have hyl : y ∈ l := by
        rcases List.mem_cons.1 hy with h1 | h1
        · exact absurd h1 e
        · exact h1
      have := ih (fun z hz => h z (List.mem_cons_of_mem _ hz)) hyl
      by_cases hqx : q x = true
      · rw [hqx, h x (by simp) hqx]; omega
      · have hqx' : q x = false := by simpa using hqx
        rw [hqx']
        simp
        omega
theorem unmet_le (met : List Int) : unmet met ≤ 64 := by unfold unmet; exact Nat.le_trans List.countP_le_length (by simp)
theorem unmet_snoc {met : List Int} {y : Int} (h0 : 0 ≤ y) (h64 : y < 64) (hn : y ∉ met) : unmet (met ++ [y]) < unmet met := by
  unfold unmet
  refine countP_lt (y := y.toNat) (fun x _ hx => ?_) (by simp; omega) ?_ ?_
  · simp at hx ⊢
    exact hx.1
  · rw [show ((y.toNat : Nat) : Int) = y by omega]; simpa using hn
  · rw [show ((y.toNat : Nat) : Int) = y by omega]; simp

/-- The search's state. -/
structure Bfs (ps : List Int) (n : Nat) (a : Int) (met qs : List Int) : Prop where
  start : a ∈ met
  way : ∀ x ∈ met, x = a ∨ Way ps n a x
  sub : ∀ x ∈ qs, x ∈ met
  clos : ∀ x ∈ met, x ∈ qs ∨ ∀ y ∈ nextL ps n x, y ∈ met
  small : met.length + unmet met ≤ 65
  few : 2 * unmet met + qs.length ≤ 129
theorem Bfs.begin (ps : List Int) (n : Nat) (a : Int) : Bfs ps n a [a] [a] :=
  ⟨by simp, fun x hx => .inl (by simpa using hx), fun x hx => hx, fun x hx => .inl hx, by have := unmet_le [a]; simp; omega, by have := unmet_le [a]; simp; omega⟩

theorem visits_spec : ∀ (l : List (Fin 64)) (met qs : List Int), (∀ x ∈ qs, x ∈ met) →
    (∀ z, z ∈ (visits (met, qs) l).1 ↔ z ∈ met ∨ ∃ y ∈ l, z = (y.val : Int)) ∧ (∀ z ∈ (visits (met, qs) l).2, z ∈ (visits (met, qs) l).1) ∧ (∀ z ∈ (visits (met, qs) l).1, z ∈ met ∨ z ∈ (visits (met, qs) l).2) ∧ (∀ z ∈ qs, z ∈ (visits (met, qs) l).2) ∧
      2 * unmet (visits (met, qs) l).1 + (visits (met, qs) l).2.length ≤ 2 * unmet met + qs.length ∧ (visits (met, qs) l).1.length + unmet (visits (met, qs) l).1 ≤ met.length + unmet met
  | [], met, qs, hsub => ⟨fun z => by simp [visits], hsub, fun z hz => .inl hz, fun z hz => hz, Nat.le_refl _, Nat.le_refl _⟩
  | y :: l, met, qs, hsub => by
    have hv : visits (met, qs) (y :: l) = visits (visit (met, qs) (y.val : Int)) l := rfl
    rw [hv]
    by_cases hm : (y.val : Int) ∈ met
    · have e : visit (met, qs) (y.val : Int) = (met, qs) := by unfold visit; rw [if_pos hm]
      rw [e]
      obtain ⟨h1, h2, h3, h4, h5, h6⟩ := visits_spec l met qs hsub
      refine ⟨fun z => ?_, h2, h3, h4, h5, h6⟩
      rw [h1 z]
      constructor
      · rintro (h | ⟨u, hu, ez⟩)
        · exact .inl h
        · exact .inr ⟨u, List.mem_cons_of_mem _ hu, ez⟩
      · rintro (h | ⟨u, hu, ez⟩)
        · exact .inl h
        · rcases List.mem_cons.1 hu with rfl | hu
          · exact .inl (by rw [ez]; exact hm)
          · exact .inr ⟨u, hu, ez⟩
    · have e : visit (met, qs) (y.val : Int) = (met ++ [(y.val : Int)], qs ++ [(y.val : Int)]) := by unfold visit; rw [if_neg hm]
      rw [e]
      have hsub' : ∀ x ∈ qs ++ [(y.val : Int)], x ∈ met ++ [(y.val : Int)] := fun x hx => by
        rcases List.mem_append.1 hx with h | h
        · exact List.mem_append_left _ (hsub x h)
        · exact List.mem_append_right _ h
      obtain ⟨h1, h2, h3, h4, h5, h6⟩ := visits_spec l _ _ hsub'
      have hu := unmet_snoc (met := met) (y := (y.val : Int)) (by omega) (by have := y.isLt; omega) hm
      refine ⟨fun z => ?_, h2, fun z hz => ?_, fun z hz => h4 z (List.mem_append_left _ hz), ?_, ?_⟩
      · rw [h1 z]
        constructor
        · rintro (h | ⟨u, hu, ez⟩)
          · rcases List.mem_append.1 h with h | h
            · exact .inl h
            · exact .inr ⟨y, by simp, by simpa using h⟩
          · exact .inr ⟨u, List.mem_cons_of_mem _ hu, ez⟩
        · rintro (h | ⟨u, hu, ez⟩)
          · exact .inl (List.mem_append_left _ h)
          · rcases List.mem_cons.1 hu with rfl | hu
            · exact .inl (by rw [ez]; simp)
            · exact .inr ⟨u, hu, ez⟩
      · rcases h3 z hz with h | h
        · rcases List.mem_append.1 h with h | h
          · exact .inl h
          · exact .inr (h4 z (List.mem_append_right _ h))
        · exact .inr h
      · simp at h5; omega
      · simp at h6; omega

theorem sides_below : ∀ f : Fin 64, (sidesF f.val).map (fun x => (x.val : Int)) = (belowR f.val 63).reverse := by decide +kernel
theorem mem_stepsF {ps : List Int} {n : Nat} (hh : HighsB ps n) (a z : Int) : (∃ y ∈ stepsF ps n a, z = (y.val : Int)) ↔ z ∈ nextL ps n a := by
  unfold stepsF nextL
  split
  · simp
  · have h := hh a
    have e := sides_below ⟨(highOf ps n a).toNat, by omega⟩
    simp only at e
    have hz : ∀ z : Int, z ∈ belowR (highOf ps n a).toNat 63 ↔ ∃ y ∈ sidesF (highOf ps n a).toNat, (y.val : Int) = z := fun z => by
      rw [← List.mem_reverse, ← e, List.mem_map]
    unfold otherF
    simp only [List.mem_filter, hz, decide_eq_true_eq]
    constructor
    · rintro ⟨y, ⟨h1, h2⟩, rfl⟩
      exact ⟨⟨y, h1, rfl⟩, h2⟩
    · rintro ⟨⟨y, h1, rfl⟩, h2⟩
      exact ⟨y, ⟨h1, h2⟩, rfl⟩

/-- A round: the first that waits is gone through. -/
theorem Bfs.round {ps : List Int} {n : Nat} (hh : HighsB ps n) {a x : Int} {met qs : List Int} (h : Bfs ps n a met (x :: qs)) : Bfs ps n a (visits (met, qs) (stepsF ps n x)).1 (visits (met, qs) (stepsF ps n x)).2 := by
  have hxm := h.sub x (by simp)
  obtain ⟨h1, h2, h3, h4, h5, h6⟩ := visits_spec (stepsF ps n x) met qs (fun z hz => h.sub z (List.mem_cons_of_mem _ hz))
  refine ⟨(h1 a).2 (.inl h.start), fun z hz => ?_, h2, fun z hz => ?_, Nat.le_trans h6 h.small, ?_⟩
  · rcases (h1 z).1 hz with hz | hz
    · exact h.way z hz
    · have hn := (mem_stepsF hh x z).1 hz
      rcases h.way x hxm with rfl | hw
      · exact .inr (.one hn)
      · exact .inr (.more hw hn)
  · rcases h3 z hz with hz | hz
    · rcases h.clos z hz with hq | hc
      · rcases List.mem_cons.1 hq with rfl | hq
        · exact .inr (fun y hy => (h1 y).2 (.inr ((mem_stepsF hh z y).2 hy)))
        · exact .inl (h4 z hq)
      · exact .inr (fun y hy => (h1 y).2 (.inl (hc y hy)))
    · exact .inl hz
  · have := h.few
    simp at this
    omega
theorem Bfs.less {ps : List Int} {n : Nat} {a x : Int} {met qs : List Int} (h : Bfs ps n a met (x :: qs)) : 2 * unmet (visits (met, qs) (stepsF ps n x)).1 + (visits (met, qs) (stepsF ps n x)).2.length < 2 * unmet met + (x :: qs).length := by
  obtain ⟨_, _, _, _, h5, _⟩ := visits_spec (stepsF ps n x) met qs (fun z hz => h.sub z (List.mem_cons_of_mem _ hz))
  simp
  omega
/-- Nothing waits: what has been met is what is reached. -/
theorem Bfs.done {ps : List Int} {n : Nat} {a : Int} {met : List Int} (h : Bfs ps n a met []) (z : Int) : z ∈ met ↔ z = a ∨ Way ps n a z := by
  have hc : ∀ x ∈ met, ∀ y ∈ nextL ps n x, y ∈ met := fun x hx => (h.clos x hx).resolve_left (by simp)
  constructor
  · exact h.way z
  · rintro (rfl | hw)
    · exact h.start
    · induction hw with
      | one h1 => exact hc a h.start _ h1
      | more _ h2 ih => exact hc _ ih _ h2

end Go.Proofs.Ytgmapgaijncbeaa

/-! settledPairs, the mathematics: pairs that settle one behind the other. -/
namespace Go.Proofs.Ytgmapgaijncbeaa
open Go.RowKit

/-- A step leads from the low face of pair i to that of pair j. -/
def StepP (ps : List Int) (n i j : Nat) : Prop := at0 ps (j * 2) ∈ nextL ps n (at0 ps (i * 2))
/-- Each pair of the list has all pairs to which its steps lead ahead of it. -/
def Ordered (ps : List Int) (n : Nat) (L : List Nat) : Prop := ∀ pre i post, L = pre ++ i :: post → ∀ j, j < n → StepP ps n i j → j ∈ pre
theorem Ordered.nil (ps : List Int) (n : Nat) : Ordered ps n [] := fun pre i post h => by
  have := congrArg List.length h
  simp at this
theorem Ordered.snoc {ps : List Int} {n : Nat} {L : List Nat} (h : Ordered ps n L) {i : Nat} (hi : ∀ j, j < n → StepP ps n i j → j ∈ L) : Ordered ps n (L ++ [i]) := by
  intro pre k post he j hj hs
  rcases List.eq_nil_or_concat post with hp | ⟨post', z, hp⟩
  · subst hp
    have h1 := List.append_inj' he rfl
    have h2 : i = k := by simpa using h1.2
    rw [← h1.1]
    exact hi j hj (by rw [h2]; exact hs)
  · rw [List.concat_eq_append] at hp
    subst hp
    have he' : L ++ [i] = (pre ++ k :: post') ++ [z] := by rw [he]; simp
    have h1 := List.append_inj' he' rfl
    exact h pre k post' h1.1 j hj hs

/-- A number that has steps is the low face of a pair. -/
theorem next_low {ps : List Int} {n : Nat} {x y : Int} (h : y ∈ nextL ps n x) : ∃ i, i < n ∧ at0 ps (i * 2) = x := by
  refine Classical.byContradiction fun hn => ?_
  have : highOf ps n x = 0 := highOf_none (fun i hi e => hn ⟨i, hi, e⟩)
  unfold nextL at h
  rw [if_pos this] at h
  simp at h

/-- Along a way the pairs stand ever further ahead. -/
theorem way_ahead {ps : List Int} {n : Nat} {L : List Nat} (hO : Ordered ps n L) {i : Nat} {y : Int} (hw : Way ps n (at0 ps (i * 2)) y) :
    ∀ pre post, L = pre ++ i :: post → ∀ j, j < n → at0 ps (j * 2) = y → j ∈ pre := by
  induction hw with
  | one h1 =>
    intro pre post he j hj hy
    exact hO pre i post he j hj (by unfold StepP; rw [hy]; exact h1)
  | @more x y _ h2 ih =>
    intro pre post he j hj hy
    obtain ⟨k, hk, hkx⟩ := next_low h2
    have hkp := ih pre post he k hk hkx
    obtain ⟨p1, p2, hp⟩ := List.append_of_mem hkp
    have hj1 := hO p1 k (p2 ++ i :: post) (by rw [he, hp]; simp) j hj (by unfold StepP; rw [hy, hkx]; exact h2)
    rw [hp]
    exact List.mem_append_left _ hj1
/-- All settled: no cycle. -/
theorem settled_acyclic {ps : List Int} {n : Nat} {L : List Nat} (hO : Ordered ps n L) (hall : ∀ i, i < n → i ∈ L) : NoCycle ps n := by
  intro i hi hw
  obtain ⟨pre, post, he, hn⟩ : ∃ pre post, L = pre ++ i :: post ∧ i ∉ pre := by
    have := List.eq_append_cons_of_mem (hall i hi)
    obtain ⟨pre, post, h1, h2⟩ := this
    exact ⟨pre, post, h1, h2⟩
  exact hn (way_ahead hO hw pre post he i hi rfl)

theorem way_trans {ps : List Int} {n : Nat} {a b c : Int} (h1 : Way ps n a b) (h2 : Way ps n b c) : Way ps n a c := by
  induction h2 with
  | one h => exact .more h1 h
  | more _ h ih => exact .more ih h
/-- Nothing more can settle, and there is no cycle: all are settled. -/
theorem acyclic_settled {ps : List Int} {n : Nat} {L : List Nat} (hc : NoCycle ps n) (hs : ∀ i, i < n → i ∉ L → ∃ j, j < n ∧ StepP ps n i j ∧ j ∉ L) : ∀ i, i < n → i ∈ L := by
  have key : ∀ (m i : Nat), (List.range n).countP (fun j => wayB ps n (at0 ps (i * 2)) (at0 ps (j * 2))) = m → i < n → i ∈ L := by
    intro m
    induction m using Nat.strongRecOn with
    | _ m ih =>
      intro i hm hi
      refine Classical.byContradiction fun hn => ?_
      obtain ⟨j, hj, hst, hjn⟩ := hs i hi hn
      have hw : Way ps n (at0 ps (i * 2)) (at0 ps (j * 2)) := .one hst
      have hlt : (List.range n).countP (fun k => wayB ps n (at0 ps (j * 2)) (at0 ps (k * 2))) < (List.range n).countP (fun k => wayB ps n (at0 ps (i * 2)) (at0 ps (k * 2))) := by
        refine countP_lt (y := j) (fun k _ hk => ?_) (by simpa using hj) (wayB_true hw) (wayB_false (hc j hj))
        by_cases hw2 : Way ps n (at0 ps (j * 2)) (at0 ps (k * 2))
        · exact wayB_true (way_trans hw hw2)
        · rw [wayB_false hw2] at hk; cases hk
      exact hjn (ih _ (by omega) j rfl hj)
  exact fun i hi => key _ i rfl hi

end Go.Proofs.Ytgmapgaijncbeaa

/-! The number of gradient ways, the mathematics. -/
namespace Go.Proofs.Ytgmapgaijncbeaa
open Go.RowKit

/-- The number of ways from a to b with less than f steps. -/
def gwN (ps : List Int) (n : Nat) (b : Int) : Nat → Int → Int
  | 0, _ => 0
  | f + 1, a => (if a = b then 1 else 0) + ((nextL ps n a).map (gwN ps n b f)).sum
/-- The number of gradient ways from a to b, for an acyclic pairing. -/
def gw (ps : List Int) (n : Nat) (b a : Int) : Int := gwN ps n b (n + 2) a

theorem nextL_nil {ps : List Int} {n : Nat} {x : Int} (h : ∀ i, i < n → at0 ps (i * 2) ≠ x) : nextL ps n x = [] := by
  have := highOf_none (ps := ps) (n := n) (a := x) (fun i hi => h i hi)
  unfold nextL
  rw [if_pos this]

/-- How many pairs are reached from the low face of a pair. -/
noncomputable def rkP (ps : List Int) (n : Nat) (i : Nat) : Nat := (List.range n).countP fun k => wayB ps n (at0 ps (i * 2)) (at0 ps (k * 2))
theorem rkP_le (ps : List Int) (n i : Nat) : rkP ps n i ≤ n := by
  have := List.countP_le_length (p := fun k => wayB ps n (at0 ps (i * 2)) (at0 ps (k * 2))) (l := List.range n)
  simpa [rkP] using this
theorem rkP_lt {ps : List Int} {n : Nat} (hc : NoCycle ps n) {i j : Nat} (hj : j < n) (hs : StepP ps n i j) : rkP ps n j < rkP ps n i := by
  have hw : Way ps n (at0 ps (i * 2)) (at0 ps (j * 2)) := .one hs
  refine countP_lt (y := j) (fun k _ hk => ?_) (by simpa using hj) (wayB_true hw) (wayB_false (hc j hj))
  by_cases hw2 : Way ps n (at0 ps (j * 2)) (at0 ps (k * 2))
  · exact wayB_true (way_trans hw hw2)
  · rw [wayB_false hw2] at hk; cases hk

theorem gwN_low {ps : List Int} {n : Nat} (hc : NoCycle ps n) (b : Int) : ∀ (m i f g : Nat), rkP ps n i ≤ m → i < n → m + 2 ≤ f → m + 2 ≤ g → gwN ps n b f (at0 ps (i * 2)) = gwN ps n b g (at0 ps (i * 2)) := by
  intro m
  induction m using Nat.strongRecOn with
  | _ m ih =>
    intro i f g hm hi hf hg
    obtain ⟨f', rfl⟩ : ∃ f', f = f' + 1 := ⟨f - 1, by omega⟩
    obtain ⟨g', rfl⟩ : ∃ g', g = g' + 1 := ⟨g - 1, by omega⟩
    unfold gwN
    congr 2
    refine List.map_congr_left (fun y hy => ?_)
    by_cases hex : ∃ j, j < n ∧ at0 ps (j * 2) = y
    · obtain ⟨j, hj, rfl⟩ := hex
      have hlt := rkP_lt hc hj (show StepP ps n i j from hy)
      exact ih (rkP ps n j) (by omega) j f' g' (Nat.le_refl _) hj (by omega) (by omega)
    · obtain ⟨f'', rfl⟩ : ∃ f'', f' = f'' + 1 := ⟨f' - 1, by omega⟩
      obtain ⟨g'', rfl⟩ : ∃ g'', g' = g'' + 1 := ⟨g' - 1, by omega⟩
      have hnil := nextL_nil (fun i hi e => hex ⟨i, hi, e⟩)
      unfold gwN
      rw [hnil]
      rfl
theorem gwN_any {ps : List Int} {n : Nat} (hc : NoCycle ps n) (b : Int) (f : Nat) (hf : n + 2 ≤ f) (a : Int) : gwN ps n b f a = gw ps n b a := by
  unfold gw
  by_cases hex : ∃ j, j < n ∧ at0 ps (j * 2) = a
  · obtain ⟨j, hj, rfl⟩ := hex
    exact gwN_low hc b n j f (n + 2) (rkP_le ps n j) hj hf (Nat.le_refl _)
  · obtain ⟨f', rfl⟩ : ∃ f', f = f' + 1 := ⟨f - 1, by omega⟩
    have hnil := nextL_nil (fun i hi e => hex ⟨i, hi, e⟩)
    unfold gwN
    rw [hnil]
    rfl
/-- By a first step. -/
theorem gw_step {ps : List Int} {n : Nat} (hc : NoCycle ps n) (b a : Int) : gw ps n b a = (if a = b then 1 else 0) + ((nextL ps n a).map (gw ps n b)).sum := by
  rw [← gwN_any hc b (n + 2 + 1) (by omega) a]
  show (if a = b then 1 else 0) + ((nextL ps n a).map (gwN ps n b (n + 2))).sum = _
  rfl
theorem gw_none {ps : List Int} {n : Nat} {b x : Int} (h : ∀ i, i < n → at0 ps (i * 2) ≠ x) : gw ps n b x = if x = b then 1 else 0 := by
  unfold gw gwN
  rw [nextL_nil h]
  simp

theorem nextL_ne {ps : List Int} {n : Nat} {x y : Int} (h : y ∈ nextL ps n x) : y ≠ x := by
  unfold nextL at h
  split at h
  · simp at h
  · have := List.mem_filter.1 h
    simpa using this.2
theorem int_sum_reverse (l : List Int) : l.reverse.sum = l.sum := by
  induction l with
  | nil => rfl
  | cons x l ih => simp [ih, Int.add_comm]
/-- The steps in the program's order. -/
theorem gw_steps {ps : List Int} {n : Nat} (hh : HighsB ps n) (a : Int) (g : Int → Int) : ((stepsF ps n a).map fun z => g (z.val : Int)).sum = ((nextL ps n a).map g).sum := by
  unfold stepsF nextL
  split
  · rfl
  · have h := hh a
    have e := sides_below ⟨(highOf ps n a).toNat, by omega⟩
    simp only at e
    have e2 : (otherF a (sidesF (highOf ps n a).toNat)).map (fun z => (z.val : Int)) = ((belowR (highOf ps n a).toNat 63).filter fun y => decide (y ≠ a)).reverse := by
      rw [← List.filter_reverse, ← e]
      unfold otherF
      rw [List.filter_map]
      rfl
    have e3 : (otherF a (sidesF (highOf ps n a).toNat)).map (fun z => g (z.val : Int)) = (((belowR (highOf ps n a).toNat 63).filter fun y => decide (y ≠ a)).map g).reverse := by
      rw [← List.map_reverse, ← e2, List.map_map]
      rfl
    rw [e3, int_sum_reverse]

theorem wrap64_add (a b : Int) : wrap64 (wrap64 a + wrap64 b) = wrap64 (a + b) := by unfold wrap64; omega
theorem wrap64_wrap (a : Int) : wrap64 (wrap64 a) = wrap64 a := by unfold wrap64; omega

end Go.Proofs.Ytgmapgaijncbeaa

/-! l02Ways: the model's number of ways. -/
namespace Go.Proofs.Ytgmapgaijncbeaa
open Go.RowKit

/-- The first k steps' ways, and the one without steps. -/
def gwPart (ps : List Int) (n : Nat) (b a : Int) (k : Nat) : Int := (if a = b then 1 else 0) + (((nextL ps n a).take k).map (gw ps n b)).sum
theorem gwPart_zero (ps : List Int) (n : Nat) (b a : Int) : gwPart ps n b a 0 = if a = b then 1 else 0 := by simp [gwPart]
theorem gwPart_succ {ps : List Int} {n : Nat} {b a : Int} {k : Nat} (hk : k < (nextL ps n a).length) : gwPart ps n b a (k + 1) = gwPart ps n b a k + gw ps n b ((nextL ps n a)[k]?.getD 0) := by
  unfold gwPart
  rw [List.take_add_one, List.getElem?_eq_getElem hk]
  simp only [Option.toList_some, List.map_append, List.map_cons, List.map_nil, List.sum_append, List.sum_cons, List.sum_nil, Option.getD_some, Int.add_zero, Int.add_assoc]
theorem gwPart_all {ps : List Int} {n : Nat} (hc : NoCycle ps n) (b a : Int) : gwPart ps n b a (nextL ps n a).length = gw ps n b a := by
  rw [gw_step hc, gwPart, List.take_length]

set_option maxRecDepth 1000000 in
set_option maxHeartbeats 2000000 in
theorem ways_round (a1 : Option Addr) (n cap : Nat) (ps : List Int) (b a : Int) (w : World) (hx : SlI w w.heap.size a1 ps) (hp : ps.length = 2 * n) (hl : n ≤ 1048576) (hh : HighsB ps n) (hc : NoCycle ps n)
    (H : ∀ y ∈ nextL ps n a, ∀ w', Below w.heap.size w w' → Calls Try.prog 78 #[.slice a1 n cap, .int .i64 y, .int .i64 b] w' fun e w'' => e = .returned (.int .i64 (wrap64 (gw ps n b y))) ∧ Below w'.heap.size w' w'') :
    Calls Try.prog 78 #[.slice a1 n cap, .int .i64 a, .int .i64 b] w fun e w' => e = .returned (.int .i64 (wrap64 (gw ps n b a))) ∧ Below w.heap.size w w' := by
  have HN := hid (next_any a1 n cap ps a w hx hp hl (hh a))
  obtain ⟨E, hE⟩ : ∃ E, E = gw ps n b a := ⟨_, rfl⟩
  rw [← hE]
  have HE := hid (hE.trans (gwPart_all hc b a).symm)
  obtain ⟨d, hd⟩ : ∃ d, (a == b) = d := ⟨_, rfl⟩
  have hst : Hid ((if d then 1 else 0 : Int) = wrap64 (gwPart ps n b a 0)) := hid (by
    rw [gwPart_zero, ← hd]
    by_cases e : a = b
    · simp [e, wrap64]
    · simp [e, wrap64])
  obtain ⟨m, hm⟩ : ∃ m, m = (nextL ps n a).length := ⟨_, rfl⟩
  have hml : m ≤ 63 := by rw [hm]; exact nextL_len ps n a
  have HH := hid H
  have Hm := hid hm
  rw [← hm] at HN HE
  clear hx hp hh hc H hE hm
  cases d
  · go_enter Try.func78, Try.ntmps78
    go_wp2_with fail
    refine HN.out.mono ?_
    rintro e w1 ⟨g, c, rfl, hR⟩
    obtain ⟨hgb, av, cv, hve, hs⟩ := ownsRow_slI hR.1
    injection hve with hve1 hve2 hve3
    clear hve2 hve3
    subst hve1
    have HS := hid hs
    have HB1 := hid hR.2
    clear hR hs hgb
    go_wp2_with fail
    go_loopw [7, 9] (fun t i wr => ∃ k : Nat, k ≤ m ∧ i = .int .i64 k ∧ t = .int .i64 (wrap64 (gwPart ps n b a k)) ∧ Below w1.heap.size w1 wr) (fun _ i _ => m - (intOf i).toNat)
    case atStart => exact ⟨0, Nat.zero_le _, rfl, by rw [← hst.out]; rfl, Below.refl _ _⟩
    case round =>
      obtain ⟨k, hk, rfl, rfl, hB⟩ := hrel
      by_cases hlt : k < m
      · obtain ⟨y, hy⟩ : ∃ y, y = (nextL ps n a)[k]?.getD 0 := ⟨_, rfl⟩
        obtain ⟨hgb, hcell⟩ : g < w1.heap.size ∧ wr.cell? ⟨g, k, none⟩ = some (.int .i64 y) := by
          rw [show k = 0 + k by omega]
          rcases HS.out with h | ⟨b', o', hb', e', h'⟩
          · have := Hm.out; rw [h] at this; simp at this; omega
          · injection e' with e'
            injection e' with e1 e2
            subst e1
            subst e2
            have h2 := h' k (by have := Hm.out; omega)
            rw [← hy] at h2
            exact ⟨hb', (hB.cell (p := ⟨g, 0 + k, none⟩) hb').trans h2⟩
        have hym : y ∈ nextL ps n a := by rw [hy]; exact getD_mem (by have := Hm.out; omega)
        have HC := hid (HH.out y hym wr (HB1.out.trans (hB.mono HB1.out.size)))
        have hsum : Hid (wrap64 (wrap64 (gwPart ps n b a k) + wrap64 (gw ps n b y)) = wrap64 (gwPart ps n b a (k + 1))) := hid (by rw [wrap64_add, gwPart_succ (by have := Hm.out; omega), ← hy])
        have hi0 : (0 : Int) ≤ (k : Int) := by omega
        have hi1 : (k : Int) < (m : Int) := by omega
        have HB := hid hB
        clear hy hym hB
        go_wp2_with fail
        refine HC.out.mono ?_
        rintro e w2 ⟨rfl, hB2⟩
        have HB2 := hid (HB.out.trans (hB2.mono HB.out.size))
        clear hB2
        go_wp2_with fail
        go_roundw
        case rel => exact ⟨k + 1, by omega, by go_num, by first | exact congrArg (Value.int .i64) hsum.out | (rw [← hsum.out]; done), HB2.out⟩
        case measure => simp [intOf]; omega
      · obtain rfl : k = m := by omega
        go_wp2_with fail
        go_ret
        exact ⟨ret_int (by rw [HE.out]), HB1.out.trans (hB.mono HB1.out.size)⟩
  · go_enter Try.func78, Try.ntmps78
    go_wp2_with fail
    refine HN.out.mono ?_
    rintro e w1 ⟨g, c, rfl, hR⟩
    obtain ⟨hgb, av, cv, hve, hs⟩ := ownsRow_slI hR.1
    injection hve with hve1 hve2 hve3
    clear hve2 hve3
    subst hve1
    have HS := hid hs
    have HB1 := hid hR.2
    clear hR hs hgb
    go_wp2_with fail
    go_loopw [7, 9] (fun t i wr => ∃ k : Nat, k ≤ m ∧ i = .int .i64 k ∧ t = .int .i64 (wrap64 (gwPart ps n b a k)) ∧ Below w1.heap.size w1 wr) (fun _ i _ => m - (intOf i).toNat)
    case atStart => exact ⟨0, Nat.zero_le _, rfl, by rw [← hst.out]; rfl, Below.refl _ _⟩
    case round =>
      obtain ⟨k, hk, rfl, rfl, hB⟩ := hrel
      by_cases hlt : k < m
      · obtain ⟨y, hy⟩ : ∃ y, y = (nextL ps n a)[k]?.getD 0 := ⟨_, rfl⟩
        obtain ⟨hgb, hcell⟩ : g < w1.heap.size ∧ wr.cell? ⟨g, k, none⟩ = some (.int .i64 y) := by
          rw [show k = 0 + k by omega]
          rcases HS.out with h | ⟨b', o', hb', e', h'⟩
          · have := Hm.out; rw [h] at this; simp at this; omega
          · injection e' with e'
            injection e' with e1 e2
            subst e1
            subst e2
            have h2 := h' k (by have := Hm.out; omega)
            rw [← hy] at h2
            exact ⟨hb', (hB.cell (p := ⟨g, 0 + k, none⟩) hb').trans h2⟩
        have hym : y ∈ nextL ps n a := by rw [hy]; exact getD_mem (by have := Hm.out; omega)
        have HC := hid (HH.out y hym wr (HB1.out.trans (hB.mono HB1.out.size)))
        have hsum : Hid (wrap64 (wrap64 (gwPart ps n b a k) + wrap64 (gw ps n b y)) = wrap64 (gwPart ps n b a (k + 1))) := hid (by rw [wrap64_add, gwPart_succ (by have := Hm.out; omega), ← hy])
        have hi0 : (0 : Int) ≤ (k : Int) := by omega
        have hi1 : (k : Int) < (m : Int) := by omega
        have HB := hid hB
        clear hy hym hB
        go_wp2_with fail
        refine HC.out.mono ?_
        rintro e w2 ⟨rfl, hB2⟩
        have HB2 := hid (HB.out.trans (hB2.mono HB.out.size))
        clear hB2
        go_wp2_with fail
        go_roundw
        case rel => exact ⟨k + 1, by omega, by go_num, by first | exact congrArg (Value.int .i64) hsum.out | (rw [← hsum.out]; done), HB2.out⟩
        case measure => simp [intOf]; omega
      · obtain rfl : k = m := by omega
        go_wp2_with fail
        go_ret
        exact ⟨ret_int (by rw [HE.out]), HB1.out.trans (hB.mono HB1.out.size)⟩

theorem ways_upto (a1 : Option Addr) (n cap : Nat) (ps : List Int) (b : Int) (hp : ps.length = 2 * n) (hl : n ≤ 1048576) (hh : HighsB ps n) (hc : NoCycle ps n) : ∀ (m : Nat) (a : Int) (w : World), SlI w w.heap.size a1 ps → (∀ i, i < n → at0 ps (i * 2) = a → rkP ps n i < m) →
    Calls Try.prog 78 #[.slice a1 n cap, .int .i64 a, .int .i64 b] w fun e w' => e = .returned (.int .i64 (wrap64 (gw ps n b a))) ∧ Below w.heap.size w w'
  | 0, a, w, hx, hr => ways_round a1 n cap ps b a w hx hp hl hh hc (fun y hy => by
    obtain ⟨i, hi, e⟩ := next_low hy
    exact absurd (hr i hi e) (Nat.not_lt_zero _))
  | m + 1, a, w, hx, hr => ways_round a1 n cap ps b a w hx hp hl hh hc (fun y hy w' hb => ways_upto a1 n cap ps b hp hl hh hc m y w' (hx.later hb hb.size) (fun j hj e => by
    obtain ⟨i, hi, e2⟩ := next_low hy
    have h1 := hr i hi e2
    have h2 := rkP_lt hc hj (show StepP ps n i j by unfold StepP; rw [e, e2]; exact hy)
    omega))
/-- The model's number of ways. -/
theorem ways_any (a1 : Option Addr) (n cap : Nat) (ps : List Int) (b a : Int) (w : World) (hx : SlI w w.heap.size a1 ps) (hp : ps.length = 2 * n) (hl : n ≤ 1048576) (hh : HighsB ps n) (hc : NoCycle ps n) :
    Calls Try.prog 78 #[.slice a1 n cap, .int .i64 a, .int .i64 b] w fun e w' => e = .returned (.int .i64 (wrap64 (gw ps n b a))) ∧ Below w.heap.size w w' :=
  ways_upto a1 n cap ps b hp hl hh hc (n + 1) a w hx (fun i _ _ => by have := rkP_le ps n i; omega)

end Go.Proofs.Ytgmapgaijncbeaa

/-! IsAcyclicPairing, the model's door. -/
namespace Go.Proofs.Ytgmapgaijncbeaa
open Go.RowKit

noncomputable def isAcyclicR (V : Int) (fs : List Int) (n : Nat) (ps : List Int) : Bool × Int := if pcodeR V fs n ps = 0 then (acyB ps n, 0) else (false, pcodeR V fs n ps)
theorem okTo_lows {V : Int} {fs ps : List Int} {n : Nat} (hC : IsC V fs) (h : OkTo fs ps n) : ∀ i, i < n → 0 ≤ at0 ps (i * 2) ∧ at0 ps (i * 2) < 64 := by
  intro i hi
  have hp := (h i hi).1
  unfold pairB at hp
  simp at hp
  have := hC.range63 _ hp.1.1.1
  omega
theorem bool_mono2 {fn : FuncId} {args : Array Value} {w : World} {B : Nat} {P : Program} {R : Bool × Int} {b : Bool} {c : Int} (hR : R = (b, c))
    (h : Calls P fn args w fun e w' => e = .returned (.tuple #[.bool b, .int .i64 c]) ∧ Below B w w') :
    Calls P fn args w fun e w' => e = .returned (.tuple #[.bool R.1, .int .i64 R.2]) ∧ Below B w w' := by
  subst hR
  exact h

set_option maxRecDepth 1000000 in
set_option maxHeartbeats 2000000 in
theorem specIsAcyclicPairing (V : Int) (a0 : Option Addr) (cap : Nat) (fs : List Int) (a1 : Option Addr) (n cap1 : Nat) (ps : List Int) (w : World) (hx : SlI w w.heap.size a0 fs) (hx1 : SlI w w.heap.size a1 ps) (hl : fs.length ≤ 1048576) (hp : ps.length = 2 * n) (hn : n ≤ 1048576) (_hw : ∀ x ∈ ps, (Lit.int .i64 x).wf = true) :
    Calls Try.prog 16 #[.agg #[.int .i64 V, .slice a0 fs.length cap], .slice a1 n cap1] w fun e w' => e = .returned (.tuple #[.bool (isAcyclicR V fs n ps).1, .int .i64 (isAcyclicR V fs n ps).2]) ∧ Below w.heap.size w w' := by
  have hB0 : Below w.heap.size w (w.alloc (.cells #[.int .i64 V, .slice a0 fs.length cap] 30)) := (Below.refl _ w).alloc (Nat.le_refl _) _
  have HK := hid (pcode_spec V a0 cap fs a1 n cap1 ps _ (hx.later hB0 hB0.size) (hx1.later hB0 hB0.size) hl hp hn)
  have Hy := hid hx1
  clear hx hx1
  by_cases hpc : pcodeR V fs n ps = 0
  · rw [hpc] at HK
    have hCO : IsC V fs ∧ OkTo fs ps n := by
      rcases pcode_cases V fs n ps with ⟨hC, ho, _⟩ | ⟨_, _, h2, _⟩ | ⟨_, h2, _⟩
      · exact ⟨hC, ho⟩
      · rw [h2] at hpc; cases hpc
      · rw [h2] at hpc; cases hpc
    refine bool_mono2 (show isAcyclicR V fs n ps = (acyB ps n, 0) by rw [isAcyclicR, if_pos hpc]) ?_
    have HAc := hid (fun w1 h => acyclicS_any a1 n cap1 ps w1 h hp hn (okTo_highs hCO.1 hCO.2) (okTo_lows hCO.1 hCO.2))
    clear hpc hCO hp
    go_enter Try.func16, Try.ntmps16
    go_wp2_with fail
    refine HK.out.mono ?_
    rintro e w1 ⟨rfl, hB1⟩
    have HB1 := hid (hB0.trans (hB1.mono (by simp)))
    clear hB0 hB1
    go_wp2_with fail
    refine (HAc.out w1 (Hy.out.later HB1.out HB1.out.size)).mono ?_
    rintro e w2 ⟨rfl, hB2⟩
    go_wp2_with fail
    go_ret2
    exact ⟨rfl, HB1.out.trans (hB2.mono HB1.out.size)⟩
  · obtain ⟨c, hc⟩ : ∃ c, c = pcodeR V fs n ps := ⟨_, rfl⟩
    refine bool_mono2 (show isAcyclicR V fs n ps = (false, c) by rw [isAcyclicR, if_neg hpc, hc]) ?_
    rw [← hc] at hpc HK
    have hcn : (c != 0) = true := by simpa using hpc
    clear hc hp hpc
    go_enter Try.func16, Try.ntmps16
    go_wp2_with fail
    refine HK.out.mono ?_
    rintro e w1 ⟨rfl, hB1⟩
    go_wp2_with fail
    go_ret2
    exact ⟨rfl, hB0.trans (hB1.mono (by simp))⟩

end Go.Proofs.Ytgmapgaijncbeaa

/-! CountGradientWays: the model's doors. -/
namespace Go.Proofs.Ytgmapgaijncbeaa
open Go.RowKit

noncomputable def code2R (V : Int) (fs : List Int) (n : Nat) (ps : List Int) (a b : Int) : Int := if pcodeR V fs n ps = 0 then (if a ∈ fs ∧ b ∈ fs then 0 else 2) else pcodeR V fs n ps
noncomputable def countWaysR (V : Int) (fs : List Int) (n : Nat) (ps : List Int) (a b : Int) : Int × Int := if code2R V fs n ps a b = 0 then (if acyB ps n then (wrap64 (gw ps n b a), 0) else (0, 5)) else (0, code2R V fs n ps a b)

set_option maxRecDepth 1000000 in
set_option maxHeartbeats 2000000 in
theorem code2_spec (V : Int) (a0 : Option Addr) (cap : Nat) (fs : List Int) (a1 : Option Addr) (n cap1 : Nat) (ps : List Int) (a b : Int) (bf : Nat) (w : World) (hx : SlI w w.heap.size a0 fs) (hx1 : SlI w w.heap.size a1 ps) (hl : fs.length ≤ 1048576) (hp : ps.length = 2 * n) (hn : n ≤ 1048576)
    (hbf : bf < w.heap.size) (hcf : w.cell? ⟨bf, 0, none⟩ = some (.int .i64 a)) (hcg : w.cell? ⟨bf, 1, none⟩ = some (.int .i64 b)) :
    Calls Try.prog 54 #[.agg #[.int .i64 V, .slice a0 fs.length cap], .slice a1 n cap1, .slice (some ⟨bf, 0, none⟩) 2 2] w fun e w' => e = .returned (.int .i64 (code2R V fs n ps a b)) ∧ Below w.heap.size w w' := by
  have hB0 : Below w.heap.size w (w.alloc (.cells #[.int .i64 V, .slice a0 fs.length cap] 30)) := (Below.refl _ w).alloc (Nat.le_refl _) _
  have Hx := hid (hx.later hB0 hB0.size)
  have Hx0 := hid hx
  have Hy := hid hx1
  clear hx hx1
  obtain ⟨E, hE⟩ : ∃ E, E = code2R V fs n ps a b := ⟨_, rfl⟩
  rw [← hE]
  rcases pcode_cases V fs n ps with ⟨hC, _, h0, _, h1⟩ | ⟨hC, _, h0, _, h1⟩ | ⟨hC, h0, _⟩
  · have HC := hid hC
    have hE1 : E = if a ∈ fs ∧ b ∈ fs then 0 else 2 := by rw [hE, code2R, if_pos h0]
    clear hC h0 hE
    go_enter Try.func54, Try.ntmps54
    go_wp2_with fail
    refine (is_yes V a0 cap fs _ Hx.out hl HC.out).mono ?_
    rintro e w1 ⟨rfl, hB1⟩
    have HB1 := hid (hB0.trans (hB1.mono (by simp)))
    have k0 : w1.cell? ⟨w.heap.size, 0, none⟩ = some (.int .i64 V) := (hB1.cell (p := ⟨w.heap.size, 0, none⟩) (by simp)).trans (by simp [go_sem])
    have k1 : w1.cell? ⟨w.heap.size, 1, none⟩ = some (.slice a0 fs.length cap) := (hB1.cell (p := ⟨w.heap.size, 1, none⟩) (by simp)).trans (by simp [go_sem])
    have hs1 : w.heap.size < w1.heap.size := by have := hB1.size; simp at this; omega
    have HI := hid (pis_any V a0 cap fs a1 n cap1 ps w1 (Hx0.out.later HB1.out HB1.out.size) (Hy.out.later HB1.out HB1.out.size) hl HC.out.range63 hp hn)
    rw [h1] at HI
    clear hB0 hB1 h1 hp
    go_wp2_with fail
    refine HI.out.mono ?_
    rintro e w2 ⟨rfl, hB2⟩
    have n0 : w2.cell? ⟨w.heap.size, 0, none⟩ = some (.int .i64 V) := (hB2.cell (p := ⟨w.heap.size, 0, none⟩) hs1).trans k0
    have n1 : w2.cell? ⟨w.heap.size, 1, none⟩ = some (.slice a0 fs.length cap) := (hB2.cell (p := ⟨w.heap.size, 1, none⟩) hs1).trans k1
    have HB2 := hid (HB1.out.trans (hB2.mono HB1.out.size))
    have n2 : w2.cell? ⟨bf, 0, none⟩ = some (.int .i64 a) := (HB2.out.cell (p := ⟨bf, 0, none⟩) hbf).trans hcf
    have n3 : w2.cell? ⟨bf, 1, none⟩ = some (.int .i64 b) := (HB2.out.cell (p := ⟨bf, 1, none⟩) hbf).trans hcg
    have hs2 : w.heap.size < w2.heap.size := Nat.lt_of_lt_of_le hs1 hB2.size
    have HB2d : Hid (Below w.heap.size w w2.drew) := hid (HB2.out.trans ⟨rfl, rfl, rfl, Nat.le_refl _, fun _ _ => rfl⟩)
    clear hB2 k0 k1 hcf hcg
    have hbf2 := hbf
    by_cases ha : a ∈ fs
    · have HA := hid (has_yes V a a0 cap fs w2.drew (Hx0.out.later HB2d.out HB2d.out.size) hl ha)
      by_cases hb : b ∈ fs
      · have He : Hid (E = 0) := hid (by rw [hE1, if_pos ⟨ha, hb⟩])
        have HBb := hid (fun w' (h : Below w.heap.size w w') => has_yes V b a0 cap fs w' (Hx0.out.later h h.size) hl hb)
        clear hE1 ha hb
        go_wp2_with fail
        refine wp_loop_rounds 3 ?_
        rw [rounds_succ]
        go_wp2_with fail
        go_region_held3 (fun w' => w'.cell? ⟨w.heap.size, 0, none⟩ = some (.int .i64 V) ∧ w'.cell? ⟨w.heap.size, 1, none⟩ = some (.slice a0 fs.length cap) ∧ w'.cell? ⟨bf, 0, none⟩ = some (.int .i64 a) ∧ w'.cell? ⟨bf, 1, none⟩ = some (.int .i64 b)) (go_keep) (first
          | (go_at_call 98; refine HA.out.mono ?_; rintro e w3 ⟨rfl, hBw3⟩; have mw30 := (hBw3.cell (p := ⟨w.heap.size, 0, none⟩) hs2).trans n0; have mw31 := (hBw3.cell (p := ⟨w.heap.size, 1, none⟩) hs2).trans n1; have mw32 := (hBw3.cell (p := ⟨bf, 0, none⟩) (Nat.lt_trans hbf2 hs2)).trans n2; have mw33 := (hBw3.cell (p := ⟨bf, 1, none⟩) (Nat.lt_trans hbf2 hs2)).trans n3; have HBw3 := hid hBw3; clear hBw3))
        all_goals
          have HB4 := hid (HB2d.out.trans (HBw3.out.mono HB2d.out.size))
          have HA4 := hid (HBb.out w3.drew (HB4.out.trans ⟨rfl, rfl, rfl, Nat.le_refl _, fun _ _ => rfl⟩))
          have HB4d : Hid (Below w.heap.size w w3.drew) := hid (HB4.out.trans ⟨rfl, rfl, rfl, Nat.le_refl _, fun _ _ => rfl⟩)
          have hs3 : w.heap.size < w3.heap.size := Nat.lt_of_lt_of_le hs2 HBw3.out.size
          clear HBw3 HBb HA
          go_wp2_with fail
          rw [rounds_succ]
          go_wp2_with fail
          go_region_held3 (fun w' => w'.cell? ⟨w.heap.size, 0, none⟩ = some (.int .i64 V) ∧ w'.cell? ⟨w.heap.size, 1, none⟩ = some (.slice a0 fs.length cap) ∧ w'.cell? ⟨bf, 0, none⟩ = some (.int .i64 a) ∧ w'.cell? ⟨bf, 1, none⟩ = some (.int .i64 b)) (go_keep) (first
            | (go_at_call 98; refine HA4.out.mono ?_; rintro e w4 ⟨rfl, hBw4⟩; have mw40 := (hBw4.cell (p := ⟨w.heap.size, 0, none⟩) hs3).trans mw30; have mw41 := (hBw4.cell (p := ⟨w.heap.size, 1, none⟩) hs3).trans mw31; have mw42 := (hBw4.cell (p := ⟨bf, 0, none⟩) (Nat.lt_trans hbf2 hs3)).trans mw32; have mw43 := (hBw4.cell (p := ⟨bf, 1, none⟩) (Nat.lt_trans hbf2 hs3)).trans mw33; have HBw4 := hid hBw4; clear hBw4))
          all_goals
            have HB5 := hid (HB4d.out.trans (HBw4.out.mono HB4d.out.size))
            go_wp2_with fail
            rw [rounds_succ]
            go_wp2_with fail
            go_ret
            exact ⟨ret_int (by rw [He.out]), HB5.out⟩
      · have He : Hid (E = 2) := hid (by rw [hE1, if_neg (fun h => hb h.2)])
        have HBb := hid (fun w' (h : Below w.heap.size w w') => has_no V b a0 cap fs w' (Hx0.out.later h h.size) hl hb)
        clear hE1 ha hb
        go_wp2_with fail
        refine wp_loop_rounds 3 ?_
        rw [rounds_succ]
        go_wp2_with fail
        go_region_held3 (fun w' => w'.cell? ⟨w.heap.size, 0, none⟩ = some (.int .i64 V) ∧ w'.cell? ⟨w.heap.size, 1, none⟩ = some (.slice a0 fs.length cap) ∧ w'.cell? ⟨bf, 0, none⟩ = some (.int .i64 a) ∧ w'.cell? ⟨bf, 1, none⟩ = some (.int .i64 b)) (go_keep) (first
          | (go_at_call 98; refine HA.out.mono ?_; rintro e w3 ⟨rfl, hBw3⟩; have mw30 := (hBw3.cell (p := ⟨w.heap.size, 0, none⟩) hs2).trans n0; have mw31 := (hBw3.cell (p := ⟨w.heap.size, 1, none⟩) hs2).trans n1; have mw32 := (hBw3.cell (p := ⟨bf, 0, none⟩) (Nat.lt_trans hbf2 hs2)).trans n2; have mw33 := (hBw3.cell (p := ⟨bf, 1, none⟩) (Nat.lt_trans hbf2 hs2)).trans n3; have HBw3 := hid hBw3; clear hBw3))
        all_goals
          have HB4 := hid (HB2d.out.trans (HBw3.out.mono HB2d.out.size))
          have HA4 := hid (HBb.out w3.drew (HB4.out.trans ⟨rfl, rfl, rfl, Nat.le_refl _, fun _ _ => rfl⟩))
          have HB4d : Hid (Below w.heap.size w w3.drew) := hid (HB4.out.trans ⟨rfl, rfl, rfl, Nat.le_refl _, fun _ _ => rfl⟩)
          have hs3 : w.heap.size < w3.heap.size := Nat.lt_of_lt_of_le hs2 HBw3.out.size
          clear HBw3 HBb HA
          go_wp2_with fail
          rw [rounds_succ]
          go_wp2_with fail
          go_region_held3 (fun w' => w'.cell? ⟨w.heap.size, 0, none⟩ = some (.int .i64 V) ∧ w'.cell? ⟨w.heap.size, 1, none⟩ = some (.slice a0 fs.length cap) ∧ w'.cell? ⟨bf, 0, none⟩ = some (.int .i64 a) ∧ w'.cell? ⟨bf, 1, none⟩ = some (.int .i64 b)) (go_keep) (first
            | (go_at_call 98; refine HA4.out.mono ?_; rintro e w4 ⟨rfl, hBw4⟩; have mw40 := (hBw4.cell (p := ⟨w.heap.size, 0, none⟩) hs3).trans mw30; have mw41 := (hBw4.cell (p := ⟨w.heap.size, 1, none⟩) hs3).trans mw31; have mw42 := (hBw4.cell (p := ⟨bf, 0, none⟩) (Nat.lt_trans hbf2 hs3)).trans mw32; have mw43 := (hBw4.cell (p := ⟨bf, 1, none⟩) (Nat.lt_trans hbf2 hs3)).trans mw33; have HBw4 := hid hBw4; clear hBw4))
          all_goals
            have HB5 := hid (HB4d.out.trans (HBw4.out.mono HB4d.out.size))
            go_wp2_with fail
            go_ret
            exact ⟨ret_int (by rw [He.out]), HB5.out⟩
    · have He : Hid (E = 2) := hid (by rw [hE1, if_neg (fun h => ha h.1)])
      have HA := hid (has_no V a a0 cap fs w2.drew (Hx0.out.later HB2d.out HB2d.out.size) hl ha)
      clear hE1 ha
      go_wp2_with fail
      refine wp_loop_rounds 3 ?_
      rw [rounds_succ]
      go_wp2_with fail
      go_region_held3 (fun w' => w'.cell? ⟨w.heap.size, 0, none⟩ = some (.int .i64 V) ∧ w'.cell? ⟨w.heap.size, 1, none⟩ = some (.slice a0 fs.length cap) ∧ w'.cell? ⟨bf, 0, none⟩ = some (.int .i64 a) ∧ w'.cell? ⟨bf, 1, none⟩ = some (.int .i64 b)) (go_keep) (first
        | (go_at_call 98; refine HA.out.mono ?_; rintro e w3 ⟨rfl, hBw3⟩; have mw30 := (hBw3.cell (p := ⟨w.heap.size, 0, none⟩) hs2).trans n0; have mw31 := (hBw3.cell (p := ⟨w.heap.size, 1, none⟩) hs2).trans n1; have mw32 := (hBw3.cell (p := ⟨bf, 0, none⟩) (Nat.lt_trans hbf2 hs2)).trans n2; have mw33 := (hBw3.cell (p := ⟨bf, 1, none⟩) (Nat.lt_trans hbf2 hs2)).trans n3; have HBw3 := hid hBw3; clear hBw3))
      all_goals
        have HB4 := hid (HB2d.out.trans (HBw3.out.mono HB2d.out.size))
        go_wp2_with fail
        go_ret
        exact ⟨ret_int (by rw [He.out]), HB4.out⟩
  · have He : Hid (E = 2) := hid (by rw [hE, code2R, if_neg (by rw [h0]; decide), h0])
    have HC := hid hC
    clear hC h0 hE
    go_enter Try.func54, Try.ntmps54
    go_wp2_with fail
    refine (is_yes V a0 cap fs _ Hx.out hl HC.out).mono ?_
    rintro e w1 ⟨rfl, hB1⟩
    have HB1 := hid (hB0.trans (hB1.mono (by simp)))
    have k0 : w1.cell? ⟨w.heap.size, 0, none⟩ = some (.int .i64 V) := (hB1.cell (p := ⟨w.heap.size, 0, none⟩) (by simp)).trans (by simp [go_sem])
    have k1 : w1.cell? ⟨w.heap.size, 1, none⟩ = some (.slice a0 fs.length cap) := (hB1.cell (p := ⟨w.heap.size, 1, none⟩) (by simp)).trans (by simp [go_sem])
    have HI := hid (pis_any V a0 cap fs a1 n cap1 ps w1 (Hx0.out.later HB1.out HB1.out.size) (Hy.out.later HB1.out HB1.out.size) hl HC.out.range63 hp hn)
    rw [h1] at HI
    clear hB0 hB1 h1 hp
    go_wp2_with fail
    refine HI.out.mono ?_
    rintro e w2 ⟨rfl, hB2⟩
    go_wp2_with fail
    go_ret
    exact ⟨ret_int (by rw [He.out]), HB1.out.trans (hB2.mono HB1.out.size)⟩
  · have He : Hid (E = 1) := hid (by rw [hE, code2R, if_neg (by rw [h0]; decide), h0])
    clear h0 hE
    go_enter Try.func54, Try.ntmps54
    go_wp2_with fail
    refine (is_no V a0 cap fs _ Hx.out hl hC).mono ?_
    rintro e w1 ⟨rfl, hB1⟩
    go_wp2_with fail
    go_ret
    exact ⟨ret_int (by rw [He.out]), hB0.trans (hB1.mono (by simp))⟩

theorem num_mono3 {fn : FuncId} {args : Array Value} {w : World} {B : Nat} {P : Program} {R : Int × Int} {b c : Int} (hR : R = (b, c))
    (h : Calls P fn args w fun e w' => e = .returned (.tuple #[.int .i64 b, .int .i64 c]) ∧ Below B w w') :
    Calls P fn args w fun e w' => e = .returned (.tuple #[.int .i64 R.1, .int .i64 R.2]) ∧ Below B w w' := by
  rw [hR]; exact h

set_option maxRecDepth 1000000 in
set_option maxHeartbeats 4000000 in
theorem specCountGradientWays (V : Int) (a0 : Option Addr) (cap : Nat) (fs : List Int) (a1 : Option Addr) (n cap1 : Nat) (ps : List Int) (a b : Int) (w : World) (hx : SlI w w.heap.size a0 fs) (hx1 : SlI w w.heap.size a1 ps) (hl : fs.length ≤ 1048576) (hp : ps.length = 2 * n) (hn : n ≤ 1048576) (_hw : ∀ x ∈ ps, (Lit.int .i64 x).wf = true) (_wa : (Lit.int .i64 a).wf = true) (_wb : (Lit.int .i64 b).wf = true) :
    Calls Try.prog 51 #[.agg #[.int .i64 V, .slice a0 fs.length cap], .slice a1 n cap1, .int .i64 a, .int .i64 b] w fun e w' => e = .returned (.tuple #[.int .i64 (countWaysR V fs n ps a b).1, .int .i64 (countWaysR V fs n ps a b).2]) ∧ Below w.heap.size w w' := by
  have hB0 : Below w.heap.size w ((w.alloc (.cells #[.int .i64 V, .slice a0 fs.length cap] 30)).alloc (.cells #[.int .i64 a, .int .i64 b] 2)) := ((Below.refl _ w).alloc (Nat.le_refl _) _).alloc (by simp) _
  have HK := hid (code2_spec V a0 cap fs a1 n cap1 ps a b (w.heap.size + 1) _ (hx.later hB0 hB0.size) (hx1.later hB0 hB0.size) hl hp hn (by simp) (by simp [go_sem]) (by simp [go_sem]))
  have Hy := hid hx1
  clear hx hx1
  by_cases h0 : code2R V fs n ps a b = 0
  · have hpc : pcodeR V fs n ps = 0 := by
      unfold code2R at h0
      split at h0
      · assumption
      · exact h0
    have hCO : IsC V fs ∧ OkTo fs ps n := by
      rcases pcode_cases V fs n ps with ⟨hC, ho, _⟩ | ⟨_, _, h2, _⟩ | ⟨_, h2, _⟩
      · exact ⟨hC, ho⟩
      · rw [h2] at hpc; cases hpc
      · rw [h2] at hpc; cases hpc
    rw [h0] at HK
    have HA := hid (fun w1 (h : Below w.heap.size w w1) => acyclicS_any a1 n cap1 ps w1 (Hy.out.later h h.size) hp hn (okTo_highs hCO.1 hCO.2) (okTo_lows hCO.1 hCO.2))
    by_cases hac : NoCycle ps n
    · refine num_mono3 (show countWaysR V fs n ps a b = (wrap64 (gw ps n b a), 0) by rw [countWaysR, if_pos h0, acyB_true hac, if_pos rfl]) ?_
      rw [acyB_true hac] at HA
      have HW := hid (fun w1 (h : Below w.heap.size w w1) => ways_any a1 n cap1 ps b a w1 (Hy.out.later h h.size) hp hn (okTo_highs hCO.1 hCO.2) hac)
      clear h0 hpc hCO hp hac
      go_enter Try.func51, Try.ntmps51
      go_wp2_with fail
      refine HK.out.mono ?_
      rintro e w1 ⟨rfl, hB1⟩
      have HB1 := hid (hB0.trans (hB1.mono (by simp <;> omega)))
      clear hB0 hB1
      go_wp2_with fail
      refine (HA.out w1 HB1.out).mono ?_
      rintro e w2 ⟨rfl, hB2⟩
      have HB2 := hid (HB1.out.trans (hB2.mono HB1.out.size))
      clear hB2
      go_wp2_with fail
      refine (HW.out w2 HB2.out).mono ?_
      rintro e w3 ⟨rfl, hB3⟩
      have HB3 := hid (HB2.out.trans (hB3.mono HB2.out.size))
      clear hB3
      go_wp2_with fail
      go_ret2
      exact ⟨rfl, HB3.out⟩
    · refine num_mono3 (show countWaysR V fs n ps a b = (0, 5) by rw [countWaysR, if_pos h0, acyB_false hac, if_neg (by simp)]) ?_
      rw [acyB_false hac] at HA
      clear h0 hpc hCO hp hac
      go_enter Try.func51, Try.ntmps51
      go_wp2_with fail
      refine HK.out.mono ?_
      rintro e w1 ⟨rfl, hB1⟩
      have HB1 := hid (hB0.trans (hB1.mono (by simp <;> omega)))
      clear hB0 hB1
      go_wp2_with fail
      refine (HA.out w1 HB1.out).mono ?_
      rintro e w2 ⟨rfl, hB2⟩
      have HB2 := hid (HB1.out.trans (hB2.mono HB1.out.size))
      clear hB2
      go_wp2_with fail
      go_ret2
      exact ⟨rfl, HB2.out⟩
  · obtain ⟨c, hc⟩ : ∃ c, c = code2R V fs n ps a b := ⟨_, rfl⟩
    refine num_mono3 (show countWaysR V fs n ps a b = (0, c) by rw [countWaysR, if_neg h0, hc]) ?_
    rw [← hc] at h0 HK
    have hcn : (c != 0) = true := by simpa using h0
    clear hc hp h0
    go_enter Try.func51, Try.ntmps51
    go_wp2_with fail
    refine HK.out.mono ?_
    rintro e w1 ⟨rfl, hB1⟩
    go_wp2_with fail
    go_ret2
    exact ⟨rfl, hB0.trans (hB1.mono (by simp <;> omega))⟩

end Go.Proofs.Ytgmapgaijncbeaa

/-! A queue: a row of int64 that is cut at its front and grows at its end. -/
namespace Go.Proofs.Ytgmapgaijncbeaa
open Go.RowKit

structure QAt (W : World) (base g off cap : Nat) (cur : Array Value) (xs : List Int) : Prop where
  base : base ≤ g
  heap : W.heap[g]? = some (.cells cur 2 (0, 0))
  len : xs.length ≤ cap
  size : off + cap ≤ cur.size
  at_ : ∀ i, i < xs.length → cur[off + i]? = some (.int .i64 (xs[i]?.getD 0))
def OwnsQ (W : World) (base : Nat) (v : Value) (xs : List Int) : Prop := ∃ g off cap cur, v = .slice (some ⟨g, off, none⟩) xs.length cap ∧ QAt W base g off cap cur xs

theorem QAt.cell {W : World} {base g off cap : Nat} {cur : Array Value} {xs : List Int} (h : QAt W base g off cap cur xs) {i : Nat} (hi : i < xs.length) : W.cell? ⟨g, off + i, none⟩ = some (.int .i64 (xs[i]?.getD 0)) := by
  rw [cell_of_row W g (off + i) cur _ (0, 0) h.heap]
  exact h.at_ i hi
theorem QAt.lt {W : World} {base g off cap : Nat} {cur : Array Value} {xs : List Int} (h : QAt W base g off cap cur xs) : g < W.heap.size := (Array.getElem?_eq_some_iff.1 h.heap).1
theorem OwnsQ.kept {W W' : World} {base : Nat} {v : Value} {xs : List Int} {row : Option Nat} (h : OwnsQ W base v xs) (hg : W.grownBy W' row) (hne : v.ownBlock ≠ row) : OwnsQ W' base v xs := by
  obtain ⟨g, off, cap, cur, rfl, q⟩ := h
  exact ⟨g, off, cap, cur, rfl, q.base, (hg.block g q.lt (by simpa [Value.ownBlock] using hne)).trans q.heap, q.len, q.size, q.at_⟩
theorem OwnsQ.lt {W : World} {base : Nat} {v : Value} {xs : List Int} (h : OwnsQ W base v xs) : ∃ g, v.ownBlock = some g ∧ base ≤ g ∧ g < W.heap.size := by
  obtain ⟨g, off, cap, cur, rfl, q⟩ := h
  exact ⟨g, rfl, q.base, q.lt⟩

theorem OwnsQ.form {W : World} {base : Nat} {v : Value} {xs : List Int} (h : OwnsQ W base v xs) : ∃ g off cap, v = .slice (some ⟨g, off, none⟩) xs.length cap := by
  obtain ⟨g, off, cap, _, e, _⟩ := h
  exact ⟨g, off, cap, e⟩

/-- 'append(queue, x)', as the run of the operation. -/
theorem OwnsQ.push {W : World} {base : Nat} {v : Value} {xs : List Int} (h : OwnsQ W base v xs) (hb : base ≤ W.heap.size) (hl : xs.length ≤ 1048576) (ty : TypeId) (ad : Addr) (c : Nat) (x : Int) (hx : W.cell? (ad.add 0) = some (.int .i64 x)) :
    ∃ v' W', (Builtin.append_ #[22, 22] ty #[v, .slice (some ad) 1 c]).run Try.prog W = .ok v' W' ∧ OwnsQ W' base v' (xs ++ [x]) ∧ W.grownBy W' v.ownBlock ∧ (v'.ownBlock = v.ownBlock ∨ ∃ k, v'.ownBlock = some k ∧ W.heap.size ≤ k) := by
  obtain ⟨i0, hi, hz0, hz1, hz2⟩ := info_parts info_i64
  obtain ⟨g, off, cap, cur, rfl, q⟩ := h
  have hnews : ∀ j u, [Value.int .i64 x][j]? = some u → W.cell? (ad.add j) = some u := by
    intro j u hj
    match j, hj with
    | 0, hj => simp at hj; subst hj; exact hx
  by_cases hroom : xs.length + 1 ≤ cap
  · have hcl : W.cell? ⟨g, off + xs.length, none⟩ = cur[off + xs.length]? := cell_of_row W g (off + xs.length) cur _ (0, 0) q.heap
    have hlt : off + xs.length < cur.size := by have := q.size; omega
    have hr := run_append_room_cells (P := Try.prog) W 22 ty 2 i0 Try.underlying22 hi g off xs.length cap ad 1 c [.int .i64 x] (by rw [hz1]; rfl) hnews (by simp [Value.oneCell']) hroom
      (fun j hj => by
        have : j = 0 := by simpa using hj
        subst this
        rw [hz1, Nat.mul_one, Nat.add_zero, hcl, Array.getElem?_eq_getElem hlt]; rfl)
      (fun j hj => by simp [World.frozen?, q.heap])
    rw [hz1, Nat.mul_one] at hr
    have hh : (W.setCell ⟨g, off + xs.length, none⟩ (.int .i64 x)).heap[g]? = some (.cells (cur.setIfInBounds (off + xs.length) (.int .i64 x)) 2 (0, 0)) := by
      simp only [World.setCell, Array.getElem?_modify, q.heap]
      simp
    refine ⟨_, _, hr, ⟨g, off, cap, cur.setIfInBounds (off + xs.length) (.int .i64 x), by simp, q.base, hh, by simp; omega, by simp; exact q.size, fun i hi => ?_⟩, grownBy_set W ⟨g, off + xs.length, none⟩ _, .inl rfl⟩
    by_cases e : i = xs.length
    · subst e
      simp [hlt]
    · have hil : i < xs.length := by simp at hi; omega
      rw [Array.getElem?_setIfInBounds_ne (by omega), q.at_ i hil, List.getElem?_append_left hil]
  · have hcap : cap = xs.length := by have := q.len; omega
    obtain ⟨v', W', hr, hown, hg⟩ := run_append_arg_grows (P := Try.prog) W 22 ty 2 i0 (.int .i64 0) 1 8 Try.underlying22 hi hz0 hz1 hz2 rfl (by decide) ⟨g, off, none⟩ xs.length cap (xs.map (Value.int .i64)) (by simp)
      (fun j u hj => by
        have hjl : j < xs.length := by have := (List.getElem?_eq_some_iff.1 hj).1; simpa using this
        have hadd : (⟨g, off, none⟩ : Addr).add j = ⟨g, off + j, none⟩ := by unfold Addr.add; split <;> simp_all
        rw [hadd, q.cell hjl]
        rw [List.getElem?_map, List.getElem?_eq_getElem hjl] at hj
        rw [List.getElem?_eq_getElem hjl]
        simpa using hj)
      ad 1 c [.int .i64 x] (by simp) hnews (by omega) (by unfold maxLen; omega) (by omega)
    rcases hown.2 with ⟨_, h0⟩ | ⟨g', cap', cur', rfl, hg', hh', h1, _, h3, h4⟩
    · omega
    · refine ⟨_, W', hr, ⟨g', 0, cap', cur', by simp, Nat.le_trans hb hg', hh', by simpa using h1, by omega, fun i hi => ?_⟩, ⟨hg.os, hg.tape, hg.output, hg.size, fun k hk _ => hg.block k hk (by simp)⟩, .inr ⟨g', rfl, hg'⟩⟩
      · have h5 : (cur'.toList.take ((xs.length + 1) * 1))[i]? = (xs.map (Value.int .i64) ++ [.int .i64 x])[i]? := by rw [h4]
        have hi' : i < xs.length + 1 := by simpa using hi
        rw [List.getElem?_take, if_pos (by omega)] at h5
        rw [Nat.zero_add, ← Array.getElem?_toList, h5]
        by_cases e : i = xs.length
        · subst e; simp
        · have hil : i < xs.length := by omega
          rw [List.getElem?_append_left (by simpa using hil), List.getElem?_append_left hil, List.getElem?_map, List.getElem?_eq_getElem hil]
          rfl

/-- 'queue[0]' and 'queue[1:]'. -/
theorem OwnsQ.pop {W : World} {base : Nat} {v : Value} {x : Int} {xs : List Int} (h : OwnsQ W base v (x :: xs)) :
    ∃ g off cap, v = .slice (some ⟨g, off, none⟩) (xs.length + 1) cap ∧ xs.length + 1 ≤ cap ∧ W.cell? ⟨g, off, none⟩ = some (.int .i64 x) ∧
      (cap ≠ 1 → OwnsQ W base (.slice (some ⟨g, off + 1, none⟩) xs.length (cap - 1)) xs) ∧ (cap = 1 → OwnsQ W base (.slice (some ⟨g, off, none⟩) xs.length 0) xs) := by
  obtain ⟨g, off, cap, cur, rfl, q⟩ := h
  have hl := q.len
  have hs := q.size
  simp only [List.length_cons] at hl
  refine ⟨g, off, cap, by simp, hl, by have := q.cell (i := 0) (by simp); simpa using this, fun hc => ⟨g, off + 1, cap - 1, cur, rfl, q.base, q.heap, by omega, by omega, fun i hi => ?_⟩, fun hc => ⟨g, off, 0, cur, rfl, q.base, q.heap, by omega, by omega, fun i hi => absurd hi (by omega)⟩⟩
  have := q.at_ (i + 1) (by simp; omega)
  rw [show off + 1 + i = off + (i + 1) by omega, this]
  simp
/-- '[]int64{a}'. -/
theorem OwnsQ.one {W : World} {base : Nat} (hb : base ≤ W.heap.size) (a : Int) : OwnsQ (W.alloc (.cells #[.int .i64 a] 2)) base (.slice (some ⟨W.heap.size, 0, none⟩) 1 1) [a] :=
  ⟨W.heap.size, 0, 1, #[.int .i64 a], rfl, hb, heap_alloc_new W _, by simp, by simp, fun i hi => by
    have : i = 0 := by simpa using hi
    subst this
    rfl⟩

end Go.Proofs.Ytgmapgaijncbeaa

/-! reachedFrom: the program's search. -/
namespace Go.Proofs.Ytgmapgaijncbeaa
open Go.RowKit Go.Shelf Go.ChangeMaps

attribute [local go_sem] Oper.semAt_some

/-- 'append(queue, x)', at the operation. -/
theorem wpListIn_append_q {F : Fence} {nF : Nat} {w : World} {ops : Array Oper} {rest : List Oper} {o : Oper} {a : Act} {Q : Exit → Act → World → Prop} (hgd : o.guard = none) {s y : Operand}
    (ho : o.op = .call { callee := .builtin .append, args := #[s, y], argTypes := #[22, 22] })
    {base : Nat} {v : Value} {xs : List Int} {x : Int} (hq : OwnsQ w base v xs) (hb : base ≤ w.heap.size) (hl : xs.length ≤ 1048576)
    (hs : a.eval s = v) (hy : a.eval y = .slice (some ⟨w.heap.size, 0, none⟩) 1 1)
    (hK : ∀ v' w', OwnsQ w' base v' (xs ++ [x]) → w.grownBy w' v.ownBlock → (v'.ownBlock = v.ownBlock ∨ ∃ k, v'.ownBlock = some k ∧ w.heap.size < k) → wpListIn F nF Try.prog ops Q rest (a.put o.dst v') w') :
    wpListIn F nF Try.prog ops Q (o :: rest) a (w.alloc (.cells #[.int .i64 x] 2)) := by
  refine wpListIn_plain hgd fun K hK' => ?_
  have hq1 : OwnsQ (w.alloc (.cells #[.int .i64 x] 2)) base v xs := hq.kept (World.grownBy_alloc w _ none) (by obtain ⟨g, e, _⟩ := hq.lt; rw [e]; simp)
  obtain ⟨v', w', hr, h1, h2, h3⟩ := hq1.push (by simp; omega) hl o.type ⟨w.heap.size, 0, none⟩ 1 x (by simp [go_sem, Addr.add])
  unfold Oper.wpIn
  refine ⟨by simp [Oper.about, ho, resolve, Target.leads, Sem.run_pure], ?_⟩
  rw [Oper.semAt_plain F _ _ (by rw [ho]; intro c hc'; cases hc')]
  simp [execOp, ho, resolve, invoke, builtin, hs, hy, hr, Result.andThen]
  refine hK' _ _ (hK v' w' h1 ((World.grownBy_alloc w _ _).trans h2) ?_)
  rcases h3 with h | ⟨k, h, hk⟩
  · exact .inl h
  · exact .inr ⟨k, h, by simp at hk; omega⟩

/-- What the search keeps of the world. -/
structure RfW (w W : World) (met qs : List Int) (v : Value) (Ds : List Nat) : Prop where
  below : Below w.heap.size w W
  own : W.ownsMap Try.prog 2 (plainElem (H := Unit) Try.prog 4) w.heap.size met.length (knownD met)
  b5 : W.heap[w.heap.size + 1]? = some (.cells #[.map (some w.heap.size)] 74 (0, 0))
  b6 : W.heap[w.heap.size + 3]? = some (.cells #[v] 22 (0, 0))
  q : OwnsQ W w.heap.size v qs
  ne : ∀ g, v.ownBlock = some g → g = w.heap.size + 2 ∨ w.heap.size + 4 ≤ g
  off : ∀ D ∈ Ds, v.ownBlock ≠ some D
  nodup : Ds.Nodup
  marks : ∀ D ∈ Ds, w.heap.size + 4 ≤ D ∧ W.heap[D]? = some (.deferred (some []))
theorem RfW.size {w W : World} {met qs : List Int} {v : Value} {Ds : List Nat} (h : RfW w W met qs v Ds) : w.heap.size + 4 ≤ W.heap.size := by
  have := lt_of_get h.b6; omega
/-- A turn of what lies beyond. -/
theorem RfW.turn {w W W' : World} {met qs : List Int} {v : Value} {Ds : List Nat} (h : RfW w W met qs v Ds) {row : Option Nat} (hg : W.grownBy W' row) (hr : ∀ r, row = some r → w.heap.size + 4 ≤ r ∧ r ∉ Ds ∧ v.ownBlock ≠ some r) : RfW w W' met qs v Ds where
  below := h.below.grown hg (by have := h.size; omega) (fun k e => by have := (hr k e).1; omega)
  own := h.own.kept hg (fun e => by have := (hr _ e.symm).1; omega)
  b5 := (hg.block _ (lt_of_get h.b5) (fun e => by have := (hr _ e.symm).1; omega)).trans h.b5
  b6 := (hg.block _ (lt_of_get h.b6) (fun e => by have := (hr _ e.symm).1; omega)).trans h.b6
  q := h.q.kept hg (fun e => by
    obtain ⟨g, e1, _⟩ := h.q.lt
    rw [e1] at e
    exact (hr g e.symm).2.2 e1)
  ne := h.ne
  off := h.off
  nodup := h.nodup
  marks := fun D hD => ⟨(h.marks D hD).1, (hg.block _ (lt_of_get (h.marks D hD).2) (fun e => (hr _ e.symm).2.1 hD)).trans (h.marks D hD).2⟩
/-- A number is met. -/
theorem RfW.meet {w W W' : World} {met qs : List Int} {v : Value} {Ds : List Nat} (h : RfW w W met qs v Ds) {y : Int} (hown : W'.ownsMap Try.prog 2 (plainElem (H := Unit) Try.prog 4) w.heap.size (met.length + 1) ((knownD met).put (.int .i64 y) (.lit (.bool true)))) (hg : W.grownBy W' (some w.heap.size)) :
    RfW w W' (met ++ [y]) qs v Ds where
  below := h.below.grown hg (by have := h.size; omega) (fun k e => by cases e; exact Nat.le_refl _)
  own := by rw [knownD_snoc]; simpa using hown
  b5 := (hg.block _ (lt_of_get h.b5) (fun e => by injection e with e; omega)).trans h.b5
  b6 := (hg.block _ (lt_of_get h.b6) (fun e => by injection e with e; omega)).trans h.b6
  q := h.q.kept hg (fun e => by have := h.ne _ e; omega)
  ne := h.ne
  off := h.off
  nodup := h.nodup
  marks := fun D hD => ⟨(h.marks D hD).1, (hg.block _ (lt_of_get (h.marks D hD).2) (fun e => by injection e with e; have := (h.marks D hD).1; omega)).trans (h.marks D hD).2⟩
/-- The queue is another one, and its variable holds it. -/
theorem RfW.queue {w W W' : World} {met qs qs' : List Int} {v v' : Value} {Ds : List Nat} (h : RfW w W met qs v Ds) (hq : OwnsQ W' w.heap.size v' qs') (hg : W.grownBy W' v.ownBlock) (hat : v'.ownBlock = v.ownBlock ∨ ∃ k, v'.ownBlock = some k ∧ W.heap.size ≤ k) :
    RfW w (W'.setCell ⟨w.heap.size + 3, 0, none⟩ v') met qs' v' Ds := by
  obtain ⟨g, eg, hg1, hg2⟩ := h.q.lt
  have hgn := h.ne g eg
  have hsz := h.size
  rw [eg] at hg hat
  have hne' : ∀ k, v'.ownBlock = some k → k = w.heap.size + 2 ∨ w.heap.size + 4 ≤ k := fun k hk => by
    rcases hat with e | ⟨j, e, hj⟩
    · rw [e] at hk; injection hk with hk; omega
    · rw [e] at hk; injection hk with hk; omega
  have b6' : W'.heap[w.heap.size + 3]? = some (.cells #[v] 22 (0, 0)) := (hg.block _ (lt_of_get h.b6) (fun e => by injection e with e; omega)).trans h.b6
  have hgs := grownBy_set W' ⟨w.heap.size + 3, 0, none⟩ v'
  refine ⟨?_, ?_, ?_, ?_, hq.kept hgs (fun e => by have := hne' _ e; simp only at this; omega), hne', fun D hD e => ?_, h.nodup, fun D hD => ⟨(h.marks D hD).1, ?_⟩⟩
  · have hb := h.below.grown hg (by omega) (fun k e => by cases e; omega)
    exact hb.grown hgs (by have := hb.size; omega) (fun k e => by cases e; simp only; omega)
  · exact (h.own.kept hg (fun e => by injection e with e; omega)).kept hgs (fun e => by injection e with e; simp only at e; omega)
  · exact (Below.heap_setCell _ _ _ _ (by simp only; omega)).trans ((hg.block _ (lt_of_get h.b5) (fun e => by injection e with e; omega)).trans h.b5)
  · simp only [World.setCell, Array.getElem?_modify, b6']
    simp
  · rcases hat with e1 | ⟨j, e1, hj⟩
    · exact h.off D hD (by rw [eg, ← e1]; exact e)
    · rw [e1] at e
      injection e with e
      have := lt_of_get (h.marks D hD).2
      omega
  · exact (Below.heap_setCell _ _ _ _ (by have := (h.marks D hD).1; simp only; omega)).trans ((hg.block _ (lt_of_get (h.marks D hD).2) (fun e => by injection e with e; exact h.off D hD (by rw [eg, ← e]))).trans (h.marks D hD).2)

theorem RfW.mark {w W : World} {met qs : List Int} {v : Value} {Ds : List Nat} (h : RfW w W met qs v Ds) {D : Nat} (hD : W.heap[D]? = some (.deferred (some []))) (hb : w.heap.size + 4 ≤ D) (hn : D ∉ Ds) (hv : v.ownBlock ≠ some D) : RfW w W met qs v (D :: Ds) where
  below := h.below
  own := h.own
  b5 := h.b5
  b6 := h.b6
  q := h.q
  ne := h.ne
  off := fun E hE => by
    rcases List.mem_cons.1 hE with rfl | hE
    · exact hv
    · exact h.off E hE
  nodup := List.nodup_cons.2 ⟨hn, h.nodup⟩
  marks := fun E hE => by
    rcases List.mem_cons.1 hE with rfl | hE
    · exact ⟨hb, hD⟩
    · exact h.marks E hE
theorem rf_ownIn {w : World} {Ds : List Nat} {lo k : Nat} (g : List (Fin 64) → List Int × List Int) (hlo : w.heap.size + 4 ≤ lo) (hD : ∀ D ∈ Ds, D < lo) :
    OwnIn lo k (fun pre W' => ∃ v, RfW w W' (g pre).1 (g pre).2 v Ds ∧ ∀ j, v.ownBlock = some j → j < lo ∨ lo + k ≤ j) := by
  rintro s A B row ⟨v, h, hb⟩ hg hr
  refine ⟨v, h.turn hg (fun r e => ?_), hb⟩
  obtain ⟨h1, h2⟩ := hr r e
  refine ⟨by omega, fun hm => by have := hD r hm; omega, fun ev => ?_⟩
  rcases hb r ev with h3 | h3
  · omega
  · rcases h2 with h2 | ⟨o, ho, hc⟩
    · omega
    · obtain ⟨g', off', cap', cur', rfl, q'⟩ := h.q
      simp [Value.ownBlock] at ev
      subst ev
      rw [q'.heap] at ho
      injection ho with ho
      rw [← ho] at hc
      simp [Obj.isCells] at hc

theorem wpIn_loop_ghost {F : Fence} {nF : Nat} {P : Program} {Q : Exit → Act → World → Prop} {a : Act} {w : World} {c : Code} (I : Nat → Act → World → Prop) (n₀ : Nat) (h₀ : I n₀ a w)
    (round : ∀ g a w, I g a w → c.wpIn F nF P (Exit.then (fun a' w' => ∃ g', g' < g ∧ I g' a' w') Q) a w) : (Code.loop c).wpIn F nF P Q a w := by
  refine wpIn_loop (fun a w => ∃ g, I g a w) (fun a w => Go.leastOf (fun g => I g a w)) ⟨n₀, h₀⟩ ?_
  intro a w hI
  refine wpIn_mono (round _ a w (Go.leastOf_spec hI).1) ?_
  intro e a' w' hq
  cases e with
  | normal =>
    obtain ⟨g', hlt, hI'⟩ := hq
    exact show (∃ g, I g a' w') ∧ Go.leastOf (fun g => I g a' w') < Go.leastOf (fun g => I g a w) from ⟨⟨g', hI'⟩, Nat.lt_of_le_of_lt ((Go.leastOf_spec ⟨g', hI'⟩).2 g' hI') hlt⟩
  | exit id => exact hq
  | goto l => exact hq
  | ret => exact hq
  | panic ch => exact hq
  | outgrown => exact hq

theorem Bfs.range {ps : List Int} {n : Nat} (hh : HighsB ps n) {a x : Int} (h : x = a ∨ Way ps n a x) : x = a ∨ (0 ≤ x ∧ x < 64) := by
  rcases h with h | h
  · exact .inl h
  · cases h with
    | one h1 => exact .inr (next_range hh h1)
    | more _ h1 => exact .inr (next_range hh h1)

/-- The loop's state ahead of a round. -/
def RfInv (w : World) (M n : Nat) (ps : List Int) (a : Int) (g : Nat) (a' : Act) (W : World) : Prop :=
  ∃ (met qs : List Int) (v : Value) (Ds : List Nat) (us : Nat → Value), a' = { tmps := #[.map (some M), .int .i64 a, undef, undef, .map none, .pointer (some ⟨w.heap.size + 1, 0, none⟩), .pointer (some ⟨w.heap.size + 1 + 1 + 1, 0, none⟩), us 7, us 8, .map (some w.heap.size), .int .i64 a, .map (some w.heap.size), .int .i64 a, .slice (some ⟨w.heap.size + 1 + 1, 0, none⟩) 1 1, us 14, us 15, us 16, us 17, us 18, us 19, us 20, us 21, us 22, us 23, us 24, us 25, us 26, us 27, us 28, us 29, us 30, us 31, us 32, us 33, us 34, us 35, us 36], defers := marks Ds } ∧ Hid (RfW w W met qs v Ds) ∧ Hid (Bfs ps n a met qs) ∧ 2 * unmet met + qs.length ≤ g
theorem rfInv_of {w W : World} {M n : Nat} {ps : List Int} {a : Int} {g : Nat} {met qs : List Int} {v : Value} {Ds : List Nat} (tm : Array Value) (ds : List Deferred) (hds : ds = marks Ds) (h : tm = #[.map (some M), .int .i64 a, undef, undef, .map none, .pointer (some ⟨w.heap.size + 1, 0, none⟩), .pointer (some ⟨w.heap.size + 1 + 1 + 1, 0, none⟩), tm.getD 7 undef, tm.getD 8 undef, .map (some w.heap.size), .int .i64 a, .map (some w.heap.size), .int .i64 a, .slice (some ⟨w.heap.size + 1 + 1, 0, none⟩) 1 1, tm.getD 14 undef, tm.getD 15 undef, tm.getD 16 undef, tm.getD 17 undef, tm.getD 18 undef, tm.getD 19 undef, tm.getD 20 undef, tm.getD 21 undef, tm.getD 22 undef, tm.getD 23 undef, tm.getD 24 undef, tm.getD 25 undef, tm.getD 26 undef, tm.getD 27 undef, tm.getD 28 undef, tm.getD 29 undef, tm.getD 30 undef, tm.getD 31 undef, tm.getD 32 undef, tm.getD 33 undef, tm.getD 34 undef, tm.getD 35 undef, tm.getD 36 undef]) (HW : Hid (RfW w W met qs v Ds)) (HB : Hid (Bfs ps n a met qs)) (hg : 2 * unmet met + qs.length ≤ g) :
    RfInv w M n ps a g { tmps := tm, defers := ds } W :=
  ⟨met, qs, v, Ds, fun i => tm.getD i undef, by rw [hds]; exact congrArg (fun t => ({ tmps := t, defers := marks Ds } : Act)) h, HW, HB, hg⟩

set_option maxRecDepth 1000000 in
set_option maxHeartbeats 4000000 in
theorem reachedF_in (M N n : Nat) (ps : List Int) (a : Int) (w : World) (hown : w.ownsMap Try.prog 2 pairElem M N (lowsD ps n)) (hd : LowsApart ps n) (hh : HighsB ps n) (ha : (Lit.int .i64 a).wf = true) :
    CallsIn Fence.wide 10 Try.prog 62 #[.map (some M), .int .i64 a] w fun e w' => ∃ met, e = .returned (.map (some w.heap.size)) ∧ w'.ownsMap Try.prog 2 (plainElem (H := Unit) Try.prog 4) w.heap.size met.length (knownD met) ∧ Hid (Bfs ps n a met []) ∧ Below w.heap.size w w' := by
  have hmm := @run_makeMap Try.prog
  have hm0 := World.ownsMap_made w Try.prog 2 (plainElem (H := Unit) Try.prog 4)
  obtain ⟨wa, hrun1, hwa, ht⟩ := World.ownsMap.store hm0 (Maps.int_keyed Try.underlying2) Try.underlying74 (show 0 < maxLen by decide) (Maps.keyOf_int_mk Try.underlying2 ha) (plainElem_bool Try.underlying4 true)
  have hsa : wa.heap.size = w.heap.size + 1 := by
    obtain ⟨es, c, es', c', hb, rfl⟩ := ht
    simp [setBlock]
  have hga : (w.alloc (.map #[] 0)).grownBy wa (some w.heap.size) := by
    obtain ⟨es, c, es', c', hb, rfl⟩ := ht
    exact ⟨rfl, rfl, rfl, by simp [setBlock], fun i _ hi => heap_setBlock_other hb _ (fun e => hi (by rw [e]))⟩
  have hba : Below w.heap.size w wa := ((Below.refl _ w).alloc (Nat.le_refl _) _).grown hga (by simp) (fun r e => by cases e; exact Nat.le_refl _)
  have H0 : Hid (RfW w (((wa.alloc (.cells #[.map (some w.heap.size)] 74)).alloc (.cells #[.int .i64 a] 2)).alloc (.cells #[.slice (some ⟨w.heap.size + 2, 0, none⟩) 1 1] 22)) [a] [a] (.slice (some ⟨w.heap.size + 2, 0, none⟩) 1 1) []) := by
    have e3 := heap_alloc_new ((wa.alloc (.cells #[.map (some w.heap.size)] 74)).alloc (.cells #[.int .i64 a] 2)) (.cells #[.slice (some ⟨w.heap.size + 2, 0, none⟩) 1 1] 22)
    rw [World.size_alloc, World.size_alloc, hsa] at e3
    have e1 := heap_alloc_new wa (.cells #[.map (some w.heap.size)] 74)
    rw [hsa] at e1
    have q1 := OwnsQ.one (W := wa.alloc (.cells #[.map (some w.heap.size)] 74)) (base := w.heap.size) (by simp; omega) a
    rw [World.size_alloc, hsa] at q1
    exact hid {
      below := ((hba.alloc (by omega) _).alloc (by simp; omega) _).alloc (by simp; omega) _
      own := ((hwa.alloc _).alloc _).alloc _
      b5 := (Below.heap_alloc _ _ _ (by simp; omega)).trans ((Below.heap_alloc _ _ _ (by simp; omega)).trans e1)
      b6 := e3
      q := q1.kept (World.grownBy_alloc _ _ none) (by simp [Value.ownBlock])
      ne := fun g e => by simp [Value.ownBlock] at e; exact .inl e.symm
      off := by simp
      nodup := by simp
      marks := by simp }
  clear hm0 hwa ht hga hba
  have HL : Hid (∀ W, Below w.heap.size w W → W.ownsMap Try.prog 2 pairElem M N (lowsD ps n)) := hid (fun W hW => by
    have hlt := hown.lt
    obtain ⟨es, clock, hb, F, hs, hD⟩ := hown
    exact ⟨es, clock, (hW.block M hlt).trans hb, F, hs, hD⟩)
  have HH := hid hh
  have HD := hid hd
  have Ha := hid ha
  clear hown hh hd
  refine callsIn_of_wp_marks Try.func62 rfl trivial ?_ rfl
  simp only [Try.ntmps62, List.size_toArray, List.length_cons, List.length_nil, Nat.reduceAdd, Nat.reduceSub, Array.replicate_succ, Array.replicate_zero, List.push_toArray, List.append_toArray, List.nil_append, List.cons_append]
  gi_wp2
  clear hmm hrun1
  refine wpIn_loop_ghost (RfInv w M n ps a) 129 ?start ?round
  case start => exact rfInv_of (met := [a]) (qs := [a]) (Ds := []) _ _ rfl rfl H0 (hid (Bfs.begin ps n a)) (Bfs.begin ps n a).few
  case round =>
    rintro gg a' Wk ⟨met, qs, v, Ds, us, rfl, HW, HB, hgg⟩
    clear H0
    have hsz := HW.out.size
    cases qs with
    | nil =>
      obtain ⟨g, off, cap, cur, rfl, hq⟩ := HW.out.q
      obtain ⟨c6, _⟩ := box_cell HW.out.b6
      obtain ⟨c5, _⟩ := box_cell HW.out.b5
      have e6 : w.heap.size + 1 + 1 + 1 = w.heap.size + 3 := rfl
      clear hq
      gi_wp2
      refine leaves_marks (by simp) Ds _ HW.out.nodup (fun D hD => (HW.out.marks D hD).2) (fun w' hw' => ?_)
      have hno : w.heap.size ∉ Ds := fun hm => by have := (HW.out.marks _ hm).1; omega
      refine ⟨_, results_tmp rfl _ _ _, rfl, met, ?_, HB, HW.out.below.trans (hw'.below (fun D hD => by have := (HW.out.marks D hD).1; omega))⟩
      obtain ⟨es, clock, hb, F, hs, hD⟩ := HW.out.own
      exact ⟨es, clock, (hw'.block _ hno).trans hb, F, hs, hD⟩
    | cons x qs =>
      obtain ⟨g, off, cap, rfl, hcap, hcx, hp1, hp2⟩ := HW.out.q.pop
      obtain ⟨c6, f6⟩ := box_cell HW.out.b6
      obtain ⟨m, hm⟩ : ∃ m, m = qs.length := ⟨_, rfl⟩
      rw [← hm] at hcap hp1 hp2 c6
      have Hm := hid hm
      have hl0 : (0 : Int) < (m : Int) + 1 := by omega
      have hl1 : (1 : Int) ≤ (m : Int) + 1 := by omega
      have HP1 := hid hp1
      have HP2 := hid hp2
      have Hcap := hid hcap
      have e6 : w.heap.size + 1 + 1 + 1 = w.heap.size + 3 := rfl
      have hxw : (Lit.int .i64 x).wf = true := by
        rcases Bfs.range HH.out (HB.out.way x (HB.out.sub x (by simp))) with h | h
        · rw [h]; exact Ha.out
        · exact WalkArith.wf_i64 (by omega)
      have Hxw := hid hxw
      clear hm hp1 hp2 hxw
      gi_wp2_with (first
        | (refine ⟨trivial, ?_⟩; gi_at_call 61; refine (stepsFrom_in _ M x _).mono ?_; rintro e w' ⟨rfl, rfl⟩))
      case inl =>
        obtain ⟨v1, hv1⟩ : ∃ v1, v1 = Value.slice (some ⟨g, off, none⟩) m 0 := ⟨_, rfl⟩
        have HQ1 : Hid (OwnsQ Wk w.heap.size v1 qs) := hid (by rw [hv1]; exact HP2.out (by first | assumption | omega))
        have hvb : v1.ownBlock = some g := by rw [hv1]; rfl
        rw [← hv1]
        have hR1 : RfW w (Wk.setCell ⟨w.heap.size + 3, 0, none⟩ v1) met qs v1 Ds := HW.out.queue HQ1.out ⟨rfl, rfl, rfl, Nat.le_refl _, fun _ _ _ => rfl⟩ (.inl hvb)
        have hgk : g < Wk.heap.size := by obtain ⟨g', e1, _, h2⟩ := HW.out.q.lt; simp [Value.ownBlock] at e1; omega
        have hDs : ∀ D ∈ Ds, D < Wk.heap.size := fun D hD => lt_of_get (HW.out.marks D hD).2
        obtain ⟨W1, hW1⟩ : ∃ W1, W1 = Wk.setCell ⟨w.heap.size + 3, 0, none⟩ v1 := ⟨_, rfl⟩
        have hs1 : W1.heap.size = Wk.heap.size := by rw [hW1]; simp [World.setCell]
        rw [← hW1] at hR1 ⊢
        obtain ⟨W2, hW2⟩ : ∃ W2, W2 = (W1.alloc (.cells #[.map (some M)] 69)).alloc (.cells #[.int .i64 x] 2) := ⟨_, rfl⟩
        have hbm : W2.heap[Wk.heap.size]? = some (.cells #[.map (some M)] 69 (0, 0)) := by rw [hW2, ← hs1]; exact (Below.heap_alloc _ _ _ (by simp)).trans (heap_alloc_new _ _)
        have hbx : W2.heap[Wk.heap.size + 1]? = some (.cells #[.int .i64 x] 2 (0, 0)) := by rw [hW2, ← hs1]; have := heap_alloc_new (W1.alloc (.cells #[.map (some M)] 69)) (.cells #[.int .i64 x] 2); rwa [World.size_alloc] at this
        have hs2 : W2.heap.size = Wk.heap.size + 2 := by rw [hW2]; simp [hs1]
        have hR2 : RfW w W2 met qs v1 Ds := by
          rw [hW2]
          exact (hR1.turn (World.grownBy_alloc W1 _ none) (fun r e => by cases e)).turn (World.grownBy_alloc _ _ none) (fun r e => by cases e)
        have HLo := HL.out W2 hR2.below
        rw [← hW2]
        clear hW2 hW1 hR1 hcx c6 f6 hv1 HP1 HP2
        have HR2 := hid hR2
        have HDs := hid hDs
        clear hR2 hDs
        refine wpIn_rangeFunc_P rfl (by decide) (gf := 101) (lb := #[.pointer (some ⟨Wk.heap.size, 0, none⟩), .pointer (some ⟨Wk.heap.size + 1, 0, none⟩)]) rfl trivial (enters_of Try.func101 (by kernel_rfl) rfl)
          (steps_P 9 (by decide) Wk.heap.size (Wk.heap.size + 1) M N n ps x W2 hbm hbx HLo HD.out HH.out Hxw.out) (by simp) (Below.refl _ _) (fun _ => rfl)
          (fun pre W' => ∃ v, RfW w W' (visits (met, qs) pre).1 (visits (met, qs) pre).2 v Ds ∧ ∀ j, v.ownBlock = some j → j < W2.heap.size ∨ W2.heap.size + (2 + 5) ≤ j)
          (fun _ _ _ => False)
          (rf_ownIn (visits (met, qs)) (by omega) (fun D hD => by have := HDs.out D hD; omega))
          (fun _ => ownIn_pure _ _ _)
          ⟨v1, HR2.out, fun j e => by rw [hvb] at e; injection e with e; omega⟩
          (fun y => { tmps := #[.map (some M), .int .i64 a, undef, undef, .map none, .pointer (some ⟨w.heap.size + 1, 0, none⟩), .pointer (some ⟨w.heap.size + 3, 0, none⟩), .int .i64 x, .int .i64 (y.val : Int), .map (some w.heap.size), .int .i64 a, .map (some w.heap.size), .int .i64 a, .slice (some ⟨w.heap.size + 1 + 1, 0, none⟩) 1 1, .slice (some ⟨g, off, none⟩) (m + 1) 1, .int .i64 ((m : Int) + 1), .bool true, .slice (some ⟨g, off, none⟩) (m + 1) 1, .pointer (some ⟨g, off, none⟩), .int .i64 x, .slice (some ⟨g, off, none⟩) (m + 1) 1, v1, .map (some M), .int .i64 x, .func (.func 101) #[] #[.pointer (some ⟨Wk.heap.size, 0, none⟩), .pointer (some ⟨Wk.heap.size + 1, 0, none⟩)], .int .i64 (y.val : Int), us 26, us 27, us 28, us 29, us 30, us 31, us 32, us 33, us 34, us 35, us 36], defers := [] }) ?assign ?body ?done ?stop
        case assign =>
          intro l y W3 K hK
          gi_wp2
          exact hK
        case body =>
          rintro l pre y W3 hpre hsz3 ⟨v, hR, hb⟩
          obtain ⟨s, hs⟩ : ∃ s, s = visits (met, qs) pre := ⟨_, rfl⟩
          have Hsn : Hid (visits (met, qs) (pre ++ [y]) = visit s (y.val : Int)) := hid (by rw [visits_snoc, ← hs])
          rw [← hs] at hR
          have hyw : (Lit.int .i64 (y.val : Int)).wf = true := WalkArith.wf_i64 (by have := y.isLt; omega)
          obtain ⟨c5, _⟩ := box_cell hR.b5
          obtain ⟨c6, f6⟩ := box_cell hR.b6
          have hlk := lookup_known hR.own hyw
          have hsp := visits_spec pre met qs (fun z hz => HB.out.sub z (List.mem_cons_of_mem _ hz))
          rw [← hs] at hsp
          have hlen1 : s.1.length ≤ 65 := by have := hsp.2.2.2.2.2; have := HB.out.small; omega
          have hlen2 : s.2.length ≤ 129 := by have := hsp.2.2.2.2.1; have := HB.out.few; simp at this; omega
          clear hs hsp
          have HR := hid hR
          have Hb := hid hb
          by_cases hy : (y.val : Int) ∈ s.1
          · rw [decide_eq_true hy] at hlk
            have Hv : Hid (visits (met, qs) (pre ++ [y]) = s) := hid (by rw [Hsn.out]; unfold visit; rw [if_pos hy])
            clear hy hR hb hyw
            gi_wp2
            exact ⟨KeepP.refl _ _ _ _, v, by rw [Hv.out]; exact HR.out, Hb.out⟩
          · rw [decide_eq_false hy] at hlk
            have Hv : Hid (visits (met, qs) (pre ++ [y]) = (s.1 ++ [(y.val : Int)], s.2 ++ [(y.val : Int)])) := hid (by rw [Hsn.out]; unfold visit; rw [if_neg hy])
            obtain ⟨w4, hrun4, hown4, hg4⟩ := World.ownsMap.update hR.own (Maps.int_keyed Try.underlying2) Try.underlying74 (show s.1.length < maxLen by unfold maxLen; omega) (Maps.keyOf_int_mk Try.underlying2 hyw) (plainElem_bool Try.underlying4 true)
            have HR4 := hid (hR.meet hown4 hg4)
            obtain ⟨c64, f64⟩ := box_cell HR4.out.b6
            have Hg4 := hid hg4
            have hsz4 := HR4.out.size
            clear hy hR hb hyw hown4 hg4
            gi_wp2_with (gi_at_builtin; refine wpListIn_append_q rfl rfl HR4.out.q (by omega) (by omega) rfl rfl ?_; intro v' w5 hq5 hg5 hat5; obtain ⟨g5, o5, p5, hv5⟩ := hq5.form; subst hv5; have b65 : w5.heap[w.heap.size + 3]? = some (.cells #[v] 22 (0, 0)) := (hg5.block _ (lt_of_get HR4.out.b6) (fun e => by have := HR4.out.ne _ e.symm; omega)).trans HR4.out.b6; obtain ⟨c65, f65⟩ := box_cell b65; have Hq5 := hid hq5; have Hg5 := hid hg5; have Hat5 := hid hat5; clear hq5 hg5 hat5 b65)
            have hs34 : W3.heap.size ≤ w4.heap.size := Hg4.out.size
            have hs45 : w4.heap.size ≤ w5.heap.size := Hg5.out.size
            have el : (s.2 ++ [(y.val : Int)]).length = s.2.length + 1 := by simp
            rw [el] at Hq5 Hat5
            refine ⟨⟨by simp [World.setCell]; omega, fun r hr => ?_⟩, .slice (some ⟨g5, o5, none⟩) (s.2.length + 1) p5, ?_, ?_⟩
            · have hrr : W2.heap.size ≤ r ∧ r < W2.heap.size + (2 + 5) := by
                rcases hr with h | h
                · simp at h
                · exact h
              refine (Below.heap_setCell _ _ _ _ (by simp only; omega)).trans ((Hg5.out.block r (by omega) (fun e => ?_)).trans (Hg4.out.block r (by omega) (fun e => by injection e with e; omega)))
              rcases Hb.out r e.symm with h | h <;> omega
            · rw [Hv.out]
              refine HR4.out.queue Hq5.out Hg5.out ?_
              rcases Hat5.out with h | ⟨j, h, hj⟩
              · exact .inl h
              · exact .inr ⟨j, h, by omega⟩
            · intro j hj
              rcases Hat5.out with h | ⟨i, h, hi⟩
              · exact Hb.out j (by rw [← h]; exact hj)
              · rw [h] at hj
                injection hj with hj
                right
                omega
        case done =>
          rintro W3 ⟨v, hR, hb⟩ hD
          have hRm := hR.mark hD (by omega) (fun hm => by have := HDs.out _ hm; omega) (fun e => by rcases hb _ e with h | h <;> omega)
          have HRm := hid hRm
          have HB' := hid (HB.out.round HH.out)
          have hls := HB.out.less
          clear hR hb hD hRm
          gi_wp2
          exact ⟨_, Nat.lt_of_lt_of_le hls hgg, rfInv_of (Ds := W2.heap.size :: Ds) _ _ rfl rfl HRm HB' (Nat.le_refl _)⟩
        case stop =>
          rintro c pre W3 hpre hF hD
          exact hF.elim
      case inr =>
        obtain ⟨v1, hv1⟩ : ∃ v1, v1 = Value.slice (some ⟨g, off + 1, none⟩) m (cap - 1) := ⟨_, rfl⟩
        have HQ1 : Hid (OwnsQ Wk w.heap.size v1 qs) := hid (by rw [hv1]; exact HP1.out (by omega))
        have hvb : v1.ownBlock = some g := by rw [hv1]; rfl
        rw [← hv1]
        have hR1 : RfW w (Wk.setCell ⟨w.heap.size + 3, 0, none⟩ v1) met qs v1 Ds := HW.out.queue HQ1.out ⟨rfl, rfl, rfl, Nat.le_refl _, fun _ _ _ => rfl⟩ (.inl hvb)
        have hgk : g < Wk.heap.size := by obtain ⟨g', e1, _, h2⟩ := HW.out.q.lt; simp [Value.ownBlock] at e1; omega
        have hDs : ∀ D ∈ Ds, D < Wk.heap.size := fun D hD => lt_of_get (HW.out.marks D hD).2
        obtain ⟨W1, hW1⟩ : ∃ W1, W1 = Wk.setCell ⟨w.heap.size + 3, 0, none⟩ v1 := ⟨_, rfl⟩
        have hs1 : W1.heap.size = Wk.heap.size := by rw [hW1]; simp [World.setCell]
        rw [← hW1] at hR1 ⊢
        obtain ⟨W2, hW2⟩ : ∃ W2, W2 = (W1.alloc (.cells #[.map (some M)] 69)).alloc (.cells #[.int .i64 x] 2) := ⟨_, rfl⟩
        have hbm : W2.heap[Wk.heap.size]? = some (.cells #[.map (some M)] 69 (0, 0)) := by rw [hW2, ← hs1]; exact (Below.heap_alloc _ _ _ (by simp)).trans (heap_alloc_new _ _)
        have hbx : W2.heap[Wk.heap.size + 1]? = some (.cells #[.int .i64 x] 2 (0, 0)) := by rw [hW2, ← hs1]; have := heap_alloc_new (W1.alloc (.cells #[.map (some M)] 69)) (.cells #[.int .i64 x] 2); rwa [World.size_alloc] at this
        have hs2 : W2.heap.size = Wk.heap.size + 2 := by rw [hW2]; simp [hs1]
        have hR2 : RfW w W2 met qs v1 Ds := by
          rw [hW2]
          exact (hR1.turn (World.grownBy_alloc W1 _ none) (fun r e => by cases e)).turn (World.grownBy_alloc _ _ none) (fun r e => by cases e)
        have HLo := HL.out W2 hR2.below
        rw [← hW2]
        clear hW2 hW1 hR1 hcx c6 f6 hv1 HP1 HP2
        have HR2 := hid hR2
        have HDs := hid hDs
        clear hR2 hDs
        refine wpIn_rangeFunc_P rfl (by decide) (gf := 101) (lb := #[.pointer (some ⟨Wk.heap.size, 0, none⟩), .pointer (some ⟨Wk.heap.size + 1, 0, none⟩)]) rfl trivial (enters_of Try.func101 (by kernel_rfl) rfl)
          (steps_P 9 (by decide) Wk.heap.size (Wk.heap.size + 1) M N n ps x W2 hbm hbx HLo HD.out HH.out Hxw.out) (by simp) (Below.refl _ _) (fun _ => rfl)
          (fun pre W' => ∃ v, RfW w W' (visits (met, qs) pre).1 (visits (met, qs) pre).2 v Ds ∧ ∀ j, v.ownBlock = some j → j < W2.heap.size ∨ W2.heap.size + (2 + 5) ≤ j)
          (fun _ _ _ => False)
          (rf_ownIn (visits (met, qs)) (by omega) (fun D hD => by have := HDs.out D hD; omega))
          (fun _ => ownIn_pure _ _ _)
          ⟨v1, HR2.out, fun j e => by rw [hvb] at e; injection e with e; omega⟩
          (fun y => { tmps := #[.map (some M), .int .i64 a, undef, undef, .map none, .pointer (some ⟨w.heap.size + 1, 0, none⟩), .pointer (some ⟨w.heap.size + 3, 0, none⟩), .int .i64 x, .int .i64 (y.val : Int), .map (some w.heap.size), .int .i64 a, .map (some w.heap.size), .int .i64 a, .slice (some ⟨w.heap.size + 1 + 1, 0, none⟩) 1 1, .slice (some ⟨g, off, none⟩) (m + 1) cap, .int .i64 ((m : Int) + 1), .bool true, .slice (some ⟨g, off, none⟩) (m + 1) cap, .pointer (some ⟨g, off, none⟩), .int .i64 x, .slice (some ⟨g, off, none⟩) (m + 1) cap, v1, .map (some M), .int .i64 x, .func (.func 101) #[] #[.pointer (some ⟨Wk.heap.size, 0, none⟩), .pointer (some ⟨Wk.heap.size + 1, 0, none⟩)], .int .i64 (y.val : Int), us 26, us 27, us 28, us 29, us 30, us 31, us 32, us 33, us 34, us 35, us 36], defers := [] }) ?assign ?body ?done ?stop
        case assign =>
          intro l y W3 K hK
          gi_wp2
          exact hK
        case body =>
          rintro l pre y W3 hpre hsz3 ⟨v, hR, hb⟩
          obtain ⟨s, hs⟩ : ∃ s, s = visits (met, qs) pre := ⟨_, rfl⟩
          have Hsn : Hid (visits (met, qs) (pre ++ [y]) = visit s (y.val : Int)) := hid (by rw [visits_snoc, ← hs])
          rw [← hs] at hR
          have hyw : (Lit.int .i64 (y.val : Int)).wf = true := WalkArith.wf_i64 (by have := y.isLt; omega)
          obtain ⟨c5, _⟩ := box_cell hR.b5
          obtain ⟨c6, f6⟩ := box_cell hR.b6
          have hlk := lookup_known hR.own hyw
          have hsp := visits_spec pre met qs (fun z hz => HB.out.sub z (List.mem_cons_of_mem _ hz))
          rw [← hs] at hsp
          have hlen1 : s.1.length ≤ 65 := by have := hsp.2.2.2.2.2; have := HB.out.small; omega
          have hlen2 : s.2.length ≤ 129 := by have := hsp.2.2.2.2.1; have := HB.out.few; simp at this; omega
          clear hs hsp
          have HR := hid hR
          have Hb := hid hb
          by_cases hy : (y.val : Int) ∈ s.1
          · rw [decide_eq_true hy] at hlk
            have Hv : Hid (visits (met, qs) (pre ++ [y]) = s) := hid (by rw [Hsn.out]; unfold visit; rw [if_pos hy])
            clear hy hR hb hyw
            gi_wp2
            exact ⟨KeepP.refl _ _ _ _, v, by rw [Hv.out]; exact HR.out, Hb.out⟩
          · rw [decide_eq_false hy] at hlk
            have Hv : Hid (visits (met, qs) (pre ++ [y]) = (s.1 ++ [(y.val : Int)], s.2 ++ [(y.val : Int)])) := hid (by rw [Hsn.out]; unfold visit; rw [if_neg hy])
            obtain ⟨w4, hrun4, hown4, hg4⟩ := World.ownsMap.update hR.own (Maps.int_keyed Try.underlying2) Try.underlying74 (show s.1.length < maxLen by unfold maxLen; omega) (Maps.keyOf_int_mk Try.underlying2 hyw) (plainElem_bool Try.underlying4 true)
            have HR4 := hid (hR.meet hown4 hg4)
            obtain ⟨c64, f64⟩ := box_cell HR4.out.b6
            have Hg4 := hid hg4
            have hsz4 := HR4.out.size
            clear hy hR hb hyw hown4 hg4
            gi_wp2_with (gi_at_builtin; refine wpListIn_append_q rfl rfl HR4.out.q (by omega) (by omega) rfl rfl ?_; intro v' w5 hq5 hg5 hat5; obtain ⟨g5, o5, p5, hv5⟩ := hq5.form; subst hv5; have b65 : w5.heap[w.heap.size + 3]? = some (.cells #[v] 22 (0, 0)) := (hg5.block _ (lt_of_get HR4.out.b6) (fun e => by have := HR4.out.ne _ e.symm; omega)).trans HR4.out.b6; obtain ⟨c65, f65⟩ := box_cell b65; have Hq5 := hid hq5; have Hg5 := hid hg5; have Hat5 := hid hat5; clear hq5 hg5 hat5 b65)
            have hs34 : W3.heap.size ≤ w4.heap.size := Hg4.out.size
            have hs45 : w4.heap.size ≤ w5.heap.size := Hg5.out.size
            have el : (s.2 ++ [(y.val : Int)]).length = s.2.length + 1 := by simp
            rw [el] at Hq5 Hat5
            refine ⟨⟨by simp [World.setCell]; omega, fun r hr => ?_⟩, .slice (some ⟨g5, o5, none⟩) (s.2.length + 1) p5, ?_, ?_⟩
            · have hrr : W2.heap.size ≤ r ∧ r < W2.heap.size + (2 + 5) := by
                rcases hr with h | h
                · simp at h
                · exact h
              refine (Below.heap_setCell _ _ _ _ (by simp only; omega)).trans ((Hg5.out.block r (by omega) (fun e => ?_)).trans (Hg4.out.block r (by omega) (fun e => by injection e with e; omega)))
              rcases Hb.out r e.symm with h | h <;> omega
            · rw [Hv.out]
              refine HR4.out.queue Hq5.out Hg5.out ?_
              rcases Hat5.out with h | ⟨j, h, hj⟩
              · exact .inl h
              · exact .inr ⟨j, h, by omega⟩
            · intro j hj
              rcases Hat5.out with h | ⟨i, h, hi⟩
              · exact Hb.out j (by rw [← h]; exact hj)
              · rw [h] at hj
                injection hj with hj
                right
                omega
        case done =>
          rintro W3 ⟨v, hR, hb⟩ hD
          have hRm := hR.mark hD (by omega) (fun hm => by have := HDs.out _ hm; omega) (fun e => by rcases hb _ e with h | h <;> omega)
          have HRm := hid hRm
          have HB' := hid (HB.out.round HH.out)
          have hls := HB.out.less
          clear hR hb hD hRm
          gi_wp2
          exact ⟨_, Nat.lt_of_lt_of_le hls hgg, rfInv_of (Ds := W2.heap.size :: Ds) _ _ rfl rfl HRm HB' (Nat.le_refl _)⟩
        case stop =>
          rintro c pre W3 hpre hF hD
          exact hF.elim

end Go.Proofs.Ytgmapgaijncbeaa

/-! Results of several parts: rows in intervals of blocks that do not meet. -/
namespace Go.Proofs.Ytgmapgaijncbeaa
open Go.RowKit

/-- A result: a slice of pairs in new memory. -/
def ResP (w w' : World) (v : Value) (L : List (Int × Int)) : Prop := w'.ownsRow w.heap.size 56 2 v L.length ((flatP L).map (Value.int .i64)) ∧ Below w.heap.size w w'

theorem ResP.later {w0 w w' : World} {v : Value} {L : List (Int × Int)} (h : ResP w w' v L) (h0 : Below w0.heap.size w0 w) : ResP w0 w' v L :=
  ⟨ownsRow_base h.1 h0.size, h0.trans (h.2.mono h0.size)⟩
theorem resP_nil (w w' : World) (h : Below w.heap.size w w') : ResP w w' (.slice none 0 0) [] := ⟨World.ownsRow_nil _ _ _ _, h⟩

structure PartB (w w' : World) (p : Bk) : Prop where
  own : w'.ownsRow p.lo p.ty p.sz p.v p.n (p.xs.map (Value.int .i64))
  lt : ∀ g, p.v.ownBlock = some g → g < p.hi
  le : p.hi ≤ w'.heap.size
  ge : w.heap.size ≤ p.lo

theorem part_ints {w w' : World} {v : Value} {xs : List Int} (h : Res w w' v xs) : PartB w w' ⟨w.heap.size, w'.heap.size, 2, 1, xs.length, v, xs⟩ :=
  ⟨h.1, fun g hg => (h.1.lt g hg).2, Nat.le_refl _, Nat.le_refl _⟩
theorem part_pairs {w w' : World} {v : Value} {L : List (Int × Int)} (h : ResP w w' v L) : PartB w w' ⟨w.heap.size, w'.heap.size, 56, 2, L.length, v, flatP L⟩ :=
  ⟨h.1, fun g hg => (h.1.lt g hg).2, Nat.le_refl _, Nat.le_refl _⟩

/-- Two rows in blocks of their own. -/
def Apart (v q : Value) : Prop := ∀ g, v.ownBlock = some g → q.ownBlock ≠ some g

theorem apart_ty {w : World} {b1 e1 s1 n1 b2 e2 s2 n2 : Nat} {v q : Value} {xs ys : List Value} (h1 : w.ownsRow b1 e1 s1 v n1 xs) (h2 : w.ownsRow b2 e2 s2 q n2 ys) (hne : e1 ≠ e2) : Apart v q := by
  intro g hv hq
  rcases h1.2 with ⟨rfl, _⟩ | ⟨g1, _, _, rfl, _, hg1, _⟩
  · simp [Value.ownBlock] at hv
  rcases h2.2 with ⟨rfl, _⟩ | ⟨g2, _, _, rfl, _, hg2, _⟩
  · simp [Value.ownBlock] at hq
  simp [Value.ownBlock] at hv hq
  subst hv hq
  rw [hg1] at hg2
  simp at hg2
  exact hne hg2.2

theorem row_at {w : World} {b e s n : Nat} {v : Value} {xs : List Value} (h : w.ownsRow b e s v n xs) : (v.ownBlock = none ∧ ∀ b', w.ownsRow b' e s v n xs) ∨ ∃ g, v.ownBlock = some g ∧ b ≤ g ∧ g < w.heap.size ∧ w.ownsRow g e s v n xs := by
  rcases h.2 with ⟨rfl, hn⟩ | ⟨g, cp, cur, rfl, hb, hg, rest⟩
  · exact .inl ⟨rfl, fun b' => ⟨h.1, .inl ⟨rfl, hn⟩⟩⟩
  · exact .inr ⟨g, rfl, hb, (Array.getElem?_eq_some_iff.1 hg).1, h.1, .inr ⟨g, cp, cur, rfl, Nat.le_refl _, hg, rest⟩⟩

theorem two_parts {w w' : World} {e1 s1 n1 e2 s2 n2 : Nat} {v q : Value} {xs ys : List Int} (h1 : w'.ownsRow w.heap.size e1 s1 v n1 (xs.map (Value.int .i64))) (h2 : w'.ownsRow w.heap.size e2 s2 q n2 (ys.map (Value.int .i64))) (ha : Apart v q) (hB : Below w.heap.size w w') :
    ∃ l1 r1 l2 r2, PartB w w' ⟨l1, r1, e1, s1, n1, v, xs⟩ ∧ PartB w w' ⟨l2, r2, e2, s2, n2, q, ys⟩ ∧ (r1 ≤ l2 ∨ r2 ≤ l1) := by
  have hs := hB.size
  rcases row_at h1 with ⟨hv, h1'⟩ | ⟨g1, hv, hb1, hl1, h1'⟩
  · rcases row_at h2 with ⟨hq, h2'⟩ | ⟨g2, hq, hb2, hl2, h2'⟩
    · exact ⟨_, _, _, _, ⟨h1' w.heap.size, fun g hg => (by simp only at hg; rw [hv] at hg; cases hg), hs, Nat.le_refl _⟩, ⟨h2' w.heap.size, fun g hg => (by simp only at hg; rw [hq] at hg; cases hg), hs, Nat.le_refl _⟩, .inl (Nat.le_refl _)⟩
    · exact ⟨_, w.heap.size, _, g2 + 1, ⟨h1' w.heap.size, fun g hg => (by simp only at hg; rw [hv] at hg; cases hg), hs, Nat.le_refl _⟩, ⟨h2', fun g hg => (by simp only at hg; rw [hq] at hg; cases hg; simp only; omega), hl2, hb2⟩, .inl hb2⟩
  · rcases row_at h2 with ⟨hq, h2'⟩ | ⟨g2, hq, hb2, hl2, h2'⟩
    · exact ⟨_, g1 + 1, _, w.heap.size, ⟨h1', fun g hg => (by simp only at hg; rw [hv] at hg; cases hg; simp only; omega), hl1, hb1⟩, ⟨h2' w.heap.size, fun g hg => (by simp only at hg; rw [hq] at hg; cases hg), hs, Nat.le_refl _⟩, .inr hb1⟩
    · have hne : g1 ≠ g2 := fun e => ha g1 hv (by rw [hq, e])
      exact ⟨_, g1 + 1, _, g2 + 1, ⟨h1', fun g hg => (by simp only at hg; rw [hv] at hg; cases hg; simp only; omega), hl1, hb1⟩, ⟨h2', fun g hg => (by simp only at hg; rw [hq] at hg; cases hg; simp only; omega), hl2, hb2⟩, (by omega)⟩

theorem pairs_form {w : World} {base e n : Nat} {v : Value} {L : List (Int × Int)} (h : w.ownsRow base e 2 v n ((flatP L).map (Value.int .i64))) : n = L.length ∧ ∃ a cap, v = .slice a L.length cap ∧ True := by
  have hl := h.1
  simp [flatP_len] at hl
  have hn : n = L.length := by omega
  rcases h.2 with ⟨rfl, hn0⟩ | ⟨g, cap, cur, rfl, _⟩
  · refine ⟨hn, none, 0, ?_, trivial⟩
    rw [show L.length = 0 by omega]
  · exact ⟨hn, _, cap, by rw [hn], trivial⟩

theorem Book.add {w0 w w' : World} {A : List (Option Addr × List Int)} {bs : List (Nat × Obj)} {L : List Bk} {p : Bk} (h : Book w0 w' A bs L) (hp : PartB w w' p) : Book w0 w' A bs (p :: L) :=
  ⟨h.from0, h.args, h.blocks, fun q hq => by
    rcases List.mem_cons.1 hq with rfl | hq
    · exact ⟨hp.own, hp.lt, hp.le⟩
    · exact h.rows q hq⟩

end Go.Proofs.Ytgmapgaijncbeaa

/-! settledPairs: what it keeps of the world, and what a pass does. -/
namespace Go.Proofs.Ytgmapgaijncbeaa
open Go.RowKit Go.Shelf

attribute [local go_sem] Oper.semAt_some

def pairAt (ps : List Int) (i : Nat) : Int × Int := (at0 ps (i * 2), at0 ps (i * 2 + 1))
def setP (ps : List Int) (L : List Nat) : List (Int × Int) := L.map (pairAt ps)
theorem setP_snoc (ps : List Int) (L : List Nat) (i : Nat) : setP ps (L ++ [i]) = setP ps L ++ [pairAt ps i] := by simp [setP]
theorem setP_len (ps : List Int) (L : List Nat) : (setP ps L).length = L.length := by simp [setP]

/-- What has settled. -/
structure Stl (ps : List Int) (n : Nat) (L : List Nat) : Prop where
  ord : Ordered ps n L
  nodup : L.Nodup
  lt : ∀ i ∈ L, i < n
theorem nodup_le : ∀ (n : Nat) (L : List Nat), L.Nodup → (∀ i ∈ L, i < n) → L.length ≤ n
  | 0, L, _, hl => by
    cases L with
    | nil => simp
    | cons x L => exact absurd (hl x (by simp)) (Nat.not_lt_zero _)
  | n + 1, L, hn, hl => by
    have ih := nodup_le n (L.erase n) (hn.erase n) (fun i hi => by
      have h1 := hl i (List.mem_of_mem_erase hi)
      have h2 : i ≠ n := (hn.mem_erase_iff.1 hi).1
      omega)
    have h := @List.length_erase _ _ _ n L
    split at h <;> omega
theorem Stl.len {ps : List Int} {n : Nat} {L : List Nat} (h : Stl ps n L) : L.length ≤ n := nodup_le n L h.nodup h.lt
/-- The first k pairs have settled, or a step leads to one that has not. -/
def SatTo (ps : List Int) (n k : Nat) (L : List Nat) : Prop := ∀ i, i < k → i ∉ L → ∃ j, j < n ∧ StepP ps n i j ∧ j ∉ L
theorem SatTo.zero (ps : List Int) (n : Nat) (L : List Nat) : SatTo ps n 0 L := fun _ hi => absurd hi (Nat.not_lt_zero _)
theorem SatTo.skip {ps : List Int} {n k : Nat} {L : List Nat} (h : SatTo ps n k L) (hk : k ∈ L ∨ ∃ j, j < n ∧ StepP ps n k j ∧ j ∉ L) : SatTo ps n (k + 1) L := by
  intro i hi hn
  by_cases e : i = k
  · subst e
    exact hk.resolve_left hn
  · exact h i (by omega) hn
theorem Stl.snoc {ps : List Int} {n : Nat} {L : List Nat} (h : Stl ps n L) {i : Nat} (hi : i < n) (hL : i ∉ L) (hs : ∀ j, j < n → StepP ps n i j → j ∈ L) : Stl ps n (L ++ [i]) :=
  ⟨h.ord.snoc hs, by
    rw [List.nodup_append]
    exact ⟨h.nodup, by simp, fun a ha b hb => by simp at hb; subst hb; exact fun e => hL (e ▸ ha)⟩, fun j hj => by
    rcases List.mem_append.1 hj with h1 | h1
    · exact h.lt j h1
    · simp at h1; omega⟩
theorem Stl.nil (ps : List Int) (n : Nat) : Stl ps n [] := ⟨Ordered.nil ps n, by simp, by simp⟩

theorem lows_inj {ps : List Int} {n : Nat} (hd : LowsApart ps n) {i j : Nat} (hi : i < n) (hj : j < n) (h : at0 ps (i * 2) = at0 ps (j * 2)) : i = j := by
  rcases Nat.lt_trichotomy i j with h1 | h1 | h1
  · exact absurd h (hd i j h1 hj)
  · exact h1
  · exact absurd h.symm (hd j i h1 hi)
theorem mem_setP {ps : List Int} {n : Nat} (hd : LowsApart ps n) {L : List Nat} (hL : ∀ i ∈ L, i < n) {i : Nat} (hi : i < n) : pairAt ps i ∈ setP ps L ↔ i ∈ L := by
  unfold setP
  constructor
  · intro h
    obtain ⟨j, hj, e⟩ := List.mem_map.1 h
    have := lows_inj hd (hL j hj) hi (congrArg Prod.fst e)
    exact this ▸ hj
  · exact fun h => List.mem_map.2 ⟨i, h, rfl⟩
theorem wf_pairAt {ps : List Int} {n : Nat} (hp : ps.length = 2 * n) (hw : ∀ x ∈ ps, (Lit.int .i64 x).wf = true) {i : Nat} (hi : i < n) : wfP (pairAt ps i) :=
  ⟨hw _ (getD_mem (by omega)), hw _ (getD_mem (by omega))⟩
theorem wf_setP {ps : List Int} {n : Nat} (hp : ps.length = 2 * n) (hw : ∀ x ∈ ps, (Lit.int .i64 x).wf = true) {L : List Nat} (hL : ∀ i ∈ L, i < n) : ∀ q ∈ setP ps L, wfP q := by
  intro q hq
  obtain ⟨j, hj, rfl⟩ := List.mem_map.1 hq
  exact wf_pairAt hp hw (hL j hj)

/-- 'own, ok := lows[a]', told by the pairs. -/
theorem lows_look2 {w : World} {b N n : Nat} {ps : List Int} {a : Int} (hown : w.ownsMap Try.prog 2 pairElem b N (lowsD ps n)) (hd : LowsApart ps n) (ha : (Lit.int .i64 a).wf = true) :
    (∃ i, i < n ∧ at0 ps (i * 2) = a ∧ (Instr.lookup 69 (.map (some b)) (.int .i64 a) true).run Try.prog w = .ok (.tuple #[.agg #[.int .i64 a, .int .i64 (at0 ps (i * 2 + 1))], .bool true]) w) ∨
    ((∀ i, i < n → at0 ps (i * 2) ≠ a) ∧ (Instr.lookup 69 (.map (some b)) (.int .i64 a) true).run Try.prog w = .ok (.tuple #[.agg #[.int .i64 0, .int .i64 0], .bool false]) w) := by
  obtain ⟨v, qs, hrun, hv⟩ := hown.look_ok (Maps.int_keyed Try.underlying2) Try.underlying69 (zero_pair w) (pairElem_mk 0 0) (Maps.keyOf_int_mk Try.underlying2 ha)
  by_cases hex : ∃ i, i < n ∧ at0 ps (i * 2) = a
  · obtain ⟨i, hi, hia⟩ := hex
    obtain ⟨h1, h2⟩ := lows_hit n i hd hi hia
    rw [h1] at hv
    rw [h2, pairElem_inv hv] at hrun
    exact .inl ⟨i, hi, hia, hrun⟩
  · obtain ⟨h1, h2⟩ := lows_miss n (fun i hi e => hex ⟨i, hi, e⟩)
    rw [h1] at hv
    rw [h2, pairElem_inv hv] at hrun
    exact .inr ⟨fun i hi e => hex ⟨i, hi, e⟩, hrun⟩

/-- What the walk keeps of the world: M the map of the low faces, B its box. -/
structure SetW (w W : World) (M B n : Nat) (ps : List Int) (L : List Nat) (v : Value) (Ds : List Nat) : Prop where
  below : Below w.heap.size w W
  lo : w.heap.size ≤ M
  mb : M < B
  lows : W.ownsMap Try.prog 2 pairElem M n (lowsD ps n)
  b3 : W.heap[B]? = some (.cells #[.map (some M)] 69 (0, 0))
  own : MapP W (B + 1) L.length (setP ps L)
  b4 : W.heap[B + 2]? = some (.cells #[.map (some (B + 1))] 96 (0, 0))
  row : W.ownsRow (B + 3) 56 2 v (setP ps L).length ((flatP (setP ps L)).map (Value.int .i64))
  off : ∀ D ∈ Ds, v.ownBlock ≠ some D
  nodup : Ds.Nodup
  marks : ∀ D ∈ Ds, B + 3 ≤ D ∧ W.heap[D]? = some (.deferred (some []))
theorem SetW.size {w W : World} {M B n : Nat} {ps : List Int} {L : List Nat} {v : Value} {Ds : List Nat} (h : SetW w W M B n ps L v Ds) : B + 3 ≤ W.heap.size := by
  have := lt_of_get h.b4; omega
/-- A turn of what lies beyond. -/
theorem SetW.turn {w W W' : World} {M B n : Nat} {ps : List Int} {L : List Nat} {v : Value} {Ds : List Nat} (h : SetW w W M B n ps L v Ds) {row : Option Nat} (hg : W.grownBy W' row) (hr : ∀ r, row = some r → B + 3 ≤ r ∧ r ∉ Ds ∧ v.ownBlock ≠ some r) : SetW w W' M B n ps L v Ds where
  below := h.below.grown hg (by have := h.size; have := h.lo; have := h.mb; omega) (fun k e => by have := (hr k e).1; have := h.lo; have := h.mb; omega)
  lo := h.lo
  mb := h.mb
  lows := h.lows.kept hg (fun e => by have := (hr _ e.symm).1; have := h.mb; omega)
  b3 := (hg.block _ (lt_of_get h.b3) (fun e => by have := (hr _ e.symm).1; omega)).trans h.b3
  own := World.ownsMap.kept h.own hg (fun e => by have := (hr _ e.symm).1; omega)
  b4 := (hg.block _ (lt_of_get h.b4) (fun e => by have := (hr _ e.symm).1; omega)).trans h.b4
  row := by
    cases hv : v.ownBlock with
    | none => exact h.row.kept hg (.inl hv)
    | some g => exact h.row.kept hg (.inr (fun e => by rw [hv] at e; exact (hr g e.symm).2.2 hv))
  off := h.off
  nodup := h.nodup
  marks := fun D hD => ⟨(h.marks D hD).1, (hg.block _ (lt_of_get (h.marks D hD).2) (fun e => (hr _ e.symm).2.1 hD)).trans (h.marks D hD).2⟩
theorem SetW.alloc {w W : World} {M B n : Nat} {ps : List Int} {L : List Nat} {v : Value} {Ds : List Nat} (h : SetW w W M B n ps L v Ds) (o : Obj) : SetW w (W.alloc o) M B n ps L v Ds := h.turn (World.grownBy_alloc W o none) (fun r e => by cases e)
theorem SetW.mark {w W : World} {M B n : Nat} {ps : List Int} {L : List Nat} {v : Value} {Ds : List Nat} (h : SetW w W M B n ps L v Ds) {D : Nat} (hD : W.heap[D]? = some (.deferred (some []))) (hb : B + 3 ≤ D) (hn : D ∉ Ds) (hv : v.ownBlock ≠ some D) : SetW w W M B n ps L v (D :: Ds) :=
  { h with
    off := fun E hE => by
      rcases List.mem_cons.1 hE with rfl | hE
      · exact hv
      · exact h.off E hE
    nodup := List.nodup_cons.2 ⟨hn, h.nodup⟩
    marks := fun E hE => by
      rcases List.mem_cons.1 hE with rfl | hE
      · exact ⟨hb, hD⟩
      · exact h.marks E hE }
/-- Within a range: everything of the walk lies ahead of its blocks. -/
theorem set_ownIn {β : Type} {w : World} {M B n : Nat} {ps : List Int} {L : List Nat} {v : Value} {Ds : List Nat} {lo k : Nat} (hlo : B + 3 ≤ lo) (hD : ∀ D ∈ Ds, D < lo) (hv : ∀ g, v.ownBlock = some g → g < lo) :
    OwnIn lo k (fun (_ : β) W' => SetW w W' M B n ps L v Ds) := by
  intro s A C row h hg hr
  refine h.turn hg (fun r e => ?_)
  obtain ⟨h1, _⟩ := hr r e
  exact ⟨by omega, fun hm => by have := hD r hm; omega, fun ev => by have := hv r ev; omega⟩
/-- A pair settles: the map has it. -/
theorem SetW.put {w W W' : World} {M B n : Nat} {ps : List Int} {L : List Nat} {v : Value} {Ds : List Nat} (h : SetW w W M B n ps L v Ds) {i : Nat} (hown : W'.ownsMap Try.prog 56 (plainElem (H := Unit) Try.prog 4) (B + 1) (L.length + 1) ((pknD (setP ps L)).put (keyP (pairAt ps i)) (.lit (.bool true)))) (hg : W.grownBy W' (some (B + 1)))
    {W2 : World} {v2 : Value} (hrow : W2.ownsRow (B + 3) 56 2 v2 (setP ps L ++ [pairAt ps i]).length ((flatP (setP ps L ++ [pairAt ps i])).map (Value.int .i64))) (hg2 : W'.grownBy W2 v.ownBlock) (hat : v2.ownBlock = v.ownBlock ∨ ∃ k, v2.ownBlock = some k ∧ W'.heap.size ≤ k) : SetW w W2 M B n ps (L ++ [i]) v2 Ds := by
  have hvlo : ∀ g, v.ownBlock = some g → B + 3 ≤ g ∧ g < W.heap.size := h.row.lt
  have hsz := h.size
  have hlo := h.lo
  have hmb := h.mb
  have t1 : ∀ j, j < W.heap.size → j ≠ B + 1 → v.ownBlock ≠ some j → W2.heap[j]? = W.heap[j]? := fun j hj h1 h2 =>
    (hg2.block j (Nat.lt_of_lt_of_le hj hg.size) (fun e => h2 e.symm)).trans (hg.block j hj (fun e => h1 (by injection e)))
  have ne3 : ∀ j, j < B + 3 → v.ownBlock ≠ some j := fun j hj e => by have := (hvlo j e).1; omega
  refine { below := ?_, lo := h.lo, mb := h.mb, lows := ?_, b3 := (t1 B (by omega) (by omega) (ne3 _ (by omega))).trans h.b3, own := ?_, b4 := (t1 (B + 2) (by omega) (by omega) (ne3 _ (by omega))).trans h.b4, row := by rw [setP_snoc]; exact hrow, off := fun D hD e => ?_, nodup := h.nodup, marks := fun D hD => ⟨(h.marks D hD).1, (t1 D (lt_of_get (h.marks D hD).2) (by have := (h.marks D hD).1; omega) (h.off D hD)).trans (h.marks D hD).2⟩ }
  · have hb1 := h.below.grown hg (by omega) (fun k e => by cases e; omega)
    exact hb1.grown hg2 (by have := hb1.size; omega) (fun k e => by have := (hvlo k e).1; omega)
  · have h1 := h.lows.kept hg (fun e => by injection e; omega)
    exact h1.kept hg2 (fun e => by have := (hvlo M e.symm).1; omega)
  · have h1 : W'.ownsMap Try.prog 56 (plainElem (H := Unit) Try.prog 4) (B + 1) (L ++ [i]).length (pknD (setP ps (L ++ [i]))) := by
      rw [setP_snoc, pknD_snoc]
      simpa using hown
    exact World.ownsMap.kept h1 hg2 (fun e => by have := (hvlo _ e.symm).1; omega)
  · rcases hat with h1 | ⟨k, h1, h2⟩
    · exact h.off D hD (h1.symm.trans e)
    · rw [h1] at e
      injection e with e
      have := lt_of_get (h.marks D hD).2
      have := hg.size
      omega

/-- At the end. -/
theorem SetW.leaves {w W w' : World} {M B n : Nat} {ps : List Int} {L : List Nat} {v : Value} {Ds : List Nat} (h : SetW w W M B n ps L v Ds) (hw' : Shut Ds W w') : ResP w w' v (setP ps L) := by
  have h1 := h.lo
  have h2 := h.mb
  refine ⟨?_, h.below.trans (hw'.below (fun D hD => by have := (h.marks D hD).1; omega))⟩
  have hr := ownsRow_base h.row (show w.heap.size ≤ B + 3 by omega)
  refine ⟨hr.1, ?_⟩
  rcases hr.2 with hn | ⟨g, cap, cur, hv, hb, hg, rest⟩
  · exact .inl hn
  · exact .inr ⟨g, cap, cur, hv, hb, (hw'.block g (fun hm => h.off g hm (by rw [hv]; rfl))).trans hg, rest⟩

/-- 'order = append(order, pair)', at the operation. -/
theorem append_pairIn {F : Fence} {nF : Nat} {w : World} {ops : Array Oper} {rest : List Oper} {o : Oper} {a : Act} {Q : Exit → Act → World → Prop} (hgd : o.guard = none) {s y : Operand}
    (ho : o.op = .call { callee := .builtin .append, args := #[s, y], argTypes := #[32, 32] })
    {base : Nat} {v : Value} {L : List (Int × Int)} {x x' : Int} (hown : w.ownsRow base 56 2 v L.length ((flatP L).map (Value.int .i64))) (hbase : base ≤ w.heap.size) (hl : L.length ≤ 1099511627776)
    (hs : a.eval s = v) (hy : a.eval y = .slice (some ⟨w.heap.size, 0, none⟩) 1 1)
    (hK : ∀ v' w', w'.ownsRow base 56 2 v' (L ++ [(x, x')]).length ((flatP (L ++ [(x, x')])).map (Value.int .i64)) → w.grownBy w' v.ownBlock → (v'.ownBlock = v.ownBlock ∨ ∃ k, v'.ownBlock = some k ∧ w.heap.size ≤ k) → wpListIn F nF Try.prog ops Q rest (a.put o.dst v') w') :
    wpListIn F nF Try.prog ops Q (o :: rest) a (w.alloc (.cells #[.int .i64 x, .int .i64 x'] 56)) := by
  obtain ⟨i0, hi, hz0, hz1, hz2⟩ := info_parts info_pair
  refine wpListIn_append_own_at _ hgd s y 32 ho base 56 i0 (.agg #[.int .i64 0, .int .i64 0]) 2 16 Try.underlying32 hi hz0 hz1 hz2 rfl (by decide) v _ _ hs (hown.alloc _) ⟨w.heap.size, 0, none⟩ 1 1 [.int .i64 x, .int .i64 x'] hy rfl ?_ (by simp [Value.oneCell']) (by unfold maxLen; omega) (by omega) (by simp; omega) ?_
  · intro j u hj
    match j, hj with
    | 0, hj => simp at hj; subst hj; simp [go_sem, Addr.add]
    | 1, hj => simp at hj; subst hj; simp [go_sem, Addr.add]
    | j + 2, hj => simp at hj
  · intro v' w1 hown1 hgrow1 _ hat
    refine hK v' w1 (by rw [flatP_snoc]; simpa using hown1) ((World.grownBy_alloc w _ _).trans hgrow1) ?_
    rcases hat with h | h
    · exact .inl h
    · exact .inr ⟨_, h, by simp⟩

end Go.Proofs.Ytgmapgaijncbeaa

/-! A map of numbers to numbers, as a function: what is not in it counts as 0. -/
namespace Go.Proofs.Ytgmapgaijncbeaa
open Go.RowKit Go.Shelf Go.ChangeMaps

theorem wf_wrap (x : Int) : (Lit.int .i64 (wrap64 x)).wf = true := WalkArith.wf_i64 (by unfold wrap64; omega)
theorem zero_i64 (w : World) : (zeroValue 2).run Try.prog w = .ok (.int .i64 0) w := by kernel_rfl

/-- The map in block b, after at most N stores. -/
def CntM (W : World) (b N : Nat) (f : Int → Int) : Prop :=
  ∃ D : DataW Unit, Maps.IsMap D ∧ W.ownsMap Try.prog 2 (plainElem (H := Unit) Try.prog 2) b N D ∧ ∀ p, D.atKey (.int .i64 p) (.lit (.int .i64 0)) = .lit (.int .i64 (f p))
theorem CntM.made (w : World) : CntM (w.alloc (.map #[] 0)) w.heap.size 0 (fun _ => 0) :=
  ⟨_, Maps.isMap_empty, World.ownsMap_made w _ _ _, fun _ => rfl⟩
theorem CntM.lt {W : World} {b N : Nat} {f : Int → Int} (h : CntM W b N f) : b < W.heap.size := by
  obtain ⟨D, _, h1, _⟩ := h
  exact h1.lt
theorem CntM.kept {W W' : World} {b N : Nat} {f : Int → Int} (h : CntM W b N f) {row : Option Nat} (hg : W.grownBy W' row) (hn : some b ≠ row) : CntM W' b N f := by
  obtain ⟨D, h0, h1, h2⟩ := h
  exact ⟨D, h0, h1.kept hg hn, h2⟩
theorem CntM.alloc {W : World} {b N : Nat} {f : Int → Int} (h : CntM W b N f) (o : Obj) : CntM (W.alloc o) b N f := h.kept (World.grownBy_alloc W o none) (by simp)
set_option maxRecDepth 100000 in
theorem CntM.lookup {W : World} {b N : Nat} {f : Int → Int} (h : CntM W b N f) {p : Int} (hp : (Lit.int .i64 p).wf = true) :
    (Instr.lookup 81 (.map (some b)) (.int .i64 p) false).run Try.prog W = .ok (.int .i64 (f p)) W := by
  obtain ⟨D, h0, h1, h2⟩ := h
  obtain ⟨v, qs, hrun, hv⟩ := h1.lookup (Maps.int_keyed Try.underlying2) Try.underlying81 (zero_i64 W) (plainElem_int Try.underlying2 (show (Lit.int .i64 0).wf = true by decide)) (Maps.keyOf_int_mk Try.underlying2 hp)
  rw [h2] at hv
  obtain ⟨a, rfl, hz, _⟩ := plainElem_int_inv Try.underlying2 hv
  injection hz with hz _
  injection hz with hz
  injection hz with _ hz
  rw [hrun, hz]
theorem CntM.update {W : World} {b N : Nat} {f : Int → Int} (h : CntM W b N f) (hN : N < maxLen) {p x : Int} (hp : (Lit.int .i64 p).wf = true) (hx : (Lit.int .i64 x).wf = true) :
    ∃ W', (Instr.mapUpdate 81 (.map (some b)) (.int .i64 p) (.int .i64 x)).run Try.prog W = .ok () W' ∧ CntM W' b (N + 1) (fun q => if q = p then x else f q) ∧ W.grownBy W' (some b) ∧ W'.heap.size = W.heap.size := by
  obtain ⟨D, h0, h1, h2⟩ := h
  obtain ⟨W', hrun, ho, ht⟩ := World.ownsMap.store h1 (Maps.int_keyed Try.underlying2) Try.underlying81 hN (Maps.keyOf_int_mk Try.underlying2 hp) (plainElem_int Try.underlying2 hx)
  have hs : W'.heap.size = W.heap.size := by
    obtain ⟨es, c, es', c', hb, rfl⟩ := ht
    simp [setBlock]
  refine ⟨W', hrun, ⟨_, h0.put _ _, ho, fun q => ?_⟩, ?_, hs⟩
  · by_cases e : q = p
    · subst e
      rw [Maps.atKey_put_same h0 (show WideAt.IsKeyLit (.int .i64 q) from trivial)]
      simp
    · rw [Maps.atKey_put_other (by simpa using e), h2]
      simp [e]
  · obtain ⟨es, c, es', c', hb, rfl⟩ := ht
    exact ⟨rfl, rfl, rfl, by simp [setBlock], fun i _ hi => heap_setBlock_other hb _ (fun e => hi (by rw [e]))⟩

end Go.Proofs.Ytgmapgaijncbeaa

/-! CountGradientWays, the program's: what its map holds, pair by pair. -/
namespace Go.Proofs.Ytgmapgaijncbeaa
open Go.RowKit Go.Shelf

/-- The low face of a pair that does not stand among the first k settled ones. -/
def waitsB (ps : List Int) (n : Nat) (L : List Nat) (k : Nat) (p : Int) : Bool := (List.range n).any fun i => decide (at0 ps (i * 2) = p) && !(decide (i ∈ L.take k))
theorem waits_iff {ps : List Int} {n : Nat} {L : List Nat} {k : Nat} {p : Int} : waitsB ps n L k p = true ↔ ∃ i, i < n ∧ at0 ps (i * 2) = p ∧ i ∉ L.take k := by
  unfold waitsB
  rw [List.any_eq_true]
  simp
/-- The map's number at p behind the first k settled pairs. -/
def gwV (ps : List Int) (n : Nat) (b : Int) (L : List Nat) (k : Nat) (p : Int) : Int := if waitsB ps n L k p then (if p = b then 1 else 0) else wrap64 (gw ps n b p)
/-- .. and within the next one, whose low face is x, behind some steps. -/
def gwU (ps : List Int) (n : Nat) (b : Int) (L : List Nat) (k : Nat) (x : Int) (pre : List (Fin 64)) (p : Int) : Int :=
  if p = x then wrap64 ((if x = b then 1 else 0) + (pre.map fun z => gw ps n b (z.val : Int)).sum) else gwV ps n b L k p

theorem wrap64_01 (c : Prop) [Decidable c] : wrap64 (if c then 1 else 0) = if c then 1 else 0 := by split <;> simp [wrap64]
theorem gwV_zero (ps : List Int) (n : Nat) (b : Int) (L : List Nat) : gwV ps n b L 0 = fun p => if p = b then 1 else 0 := by
  funext p
  unfold gwV
  by_cases h : waitsB ps n L 0 p = true
  · rw [if_pos h]
  · rw [if_neg h, gw_none (fun i hi e => h (waits_iff.2 ⟨i, hi, e, by simp⟩)), wrap64_01]
theorem gwU_nil {ps : List Int} {n : Nat} {b : Int} {L : List Nat} (hS : Stl ps n L) {k : Nat} (hk : k < L.length) : gwU ps n b L k (at0 ps (L[k] * 2)) [] = gwV ps n b L k := by
  funext p
  unfold gwU
  by_cases h : p = at0 ps (L[k] * 2)
  · rw [if_pos h]
    have hw : waitsB ps n L k p = true := waits_iff.2 ⟨L[k], hS.lt _ (List.getElem_mem hk), h.symm, fun hm => by
      have hn := hS.nodup
      rw [← List.take_append_drop k L, List.nodup_append] at hn
      refine hn.2.2 _ hm _ ?_ rfl
      rw [List.drop_eq_getElem_cons hk]
      exact List.mem_cons_self⟩
    unfold gwV
    rw [if_pos hw, h]
    simp [wrap64_01]
  · rw [if_neg h]
/-- A step leads to a face whose ways are all known. -/
theorem gwU_next {ps : List Int} {n : Nat} {b : Int} {L : List Nat} (hS : Stl ps n L) {k : Nat} (hk : k < L.length) {y : Int} (hy : y ∈ nextL ps n (at0 ps (L[k] * 2))) (pre : List (Fin 64)) :
    gwU ps n b L k (at0 ps (L[k] * 2)) pre y = wrap64 (gw ps n b y) := by
  unfold gwU
  rw [if_neg (nextL_ne hy)]
  unfold gwV
  rw [if_neg]
  intro hw
  obtain ⟨j, hj, e, hn⟩ := waits_iff.1 hw
  refine hn (hS.ord (L.take k) L[k] (L.drop (k + 1)) ?_ j hj (by unfold StepP; rw [e]; exact hy))
  rw [← List.drop_eq_getElem_cons hk, List.take_append_drop]
theorem gwU_self (ps : List Int) (n : Nat) (b : Int) (L : List Nat) (k : Nat) (x : Int) (pre : List (Fin 64)) : gwU ps n b L k x pre x = wrap64 ((if x = b then 1 else 0) + (pre.map fun z => gw ps n b (z.val : Int)).sum) := by
  unfold gwU
  rw [if_pos rfl]
theorem gwU_snoc (ps : List Int) (n : Nat) (b : Int) (L : List Nat) (k : Nat) (x : Int) (pre : List (Fin 64)) (z : Fin 64) :
    (fun q => if q = x then wrap64 (gwU ps n b L k x pre x + wrap64 (gw ps n b (z.val : Int))) else gwU ps n b L k x pre q) = gwU ps n b L k x (pre ++ [z]) := by
  funext q
  by_cases h : q = x
  · subst h
    rw [if_pos rfl, gwU_self, gwU_self, wrap64_add]
    simp [Int.add_assoc]
  · rw [if_neg h]
    unfold gwU
    rw [if_neg h, if_neg h]
/-- All steps: the pair has settled. -/
theorem gwU_all {ps : List Int} {n : Nat} {b : Int} {L : List Nat} (hc : NoCycle ps n) (hh : HighsB ps n) (hd : LowsApart ps n) (hS : Stl ps n L) {k : Nat} (hk : k < L.length) :
    gwU ps n b L k (at0 ps (L[k] * 2)) (stepsF ps n (at0 ps (L[k] * 2))) = gwV ps n b L (k + 1) := by
  have ht : L.take (k + 1) = L.take k ++ [L[k]] := by rw [List.take_add_one, List.getElem?_eq_getElem hk]; rfl
  funext p
  unfold gwU
  by_cases h : p = at0 ps (L[k] * 2)
  · rw [if_pos h, gw_steps hh _ (gw ps n b), ← gw_step hc]
    unfold gwV
    rw [if_neg, h]
    intro hw
    obtain ⟨j, hj, e, hn⟩ := waits_iff.1 hw
    have := lows_inj hd hj (hS.lt _ (List.getElem_mem hk)) (e.trans h)
    exact hn (by rw [ht, this]; exact List.mem_append_right _ (List.mem_singleton.2 rfl))
  · rw [if_neg h]
    unfold gwV
    have he : waitsB ps n L k p = waitsB ps n L (k + 1) p := by
      rw [Bool.eq_iff_iff, waits_iff, waits_iff]
      constructor
      · rintro ⟨j, hj, e, hn⟩
        refine ⟨j, hj, e, fun hm => ?_⟩
        rw [ht] at hm
        rcases List.mem_append.1 hm with h1 | h1
        · exact hn h1
        · simp at h1
          exact h (by rw [← e, h1])
      · rintro ⟨j, hj, e, hn⟩
        exact ⟨j, hj, e, fun hm => hn (by rw [ht]; exact List.mem_append_left _ hm)⟩
    rw [he]
theorem gwV_all {ps : List Int} {n : Nat} {b : Int} {L : List Nat} (hall : ∀ i, i < n → i ∈ L) : gwV ps n b L L.length = fun p => wrap64 (gw ps n b p) := by
  funext p
  unfold gwV
  rw [if_neg]
  intro hw
  obtain ⟨j, hj, _, hn⟩ := waits_iff.1 hw
  exact hn (by rw [List.take_length]; exact hall j hj)
theorem steps_few (ps : List Int) (n : Nat) (a : Int) : (stepsF ps n a).length ≤ 6 := by
  rw [stepsF_hit]
  exact Nat.le_trans (List.length_filter_le _ _) (sides_len _ 6)

/-- What the walk keeps of the world: the map lies first, its box behind it. -/
structure GwW (w W : World) (N : Nat) (f : Int → Int) (Ds : List Nat) : Prop where
  below : Below w.heap.size w W
  cnt : CntM W w.heap.size N f
  b1 : W.heap[w.heap.size + 1]? = some (.cells #[.map (some w.heap.size)] 81 (0, 0))
  nodup : Ds.Nodup
  marks : ∀ D ∈ Ds, w.heap.size + 2 ≤ D ∧ W.heap[D]? = some (.deferred (some []))
theorem GwW.size {w W : World} {N : Nat} {f : Int → Int} {Ds : List Nat} (h : GwW w W N f Ds) : w.heap.size + 2 ≤ W.heap.size := by
  have := lt_of_get h.b1; omega
theorem GwW.turn {w W W' : World} {N : Nat} {f : Int → Int} {Ds : List Nat} (h : GwW w W N f Ds) {row : Option Nat} (hg : W.grownBy W' row) (hr : ∀ r, row = some r → w.heap.size + 2 ≤ r ∧ r ∉ Ds) : GwW w W' N f Ds where
  below := h.below.grown hg (by have := h.size; omega) (fun k e => by have := (hr k e).1; omega)
  cnt := h.cnt.kept hg (fun e => by have := (hr _ e.symm).1; omega)
  b1 := (hg.block _ (lt_of_get h.b1) (fun e => by have := (hr _ e.symm).1; omega)).trans h.b1
  nodup := h.nodup
  marks := fun D hD => ⟨(h.marks D hD).1, (hg.block _ (lt_of_get (h.marks D hD).2) (fun e => (hr _ e.symm).2 hD)).trans (h.marks D hD).2⟩
theorem GwW.alloc {w W : World} {N : Nat} {f : Int → Int} {Ds : List Nat} (h : GwW w W N f Ds) (o : Obj) : GwW w (W.alloc o) N f Ds := h.turn (World.grownBy_alloc W o none) (fun r e => by cases e)
theorem GwW.mark {w W : World} {N : Nat} {f : Int → Int} {Ds : List Nat} (h : GwW w W N f Ds) {D : Nat} (hD : W.heap[D]? = some (.deferred (some []))) (hb : w.heap.size + 2 ≤ D) (hn : D ∉ Ds) : GwW w W N f (D :: Ds) :=
  { h with
    nodup := List.nodup_cons.2 ⟨hn, h.nodup⟩
    marks := fun E hE => by
      rcases List.mem_cons.1 hE with rfl | hE
      · exact ⟨hb, hD⟩
      · exact h.marks E hE }
theorem CntM.mono {W : World} {b N N' : Nat} {f : Int → Int} (h : CntM W b N f) (hN : N ≤ N') : CntM W b N' f := by
  obtain ⟨D, h0, h1, h2⟩ := h
  exact ⟨D, h0, h1.mono hN, h2⟩
theorem GwW.mono {w W : World} {N N' : Nat} {f : Int → Int} {Ds : List Nat} (h : GwW w W N f Ds) (hN : N ≤ N') : GwW w W N' f Ds := { h with cnt := h.cnt.mono hN }
theorem GwW.put {w W W' : World} {N N' : Nat} {f g : Int → Int} {Ds : List Nat} (h : GwW w W N f Ds) (hc : CntM W' w.heap.size N' g) (hg : W.grownBy W' (some w.heap.size)) : GwW w W' N' g Ds where
  below := h.below.grown hg (by have := h.size; omega) (fun k e => by cases e; exact Nat.le_refl _)
  cnt := hc
  b1 := (hg.block _ (lt_of_get h.b1) (fun e => by injection e with e; omega)).trans h.b1
  nodup := h.nodup
  marks := fun D hD => ⟨(h.marks D hD).1, (hg.block _ (lt_of_get (h.marks D hD).2) (fun e => by injection e with e; have := (h.marks D hD).1; omega)).trans (h.marks D hD).2⟩
theorem gw_ownIn {β : Type} {w : World} {N : β → Nat} {f : β → Int → Int} {Ds : List Nat} {lo k : Nat} (hlo : w.heap.size + 2 ≤ lo) (hD : ∀ D ∈ Ds, D < lo) :
    OwnIn lo k (fun (p : β) W' => GwW w W' (N p) (f p) Ds) := by
  intro s A C row h hg hr
  refine h.turn hg (fun r e => ?_)
  obtain ⟨h1, _⟩ := hr r e
  exact ⟨by omega, fun hm => by have := hD r hm; omega⟩

end Go.Proofs.Ytgmapgaijncbeaa

/-! waysFrom, the mathematics: numbers of ways, carried along the steps. -/
namespace Go.Proofs.Ytgmapgaijncbeaa
open Go.RowKit

theorem sum_turn {F F' : Int → Int} {y : Int} : ∀ {L : List Int}, L.Nodup → y ∈ L → (∀ q ∈ L, q ≠ y → F' q = F q) → (L.map F').sum = (L.map F).sum + (F' y - F y)
  | [], _, hy, _ => by simp at hy
  | x :: L, hn, hy, h => by
    have hn' := List.nodup_cons.1 hn
    simp only [List.map_cons, List.sum_cons]
    by_cases e : x = y
    · subst e
      have : L.map F' = L.map F := List.map_congr_left (fun q hq => h q (by simp [hq]) (fun e => hn'.1 (e ▸ hq)))
      rw [this]
      omega
    · have hyL : y ∈ L := by
        rcases List.mem_cons.1 hy with h1 | h1
        · exact absurd h1.symm e
        · exact h1
      rw [sum_turn hn'.2 hyL (fun q hq hne => h q (by simp [hq]) hne), h x (by simp) e]
      omega

/-- The numbers a face may have. -/
def allU : List Int := (List.range 64).map fun i => ((i : Nat) : Int)
theorem allU_nodup : allU.Nodup := by decide +kernel
theorem mem_allU {x : Int} : x ∈ allU ↔ 0 ≤ x ∧ x < 64 := by
  unfold allU
  rw [List.mem_map]
  constructor
  · rintro ⟨i, hi, rfl⟩
    have : i < 64 := by simpa using hi
    omega
  · intro h
    exact ⟨x.toNat, by simp; omega, by omega⟩

def totW (wt u : Int → Int) : Int := (allU.map fun x => wt x * u x).sum
theorem totW_put {wt u : Int → Int} {y : Int} (d : Int) (hy : 0 ≤ y ∧ y < 64) : totW wt (fun q => if q = y then u y + d else u q) = totW wt u + wt y * d := by
  unfold totW
  rw [sum_turn (F := fun x => wt x * u x) (y := y) allU_nodup (mem_allU.2 hy) (fun q _ hne => by simp only [if_neg hne])]
  show _ + (wt y * (if y = y then u y + d else u y) - wt y * u y) = _
  rw [if_pos rfl, Int.mul_add]
  omega
theorem totW_wt {wt wt' u : Int → Int} {y : Int} (hy : 0 ≤ y ∧ y < 64) (h : ∀ q, q ≠ y → wt' q = wt q) : totW wt' u = totW wt u + (wt' y - wt y) * u y := by
  unfold totW
  rw [sum_turn (F := fun x => wt x * u x) (y := y) allU_nodup (mem_allU.2 hy) (fun q _ hne => by rw [h q hne]), Int.sub_mul]
theorem totW_one {u : Int → Int} {a : Int} (ha : 0 ≤ a ∧ a < 64) : totW (fun x => if x = a then 1 else 0) u = u a := by
  have h0 : ∀ L : List Int, (L.map fun x => (0 : Int) * u x).sum = 0 := fun L => by induction L with
    | nil => rfl
    | cons x L ih =>
      show 0 * u x + (L.map fun x => (0 : Int) * u x).sum = 0
      rw [ih, Int.zero_mul]
      rfl
  have h1 := totW_wt (wt := fun _ => 0) (wt' := fun x => if x = a then 1 else 0) (u := u) ha (fun q hq => by simp [hq])
  rw [h1]
  unfold totW
  rw [h0]
  simp

/-- A list of pairs in which each pair has all pairs to which its steps lead ahead of it. -/
def OrdQ (qs : List Int) (n : Nat) : Prop := ∀ i j, i < n → j < n → StepP qs n i j → j < i

/-- What a way that has come to x counts behind k pairs: those to a, or being at a. -/
def wtB (qs : List Int) (n k : Nat) (x : Int) : Bool := (List.range n).any fun i => decide (at0 qs (i * 2) = x) && decide (n - k ≤ i)
theorem wtB_iff {qs : List Int} {n k : Nat} {x : Int} : wtB qs n k x = true ↔ ∃ i, i < n ∧ at0 qs (i * 2) = x ∧ n - k ≤ i := by
  unfold wtB
  rw [List.any_eq_true]
  simp
def wtK (qs : List Int) (n : Nat) (a : Int) (k : Nat) (x : Int) : Int := if wtB qs n k x then (if x = a then 1 else 0) else gw qs n a x
theorem wtK_zero (qs : List Int) (n : Nat) (a : Int) : wtK qs n a 0 = gw qs n a := by
  funext x
  unfold wtK
  rw [if_neg]
  intro h
  obtain ⟨i, hi, _, h2⟩ := wtB_iff.1 h
  omega
theorem wtK_all (qs : List Int) (n : Nat) (a : Int) : wtK qs n a n = fun x => if x = a then 1 else 0 := by
  funext x
  unfold wtK
  by_cases h : wtB qs n n x = true
  · rw [if_pos h]
  · rw [if_neg h, gw_none (fun i hi e => h (wtB_iff.2 ⟨i, hi, e, by omega⟩))]
/-- A step of pair n - 1 - k leads to what has not been gone through. -/
theorem wtK_next {qs : List Int} {n : Nat} (hO : OrdQ qs n) (a : Int) {k : Nat} (hk : k < n) {y : Int} (hy : y ∈ nextL qs n (at0 qs ((n - 1 - k) * 2))) : wtK qs n a k y = gw qs n a y := by
  unfold wtK
  rw [if_neg]
  intro h
  obtain ⟨j, hj, e, h2⟩ := wtB_iff.1 h
  have := hO (n - 1 - k) j (by omega) hj (by unfold StepP; rw [e]; exact hy)
  omega
theorem wtK_self {qs : List Int} {n : Nat} (hd : LowsApart qs n) (a : Int) {k : Nat} (hk : k < n) : wtK qs n a k (at0 qs ((n - 1 - k) * 2)) = gw qs n a (at0 qs ((n - 1 - k) * 2)) := by
  unfold wtK
  rw [if_neg]
  intro h
  obtain ⟨j, hj, e, h2⟩ := wtB_iff.1 h
  have := lows_inj hd hj (show n - 1 - k < n by omega) e
  omega
theorem wtK_succ {qs : List Int} {n : Nat} (a : Int) {k : Nat} (hk : k < n) :
    wtK qs n a (k + 1) (at0 qs ((n - 1 - k) * 2)) = (if at0 qs ((n - 1 - k) * 2) = a then 1 else 0) ∧ ∀ q, q ≠ at0 qs ((n - 1 - k) * 2) → wtK qs n a (k + 1) q = wtK qs n a k q := by
  constructor
  · unfold wtK
    rw [if_pos (wtB_iff.2 ⟨n - 1 - k, by omega, rfl, by omega⟩)]
  · intro q hq
    unfold wtK
    have : wtB qs n (k + 1) q = wtB qs n k q := by
      rw [Bool.eq_iff_iff, wtB_iff, wtB_iff]
      constructor
      · rintro ⟨j, hj, e, h2⟩
        refine ⟨j, hj, e, ?_⟩
        by_cases h3 : j = n - 1 - k
        · subst h3; exact absurd e.symm hq
        · omega
      · rintro ⟨j, hj, e, h2⟩
        exact ⟨j, hj, e, by omega⟩
    rw [this]

theorem ordQ_acyclic {qs : List Int} {n : Nat} (hO : OrdQ qs n) : NoCycle qs n := by
  have key : ∀ {x y : Int}, Way qs n x y → ∀ i j, i < n → j < n → at0 qs (i * 2) = x → at0 qs (j * 2) = y → j < i := by
    intro x y h
    induction h with
    | one h1 =>
      intro i j hi hj hx hy
      exact hO i j hi hj (by unfold StepP; rw [hx, hy]; exact h1)
    | @more z y _ h2 ih =>
      intro i j hi hj hx hy
      obtain ⟨m, hm, hz⟩ := next_low h2
      have h3 := ih i m hi hm hx hz
      have h4 := hO m j hm hj (by unfold StepP; rw [hz, hy]; exact h2)
      omega
  intro i hi hw
  have := key hw i i hi hi rfl rfl
  omega

/-- A pair has been gone through: all ways have been carried on. -/
theorem totW_round {qs : List Int} {n : Nat} (hO : OrdQ qs n) (hh : HighsB qs n) (hd : LowsApart qs n) (a : Int) {k : Nat} (hk : k < n) {x : Int} (hx : x = at0 qs ((n - 1 - k) * 2)) (hx2 : 0 ≤ x ∧ x < 64) {u : Int → Int} {S : Int}
    (h : totW (wtK qs n a k) u = S + u x * ((stepsF qs n x).map fun z => gw qs n a (z.val : Int)).sum) : totW (wtK qs n a (k + 1)) u = S := by
  obtain ⟨h1, h2⟩ := wtK_succ (qs := qs) a hk
  rw [← hx] at h1 h2
  have h3 : wtK qs n a k x = gw qs n a x := by rw [hx]; exact wtK_self hd a hk
  have hg := gw_step (ordQ_acyclic hO) a x
  rw [gw_steps hh x (gw qs n a)] at h
  rw [totW_wt hx2 h2, h, h1, h3, hg]
  rw [Int.mul_comm (u x)]
  have : ((if x = a then (1 : Int) else 0) - ((if x = a then 1 else 0) + ((nextL qs n x).map (gw qs n a)).sum)) = -((nextL qs n x).map (gw qs n a)).sum := by omega
  rw [this, Int.neg_mul]
  omega
theorem totW_next {qs : List Int} {n : Nat} (hO : OrdQ qs n) (hh : HighsB qs n) (a : Int) {k : Nat} (hk : k < n) {x : Int} (hx : x = at0 qs ((n - 1 - k) * 2)) {u : Int → Int} {S : Int} {pre : List (Fin 64)} {z : Fin 64} (hz : (z.val : Int) ∈ nextL qs n x)
    (h : totW (wtK qs n a k) u = S + u x * (pre.map fun z => gw qs n a (z.val : Int)).sum) :
    totW (wtK qs n a k) (fun q => if q = (z.val : Int) then u (z.val : Int) + u x else u q) = S + (fun q => if q = (z.val : Int) then u (z.val : Int) + u x else u q) x * ((pre ++ [z]).map fun z => gw qs n a (z.val : Int)).sum := by
  have hne := nextL_ne hz
  rw [totW_put (u x) (next_range hh hz), h, wtK_next hO a hk (by rw [← hx]; exact hz)]
  simp only [if_neg (fun e => hne e.symm : ¬ x = (z.val : Int)), List.map_append, List.map_cons, List.map_nil, List.sum_append, List.sum_cons, List.sum_nil, Int.add_zero, Int.mul_add]
  rw [Int.mul_comm (gw qs n a (z.val : Int)), Int.add_assoc]

theorem sides_nodup : ∀ f : Fin 64, (sidesF f.val).Nodup := by decide +kernel
/-- The sides, one way each. -/
def sideU (pre : List (Fin 64)) (x : Int) : Int := if x ∈ pre.map (fun z => (z.val : Int)) then 1 else 0
theorem sideU_snoc (pre : List (Fin 64)) (z : Fin 64) : (fun q => if q = (z.val : Int) then 1 else sideU pre q) = sideU (pre ++ [z]) := by
  funext q
  unfold sideU
  by_cases h : q = (z.val : Int)
  · simp [h]
  · rw [if_neg h]
    simp only [List.map_append, List.mem_append, List.map_cons, List.map_nil, List.mem_singleton, h, or_false]
theorem totW_sides (g : Int → Int) : ∀ (l : List (Fin 64)), l.Nodup → totW g (sideU l) = (l.map fun z => g (z.val : Int)).sum := by
  intro l
  have h0 : ∀ L : List Int, (L.map fun x => g x * 0).sum = 0 := fun L => by induction L with
    | nil => rfl
    | cons x L ih =>
      show g x * 0 + (L.map fun x => g x * 0).sum = 0
      rw [ih, Int.mul_zero]
      rfl
  have key : ∀ (m : Nat) (l : List (Fin 64)), l.length = m → l.Nodup → totW g (sideU l) = (l.map fun z => g (z.val : Int)).sum := by
    intro m
    induction m with
    | zero =>
      intro l hl _
      have : l = [] := List.eq_nil_of_length_eq_zero hl
      subst this
      unfold totW sideU
      simp only [List.map_nil, List.not_mem_nil, if_false]
      rw [h0]
      rfl
    | succ m ih =>
      intro l hl hn
      obtain ⟨l', z, rfl⟩ : ∃ l' z, l = l' ++ [z] := by
        rcases List.eq_nil_or_concat l with h | ⟨l', z, h⟩
        · rw [h] at hl; simp at hl
        · exact ⟨l', z, by rw [h, List.concat_eq_append]⟩
      rw [List.nodup_append] at hn
      have hz : sideU l' (z.val : Int) = 0 := by
        unfold sideU
        rw [if_neg]
        intro h
        obtain ⟨z', hz', e⟩ := List.mem_map.1 h
        have : z' = z := Fin.ext (by omega)
        exact hn.2.2 z' hz' z (by simp) this
      have h1 := totW_put (wt := g) (u := sideU l') (y := (z.val : Int)) 1 ⟨by omega, by have := z.isLt; omega⟩
      rw [hz, Int.zero_add, sideU_snoc, ih l' (by simpa using hl) hn.1] at h1
      rw [h1]
      simp
  exact key l.length l rfl

/-- How many ways begin at a side of b and end at a. -/
def wsum (ps : List Int) (n : Nat) (b a : Int) : Int := ((sidesF b.toNat).map fun s => gw ps n a (s.val : Int)).sum

theorem wsum_start {qs : List Int} {n : Nat} {b : Nat} (hb : b < 64) (a : Int) : totW (wtK qs n a 0) (sideU (sidesF b)) = wsum qs n (b : Int) a := by
  rw [wtK_zero, totW_sides _ _ (sides_nodup ⟨b, hb⟩)]
  rfl
theorem wsum_end {qs : List Int} {n : Nat} {b a : Int} {u : Int → Int} (ha : 0 ≤ a ∧ a < 64) (h : totW (wtK qs n a n) u = wsum qs n b a) : u a = wsum qs n b a := by
  rw [wtK_all, totW_one ha] at h
  exact h

end Go.Proofs.Ytgmapgaijncbeaa

/-! Loops over iterators that keep cells of their own: boxed variables, and loops within a round. -/
namespace Go.Proofs.Ytgmapgaijncbeaa
open Go.RowKit Go.Shelf

attribute [local go_sem] Oper.semAt_some

/-- A loop over such an iterator whose variable is boxed; the body is told of its own record. -/
theorem wpIn_rangeFunc_PH {α : Type} {F : Fence} {n : Nat} {P : Program} {w : World} {g : Operand} {ps : Array Tmp} {assign body : Code} {Q : Exit → Act → World → Prop} {a : Act}
    (hro : F.round = none) (h1 : 1 ≤ n) {gf : Nat} {lb : Array Value} (hg : a.eval g = .func (.func gf) #[] lb) (hFg : F.fn gf) (eg : ∀ args w, (callFunc gf args).run P w = .ok (.enter gf args) w)
    {encs : α → Array Value} {Bs : List Nat} {k : Nat} {L : List α} {w0 : World} (hseq : SeqStopsP F (n - 1) P gf lb encs Bs k L w0) (hBs : ∀ b ∈ Bs, b < w.heap.size)
    (hb0 : Below w0.heap.size w0 w) (hps : ∀ x, (encs x).size = ps.size)
    (I : List α → World → Prop) (Ix : Code → List α → World → Prop) (hI : OwnIn w.heap.size (2 + k) I) (hIx : ∀ c, OwnIn w.heap.size (2 + k) (Ix c)) (h0 : I [] w) (ob : α → Obj) (a₁ : α → Nat → Act)
    (hassign : ∀ (l : Nat) (x : α) (W : World) (K : Act → World → Prop), K (a₁ x W.heap.size) (W.alloc (ob x)) →
      assign.wpIn (F.inRound l) (n - 1 - 1) P (Exit.then K (fun _ _ _ => False)) { tmps := (ps.zip (encs x)).foldl (fun t (p, v) => t.setIfInBounds p v) a.tmps, defers := [] } W)
    (hbody : ∀ (pre : List α) (x : α) (bx : Nat) (W : World), pre ++ [x] <+: L → w.heap.size + (2 + k) ≤ bx → W.heap.size = bx + 1 → W.heap[bx]? = some (ob x) → (∃ r, W.heap[w.heap.size + 1]? = some (.loop r)) → I pre W → body.wpIn (F.inRound (w.heap.size + 1)) (n - 1 - 1) P (postP Bs w.heap.size (2 + k) I Ix (pre ++ [x]) W) (a₁ x bx) W)
    (hdone : ∀ (W : World), I L W → W.heap[w.heap.size]? = some (.deferred (some [])) → Q .normal { a with defers := { target := .collected w.heap.size, args := #[] } :: a.defers } W)
    (hstop : ∀ (c : Code) (pre : List α) (W : World), pre <+: L → Ix c pre W → W.heap[w.heap.size]? = some (.deferred (some [])) → c.wpIn F n P Q { a with defers := { target := .collected w.heap.size, args := #[] } :: a.defers } W) :
    (Code.rangeFunc g ps assign body).wpIn F n P Q a w := by
  refine wpIn_rangeFunc ?_
  intro fn hfn
  rw [hro]
  let rec_ : LoopState → Option Code → Loop := fun st pe => { state := st, pending := pe, fn, tmps := a.tmps, params := ps, assign, body, defers := w.heap.size }
  obtain ⟨rec, hrec⟩ : ∃ rec, rec = rec_ := ⟨_, rfl⟩
  obtain ⟨W1, hW1⟩ : ∃ W1, (w.alloc (.deferred (some []))).alloc (.loop (rec .ready none)) = W1 := ⟨_, rfl⟩
  have hs1 : W1.heap.size = w.heap.size + 2 := by rw [← hW1]; simp
  have hL1 : W1.heap[w.heap.size + 1]? = some (.loop (rec .ready none)) := by
    rw [← hW1]; have := World.alloc_heap_new (w.alloc (.deferred (some []))) (.loop (rec .ready none)); rwa [World.size_alloc] at this
  have hK1 : W1.heap[w.heap.size]? = some (.deferred (some [])) := by
    rw [← hW1]; exact (Below.heap_alloc _ _ _ (by simp)).trans (World.alloc_heap_new w _)
  have hI1 : I [] W1 := by rw [← hW1]; exact hI.alloc _ (hI.alloc _ h0)
  have hb1 : Below w0.heap.size w0 W1 := by
    rw [← hW1]; exact hb0.trans ((((Below.refl _ w).alloc (Nat.le_refl _) _).alloc (by simp) _).mono hb0.size)
  have hIk : ∀ {I' : List α → World → Prop}, OwnIn w.heap.size (2 + k) I' → OwnIn W1.heap.size k I' := fun h => h.less (by omega) (by omega)
  refine ⟨w.heap.size + 1, [{ target := .collected w.heap.size, args := #[] }], W1, { target := .fn (.func gf) lb, args := #[.func (.yield (w.heap.size + 1)) #[] #[]] }, W1, gf,
    #[.func (.yield (w.heap.size + 1)) #[] #[]] ++ lb, W1, ?_, ?_, ?_, ?_, fun _ => h1, ?_⟩
  · rw [← hW1, hrec]; exact run_enterLoop_outer _ _ _ _ _
  · simp only [resolve, hg]
    simp [go_sem]
  · intro f' hf'; simp [Target.leads] at hf'; subst hf'; exact hFg
  · simp [invoke, go_sem, eg]
  · have hrow : ∀ {A B : World} {row : Option Nat} {b : Nat} {o : Obj}, A.grownBy B row → (∀ r, row = some r → W1.heap.size ≤ r ∧ (r < W1.heap.size + k ∨ ∃ o : Obj, A.heap[r]? = some o ∧ o.isCells = false)) → b < W1.heap.size → A.heap[b]? = some o → B.heap[b]? = some o :=
      fun hg' hr hb ho => (hg'.block _ (Array.getElem?_eq_some_iff.1 ho).1 (fun e => by have := (hr _ e.symm).1; omega)).trans ho
    refine (hseq (w.heap.size + 1)
      (fun pre W => I pre W ∧ W.heap[w.heap.size + 1]? = some (.loop (rec .ready none)) ∧ W.heap[w.heap.size]? = some (.deferred (some [])))
      (fun pre W => ∃ c, Ix c pre W ∧ W.heap[w.heap.size + 1]? = some (.loop (rec .done (some c))) ∧ W.heap[w.heap.size]? = some (.deferred (some [])))
      W1 hb1
      (fun s A B row hs hg' hr => ⟨hIk hI s A B row hs.1 hg' hr, hrow hg' hr (by omega) hs.2.1, hrow hg' hr (by omega) hs.2.2⟩)
      (fun s A B row hs hg' hr => by
        obtain ⟨c, hc, hl, hk⟩ := hs
        exact ⟨c, hIk (hIx c) s A B row hc hg' hr, hrow hg' hr (by omega) hl, hrow hg' hr (by omega) hk⟩)
      ?_ ⟨hI1, hL1, hK1⟩).mono ?_
    · rintro pre x W hpre hsk ⟨hi, hl, hk⟩
      have hlt : w.heap.size + 1 < W.heap.size := (Array.getElem?_eq_some_iff.1 hl).1
      have hy := run_yield (P := P) (args := encs x) hl (by rw [hrec]; exact hps x)
      rw [hrec] at hy
      refine ⟨fn, _, assign, body, hy, roundIn_of_wpIn hfn (hassign _ x W _ ?_)⟩
      clear hy
      obtain ⟨Wa, hWa⟩ : ∃ Wa, Wa = W.alloc (ob x) := ⟨_, rfl⟩
      have hsa : Wa.heap.size = W.heap.size + 1 := by rw [hWa]; simp
      have hla : Wa.heap[w.heap.size + 1]? = some (.loop (rec .ready none)) := by rw [hWa]; exact (Below.heap_alloc _ _ _ hlt).trans hl
      have hka : Wa.heap[w.heap.size]? = some (.deferred (some [])) := by rw [hWa]; exact (Below.heap_alloc _ _ _ (by omega)).trans hk
      have hia : I pre Wa := by rw [hWa]; exact hI.alloc _ hi
      have hoa : Wa.heap[W.heap.size]? = some (ob x) := by rw [hWa]; exact World.alloc_heap_new _ _
      have hkpa : KeepP Bs W1.heap.size k W Wa := by
        rw [hWa]
        refine ⟨by simp, fun r hr => Below.heap_alloc _ _ _ ?_⟩
        rcases hr with h | h
        · have := hBs r h; omega
        · omega
      rw [← hWa]
      refine ⟨_, run_beginRound hla (by rw [hrec]), ?_⟩
      obtain ⟨W2, hW2⟩ : ∃ W2, W2 = Wa.putObj (w.heap.size + 1) (.loop { rec .ready none with state := .busy }) := ⟨_, rfl⟩
      have hl2 : W2.heap[w.heap.size + 1]? = some (.loop { rec .ready none with state := .busy }) := by rw [hW2]; exact World.putObj_heap_same (by omega)
      have hk2 : W2.heap[w.heap.size]? = some (.deferred (some [])) := by rw [hW2]; exact (World.putObj_heap_other (by omega)).trans hka
      have ho2 : W2.heap[W.heap.size]? = some (ob x) := by rw [hW2]; exact (World.putObj_heap_other (by omega)).trans hoa
      have hi2 : I pre W2 := by rw [hW2]; exact hI.putObj _ hia (by omega) (by omega)
      have hkp : ∀ {X Y : World} {o : Obj}, X = Y.putObj (w.heap.size + 1) o → KeepP Bs W1.heap.size k Y X := fun e => ⟨by rw [e, World.putObj_size]; exact Nat.le_refl _, fun r hr => by
        rw [e]
        refine World.putObj_heap_other ?_
        rcases hr with h | h
        · have := hBs r h; omega
        · omega⟩
      refine wpIn_mono (hbody pre x W.heap.size _ hpre (by omega) (by rw [World.putObj_size]; exact hsa) (by rw [← hW2]; exact ho2) ⟨_, by rw [← hW2]; exact hl2⟩ (by rw [← hW2]; exact hi2)) ?_
      rw [← hW2]
      have fin : ∀ (jump : Option Code) (W3 : World), KeepP Bs w.heap.size (2 + k) W2 W3 →
          (Instr.endRound (w.heap.size + 1) jump).run P W3 = .ok (.bool jump.isNone) (W3.putObj (w.heap.size + 1) (.loop (rec (if jump.isNone then .ready else .done) jump))) ∧
          (W3.putObj (w.heap.size + 1) (.loop (rec (if jump.isNone then .ready else .done) jump))).heap[w.heap.size + 1]? = some (.loop (rec (if jump.isNone then .ready else .done) jump)) ∧
          (W3.putObj (w.heap.size + 1) (.loop (rec (if jump.isNone then .ready else .done) jump))).heap[w.heap.size]? = some (.deferred (some [])) ∧
          KeepP Bs W1.heap.size k W (W3.putObj (w.heap.size + 1) (.loop (rec (if jump.isNone then .ready else .done) jump))) := fun jump W3 hk3 => by
        have hl3 := (hk3.same (w.heap.size + 1) (.inr ⟨by omega, by omega⟩)).trans hl2
        have hd3 := (hk3.same w.heap.size (.inr ⟨by omega, by omega⟩)).trans hk2
        have := run_endRound (P := P) jump hl3
        rw [hrec] at this ⊢
        exact ⟨this, World.putObj_heap_same (Array.getElem?_eq_some_iff.1 hl3).1, (World.putObj_heap_other (by omega)).trans hd3,
          hkpa.trans ((hkp hW2).trans ((hk3.less (fun b hb => .inl hb) (by omega) (by omega)).trans (hkp rfl)))⟩
      rintro e a3 W3 hp
      cases e with
      | normal =>
        obtain ⟨hr, hl4, hk4, hkk⟩ := fin none W3 hp.1
        exact ⟨_, _, hr, hkk, .inl ⟨rfl, hI.putObj _ hp.2 (by omega) (by omega), hl4, hk4⟩⟩
      | ret =>
        obtain ⟨hr, hl4, hk4, hkk⟩ := fin (some .ret) W3 hp.1
        exact ⟨_, _, hr, hkk, .inr ⟨rfl, .ret, (hIx _).putObj _ hp.2 (by omega) (by omega), hl4, hk4⟩⟩
      | exit id =>
        obtain ⟨hr, hl4, hk4, hkk⟩ := fin (some (.exit id)) W3 hp.1
        exact ⟨_, _, hr, hkk, .inr ⟨rfl, .exit id, (hIx _).putObj _ hp.2 (by omega) (by omega), hl4, hk4⟩⟩
      | goto t =>
        obtain ⟨hr, hl4, hk4, hkk⟩ := fin (some (.goto t)) W3 hp.1
        exact ⟨_, _, hr, hkk, .inr ⟨rfl, .goto t, (hIx _).putObj _ hp.2 (by omega) (by omega), hl4, hk4⟩⟩
      | panic ch => exact hp.elim
      | outgrown => exact hp.elim
    · rintro e W2 ⟨⟨v, rfl⟩, (⟨hi, hl, hk⟩ | ⟨pre, hSp, c, hi, hl, hk⟩)⟩
      · exact ⟨none, _, by have := run_endLoop (P := P) hl (by rw [hrec]; simp [rec_]); rw [hrec] at this; exact this, hdone _ (hI.putObj _ hi (by omega) (by omega)) ((World.putObj_heap_other (by omega)).trans hk)⟩
      · exact ⟨some c, _, by have := run_endLoop (P := P) hl (by rw [hrec]; simp [rec_]); rw [hrec] at this; exact this, hstop c pre _ hSp ((hIx c).putObj _ hi (by omega) (by omega)) ((World.putObj_heap_other (by omega)).trans hk)⟩


/-- A loop over such an iterator within a round of loop l₀. -/
theorem wpIn_rangeFunc_PN {α : Type} {F : Fence} {n : Nat} {P : Program} {w : World} {g : Operand} {ps : Array Tmp} {assign body : Code} {Q : Exit → Act → World → Prop} {a : Act}
    {l₀ : Nat} {r₀ : Loop} (hro : F.round = some l₀) (hl₀ : w.heap[l₀]? = some (.loop r₀)) (h1 : 1 ≤ n) {gf : Nat} {lb : Array Value} (hg : a.eval g = .func (.func gf) #[] lb) (hFg : F.fn gf) (eg : ∀ args w, (callFunc gf args).run P w = .ok (.enter gf args) w)
    {encs : α → Array Value} {Bs : List Nat} {k : Nat} {L : List α} {w0 : World} (hseq : SeqStopsP F (n - 1) P gf lb encs Bs k L w0) (hBs : ∀ b ∈ Bs, b < w.heap.size)
    (hb0 : Below w0.heap.size w0 w) (hps : ∀ x, (encs x).size = ps.size)
    (I : List α → World → Prop) (Ix : Code → List α → World → Prop) (hI : OwnIn w.heap.size (1 + k) I) (hIx : ∀ c, OwnIn w.heap.size (1 + k) (Ix c)) (h0 : I [] w) (a₁ : α → Act)
    (hassign : ∀ (l : Nat) (x : α) (W : World) (K : Act → World → Prop), K (a₁ x) W →
      assign.wpIn (F.inRound l) (n - 1 - 1) P (Exit.then K (fun _ _ _ => False)) { tmps := (ps.zip (encs x)).foldl (fun t (p, v) => t.setIfInBounds p v) a.tmps, defers := [] } W)
    (hbody : ∀ (l : Nat) (pre : List α) (x : α) (W : World), pre ++ [x] <+: L → w.heap.size + (1 + k) ≤ W.heap.size → I pre W → body.wpIn (F.inRound l) (n - 1 - 1) P (postP Bs w.heap.size (1 + k) I Ix (pre ++ [x]) W) (a₁ x) W)
    (hdone : ∀ (W : World), I L W → Q .normal a W)
    (hstop : ∀ (c : Code) (pre : List α) (W : World), pre <+: L → Ix c pre W → c.wpIn F n P Q a W) :
    (Code.rangeFunc g ps assign body).wpIn F n P Q a w := by
  refine wpIn_rangeFunc ?_
  intro fn hfn
  rw [hro]
  let rec_ : LoopState → Option Code → Loop := fun st pe => { state := st, pending := pe, fn, tmps := a.tmps, params := ps, assign, body, defers := r₀.defers }
  obtain ⟨rec, hrec⟩ : ∃ rec, rec = rec_ := ⟨_, rfl⟩
  obtain ⟨W1, hW1⟩ : ∃ W1, w.alloc (.loop (rec .ready none)) = W1 := ⟨_, rfl⟩
  have hs1 : W1.heap.size = w.heap.size + 1 := by rw [← hW1]; simp
  have hL1 : W1.heap[w.heap.size]? = some (.loop (rec .ready none)) := by rw [← hW1]; exact World.alloc_heap_new w _
  have hI1 : I [] W1 := by rw [← hW1]; exact hI.alloc _ h0
  have hb1 : Below w0.heap.size w0 W1 := by
    rw [← hW1]; exact hb0.trans (((Below.refl _ w).alloc (Nat.le_refl _) _).mono hb0.size)
  have hIk : ∀ {I' : List α → World → Prop}, OwnIn w.heap.size (1 + k) I' → OwnIn W1.heap.size k I' := fun h => h.less (by omega) (by omega)
  refine ⟨w.heap.size, [], W1, { target := .fn (.func gf) lb, args := #[.func (.yield (w.heap.size)) #[] #[]] }, W1, gf,
    #[.func (.yield (w.heap.size)) #[] #[]] ++ lb, W1, ?_, ?_, ?_, ?_, fun _ => h1, ?_⟩
  · rw [← hW1, hrec]; exact run_enterLoop_inner hl₀ _ _ _ _ _
  · simp only [resolve, hg]
    simp [go_sem]
  · intro f' hf'; simp [Target.leads] at hf'; subst hf'; exact hFg
  · simp [invoke, go_sem, eg]
  · have hrow : ∀ {A B : World} {row : Option Nat} {b : Nat} {o : Obj}, A.grownBy B row → (∀ r, row = some r → W1.heap.size ≤ r ∧ (r < W1.heap.size + k ∨ ∃ o : Obj, A.heap[r]? = some o ∧ o.isCells = false)) → b < W1.heap.size → A.heap[b]? = some o → B.heap[b]? = some o :=
      fun hg' hr hb ho => (hg'.block _ (Array.getElem?_eq_some_iff.1 ho).1 (fun e => by have := (hr _ e.symm).1; omega)).trans ho
    refine (hseq (w.heap.size)
      (fun pre W => I pre W ∧ W.heap[w.heap.size]? = some (.loop (rec .ready none)))
      (fun pre W => ∃ c, Ix c pre W ∧ W.heap[w.heap.size]? = some (.loop (rec .done (some c))))
      W1 hb1
      (fun s A B row hs hg' hr => ⟨hIk hI s A B row hs.1 hg' hr, hrow hg' hr (by omega) hs.2⟩)
      (fun s A B row hs hg' hr => by
        obtain ⟨c, hc, hl⟩ := hs
        exact ⟨c, hIk (hIx c) s A B row hc hg' hr, hrow hg' hr (by omega) hl⟩)
      ?_ ⟨hI1, hL1⟩).mono ?_
    · rintro pre x W hpre hsk ⟨hi, hl⟩
      have hlt : w.heap.size < W.heap.size := (Array.getElem?_eq_some_iff.1 hl).1
      have hy := run_yield (P := P) (args := encs x) hl (by rw [hrec]; exact hps x)
      rw [hrec] at hy
      refine ⟨fn, _, assign, body, hy, roundIn_of_wpIn hfn (hassign _ x W _ ?_)⟩
      clear hy
      refine ⟨_, run_beginRound hl (by rw [hrec]), ?_⟩
      obtain ⟨W2, hW2⟩ : ∃ W2, W2 = W.putObj (w.heap.size) (.loop { rec .ready none with state := .busy }) := ⟨_, rfl⟩
      have hl2 : W2.heap[w.heap.size]? = some (.loop { rec .ready none with state := .busy }) := by rw [hW2]; exact World.putObj_heap_same hlt
      have hi2 : I pre W2 := by rw [hW2]; exact hI.putObj _ hi (by omega) (by omega)
      have hkp : ∀ {X Y : World} {o : Obj}, X = Y.putObj (w.heap.size) o → KeepP Bs W1.heap.size k Y X := fun e => ⟨by rw [e, World.putObj_size]; exact Nat.le_refl _, fun r hr => by
        rw [e]
        refine World.putObj_heap_other ?_
        rcases hr with h | h
        · have := hBs r h; omega
        · omega⟩
      refine wpIn_mono (hbody _ pre x _ hpre (by rw [World.putObj_size]; omega) (by rw [← hW2]; exact hi2)) ?_
      rw [← hW2]
      have fin : ∀ (jump : Option Code) (W3 : World), KeepP Bs w.heap.size (1 + k) W2 W3 →
          (Instr.endRound (w.heap.size) jump).run P W3 = .ok (.bool jump.isNone) (W3.putObj (w.heap.size) (.loop (rec (if jump.isNone then .ready else .done) jump))) ∧
          (W3.putObj (w.heap.size) (.loop (rec (if jump.isNone then .ready else .done) jump))).heap[w.heap.size]? = some (.loop (rec (if jump.isNone then .ready else .done) jump)) ∧
          KeepP Bs W1.heap.size k W (W3.putObj (w.heap.size) (.loop (rec (if jump.isNone then .ready else .done) jump))) := fun jump W3 hk3 => by
        have hl3 := (hk3.same (w.heap.size) (.inr ⟨by omega, by omega⟩)).trans hl2
        have := run_endRound (P := P) jump hl3
        rw [hrec] at this ⊢
        exact ⟨this, World.putObj_heap_same (Array.getElem?_eq_some_iff.1 hl3).1,
          (hkp hW2).trans ((hk3.less (fun b hb => .inl hb) (by omega) (by omega)).trans (hkp rfl))⟩
      rintro e a3 W3 hp
      cases e with
      | normal =>
        obtain ⟨hr, hl4, hkk⟩ := fin none W3 hp.1
        exact ⟨_, _, hr, hkk, .inl ⟨rfl, hI.putObj _ hp.2 (by omega) (by omega), hl4⟩⟩
      | ret =>
        obtain ⟨hr, hl4, hkk⟩ := fin (some .ret) W3 hp.1
        exact ⟨_, _, hr, hkk, .inr ⟨rfl, .ret, (hIx _).putObj _ hp.2 (by omega) (by omega), hl4⟩⟩
      | exit id =>
        obtain ⟨hr, hl4, hkk⟩ := fin (some (.exit id)) W3 hp.1
        exact ⟨_, _, hr, hkk, .inr ⟨rfl, .exit id, (hIx _).putObj _ hp.2 (by omega) (by omega), hl4⟩⟩
      | goto t =>
        obtain ⟨hr, hl4, hkk⟩ := fin (some (.goto t)) W3 hp.1
        exact ⟨_, _, hr, hkk, .inr ⟨rfl, .goto t, (hIx _).putObj _ hp.2 (by omega) (by omega), hl4⟩⟩
      | panic ch => exact hp.elim
      | outgrown => exact hp.elim
    · rintro e W2 ⟨⟨v, rfl⟩, (⟨hi, hl⟩ | ⟨pre, hSp, c, hi, hl⟩)⟩
      · exact ⟨none, _, by have := run_endLoop (P := P) hl (by rw [hrec]; simp [rec_]); rw [hrec] at this; exact this, hdone _ (hI.putObj _ hi (by omega) (by omega))⟩
      · exact ⟨some c, _, by have := run_endLoop (P := P) hl (by rw [hrec]; simp [rec_]); rw [hrec] at this; exact this, hstop c pre _ hSp ((hIx c).putObj _ hi (by omega) (by omega))⟩


end Go.Proofs.Ytgmapgaijncbeaa

/-! slices.Backward over a list of pairs. -/
namespace Go.Proofs.Ytgmapgaijncbeaa
open Go.RowKit Go.Shelf

attribute [local go_sem] Oper.semAt_some

set_option maxHeartbeats 1000000 in
/-- Its argument is boxed; the function value captures the box. -/
theorem backward_in (n : Nat) (a : Option Addr) (m cap : Nat) (w : World) :
    CallsIn Fence.wide n Try.prog 108 #[.slice a m cap] w fun e w' => e = .returned (.func (.func 148) #[] #[.pointer (some ⟨w.heap.size, 0, none⟩)]) ∧ w' = w.alloc (.cells #[.slice a m cap] 32) := by
  refine callsIn_of_wp Try.func108 rfl trivial ?_ rfl
  simp only [Try.ntmps108, List.size_toArray, List.length_cons, List.length_nil, Nat.reduceAdd, Nat.reduceSub, Array.replicate_succ, Array.replicate_zero, List.push_toArray, List.append_toArray, List.nil_append, List.cons_append]
  gi_wp2
  go_ret
  exact ⟨rfl, rfl⟩

theorem cell_same {W W' : World} {b o : Nat} (h : W'.heap[b]? = W.heap[b]?) : W'.cell? ⟨b, o, none⟩ = W.cell? ⟨b, o, none⟩ := by
  unfold World.cell?
  simp only [h]

/-- The numbers of the pairs, from the last one to the first. -/
def downL (n : Nat) : List Nat := (List.range n).reverse
theorem downL_take {n k : Nat} (hk : k < n) : (downL n).take (k + 1) = (downL n).take k ++ [n - 1 - k] := by
  unfold downL
  rw [List.take_add_one, List.getElem?_reverse (by simpa using hk)]
  simp [List.getElem?_range (show n - 1 - k < n by omega)]
theorem downL_len (n : Nat) : (downL n).length = n := by simp [downL]

set_option maxRecDepth 100000 in
set_option maxHeartbeats 2000000 in
theorem backward_P (m : Nat) (hm : 1 ≤ m) (B0 b off n cap : Nat) (a : Option Addr) (qs : List Int) (w : World)
    (hc : w.heap[B0]? = some (.cells #[.slice a n cap] 32 (0, 0))) (hb : b < w.heap.size) (hn : n ≤ 1048576)
    (ha : n = 0 ∨ (a = some ⟨b, off, none⟩ ∧ ∀ i, i < 2 * n → w.cell? ⟨b, off + i, none⟩ = some (.int .i64 (at0 qs i)))) :
    SeqStopsP Fence.wide m Try.prog 148 #[.pointer (some ⟨B0, 0, none⟩)] (fun i : Nat => #[Value.int .i64 (i : Int), .agg #[.int .i64 (at0 qs (i * 2)), .int .i64 (at0 qs (i * 2 + 1))]]) [B0, b] 0 (downL n) w := by
  intro l J Jx W hW hJ hJx hY h0
  have hcW := (hW.block B0 (lt_of_get hc)).trans hc
  have hbW : b < W.heap.size := Nat.lt_of_lt_of_le hb hW.size
  have Ha : Hid (n = 0 ∨ (a = some ⟨b, off, none⟩ ∧ ∀ i, i < 2 * n → W.cell? ⟨b, off + i, none⟩ = some (.int .i64 (at0 qs i)))) := hid (ha.imp id (fun h => ⟨h.1, fun i hi => (hW.cell (p := ⟨b, off + i, none⟩) hb).trans (h.2 i hi)⟩))
  have HY := hid hY
  have c0 := (box_cell hcW).1
  have Hc := hid hcW
  clear hY ha hc hcW hb
  show CallsIn Fence.wide m Try.prog 148 #[.func (.yield l) #[] #[], .pointer (some ⟨B0, 0, none⟩)] W _
  refine callsIn_of_wp Try.func148 rfl trivial ?_ rfl
  simp only [Try.ntmps148, List.size_toArray, List.length_cons, List.length_nil, Nat.reduceAdd, Nat.reduceSub, Array.replicate_succ, Array.replicate_zero, List.push_toArray, List.append_toArray, List.nil_append, List.cons_append]
  gi_wp2
  gi_loopw [3] (fun p wr => ∃ (k : Nat), p = .int .i64 ((n : Int) - 1 - (k : Int)) ∧ k ≤ n ∧ J ((downL n).take k) wr ∧ wr.heap[B0]? = W.heap[B0]? ∧ wr.heap[b]? = W.heap[b]? ∧ W.heap.size ≤ wr.heap.size)
    (fun p _ => (intOf p + 1).toNat)
  case atStart =>
    exact ⟨0, by simp, by omega, h0, rfl, rfl, Nat.le_refl _⟩
  case round =>
    obtain ⟨k, rfl, hk, hJs, hB0, hBb, hsz⟩ := hrel
    by_cases hlt : k < n
    · obtain ⟨i, hi⟩ : ∃ i : Nat, i = n - 1 - k := ⟨_, rfl⟩
      have hpi : (n : Int) - 1 - (k : Int) = (i : Int) := by omega
      rw [hpi]
      obtain ⟨rfl, hcl⟩ := Ha.out.resolve_left (by omega)
      have hc2 : wr.cell? ⟨b, off + i * 2, none⟩ = some (.int .i64 (at0 qs (i * 2))) := (cell_same hBb).trans (hcl (i * 2) (by omega))
      have hc3 : wr.cell? ⟨b, off + i * 2 + 1, none⟩ = some (.int .i64 (at0 qs (i * 2 + 1))) := (cell_same hBb).trans (hcl (i * 2 + 1) (by omega))
      have c0r : wr.cell? ⟨B0, 0, none⟩ = some (.slice (some ⟨b, off, none⟩) n cap) := (box_cell (hB0.trans Hc.out)).1
      have htk : (downL n).take (k + 1) = (downL n).take k ++ [i] := by rw [downL_take hlt, hi]
      have hpre : (downL n).take k ++ [i] <+: downL n := by rw [← htk]; exact List.take_prefix _ _
      have hys := HY.out _ i wr hpre (by omega) hJs
      rw [← htk] at hys
      obtain ⟨fn, tmps, assign, body, hy, hR⟩ := hys
      have hi0 : (0 : Int) ≤ (i : Int) := by omega
      have hi1 : (i : Int) < (n : Int) := by omega
      have Hpre := hid hpre
      have Htk := hid htk
      have Hi := hid hi
      have HB0 := hid hB0
      have HBb := hid hBb
      have Hpi := hid hpi
      clear hcl hpre htk hi hB0 hBb hJs hpi
      gi_wp2
      refine hR.mono ?_
      rintro e W3 ⟨hk3, (⟨rfl, hJ3⟩ | ⟨rfl, hJx3⟩)⟩
      · have Hk3 := hid hk3
        have HJ3 := hid hJ3
        clear hk3 hJ3
        gi_wp2
        go_roundw
        case rel => exact ⟨k + 1, by rw [show ((i : Int) - 1) = (n : Int) - 1 - ((k + 1 : Nat) : Int) by have := Hpi.out; omega], by omega, HJ3.out, (Hk3.out.same B0 (.inl (by simp))).trans HB0.out, (Hk3.out.same b (.inl (by simp))).trans HBb.out, Nat.le_trans hsz Hk3.out.size⟩
        case measure => simp [intOf]
      · gi_wp2
        refine bodyPost_ret (results_none rfl _ _ _) rfl ?_
        exact ⟨⟨_, rfl⟩, .inr ⟨_, by rw [Htk.out]; exact Hpre.out, hJx3⟩⟩
    · obtain rfl : k = n := by omega
      have hpi : (k : Int) - 1 - (k : Int) = -1 := by omega
      rw [hpi]
      rw [List.take_of_length_le (by rw [downL_len]; exact Nat.le_refl _)] at hJs
      gi_wp2
      go_end0
      exact ⟨⟨_, rfl⟩, .inl hJs⟩

end Go.Proofs.Ytgmapgaijncbeaa

/-! settledPairs, walked. -/
namespace Go.Proofs.Ytgmapgaijncbeaa
open Go.RowKit Go.Shelf

attribute [local go_sem] Oper.semAt_some

/-- Ahead of a pass. -/
def StOut (w : World) (M B n cap1 : Nat) (a1 : Option Addr) (ps : List Int) (a' : Act) (W : World) : Prop :=
  ∃ (L : List Nat) (av : Option Addr) (cp : Nat) (b : Int) (Ds : List Nat) (us : Nat → Value), a' = { tmps := List.toArray ((.slice a1 n cap1) :: us 1 :: (.slice none 0 0) :: (.pointer (some ⟨B, 0, none⟩)) :: (.pointer (some ⟨B + 1 + 1, 0, none⟩)) :: (.slice av L.length cp) :: (.int .i64 b) :: us 7 :: us 8 :: us 9 :: us 10 :: us 11 :: (.slice a1 n cap1) :: (.map (some M)) :: (.map (some (B + 1))) :: us 15 :: us 16 :: us 17 :: us 18 :: us 19 :: us 20 :: us 21 :: us 22 :: us 23 :: us 24 :: us 25 :: us 26 :: us 27 :: us 28 :: us 29 :: us 30 :: us 31 :: us 32 :: us 33 :: us 34 :: us 35 :: us 36 :: us 37 :: us 38 :: us 39 :: us 40 :: us 41 :: us 42 :: us 43 :: us 44 :: us 45 :: us 46 :: us 47 :: us 48 :: us 49 :: us 50 :: us 51 :: us 52 :: us 53 :: us 54 :: us 55 :: []), defers := marks Ds } ∧
    Hid (SetW w W M B n ps L (.slice av L.length cp) Ds) ∧ Hid (Stl ps n L) ∧ -1 ≤ b ∧ b ≤ (L.length : Int) ∧ Hid (b = (L.length : Int) → SatTo ps n n L)
theorem stOut_of {w W : World} {M B n cap1 : Nat} {a1 : Option Addr} {ps : List Int} {L : List Nat} {av : Option Addr} {cp : Nat} {b : Int} {Ds : List Nat} (tm : Array Value) (ds : List Deferred) (hds : ds = marks Ds)
    (h : tm = List.toArray ((.slice a1 n cap1) :: tm.getD 1 undef :: (.slice none 0 0) :: (.pointer (some ⟨B, 0, none⟩)) :: (.pointer (some ⟨B + 1 + 1, 0, none⟩)) :: (.slice av L.length cp) :: (.int .i64 b) :: tm.getD 7 undef :: tm.getD 8 undef :: tm.getD 9 undef :: tm.getD 10 undef :: tm.getD 11 undef :: (.slice a1 n cap1) :: (.map (some M)) :: (.map (some (B + 1))) :: tm.getD 15 undef :: tm.getD 16 undef :: tm.getD 17 undef :: tm.getD 18 undef :: tm.getD 19 undef :: tm.getD 20 undef :: tm.getD 21 undef :: tm.getD 22 undef :: tm.getD 23 undef :: tm.getD 24 undef :: tm.getD 25 undef :: tm.getD 26 undef :: tm.getD 27 undef :: tm.getD 28 undef :: tm.getD 29 undef :: tm.getD 30 undef :: tm.getD 31 undef :: tm.getD 32 undef :: tm.getD 33 undef :: tm.getD 34 undef :: tm.getD 35 undef :: tm.getD 36 undef :: tm.getD 37 undef :: tm.getD 38 undef :: tm.getD 39 undef :: tm.getD 40 undef :: tm.getD 41 undef :: tm.getD 42 undef :: tm.getD 43 undef :: tm.getD 44 undef :: tm.getD 45 undef :: tm.getD 46 undef :: tm.getD 47 undef :: tm.getD 48 undef :: tm.getD 49 undef :: tm.getD 50 undef :: tm.getD 51 undef :: tm.getD 52 undef :: tm.getD 53 undef :: tm.getD 54 undef :: tm.getD 55 undef :: [])) (HW : Hid (SetW w W M B n ps L (.slice av L.length cp) Ds)) (HS : Hid (Stl ps n L)) (h1 : -1 ≤ b) (h2 : b ≤ (L.length : Int)) (h3 : Hid (b = (L.length : Int) → SatTo ps n n L)) :
    StOut w M B n cap1 a1 ps { tmps := tm, defers := ds } W :=
  ⟨L, av, cp, b, Ds, fun i => tm.getD i undef, by rw [hds]; exact congrArg (fun t => ({ tmps := t, defers := marks Ds } : Act)) h, HW, HS, h1, h2, h3⟩
/-- Within a pass, ahead of pair k. -/
def StIn (w : World) (M B n cap1 : Nat) (a1 : Option Addr) (ps : List Int) (b : Nat) (a' : Act) (W : World) : Prop :=
  ∃ (k : Nat) (L : List Nat) (av : Option Addr) (cp : Nat) (Ds : List Nat) (us : Nat → Value), a' = { tmps := List.toArray ((.slice a1 n cap1) :: us 1 :: (.slice none 0 0) :: (.pointer (some ⟨B, 0, none⟩)) :: (.pointer (some ⟨B + 1 + 1, 0, none⟩)) :: (.slice av L.length cp) :: (.int .i64 (b : Int)) :: us 7 :: us 8 :: us 9 :: us 10 :: us 11 :: (.slice a1 n cap1) :: (.map (some M)) :: (.map (some (B + 1))) :: us 15 :: us 16 :: us 17 :: us 18 :: us 19 :: us 20 :: (.slice a1 n cap1) :: (.int .i64 (n : Int)) :: (.int .i64 (k : Int)) :: us 24 :: us 25 :: us 26 :: us 27 :: us 28 :: us 29 :: us 30 :: us 31 :: us 32 :: us 33 :: us 34 :: us 35 :: us 36 :: us 37 :: us 38 :: us 39 :: us 40 :: us 41 :: us 42 :: us 43 :: us 44 :: us 45 :: us 46 :: us 47 :: us 48 :: us 49 :: us 50 :: us 51 :: us 52 :: us 53 :: us 54 :: us 55 :: []), defers := marks Ds } ∧
    Hid (SetW w W M B n ps L (.slice av L.length cp) Ds) ∧ Hid (Stl ps n L) ∧ k ≤ n ∧ b ≤ L.length ∧ Hid (b = L.length → SatTo ps n k L)
theorem stIn_of {w W : World} {M B n cap1 : Nat} {a1 : Option Addr} {ps : List Int} {L : List Nat} {av : Option Addr} {cp b k : Nat} {Ds : List Nat} (tm : Array Value) (ds : List Deferred) (hds : ds = marks Ds)
    (h : tm = List.toArray ((.slice a1 n cap1) :: tm.getD 1 undef :: (.slice none 0 0) :: (.pointer (some ⟨B, 0, none⟩)) :: (.pointer (some ⟨B + 1 + 1, 0, none⟩)) :: (.slice av L.length cp) :: (.int .i64 (b : Int)) :: tm.getD 7 undef :: tm.getD 8 undef :: tm.getD 9 undef :: tm.getD 10 undef :: tm.getD 11 undef :: (.slice a1 n cap1) :: (.map (some M)) :: (.map (some (B + 1))) :: tm.getD 15 undef :: tm.getD 16 undef :: tm.getD 17 undef :: tm.getD 18 undef :: tm.getD 19 undef :: tm.getD 20 undef :: (.slice a1 n cap1) :: (.int .i64 (n : Int)) :: (.int .i64 (k : Int)) :: tm.getD 24 undef :: tm.getD 25 undef :: tm.getD 26 undef :: tm.getD 27 undef :: tm.getD 28 undef :: tm.getD 29 undef :: tm.getD 30 undef :: tm.getD 31 undef :: tm.getD 32 undef :: tm.getD 33 undef :: tm.getD 34 undef :: tm.getD 35 undef :: tm.getD 36 undef :: tm.getD 37 undef :: tm.getD 38 undef :: tm.getD 39 undef :: tm.getD 40 undef :: tm.getD 41 undef :: tm.getD 42 undef :: tm.getD 43 undef :: tm.getD 44 undef :: tm.getD 45 undef :: tm.getD 46 undef :: tm.getD 47 undef :: tm.getD 48 undef :: tm.getD 49 undef :: tm.getD 50 undef :: tm.getD 51 undef :: tm.getD 52 undef :: tm.getD 53 undef :: tm.getD 54 undef :: tm.getD 55 undef :: [])) (HW : Hid (SetW w W M B n ps L (.slice av L.length cp) Ds)) (HS : Hid (Stl ps n L)) (h1 : k ≤ n) (h2 : b ≤ L.length) (h3 : Hid (b = L.length → SatTo ps n k L)) :
    StIn w M B n cap1 a1 ps b { tmps := tm, defers := ds } W :=
  ⟨k, L, av, cp, Ds, fun i => tm.getD i undef, by rw [hds]; exact congrArg (fun t => ({ tmps := t, defers := marks Ds } : Act)) h, HW, HS, h1, h2, h3⟩

theorem wpIn_scope_wide {n : Nat} {P : Program} {c : Code} {Q : Exit → Act → World → Prop} {a : Act} {w : World} (h : c.wpIn Fence.wide n P (Exit.noGoto Q) a w) : (Code.scope c).wpIn Fence.wide n P Q a w :=
  wpIn_wide.2 (wp_scope_straight (wpIn_wide.1 h))

set_option maxRecDepth 1000000 in
set_option maxHeartbeats 4000000 in
theorem settled_in (a1 : Option Addr) (n cap1 : Nat) (ps : List Int) (w : World) (hx1 : SlI w w.heap.size a1 ps) (hp : ps.length = 2 * n) (hn : n ≤ 1048576) (hw : ∀ x ∈ ps, (Lit.int .i64 x).wf = true) (hd : LowsApart ps n) (hh : HighsB ps n) :
    CallsIn Fence.wide 14 Try.prog 69 #[.slice a1 n cap1] w fun e w' => ∃ L v, e = .returned v ∧ Stl ps n L ∧ SatTo ps n n L ∧ ResP w w' v (setP ps L) := by
  have HLw := hid (lows_any a1 n cap1 ps w hx1 hp hn hw)
  have Hy := hid hx1
  have Hp := hid hp
  have Hw := hid hw
  have HD := hid hd
  have HH := hid hh
  have hmm := @run_makeMap Try.prog
  clear hx1 hp hw hd hh
  refine callsIn_of_wp_marks Try.func69 rfl trivial ?_ rfl
  simp only [Try.ntmps69, List.size_toArray, List.length_cons, List.length_nil, Nat.reduceAdd, Nat.reduceSub, Array.replicate_succ, Array.replicate_zero, List.push_toArray, List.append_toArray, List.nil_append, List.cons_append]
  gi_wp2_with (first
    | (refine ⟨trivial, ?_⟩; gi_at_call 60; refine (callsIn_wide.2 HLw.out).mono ?_; rintro e w1 ⟨rfl, hown, hB1⟩))
  clear hmm
  have hMB : w.heap.size < w1.heap.size := hown.lt
  have H0 : Hid (SetW w (((w1.alloc (.cells #[.map (some w.heap.size)] 69)).alloc (.map #[] 0)).alloc (.cells #[.map (some (w1.heap.size + 1))] 96)) w.heap.size w1.heap.size n ps [] (.slice none 0 0) []) := by
    have e3 := heap_alloc_new ((w1.alloc (.cells #[.map (some w.heap.size)] 69)).alloc (.map #[] 0)) (.cells #[.map (some (w1.heap.size + 1))] 96)
    rw [World.size_alloc, World.size_alloc] at e3
    have m0 := World.ownsMap_made (H := Unit) (w1.alloc (.cells #[.map (some w.heap.size)] 69)) Try.prog 56 (plainElem (H := Unit) Try.prog 4)
    rw [World.size_alloc] at m0
    exact hid {
      below := ((hB1.alloc (by omega) _).alloc (by simp; omega) _).alloc (by simp; omega) _
      lo := Nat.le_refl _
      mb := hMB
      lows := ((hown.alloc _).alloc _).alloc _
      b3 := (Below.heap_alloc _ _ _ (by simp; omega)).trans ((Below.heap_alloc _ _ _ (by simp)).trans (heap_alloc_new _ _))
      own := World.ownsMap.alloc m0 _
      b4 := e3
      row := World.ownsRow_nil _ _ _ _
      off := by simp
      nodup := by simp
      marks := by simp }
  obtain ⟨M, hM⟩ : ∃ M, M = w.heap.size := ⟨_, rfl⟩
  obtain ⟨B, hBd⟩ : ∃ B, B = w1.heap.size := ⟨_, rfl⟩
  have HMw := hid hM
  rw [← hM, ← hBd] at H0 ⊢
  clear hMB hown hB1 HLw hM hBd
  refine wpIn_loop (StOut w M B n cap1 a1 ps) (fun a' _ => ((n : Int) - intOf (a'.tmps.getD 6 undef)).toNat) ?start ?round
  case start => exact stOut_of (L := []) (Ds := []) _ _ rfl rfl H0 (hid (Stl.nil ps n)) (by decide) (by decide) (hid (fun h => by simp at h))
  case round =>
    rintro a' W ⟨L, av, cp, b, Ds, us, rfl, HW, HS, hb0, hb1, HSat⟩
    clear H0
    by_cases hlt : b < (L.length : Int)
    · clear HSat
      have hsz := HW.out.size
      have hLn := HS.out.len
      gi_wp2
      refine wpIn_scope_wide ?_
      gi_wp2
      refine wpIn_label ?_
      gi_wp2
      refine wpIn_loop (StIn w M B n cap1 a1 ps L.length) (fun a' _ => n - (intOf (a'.tmps.getD 23 undef)).toNat) ?start2 ?round2
      case start2 => exact stIn_of (k := 0) (L := L) (Ds := Ds) _ _ rfl rfl HW HS (Nat.zero_le _) (Nat.le_refl _) (hid (fun _ => SatTo.zero _ _ _))
      case round2 =>
        clear HW hsz
        rintro a' W ⟨k, L2, av, cp, Ds, us, rfl, HW, HS2, hk, hb, HSat⟩
        by_cases hlt2 : k < n
        · obtain ⟨lb, off, hlb, rfl, hc⟩ : ∃ b off, b < w.heap.size ∧ a1 = some ⟨b, off, none⟩ ∧ ∀ i, i < ps.length → w.cell? ⟨b, off + i, none⟩ = some (.int .i64 (ps[i]?.getD 0)) := by
            rcases Hy.out with h | h
            · have := Hp.out; rw [h] at this; simp at this; omega
            · exact h
          have hB := HW.out.below
          have hc2 : W.cell? ⟨lb, off + k * 2, none⟩ = some (.int .i64 (at0 ps (k * 2))) := (hB.cell (p := ⟨lb, off + k * 2, none⟩) hlb).trans (hc _ (by have := Hp.out; omega))
          have hc3 : W.cell? ⟨lb, off + k * 2 + 1, none⟩ = some (.int .i64 (at0 ps (k * 2 + 1))) := (hB.cell (p := ⟨lb, off + (k * 2 + 1), none⟩) hlb).trans (hc _ (by have := Hp.out; omega))
          have hwk := wf_pairAt Hp.out Hw.out hlt2
          have hlk := lookup_pair (HW.out.alloc (.cells #[.int .i64 (at0 ps (k * 2)), .int .i64 (at0 ps (k * 2 + 1))] 56)).own (wf_setP Hp.out Hw.out HS2.out.lt) hwk
          have hmem := mem_setP HD.out HS2.out.lt hlt2
          obtain ⟨x, hx⟩ : ∃ x, x = at0 ps (k * 2) := ⟨_, rfl⟩
          obtain ⟨y, hy⟩ : ∃ y, y = at0 ps (k * 2 + 1) := ⟨_, rfl⟩
          have Hxy : Hid (pairAt ps k = (x, y)) := hid (by rw [hx, hy]; rfl)
          have Hx := hid hx
          rw [show (pairAt ps k).1 = x by rw [Hxy.out], show (pairAt ps k).2 = y by rw [Hxy.out]] at hlk
          rw [← hx, ← hy] at hlk
          rw [← hx] at hc2
          rw [← hy] at hc3
          have c4 : ∀ o : Obj, (W.alloc o).cell? ⟨B + 1 + 1, 0, none⟩ = some (.map (some (B + 1))) := fun o => cell_alloc0 (box_cell HW.out.b4).1 o
          have c3 : ∀ o : Obj, (W.alloc o).cell? ⟨B, 0, none⟩ = some (.map (some M)) := fun o => cell_alloc0 (box_cell HW.out.b3).1 o
          have hi0 : (0 : Int) ≤ (k : Int) := by omega
          have hi1 : (k : Int) < (n : Int) := by omega
          have Hwx : Hid ((Lit.int .i64 x).wf = true) := hid (by rw [hx]; exact hwk.1)
          have Hwk : Hid (wfP (x, y)) := hid (by rw [← Hxy.out]; exact hwk)
          clear hx hy hc hB hwk
          by_cases hm : k ∈ L2
          · rw [decide_eq_true (hmem.2 hm)] at hlk
            have Hm := hid hm
            clear hm hmem
            gi_wp2
            exact ⟨stIn_of (k := k + 1) (L := L2) (Ds := Ds) _ _ rfl rfl (hid (HW.out.alloc _)) HS2 (by omega) hb (hid (fun h => (HSat.out h).skip (.inl Hm.out))), by simp [intOf]; omega⟩
          · rw [decide_eq_false (fun h => hm (hmem.1 h))] at hlk
            have Hm := hid hm
            clear hm hmem
            gi_wp2_with (first
              | (refine ⟨trivial, ?_⟩; gi_at_call 61; refine (stepsFrom_in _ M x _).mono ?_; rintro e w' ⟨rfl, rfl⟩))
            obtain ⟨W3, hW3⟩ : ∃ W3, W3 = ((W.alloc (.cells #[.int .i64 x, .int .i64 y] 56)).alloc (.cells #[.map (some M)] 69)).alloc (.cells #[.int .i64 x] 2) := ⟨_, rfl⟩
            have hs3 : W3.heap.size = W.heap.size + 3 := by rw [hW3]; simp
            have hpb : W3.heap[W.heap.size]? = some (.cells #[.int .i64 x, .int .i64 y] 56 (0, 0)) := by rw [hW3]; exact (Below.heap_alloc _ _ _ (by simp <;> omega)).trans ((Below.heap_alloc _ _ _ (by simp)).trans (heap_alloc_new _ _))
            have hbm : W3.heap[W.heap.size + 1]? = some (.cells #[.map (some M)] 69 (0, 0)) := by
              have := heap_alloc_new (W.alloc (.cells #[.int .i64 x, .int .i64 y] 56)) (.cells #[.map (some M)] 69)
              rw [World.size_alloc] at this
              rw [hW3]
              exact (Below.heap_alloc _ _ _ (by simp)).trans this
            have hbx : W3.heap[W.heap.size + 1 + 1]? = some (.cells #[.int .i64 x] 2 (0, 0)) := by
              have := heap_alloc_new ((W.alloc (.cells #[.int .i64 x, .int .i64 y] 56)).alloc (.cells #[.map (some M)] 69)) (.cells #[.int .i64 x] 2)
              rw [World.size_alloc, World.size_alloc] at this
              rw [hW3]
              exact this
            have HS3 : Hid (SetW w W3 M B n ps L2 (.slice av L2.length cp) Ds) := hid (by rw [hW3]; exact ((HW.out.alloc _).alloc _).alloc _)
            have HDs : Hid (∀ D ∈ Ds, D < W3.heap.size) := hid (fun D hD => by have := lt_of_get (HW.out.marks D hD).2; omega)
            have Hvb : Hid (∀ g, (Value.slice av L2.length cp).ownBlock = some g → g < W3.heap.size) := hid (fun g hg => by have := (HW.out.row.lt g hg).2; omega)
            have hsz := HW.out.size
            rw [← hW3]
            clear hW3 hlk c4 c3 hc2 hc3
            refine wpIn_rangeFunc_P rfl (by decide) (gf := 101) (lb := #[.pointer (some ⟨W.heap.size + 1, 0, none⟩), .pointer (some ⟨W.heap.size + 1 + 1, 0, none⟩)]) rfl trivial (enters_of Try.func101 (by kernel_rfl) rfl)
              (steps_P 13 (by decide) (W.heap.size + 1) (W.heap.size + 1 + 1) M n n ps x W3 hbm hbx HS3.out.lows HD.out HH.out Hwx.out) (by simp) (Below.refl _ _) (fun _ => rfl)
              (fun pre W' => SetW w W' M B n ps L2 (.slice av L2.length cp) Ds ∧ W'.heap[W.heap.size]? = some (.cells #[.int .i64 x, .int .i64 y] 56 (0, 0)) ∧ ∀ z ∈ pre, ∀ j, j < n → at0 ps (j * 2) = ((z : Fin 64).val : Int) → j ∈ L2)
              (fun c _ W' => c = .exit 3 ∧ SetW w W' M B n ps L2 (.slice av L2.length cp) Ds ∧ ∃ j, j < n ∧ StepP ps n k j ∧ j ∉ L2)
              (OwnIn.and (set_ownIn (by omega) HDs.out Hvb.out) (OwnIn.and (ownIn_block (β := List (Fin 64)) (fun _ => _) (by omega)) (ownIn_pure _ _ (fun (pre : List (Fin 64)) => ∀ z ∈ pre, ∀ j, j < n → at0 ps (j * 2) = (z.val : Int) → j ∈ L2))))
              (fun c => OwnIn.and (ownIn_pure _ _ (fun (_ : List (Fin 64)) => c = .exit 3)) (OwnIn.and (set_ownIn (by omega) HDs.out Hvb.out) (ownIn_pure _ _ (fun (_ : List (Fin 64)) => ∃ j, j < n ∧ StepP ps n k j ∧ j ∉ L2))))
              ⟨HS3.out, hpb, by simp⟩
              (fun z => { tmps := List.toArray ((.slice (some ⟨lb, off, none⟩) n cap1) :: us 1 :: (.slice none 0 0) :: (.pointer (some ⟨B, 0, none⟩)) :: (.pointer (some ⟨B + 1 + 1, 0, none⟩)) :: (.slice av L2.length cp) :: (.int .i64 (L.length : Int)) :: us 7 :: (.pointer (some ⟨W.heap.size, 0, none⟩)) :: (.int .i64 (z.val : Int)) :: us 10 :: us 11 :: (.slice (some ⟨lb, off, none⟩) n cap1) :: (.map (some M)) :: (.map (some (B + 1))) :: us 15 :: us 16 :: us 17 :: us 18 :: us 19 :: us 20 :: (.slice (some ⟨lb, off, none⟩) n cap1) :: (.int .i64 (n : Int)) :: (.int .i64 (k : Int)) :: (.bool true) :: (.pointer (some ⟨lb, off + k * 2, none⟩)) :: (.agg #[.int .i64 x, .int .i64 y]) :: (.map (some (B + 1))) :: (.agg #[.int .i64 x, .int .i64 y]) :: (.bool false) :: (.map (some M)) :: (.pointer (some ⟨W.heap.size, 0, none⟩)) :: (.int .i64 x) :: (.func (.func 101) #[] #[.pointer (some ⟨W.heap.size + 1, 0, none⟩), .pointer (some ⟨W.heap.size + 1 + 1, 0, none⟩)]) :: (.int .i64 (z.val : Int)) :: us 35 :: us 36 :: us 37 :: us 38 :: us 39 :: us 40 :: us 41 :: us 42 :: us 43 :: us 44 :: us 45 :: us 46 :: us 47 :: us 48 :: us 49 :: us 50 :: us 51 :: us 52 :: us 53 :: us 54 :: us 55 :: []), defers := [] }) ?assign ?body ?done ?stop
            case assign =>
              intro l z W4 K hK
              gi_wp2
              exact hK
            case body =>
              rintro l pre z W4 hpre hsz4 ⟨hS, hpb4, hok⟩
              clear HW HSat hpb hbm hbx HS3
              have hzw : (Lit.int .i64 (z.val : Int)).wf = true := WalkArith.wf_i64 (by have := z.isLt; omega)
              obtain ⟨q3, _⟩ := box_cell hS.b3
              have q4 : ∀ o : Obj, (W4.alloc o).cell? ⟨B + 1 + 1, 0, none⟩ = some (.map (some (B + 1))) := fun o => cell_alloc0 (box_cell hS.b4).1 o
              have Hstep : Hid (∀ j, at0 ps (j * 2) = (z.val : Int) → StepP ps n k j) := hid (fun j hj => by
                unfold StepP
                rw [← Hx.out, hj]
                exact (mem_stepsF HH.out x _).1 ⟨z, hpre.subset (by simp), rfl⟩)
              have Hok := hid hok
              have HSa := hid hS
              have Hpb4 := hid hpb4
              rcases lows_look2 hS.lows HD.out hzw with ⟨j, hj, hjz, hrun⟩ | ⟨hno, hrun⟩
              · obtain ⟨u, hu⟩ : ∃ u, u = at0 ps (j * 2 + 1) := ⟨_, rfl⟩
                have hpj : pairAt ps j = ((z.val : Int), u) := by unfold pairAt; rw [hjz, hu]
                have hlk := lookup_pair (hS.alloc (.cells #[.int .i64 (z.val : Int), .int .i64 u] 56)).own (wf_setP Hp.out Hw.out HS2.out.lt) (wf_pairAt Hp.out Hw.out hj)
                have hmem := mem_setP HD.out HS2.out.lt hj
                rw [hpj] at hlk hmem
                simp only at hlk
                rw [← hu] at hrun
                have Hjz := hid hjz
                have Hj := hid hj
                clear hS hpb4 hok hjz hu hpj hj
                by_cases hm : j ∈ L2
                · rw [decide_eq_true (hmem.2 hm)] at hlk
                  have Hmj := hid hm
                  clear hm hmem
                  gi_wp2
                  refine ⟨KeepP.new _ (by simp) (by omega), HSa.out.alloc _, (Below.heap_alloc _ _ _ (lt_of_get Hpb4.out)).trans Hpb4.out, fun z' hz' j' hj' he => ?_⟩
                  rcases List.mem_append.1 hz' with h | h
                  · exact Hok.out z' h j' hj' he
                  · simp at h
                    subst h
                    exact (lows_inj HD.out hj' Hj.out (he.trans Hjz.out.symm)) ▸ Hmj.out
                · rw [decide_eq_false (fun h => hm (hmem.1 h))] at hlk
                  have Hmj := hid hm
                  clear hm hmem
                  gi_wp2
                  exact ⟨KeepP.new _ (by simp) (by omega), rfl, HSa.out.alloc _, j, Hj.out, Hstep.out j Hjz.out, Hmj.out⟩
              · have Hno := hid hno
                clear hS hpb4 hok hno
                gi_wp2
                refine ⟨KeepP.new _ (by simp) (by omega), HSa.out.alloc _, (Below.heap_alloc _ _ _ (lt_of_get Hpb4.out)).trans Hpb4.out, fun z' hz' j' hj' he => ?_⟩
                rcases List.mem_append.1 hz' with h | h
                · exact Hok.out z' h j' hj' he
                · simp at h
                  subst h
                  exact absurd he (Hno.out j' hj')
            case done =>
              rintro W4 ⟨hS, hpb4, hok⟩ hD4
              have hS4 := hS.mark hD4 (by omega) (fun hm => by have := HDs.out _ hm; omega) (fun e => by have := Hvb.out _ e; omega)
              obtain ⟨L3, hL3⟩ : ∃ L3, L3 = L2 ++ [k] := ⟨_, rfl⟩
              have Hst : Hid (Stl ps n L3) := hid (by
                rw [hL3]
                refine HS2.out.snoc hlt2 Hm.out (fun j hj hs => ?_)
                unfold StepP at hs
                rw [← Hx.out] at hs
                obtain ⟨z, hz, he⟩ := (mem_stepsF HH.out x _).2 hs
                exact hok z hz j hj he)
              have hl2 := HS2.out.len
              have hl3 : L3.length = L2.length + 1 := by rw [hL3]; simp
              have he3 : (setP ps L2 ++ [(x, y)]).length = L3.length := by rw [hL3]; simp [setP]
              obtain ⟨W5, hrun5, hown5, hg5⟩ := World.ownsMap.update hS4.own keyedP Try.underlying96 (show L2.length < maxLen by unfold maxLen; omega) (keyOfP Hwk.out) (plainElem_bool Try.underlying4 true)
              have hpb5 : W5.heap[W.heap.size]? = some (.cells #[.int .i64 x, .int .i64 y] 56 (0, 0)) := (hg5.block _ (lt_of_get hpb4) (fun e => by injection e with e; omega)).trans hpb4
              have hrow5 := hS4.row.kept hg5 (by
                cases hv : (Value.slice av L2.length cp).ownBlock with
                | none => exact .inl rfl
                | some g => exact .inr (fun e => by have := (hS4.row.lt g hv).1; injection e with e; omega))
              obtain ⟨p40, p41, _, _⟩ := two_of hpb4
              obtain ⟨p50, p51, _, _⟩ := two_of hpb5
              obtain ⟨q4, _⟩ := box_cell hS4.b4
              have q4' : W4.cell? ⟨B + 1 + 1, 0, none⟩ = some (.map (some (B + 1))) := q4
              have hsz5 : B + 3 ≤ W5.heap.size := Nat.le_trans hS4.size hg5.size
              have Hr5 := hid hrow5
              have HS4 := hid hS4
              have Ho5 := hid hown5
              have Hg5 := hid hg5
              have hsl : (setP ps L2).length = L2.length := setP_len ps L2
              have He3 := hid he3
              have HL3 := hid hL3
              have Hl3 := hid hl3
              clear hl3 hS hS4 hok hD4 hpb4 hpb5 hrow5 hown5 hg5 he3 hL3 q4
              gi_wp2_with (first
                | (gi_at_builtin; refine append_pairIn rfl rfl Hr5.out (by omega) (by omega) (by first | rfl | (simp only [hsl]; rfl)) rfl ?_; intro v' w6 hr6 hg6 hat6; obtain ⟨_, av', cp', rfl, _⟩ := pairs_form hr6; rw [He3.out] at hr6 hat6 ⊢; have Hr6 := hid hr6; have Hg6 := hid hg6; have Hat6 := hid hat6; clear hr6 hg6 hat6))
              have h6 := HS4.out.put (i := k) (by rw [Hxy.out]; exact Ho5.out) Hg5.out (by rw [Hxy.out, He3.out]; exact Hr6.out) Hg6.out Hat6.out
              rw [← HL3.out, hs3] at h6
              exact ⟨stIn_of (k := k + 1) (L := L3) (Ds := (W.heap.size + 3) :: Ds) _ _ rfl rfl (hid h6) Hst (by omega) (by rw [Hl3.out]; omega) (hid (fun h => by rw [Hl3.out] at h; omega)), by simp [intOf]; omega⟩
            case stop =>
              rintro c pre W4 hpre ⟨rfl, hS, hj⟩ hD4
              have HS4 := hid (hS.mark hD4 (by omega) (fun hm => by have := HDs.out _ hm; omega) (fun e => by have := Hvb.out _ e; omega))
              have Hj := hid hj
              clear hS hj hD4
              gi_wp2
              exact ⟨stIn_of (k := k + 1) (L := L2) (Ds := W3.heap.size :: Ds) _ _ rfl rfl HS4 HS2 (by omega) hb (hid (fun h => (HSat.out h).skip (.inr Hj.out))), by simp [intOf]; omega⟩
        · obtain rfl : k = n := by omega
          clear hlt2
          gi_wp2
          simp only [Exit.noGoto]
          gi_wp2
          exact ⟨stOut_of (L := L2) (Ds := Ds) _ _ rfl rfl HW HS2 (by omega) (by omega) (hid (fun h => HSat.out (by omega))), by simp [intOf]; omega⟩
    · have hbL : b = (L.length : Int) := by omega
      have Hsat := hid (HSat.out hbL)
      clear HSat
      gi_wp2
      refine leaves_marks (by simp) Ds _ HW.out.nodup (fun D hD => (HW.out.marks D hD).2) (fun w' hw' => ?_)
      exact ⟨_, results_tmp rfl _ _ _, L, .slice av L.length cp, rfl, HS.out, Hsat.out, HW.out.leaves hw'⟩

end Go.Proofs.Ytgmapgaijncbeaa

/-! isAcyclic, and IsAcyclicPairing's door, the program's. -/
namespace Go.Proofs.Ytgmapgaijncbeaa
open Go.RowKit

theorem sub_len : ∀ (A B : List Nat), A.Nodup → (∀ x ∈ A, x ∈ B) → A.length ≤ B.length
  | [], _, _, _ => by simp
  | x :: A, B, hn, h => by
    obtain ⟨h1, h2⟩ := List.nodup_cons.1 hn
    have ih := sub_len A (B.erase x) h2 (fun y hy => (List.mem_erase_of_ne (fun e => h1 (by rw [← e]; exact hy))).2 (h y (List.mem_cons_of_mem _ hy)))
    have hx : x ∈ B := h x (by simp)
    have hl := List.length_erase_of_mem hx
    have hp : 0 < B.length := List.length_pos_of_mem hx
    simp only [List.length_cons]
    omega
/-- All pairs have settled exactly if there is no cycle. -/
theorem stl_all {ps : List Int} {n : Nat} {L : List Nat} (h : Stl ps n L) (hs : SatTo ps n n L) : NoCycle ps n ↔ L.length = n := by
  constructor
  · intro hc
    have hall := acyclic_settled hc hs
    have h1 := sub_len (List.range n) L List.nodup_range (fun x hx => hall x (by simpa using hx))
    rw [List.length_range] at h1
    have := h.len
    omega
  · intro hl
    refine settled_acyclic h.ord (fun i hi => Classical.byContradiction fun hn => ?_)
    have := nodup_le n (L ++ [i]) (by
      rw [List.nodup_append]
      exact ⟨h.nodup, by simp, fun a ha b hb => by simp at hb; subst hb; exact fun e => hn (e ▸ ha)⟩) (fun j hj => by
      rcases List.mem_append.1 hj with h1 | h1
      · exact h.lt j h1
      · simp at h1; omega)
    simp at this
    omega
theorem stl_acyB {ps : List Int} {n : Nat} {L : List Nat} (h : Stl ps n L) (hs : SatTo ps n n L) : ((L.length : Int) == (n : Int)) = acyB ps n := by
  by_cases hc : NoCycle ps n
  · rw [acyB_true hc]
    rw [(stl_all h hs).1 hc]
    simp
  · rw [acyB_false hc]
    have : L.length ≠ n := fun e => hc ((stl_all h hs).2 e)
    simp
    omega

set_option maxRecDepth 1000000 in
set_option maxHeartbeats 2000000 in
theorem isAcy_any (a1 : Option Addr) (n cap1 : Nat) (ps : List Int) (w : World) (hx1 : SlI w w.heap.size a1 ps) (hp : ps.length = 2 * n) (hn : n ≤ 1048576) (hw : ∀ x ∈ ps, (Lit.int .i64 x).wf = true) (hd : LowsApart ps n) (hh : HighsB ps n) :
    Calls Try.prog 57 #[.slice a1 n cap1] w fun e w' => e = .returned (.bool (acyB ps n)) ∧ Below w.heap.size w w' := by
  have HS := hid (callsIn_wide.1 (settled_in a1 n cap1 ps w hx1 hp hn hw hd hh))
  clear hx1 hp hw hd hh
  go_enter Try.func57, Try.ntmps57
  go_wp2_with (go_at_call 69; refine HS.out.mono ?_; rintro e w1 ⟨L, v, rfl, hS, hsat, hr⟩; obtain ⟨_, av, cp, rfl, _⟩ := pairs_form hr.1; rw [setP_len]; have he := stl_acyB hS hsat; have hB := hid hr.2; clear hS hsat hr)
  go_ret
  exact ⟨rfl, hB.out⟩

set_option maxRecDepth 1000000 in
set_option maxHeartbeats 2000000 in
theorem implIsAcyclicPairing (V : Int) (a0 : Option Addr) (cap : Nat) (fs : List Int) (a1 : Option Addr) (n cap1 : Nat) (ps : List Int) (w : World) (hx : SlI w w.heap.size a0 fs) (hx1 : SlI w w.heap.size a1 ps) (hl : fs.length ≤ 1048576) (hp : ps.length = 2 * n) (hn : n ≤ 1048576) (hw : ∀ x ∈ ps, (Lit.int .i64 x).wf = true) :
    Calls Try.prog 19 #[.agg #[.int .i64 V, .slice a0 fs.length cap], .slice a1 n cap1] w fun e w' => e = .returned (.tuple #[.bool (isAcyclicR V fs n ps).1, .int .i64 (isAcyclicR V fs n ps).2]) ∧ Below w.heap.size w w' := by
  have hB0 : Below w.heap.size w (w.alloc (.cells #[.int .i64 V, .slice a0 fs.length cap] 30)) := (Below.refl _ w).alloc (Nat.le_refl _) _
  have HK := hid (pcode_impl V a0 cap fs a1 n cap1 ps _ (hx.later hB0 hB0.size) (hx1.later hB0 hB0.size) hl hp hn hw)
  have Hy := hid hx1
  clear hx hx1
  by_cases hpc : pcodeR V fs n ps = 0
  · rw [hpc] at HK
    have hCO : IsC V fs ∧ OkTo fs ps n := by
      rcases pcode_cases V fs n ps with ⟨hC, ho, _⟩ | ⟨_, _, h2, _⟩ | ⟨_, h2, _⟩
      · exact ⟨hC, ho⟩
      · rw [h2] at hpc; cases hpc
      · rw [h2] at hpc; cases hpc
    refine bool_mono2 (show isAcyclicR V fs n ps = (acyB ps n, 0) by rw [isAcyclicR, if_pos hpc]) ?_
    have HAc := hid (fun w1 h => isAcy_any a1 n cap1 ps w1 h hp hn hw (okTo_apart hCO.2) (okTo_highs hCO.1 hCO.2))
    clear hpc hCO hp hw
    go_enter Try.func19, Try.ntmps19
    go_wp2_with fail
    refine HK.out.mono ?_
    rintro e w1 ⟨rfl, hB1⟩
    have HB1 := hid (hB0.trans (hB1.mono (by simp)))
    clear hB0 hB1
    go_wp2_with fail
    refine (HAc.out w1 (Hy.out.later HB1.out HB1.out.size)).mono ?_
    rintro e w2 ⟨rfl, hB2⟩
    go_wp2_with fail
    go_ret2
    exact ⟨rfl, HB1.out.trans (hB2.mono HB1.out.size)⟩
  · obtain ⟨c, hc⟩ : ∃ c, c = pcodeR V fs n ps := ⟨_, rfl⟩
    refine bool_mono2 (show isAcyclicR V fs n ps = (false, c) by rw [isAcyclicR, if_neg hpc, hc]) ?_
    rw [← hc] at hpc HK
    have hcn : (c != 0) = true := by simpa using hpc
    clear hc hp hw hpc
    go_enter Try.func19, Try.ntmps19
    go_wp2_with fail
    refine HK.out.mono ?_
    rintro e w1 ⟨rfl, hB1⟩
    go_wp2_with fail
    go_ret2
    exact ⟨rfl, hB0.trans (hB1.mono (by simp))⟩

end Go.Proofs.Ytgmapgaijncbeaa
