import Derived.Test.YtmkknfdjoajpcaaRange
import Derived.Test.YtmkknfdjoajpcaaMathD
/-! The sides of a face, one after the other: an iterator. -/
namespace Go.Proofs.Ytmkknfdjoajpcaa
open Go.RowKit Go.Shelf

attribute [local go_sem] Oper.semAt_some

/-- A face without a vertex (the face itself if the vertex is not in it). -/
def sideN (f v : Nat) : Nat := f - (f &&& 2 ^ v)
def sideO (f v : Nat) : Option (Fin 64) := if h : sideN f v < 64 then (if sideN f v ≠ f ∧ sideN f v ≠ 0 then some ⟨sideN f v, h⟩ else none) else none
/-- The sides that lack one of the first k vertices. -/
def sidesTo (f k : Nat) : List (Fin 64) := (List.range k).filterMap (sideO f)
def sidesF (f : Nat) : List (Fin 64) := sidesTo f 6

theorem side_lt {f : Nat} (hf : f < 64) (v : Nat) : sideN f v < 64 := by unfold sideN; omega
theorem side_bits : ∀ f : Fin 64, ∀ v : Fin 6, bits BinOp.andNot IntKind.i64 (f.val : Int) (wrap64 (2 ^ v.val)) = (sideN f.val v.val : Int) := by decide +kernel
theorem sidesTo_some {f k : Nat} (hf : f < 64) (h1 : sideN f k ≠ f) (h0 : sideN f k ≠ 0) : sidesTo f (k + 1) = sidesTo f k ++ [⟨sideN f k, side_lt hf k⟩] := by
  unfold sidesTo
  rw [List.range_succ, List.filterMap_append]
  have : sideO f k = some ⟨sideN f k, side_lt hf k⟩ := by unfold sideO; rw [dif_pos (side_lt hf k), if_pos ⟨h1, h0⟩]
  simp [this]
theorem sidesTo_none {f k : Nat} (h : ¬ (sideN f k ≠ f ∧ sideN f k ≠ 0)) : sidesTo f (k + 1) = sidesTo f k := by
  unfold sidesTo
  rw [List.range_succ, List.filterMap_append]
  have : sideO f k = none := by
    unfold sideO
    by_cases hh : sideN f k < 64
    · rw [dif_pos hh, if_neg h]
    · rw [dif_neg hh]
  simp [this]
theorem sidesTo_prefix (f : Nat) : ∀ m k, sidesTo f k <+: sidesTo f (k + m)
  | 0, k => List.prefix_refl _
  | m + 1, k => by
    refine (sidesTo_prefix f m k).trans ?_
    unfold sidesTo
    rw [← Nat.add_assoc, List.range_succ, List.filterMap_append]
    exact List.prefix_append _ _
theorem sides_len (f k : Nat) : (sidesTo f k).length ≤ k := by
  unfold sidesTo
  exact Nat.le_trans (List.length_filterMap_le _ _) (by simp)

set_option maxRecDepth 100000 in
set_option maxHeartbeats 2000000 in
/-- The iterator over the sides of f: whatever the loop's body, as long as it keeps the block of f. -/
theorem sides1_in (n : Nat) (hn : 1 ≤ n) (l B0 f : Nat) (hf : f < 64) (J Jx : List (Fin 64) → World → Prop)
    (hY : ∀ pre x W, J pre W → pre ++ [x] <+: sidesF f → YieldAt Fence.wide (n - 1) Try.prog l #[.int .i64 (x.val : Int)] W fun e W' =>
      (e = .returned (.bool true) ∧ J (pre ++ [x]) W' ∧ KeepB B0 W W') ∨ (e = .returned (.bool false) ∧ Jx (pre ++ [x]) W'))
    (hJd : ∀ pre W m, J pre W → J pre (W.drewN m))
    (W : World) (hB0 : W.heap[B0]? = some (.cells #[.int .i64 (f : Int)] 2 (0, 0))) (h0 : J [] W) :
    CallsIn Fence.wide n Try.prog 120 #[.func (.yield l) #[] #[], .pointer (some ⟨B0, 0, none⟩)] W fun e W' => (∃ v, e = .returned v) ∧
      ((∃ ys, ys = sidesF f ∧ J ys W') ∨ (∃ pre, pre <+: sidesF f ∧ Jx pre W')) := by
  have c0 := (box_cell hB0).1
  refine callsIn_of_wp Try.func120 rfl trivial ?_ rfl
  simp only [Try.ntmps120, List.size_toArray, List.length_cons, List.length_nil, Nat.reduceAdd, Nat.reduceSub, Array.replicate_succ, Array.replicate_zero, List.push_toArray, List.append_toArray, List.nil_append, List.cons_append]
  gi_wp2
  gi_loopw [5] (fun p wr => ∃ (k : Nat), p = .int .i64 (k : Int) ∧ k ≤ 6 ∧ J (sidesTo f k) wr ∧ wr.heap[B0]? = some (.cells #[.int .i64 (f : Int)] 2 (0, 0)))
    (fun p _ => 6 - (intOf p).toNat)
  case atStart =>
    exact ⟨0, rfl, by omega, h0, hB0⟩
  case round =>
    obtain ⟨k, rfl, hk, hJs, hBr⟩ := hrel
    by_cases hk6 : k < 6
    · have hki : (k : Int) < 6 := by omega
      have hk0 : (0 : Int) ≤ (k : Int) := by omega
      have c0r := (box_cell hBr).1
      have hb : bits BinOp.andNot IntKind.i64 (f : Int) (wrap64 (2 ^ k)) = (sideN f k : Int) := side_bits ⟨f, hf⟩ ⟨k, hk6⟩
      obtain ⟨s, hs⟩ : ∃ s, s = sideN f k := ⟨_, rfl⟩
      rw [← hs] at hb
      have hs64 : s < 64 := by rw [hs]; exact side_lt hf k
      have HJ := hid hJs
      have HB := hid hBr
      clear hJs hBr
      by_cases h1 : s = f
      · have hd : ((s : Int) != (f : Int)) = false := by simp [h1]
        have Hst := hid (sidesTo_none (f := f) (k := k) (fun h => h.1 (by rw [← hs]; exact h1)))
        clear h1 hs
        gi_wp2
        gi_quiet (fail)
        gi_wp2
        refine ⟨fun _ h => (by cases h), ?_⟩
        gi_wp2
        go_roundw
        case rel => exact ⟨k + 1, by go_num, by omega, by rw [Hst.out]; exact hJd _ _ _ HJ.out, HB.out⟩
        case measure => simp [intOf]; omega
      · have hd : ((s : Int) != (f : Int)) = true := by simp; omega
        by_cases h2 : s = 0
        · have hd2 : ((s : Int) != 0) = false := by simp [h2]
          have Hst := hid (sidesTo_none (f := f) (k := k) (fun h => h.2 (by rw [← hs]; exact h2)))
          clear h1 h2 hs
          gi_wp2
          gi_quiet (fail)
          gi_wp2
          refine ⟨fun _ h => (by cases h), ?_⟩
          gi_wp2
          go_roundw
          case rel => exact ⟨k + 1, by go_num, by omega, by rw [Hst.out]; exact hJd _ _ _ HJ.out, HB.out⟩
          case measure => simp [intOf]; omega
        · have hd2 : ((s : Int) != 0) = true := by simp; omega
          have Hst := hid (sidesTo_some hf (k := k) (by rw [← hs]; exact h1) (by rw [← hs]; exact h2))
          have Hpre : Hid (sidesTo f k ++ [⟨s, hs64⟩] <+: sidesF f) := hid (by
            have e : sidesTo f (k + 1) = sidesTo f k ++ [⟨s, hs64⟩] := by rw [Hst.out]; simp [hs]
            rw [← e]
            have := sidesTo_prefix f (6 - (k + 1)) (k + 1)
            rwa [show k + 1 + (6 - (k + 1)) = 6 by omega] at this)
          have Hst' : Hid (sidesTo f (k + 1) = sidesTo f k ++ [⟨s, hs64⟩]) := hid (by rw [Hst.out]; simp [hs])
          have HY : Hid (∀ W', J (sidesTo f k) W' → YieldAt Fence.wide (n - 1) Try.prog l #[.int .i64 (s : Int)] W' fun e W'' =>
              (e = .returned (.bool true) ∧ J (sidesTo f k ++ [⟨s, hs64⟩]) W'' ∧ KeepB B0 W' W'') ∨ (e = .returned (.bool false) ∧ Jx (sidesTo f k ++ [⟨s, hs64⟩]) W'')) := hid (fun W' hj => hY _ ⟨s, hs64⟩ W' hj Hpre.out)
          clear h1 h2 hs Hst
          gi_wp2
          gi_quiet (fail)
          obtain ⟨fn, tmps, assign, body, hy, hR⟩ := HY.out _ (hJd _ _ nq HJ.out)
          gi_wp2
          refine hR.mono ?_
          rintro e W3 (⟨rfl, hJ3, hk3⟩ | ⟨rfl, hJx3⟩)
          · have hBr3 : W3.heap[B0]? = some (.cells #[.int .i64 (f : Int)] 2 (0, 0)) := Eq.trans hk3 HB.out
            have c03 := (box_cell hBr3).1
            gi_wp2
            go_roundw
            case rel => exact ⟨k + 1, by go_num, by omega, by rw [Hst'.out]; exact hJ3, hBr3⟩
            case measure => simp [intOf]; omega
          · gi_wp2
            refine bodyPost_ret (results_none rfl _ _ _) rfl ?_
            exact ⟨⟨_, rfl⟩, .inr ⟨_, Hpre.out, hJx3⟩⟩
    · obtain rfl : k = 6 := by omega
      gi_wp2
      go_end0
      exact ⟨⟨_, rfl⟩, .inl ⟨_, rfl, hJs⟩⟩

set_option maxHeartbeats 1000000 in
/-- sidesOf: its argument is boxed; the function value captures the box. -/
theorem sides_in (n : Nat) (x : Int) (w : World) :
    CallsIn Fence.wide n Try.prog 103 #[.int .i64 x] w fun e w' => e = .returned (.func (.func 120) #[] #[.pointer (some ⟨w.heap.size, 0, none⟩)]) ∧ w' = w.alloc (.cells #[.int .i64 x] 2) := by
  refine callsIn_of_wp Try.func103 rfl trivial ?_ rfl
  simp only [Try.ntmps103, List.size_toArray, List.length_cons, List.length_nil, Nat.reduceAdd, Nat.reduceSub, Array.replicate_succ, Array.replicate_zero, List.push_toArray, List.append_toArray, List.nil_append, List.cons_append]
  gi_wp2
  go_ret
  exact ⟨rfl, rfl⟩

theorem grown_drewN (W : World) (m : Nat) : W.grownBy (W.drewN m) none := ⟨rfl, rfl, rfl, Nat.le_refl _, fun _ _ _ => rfl⟩

theorem sides_stops (n : Nat) (hn : 1 ≤ n) (B0 f : Nat) (hf : f < 64) (w : World) (hB : B0 < w.heap.size)
    (hc : w.heap[B0]? = some (.cells #[.int .i64 (f : Int)] 2 (0, 0))) :
    SeqStopsK Fence.wide n Try.prog 120 #[.pointer (some ⟨B0, 0, none⟩)] (fun x : Fin 64 => #[Value.int .i64 (x.val : Int)]) (KeepB B0) (fun ys => ys = sidesF f) (fun pre => pre <+: sidesF f) 64 w :=
  fun l J Jx W hW hA _ hY h0 => sides1_in n hn l B0 f hf J Jx (fun pre x W1 hj hp => hY pre x W1 hj (by have h1 := hp.length_le; have h2 := sides_len f 6; unfold sidesF at h1; simp only [List.length_append, List.length_cons, List.length_nil] at h1; omega)) (fun pre W m h => hA pre W _ none h (grown_drewN W m) (fun r e => by cases e)) W ((hW.block B0 hB).trans hc) h0

end Go.Proofs.Ytmkknfdjoajpcaa
