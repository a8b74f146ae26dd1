import Derived.Test.YtmkknfdjoajpcaaGen
import Derived.RangeFuncNested
import Derived.RangeFuncBound
import Derived.RangeFuncCalls
import Derived.RangeFuncLeaves
import Derived.Shelf.Abstract
import Derived.Shelf.RegionOpen
import Derived.OwnWalkIn
import Derived.TacticsInMore
import Derived.LoopNIn
import Derived.LoopIn
import Derived.Maps.OwnIn
import Derived.Maps.OwnSet
import Derived.Maps.AppendAt
/-! The parts of a set, one after the other: an iterator, and what a function that ranges over it leaves. -/
namespace Go.Proofs.Ytmkknfdjoajpcaa
open Go.RowKit Go.Shelf

attribute [local go_sem] Oper.semAt_some

/-- w' is w but for the blocks Ds, which are no longer what they were. -/
structure Shut (Ds : List Nat) (w w' : World) : Prop where
  os : w'.os = w.os
  tape : w'.tape = w.tape
  output : w'.output = w.output
  size : w'.heap.size = w.heap.size
  block : ∀ k, k ∉ Ds → w'.heap[k]? = w.heap[k]?

theorem Shut.below {Ds : List Nat} {B : Nat} {w w' : World} (h : Shut Ds w w') (hB : ∀ D ∈ Ds, B ≤ D) : Below B w w' :=
  ⟨h.os, h.tape, h.output, by rw [h.size]; exact Nat.le_refl _, fun k hk => h.block k (fun hm => by have := hB k hm; omega)⟩

/-- The marks that loops over functions leave. -/
def marks (Ds : List Nat) : List Deferred := Ds.map fun D => { target := .collected D, args := #[] }

theorem leaves_marks {F : Fence} {n : Nat} {P : Program} {fn : Func} {tmps : Array Value} {R : Ending → World → Prop} {u : FrameMode} (hu : u ≠ .run) :
    ∀ (Ds : List Nat) (w : World), Ds.Nodup → (∀ D ∈ Ds, w.heap[D]? = some (.deferred (some []))) → (∀ w', Shut Ds w w' → LeavesIn F n P fn tmps R [] u w') → LeavesInM F n P fn tmps R (marks Ds) u w := by
  intro Ds
  induction Ds with
  | nil => intro w _ _ h; exact h w ⟨rfl, rfl, rfl, rfl, fun _ _ => rfl⟩
  | cons D Ds ih =>
    intro w hnd hD h
    refine ⟨hu, .inl ⟨D, _, rfl, run_takeDeferred (hD D (by simp)), ?_⟩⟩
    have hnd' := List.nodup_cons.1 hnd
    refine ih _ hnd'.2 (fun E hE => ?_) (fun w' hs => h w' ⟨hs.os, hs.tape, hs.output, hs.size.trans World.putObj_size, fun k hk => ?_⟩)
    · rw [World.putObj_heap_other (fun e => hnd'.1 (by rw [← e]; exact hE))]
      exact hD E (by simp [hE])
    · rw [hs.block k (fun hm => hk (by simp [hm])), World.putObj_heap_other (fun e => hk (by simp [e]))]

/-- The parts of a set, with what they are below. -/
def subsF (f : Nat) : List (Fin 64) := (subs f).filterMap fun p => if h : p < 64 then some ⟨p, h⟩ else none

theorem map_filterMap_fin : ∀ l : List Nat, (∀ p ∈ l, p < 64) → (l.filterMap fun p => if h : p < 64 then some (⟨p, h⟩ : Fin 64) else none).map Fin.val = l
  | [], _ => rfl
  | p :: l, h => by
    have hp : p < 64 := h p (by simp)
    rw [List.filterMap_cons]
    simp only [hp, dif_pos, List.map_cons]
    rw [map_filterMap_fin l (fun q hq => h q (by simp [hq]))]

theorem chain_le (f : Nat) : ∀ n p, ∀ y ∈ chain f n p, y ≤ p := by
  intro n
  induction n with
  | zero => intro p y hy; simp [chain] at hy
  | succ n ih =>
    intro p y hy
    unfold chain at hy
    split at hy
    · simp at hy
    · rcases List.mem_cons.1 hy with rfl | h
      · exact Nat.le_refl _
      · have := ih _ _ h
        have h3 : (p - 1) &&& f ≤ p - 1 := Nat.and_le_left
        omega

theorem subsF_map {f : Nat} (hf : f < 64) : (subsF f).map Fin.val = subs f :=
  map_filterMap_fin _ (fun p hp => by have := chain_le f 64 f p hp; omega)

theorem mem_subsF {f : Nat} (hf : f < 64) {p : Fin 64} : p ∈ subsF f ↔ p.val ≠ 0 ∧ p.val &&& f = p.val := by
  rw [← mem_subs hf, ← subsF_map hf]
  constructor
  · intro h; exact List.mem_map.2 ⟨p, h, rfl⟩
  · intro h; obtain ⟨q, hq, e⟩ := List.mem_map.1 h; rwa [← Fin.ext e]

/-- Block B lies as it lay. -/
def KeepB (B : Nat) (W W' : World) : Prop := W'.heap[B]? = W.heap[B]?
theorem keepB_t {B : Nat} {x y z : World} (h : KeepB B x y) (k : KeepB B y z) : KeepB B x z := Eq.trans k h
theorem keepB_b {B : Nat} {w : World} (hB : B < w.heap.size) (W : World) (l : Nat) (o o' : Obj) (hl : w.heap.size ≤ l) (_ : W.heap[l]? = some o) (_ : o.isCells = false) (_ : o.isWalk = false) : KeepB B W (W.putObj l o') :=
  World.putObj_heap_other (by omega)
theorem keepB_of_below {B n : Nat} {W W' : World} (h : Below n W W') (hB : B < n) : KeepB B W W' := h.block B hB

theorem box_cell {W : World} {B t : Nat} {v : Value} (h : W.heap[B]? = some (.cells #[v] t (0, 0))) : W.cell? ⟨B, 0, none⟩ = some v ∧ W.frozen? ⟨B, 0, none⟩ = false := by
  constructor <;> simp [World.cell?, World.frozen?, h]

theorem and_bits {q f : Nat} (hq0 : 0 < q) (hq : q < 64) (hf : f < 64) : bits BinOp.and IntKind.i64 ((q : Int) - 1) (f : Int) = (((q - 1) &&& f : Nat) : Int) := by
  have h := (bits_nat .i64 6 (by decide) (fun n h0 h1 => by rw [IntKind.wrap_i64]; omega) (q - 1) f (by omega) (by omega)).1
  rwa [show ((q - 1 : Nat) : Int) = (q : Int) - 1 by omega] at h

set_option maxRecDepth 100000 in
set_option maxHeartbeats 1000000 in
/-- The iterator over the parts of f: whatever the loop's body, as long as it keeps the block of f. -/
theorem parts1_in (F : Fence) (n : Nat) (hF : F.fn 116) (hro : F.round = none) (hn : 1 ≤ n) (l B0 f : Nat) (hf : f < 64) (J Jx : List (Fin 64) → World → Prop)
    (hY : ∀ pre x W, J pre W → pre.length < 64 → YieldAt F (n - 1) Try.prog l #[.int .i64 (x.val : Int)] W fun e W' =>
      (e = .returned (.bool true) ∧ J (pre ++ [x]) W' ∧ KeepB B0 W W') ∨ (e = .returned (.bool false) ∧ Jx (pre ++ [x]) W'))
    (W : World) (hB0 : W.heap[B0]? = some (.cells #[.int .i64 (f : Int)] 2 (0, 0))) (h0 : J [] W) :
    CallsIn F n Try.prog 116 #[.func (.yield l) #[] #[], .pointer (some ⟨B0, 0, none⟩)] W fun e W' => (∃ v, e = .returned v) ∧
      ((∃ ys, ys = subsF f ∧ J ys W') ∨ (∃ pre, pre <+: subsF f ∧ Jx pre W')) := by
  have hlen : (subsF f).length ≤ 63 := by
    have := subs_len' ⟨f, hf⟩
    rwa [← subsF_map hf, List.length_map] at this
  have c0 := (box_cell hB0).1
  refine callsIn_of_wp Try.func116 rfl hF ?_ hro
  simp only [Try.ntmps116, List.size_toArray, List.length_cons, List.length_nil, Nat.reduceAdd, Nat.reduceSub, Array.replicate_succ, Array.replicate_zero, List.push_toArray, List.append_toArray, List.nil_append, List.cons_append]
  gi_wp2
  gi_loopw [3] (fun p wr => ∃ (pre rest : List (Fin 64)) (q : Nat), p = .int .i64 (q : Int) ∧ q < 64 ∧ Hid (subsF f = pre ++ rest ∧ rest.map Fin.val = chain f 64 q) ∧ J pre wr ∧ wr.heap[B0]? = some (.cells #[.int .i64 (f : Int)] 2 (0, 0)))
    (fun p _ => (intOf p).toNat)
  case atStart =>
    exact ⟨[], subsF f, f, rfl, hf, hid ⟨rfl, subsF_map hf⟩, h0, hB0⟩
  case round =>
    obtain ⟨pre, rest, q, rfl, hq, Hl, hJs, hBr⟩ := hrel
    by_cases hq0 : 0 < q
    · obtain ⟨hl1, hl2⟩ := Hl.out
      rw [chain_pos hq0 (by omega)] at hl2
      cases rest with
      | nil => simp at hl2
      | cons x rest =>
        simp only [List.map_cons, List.cons.injEq] at hl2
        obtain ⟨hx, hl2⟩ := hl2
        have hpl : pre.length < 64 := by rw [hl1] at hlen; simp at hlen; omega
        obtain ⟨fn, tmps, assign, body, hy, hR⟩ := hY pre x wr hJs hpl
        rw [hx] at hy
        have hbits := and_bits hq0 hq hf
        have hand : (q - 1) &&& f ≤ q - 1 := Nat.and_le_left
        have Hl' : Hid (subsF f = pre ++ [x] ++ rest ∧ rest.map Fin.val = chain f 64 ((q - 1) &&& f)) := hid ⟨by simp [hl1], hl2⟩
        have Hpre : Hid (pre ++ [x] <+: subsF f) := hid ⟨rest, by simp [hl1]⟩
        clear hl1 hl2 Hl hx hlen
        have c0r := (box_cell hBr).1
        gi_wp2
        refine hR.mono ?_
        rintro e W3 (⟨rfl, hJ3, hk3⟩ | ⟨rfl, hJx3⟩)
        · have hBr3 : W3.heap[B0]? = some (.cells #[.int .i64 (f : Int)] 2 (0, 0)) := Eq.trans hk3 hBr
          have c03 := (box_cell hBr3).1
          gi_wp2
          go_roundw
          case rel => exact ⟨pre ++ [x], rest, (q - 1) &&& f, rfl, by omega, Hl', hJ3, hBr3⟩
          case measure => simp [intOf]; omega
        · gi_wp2
          refine bodyPost_ret (results_none rfl _ _ _) rfl ?_
          exact ⟨⟨_, rfl⟩, .inr ⟨pre ++ [x], Hpre.out, hJx3⟩⟩
    · obtain rfl : q = 0 := by omega
      obtain ⟨hl1, hl2⟩ := Hl.out
      rw [chain_zero] at hl2
      obtain rfl : rest = [] := by cases rest <;> simp_all
      have Hx : Hid (subsF f = pre) := hid (by rw [hl1]; simp)
      clear hl1 hl2 Hl
      gi_wp2
      go_end0
      exact ⟨⟨_, rfl⟩, .inl ⟨pre, Hx.out.symm, hJs⟩⟩

set_option maxHeartbeats 1000000 in
/-- partsOf: its argument is boxed; the function value captures the box. -/
theorem parts_in (F : Fence) (n : Nat) (hF : F.fn 89) (hro : F.round = none) (x : Int) (w : World) :
    CallsIn F n Try.prog 89 #[.int .i64 x] w fun e w' => e = .returned (.func (.func 116) #[] #[.pointer (some ⟨w.heap.size, 0, none⟩)]) ∧ w' = w.alloc (.cells #[.int .i64 x] 2) := by
  refine callsIn_of_wp Try.func89 rfl hF ?_ hro
  simp only [Try.ntmps89, List.size_toArray, List.length_cons, List.length_nil, Nat.reduceAdd, Nat.reduceSub, Array.replicate_succ, Array.replicate_zero, List.push_toArray, List.append_toArray, List.nil_append, List.cons_append]
  gi_wp2
  go_ret
  exact ⟨rfl, rfl⟩

theorem parts_stops (F : Fence) (n : Nat) (hF : F.fn 116) (hro : F.round = none) (hn : 1 ≤ n) (B0 f : Nat) (hf : f < 64) (w : World) (hB : B0 < w.heap.size)
    (hc : w.heap[B0]? = some (.cells #[.int .i64 (f : Int)] 2 (0, 0))) :
    SeqStopsK F n Try.prog 116 #[.pointer (some ⟨B0, 0, none⟩)] (fun x : Fin 64 => #[Value.int .i64 (x.val : Int)]) (KeepB B0) (fun ys => ys = subsF f) (fun pre => pre <+: subsF f) 64 w :=
  fun l J Jx W hW _ _ hY h0 => parts1_in F n hF hro hn l B0 f hf J Jx hY W ((hW.block B0 hB).trans hc) h0

end Go.Proofs.Ytmkknfdjoajpcaa
