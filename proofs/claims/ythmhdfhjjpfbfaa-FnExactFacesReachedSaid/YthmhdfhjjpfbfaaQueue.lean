import Derived.Test.YthmhdfhjjpfbfaaGen
import Derived.ArgAppend
/-! A queue: a row of int64 that is cut at its front and grows at its end. -/
namespace Go.Proofs.Ythmhdfhjjpfbfaa
open Go.RowKit

structure QAt (W : World) (base g off cap : Nat) (cur : Array Value) (xs : List Int) : Prop where
  base : base ≤ g
  heap : W.heap[g]? = some (.cells cur 2 (0, 0))
  len : xs.length ≤ cap
  size : off + cap ≤ cur.size
  at_ : ∀ i, i < xs.length → cur[off + i]? = some (.int .i64 (xs[i]?.getD 0))
def OwnsQ (W : World) (base : Nat) (v : Value) (xs : List Int) : Prop := ∃ g off cap cur, v = .slice (some ⟨g, off, none⟩) xs.length cap ∧ QAt W base g off cap cur xs

theorem QAt.cell {W : World} {base g off cap : Nat} {cur : Array Value} {xs : List Int} (h : QAt W base g off cap cur xs) {i : Nat} (hi : i < xs.length) : W.cell? ⟨g, off + i, none⟩ = some (.int .i64 (xs[i]?.getD 0)) := by
  rw [cell_of_row W g (off + i) cur _ (0, 0) h.heap]
  exact h.at_ i hi
theorem QAt.lt {W : World} {base g off cap : Nat} {cur : Array Value} {xs : List Int} (h : QAt W base g off cap cur xs) : g < W.heap.size := (Array.getElem?_eq_some_iff.1 h.heap).1
theorem OwnsQ.kept {W W' : World} {base : Nat} {v : Value} {xs : List Int} {row : Option Nat} (h : OwnsQ W base v xs) (hg : W.grownBy W' row) (hne : v.ownBlock ≠ row) : OwnsQ W' base v xs := by
  obtain ⟨g, off, cap, cur, rfl, q⟩ := h
  exact ⟨g, off, cap, cur, rfl, q.base, (hg.block g q.lt (by simpa [Value.ownBlock] using hne)).trans q.heap, q.len, q.size, q.at_⟩
theorem OwnsQ.lt {W : World} {base : Nat} {v : Value} {xs : List Int} (h : OwnsQ W base v xs) : ∃ g, v.ownBlock = some g ∧ base ≤ g ∧ g < W.heap.size := by
  obtain ⟨g, off, cap, cur, rfl, q⟩ := h
  exact ⟨g, rfl, q.base, q.lt⟩

theorem OwnsQ.form {W : World} {base : Nat} {v : Value} {xs : List Int} (h : OwnsQ W base v xs) : ∃ g off cap, v = .slice (some ⟨g, off, none⟩) xs.length cap := by
  obtain ⟨g, off, cap, _, e, _⟩ := h
  exact ⟨g, off, cap, e⟩

/-- 'append(queue, x)', as the run of the operation. -/
theorem OwnsQ.push {W : World} {base : Nat} {v : Value} {xs : List Int} (h : OwnsQ W base v xs) (hb : base ≤ W.heap.size) (hl : xs.length ≤ 1048576) (ty : TypeId) (ad : Addr) (c : Nat) (x : Int) (hx : W.cell? (ad.add 0) = some (.int .i64 x)) :
    ∃ v' W', (Builtin.append_ #[22, 22] ty #[v, .slice (some ad) 1 c]).run Try.prog W = .ok v' W' ∧ OwnsQ W' base v' (xs ++ [x]) ∧ W.grownBy W' v.ownBlock ∧ (v'.ownBlock = v.ownBlock ∨ ∃ k, v'.ownBlock = some k ∧ W.heap.size ≤ k) := by
  obtain ⟨i0, hi, hz0, hz1, hz2⟩ := info_parts info_i64
  obtain ⟨g, off, cap, cur, rfl, q⟩ := h
  have hnews : ∀ j u, [Value.int .i64 x][j]? = some u → W.cell? (ad.add j) = some u := by
    intro j u hj
    match j, hj with
    | 0, hj => simp at hj; subst hj; exact hx
  by_cases hroom : xs.length + 1 ≤ cap
  · have hcl : W.cell? ⟨g, off + xs.length, none⟩ = cur[off + xs.length]? := cell_of_row W g (off + xs.length) cur _ (0, 0) q.heap
    have hlt : off + xs.length < cur.size := by have := q.size; omega
    have hr := run_append_room_cells (P := Try.prog) W 22 ty 2 i0 Try.underlying22 hi g off xs.length cap ad 1 c [.int .i64 x] (by rw [hz1]; rfl) hnews (by simp [Value.oneCell']) hroom
      (fun j hj => by
        have : j = 0 := by simpa using hj
        subst this
        rw [hz1, Nat.mul_one, Nat.add_zero, hcl, Array.getElem?_eq_getElem hlt]; rfl)
      (fun j hj => by simp [World.frozen?, q.heap])
    rw [hz1, Nat.mul_one] at hr
    have hh : (W.setCell ⟨g, off + xs.length, none⟩ (.int .i64 x)).heap[g]? = some (.cells (cur.setIfInBounds (off + xs.length) (.int .i64 x)) 2 (0, 0)) := by
      simp only [World.setCell, Array.getElem?_modify, q.heap]
      simp
    refine ⟨_, _, hr, ⟨g, off, cap, cur.setIfInBounds (off + xs.length) (.int .i64 x), by simp, q.base, hh, by simp; omega, by simp; exact q.size, fun i hi => ?_⟩, grownBy_set W ⟨g, off + xs.length, none⟩ _, .inl rfl⟩
    by_cases e : i = xs.length
    · subst e
      simp [hlt]
    · have hil : i < xs.length := by simp at hi; omega
      rw [Array.getElem?_setIfInBounds_ne (by omega), q.at_ i hil, List.getElem?_append_left hil]
  · have hcap : cap = xs.length := by have := q.len; omega
    obtain ⟨v', W', hr, hown, hg⟩ := run_append_arg_grows (P := Try.prog) W 22 ty 2 i0 (.int .i64 0) 1 8 Try.underlying22 hi hz0 hz1 hz2 rfl (by decide) ⟨g, off, none⟩ xs.length cap (xs.map (Value.int .i64)) (by simp)
      (fun j u hj => by
        have hjl : j < xs.length := by have := (List.getElem?_eq_some_iff.1 hj).1; simpa using this
        have hadd : (⟨g, off, none⟩ : Addr).add j = ⟨g, off + j, none⟩ := by unfold Addr.add; split <;> simp_all
        rw [hadd, q.cell hjl]
        rw [List.getElem?_map, List.getElem?_eq_getElem hjl] at hj
        rw [List.getElem?_eq_getElem hjl]
        simpa using hj)
      ad 1 c [.int .i64 x] (by simp) hnews (by omega) (by unfold maxLen; omega) (by omega)
    rcases hown.2 with ⟨_, h0⟩ | ⟨g', cap', cur', rfl, hg', hh', h1, _, h3, h4⟩
    · omega
    · refine ⟨_, W', hr, ⟨g', 0, cap', cur', by simp, Nat.le_trans hb hg', hh', by simpa using h1, by omega, fun i hi => ?_⟩, ⟨hg.os, hg.tape, hg.output, hg.size, fun k hk _ => hg.block k hk (by simp)⟩, .inr ⟨g', rfl, hg'⟩⟩
      · have h5 : (cur'.toList.take ((xs.length + 1) * 1))[i]? = (xs.map (Value.int .i64) ++ [.int .i64 x])[i]? := by rw [h4]
        have hi' : i < xs.length + 1 := by simpa using hi
        rw [List.getElem?_take, if_pos (by omega)] at h5
        rw [Nat.zero_add, ← Array.getElem?_toList, h5]
        by_cases e : i = xs.length
        · subst e; simp
        · have hil : i < xs.length := by omega
          rw [List.getElem?_append_left (by simpa using hil), List.getElem?_append_left hil, List.getElem?_map, List.getElem?_eq_getElem hil]
          rfl

/-- 'queue[0]' and 'queue[1:]'. -/
theorem OwnsQ.pop {W : World} {base : Nat} {v : Value} {x : Int} {xs : List Int} (h : OwnsQ W base v (x :: xs)) :
    ∃ g off cap, v = .slice (some ⟨g, off, none⟩) (xs.length + 1) cap ∧ xs.length + 1 ≤ cap ∧ W.cell? ⟨g, off, none⟩ = some (.int .i64 x) ∧
      (cap ≠ 1 → OwnsQ W base (.slice (some ⟨g, off + 1, none⟩) xs.length (cap - 1)) xs) ∧ (cap = 1 → OwnsQ W base (.slice (some ⟨g, off, none⟩) xs.length 0) xs) := by
  obtain ⟨g, off, cap, cur, rfl, q⟩ := h
  have hl := q.len
  have hs := q.size
  simp only [List.length_cons] at hl
  refine ⟨g, off, cap, by simp, hl, by have := q.cell (i := 0) (by simp); simpa using this, fun hc => ⟨g, off + 1, cap - 1, cur, rfl, q.base, q.heap, by omega, by omega, fun i hi => ?_⟩, fun hc => ⟨g, off, 0, cur, rfl, q.base, q.heap, by omega, by omega, fun i hi => absurd hi (by omega)⟩⟩
  have := q.at_ (i + 1) (by simp; omega)
  rw [show off + 1 + i = off + (i + 1) by omega, this]
  simp
/-- '[]int64{a}'. -/
theorem OwnsQ.one {W : World} {base : Nat} (hb : base ≤ W.heap.size) (a : Int) : OwnsQ (W.alloc (.cells #[.int .i64 a] 2)) base (.slice (some ⟨W.heap.size, 0, none⟩) 1 1) [a] :=
  ⟨W.heap.size, 0, 1, #[.int .i64 a], rfl, hb, heap_alloc_new W _, by simp, by simp, fun i hi => by
    have : i = 0 := by simpa using hi
    subst this
    rfl⟩

end Go.Proofs.Ythmhdfhjjpfbfaa
