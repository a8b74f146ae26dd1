import Derived.Test.YthmhdfhjjpfbfaaFrame
/-! What a list of pairs that comes in is told as. -/
namespace Go.Proofs.Ythmhdfhjjpfbfaa
open Go.ChangeShapes Go.WideShapes Go.ChangeAt Go.RowKit Go.Joins

variable {H : Type} {enc : TypeId × Value → H}

/-- The number in a cell. -/
def cellInt (v : Option Value) : Int := match v with | some (.int _ n) => n | _ => 0

set_option maxRecDepth 100000 in
theorem two_of_trod {W : World} {n : Nat} {cs : List Value} {y : DataW H × List MemPlace} (hf : DataW.trod enc Try.prog W 0 (fun _ => true) true n 78 cs = some y) : ∃ x y : Int, cs = [.int .i64 x, .int .i64 y] ∧ (Lit.int .i64 x).wf = true ∧ (Lit.int .i64 y).wf = true := by
  cases n with
  | zero => simp [DataW.trod] at hf
  | succ n =>
    unfold DataW.trod at hf
    rw [Try.underlying78] at hf
    simp only at hf
    rw [show Try.prog.cellsOf 78 = 2 by kernel_rfl, show Try.prog.cellsOf 2 = 1 by kernel_rfl] at hf
    split at hf
    · next hl =>
      match cs, hl with
      | [c0, c1], _ =>
        simp only [Option.map_eq_some_iff] at hf
        obtain ⟨xs, hx, _⟩ := hf
        rw [show List.range 2 = [0, 1] from rfl, List.mapM_cons, List.mapM_cons, List.mapM_nil] at hx
        simp only [bind, Option.bind_eq_some_iff, pure, Option.some.injEq] at hx
        obtain ⟨y0, h0, _, ⟨y1, h1, _, rfl, rfl⟩, rfl⟩ := hx
        obtain ⟨a, ea, _, wa⟩ := DataW.trod_int Try.underlying2 h0
        obtain ⟨b, eb, _, wb⟩ := DataW.trod_int Try.underlying2 h1
        simp at ea eb
        subst ea; subst eb
        exact ⟨a, b, rfl, wa, wb⟩
    · cases hf

set_option maxRecDepth 100000 in
/-- A list of pairs that came in. -/
theorem pairs_of_trod {W : World} {n : Nat} {v : Value} {y : DataW H × List MemPlace} (hf : DataW.trod enc Try.prog W 0 (fun _ => true) true n 48 [v] = some y) :
    ∃ a len cap ps, v = .slice a len cap ∧ ps.length = 2 * len ∧ len ≤ 9223372036854775807 ∧ SlI W W.heap.size a ps ∧ ∀ x ∈ ps, (Lit.int .i64 x).wf = true := by
  rcases DataW.trod_slice Try.underlying48 hf with ⟨hcs, _⟩ | ⟨a, len, cap, elems, rest, m, _, hcs, _, hb, hl, hm, hlen, hel, _, _⟩
  · simp at hcs
    subst hcs
    exact ⟨none, 0, 0, [], rfl, rfl, by omega, .inl rfl, by simp⟩
  · simp at hcs
    subst hcs
    unfold maxLen at hm
    have hc : Try.prog.cellsOf 78 = 2 := by kernel_rfl
    have each : ∀ i, i < 2 * len → ∃ x, W.cell? (a.add i) = some (.int .i64 x) ∧ (Lit.int .i64 x).wf = true := by
      intro i hi
      have h := hel (i / 2) (by omega)
      rw [hc] at h
      have hy : elems[i / 2]? = some (elems[i / 2]'(by omega)) := List.getElem?_eq_getElem (by omega)
      rw [hy, Option.bind_eq_some_iff] at h
      obtain ⟨cs, hcs, ht⟩ := h
      obtain ⟨x, y, rfl, wx, wy⟩ := two_of_trod ht
      have h3 := (World.cells?_some hcs).2.2 (i % 2) (Nat.mod_lt _ (by decide))
      have hadd : (a.add (i / 2 * 2)).add (i % 2) = a.add i := by
        rw [Addr.add_add]
        congr 1
        omega
      rw [hadd] at h3
      rcases Nat.mod_two_eq_zero_or_one i with h | h <;> rw [h] at h3 <;> simp at h3
      · exact ⟨_, h3, wx⟩
      · exact ⟨_, h3, wy⟩
    refine ⟨some a, len, cap, (List.range (2 * len)).map (fun i => cellInt (W.cell? (a.add i))), rfl, by simp, by omega, ?_, ?_⟩
    rotate_left
    · intro x hx
      obtain ⟨i, hi, rfl⟩ := List.mem_map.1 hx
      obtain ⟨y, hy, wy⟩ := each i (List.mem_range.1 hi)
      rw [hy]
      exact wy
    by_cases h0 : len = 0
    · subst h0; exact .inl (by simp)
    · right
      obtain ⟨b, off, spot⟩ := a
      obtain ⟨x0, hc0, _⟩ := each 0 (by omega)
      have hspot : spot = none := by simpa [Addr.add] using World.cell?_spot hc0
      subst hspot
      refine ⟨b, off, ?_, rfl, fun i hi => ?_⟩
      · have := World.block_lt_of_cell? W _ hc0
        simpa [Addr.add] using this
      · simp only [List.length_map, List.length_range] at hi
        obtain ⟨x, hx, _⟩ := each i hi
        have hadd : (⟨b, off, none⟩ : Addr).add i = ⟨b, off + i, none⟩ := by unfold Addr.add; split <;> simp_all
        rw [hadd] at hx
        rw [hx, List.getElem?_map, List.getElem?_range hi]
        simp only [Option.map_some, Option.getD_some]
        rw [hadd, hx]
        rfl

theorem pairs_in {W : World} {n : Nat} {a : Option Addr} {m cap : Nat} {y : DataW H × List MemPlace} (hf : DataW.trod enc Try.prog W 0 (fun _ => true) true n 48 (Value.slice a m cap).cells.toList = some y) :
    ∃ ps, ps.length = 2 * m ∧ m ≤ 9223372036854775807 ∧ SlI W W.heap.size a ps ∧ ∀ x ∈ ps, (Lit.int .i64 x).wf = true := by
  obtain ⟨a', len, cap', ps, he, h1, h2, h3, h4⟩ := pairs_of_trod (v := .slice a m cap) hf
  cases he
  exact ⟨ps, h1, h2, h3, h4⟩

end Go.Proofs.Ythmhdfhjjpfbfaa
