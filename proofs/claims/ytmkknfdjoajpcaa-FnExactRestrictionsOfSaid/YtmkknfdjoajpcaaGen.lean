import Derived.Test.YtmkknfdjoajpcaaProg
import Derived.Test.YtmkknfdjoajpcaaMath
import Derived.WalkKit
import Derived.WalkSpells
import Derived.WalkLawsBesides
import Derived.Deep.QuietTactic
import Derived.BigQuiet
import Derived.Deep.RegionWith
import Derived.Deep.DrawnRows
/-! Small lemmas for all walks: slices of integers as lists, hidden facts, endings. -/
namespace Go.Proofs.Ytmkknfdjoajpcaa
open Go.RowKit

theorem hid {p : Prop} (h : p) : Hid p := h
theorem ret_bool {a b : Bool} (h : a = b) : Ending.returned (.bool a) = .returned (.bool b) := by rw [h]
theorem ret_int {k : IntKind} {a b : Int} (h : a = b) : Ending.returned (.int k a) = .returned (.int k b) := by rw [h]

/-- At address a (of a block below B) lie the integers xs. -/
def SlI (w : World) (B : Nat) (a : Option Addr) (xs : List Int) : Prop :=
  xs = [] ∨ ∃ b off, b < B ∧ a = some ⟨b, off, none⟩ ∧ ∀ i, i < xs.length → w.cell? ⟨b, off + i, none⟩ = some (.int .i64 (xs[i]?.getD 0))

theorem SlI.mono {w : World} {B B' : Nat} {a : Option Addr} {xs : List Int} (h : SlI w B a xs) (hB : B ≤ B') : SlI w B' a xs := by
  rcases h with rfl | ⟨b, off, hb, rfl, hc⟩
  · exact .inl rfl
  · exact .inr ⟨b, off, by omega, rfl, hc⟩

theorem SlI.below {w w' : World} {B : Nat} {a : Option Addr} {xs : List Int} (h : SlI w B a xs) (hw : Below B w w') : SlI w' B a xs := by
  rcases h with rfl | ⟨b, off, hb, rfl, hc⟩
  · exact .inl rfl
  · exact .inr ⟨b, off, hb, rfl, fun i hi => (hw.cell (p := ⟨b, off + i, none⟩) hb).trans (hc i hi)⟩

/-- .. as the arguments of a later call. -/
theorem SlI.later {w w' : World} {B : Nat} {a : Option Addr} {xs : List Int} (h : SlI w B a xs) (hw : Below B w w') (hB : B ≤ w'.heap.size) : SlI w' w'.heap.size a xs :=
  (h.below hw).mono hB

/-- What a call owns reads as a slice. -/
theorem ownsRow_slI {w : World} {base e : Nat} {v : Value} {n : Nat} {xs : List Int} (h : w.ownsRow base e 1 v n (xs.map (Value.int .i64))) :
    n = xs.length ∧ ∃ a cap, v = .slice a xs.length cap ∧ SlI w w.heap.size a xs := by
  have hl := h.1
  simp at hl
  subst hl
  refine ⟨rfl, ?_⟩
  rcases h.2 with ⟨rfl, hn⟩ | ⟨g, cap, cur, rfl, _, hg, _⟩
  · have hx : xs = [] := List.eq_nil_of_length_eq_zero hn
    subst hx
    exact ⟨none, 0, rfl, .inl rfl⟩
  · refine ⟨_, cap, rfl, .inr ⟨g, 0, (Array.getElem?_eq_some_iff.1 hg).1, rfl, fun i hi => ?_⟩⟩
    have := h.cells (g := g) rfl i (.int .i64 (xs[i]?.getD 0)) (by simp [hi])
    have hadd : (⟨g, 0, none⟩ : Addr).add i = ⟨g, i, none⟩ := by unfold Addr.add; split <;> simp_all
    rw [hadd] at this
    simpa using this

theorem take_snoc {xs : List Int} {k : Nat} (h : k < xs.length) : xs.take (k + 1) = xs.take k ++ [xs[k]?.getD 0] := by
  rw [List.take_succ_eq_append_getElem h, List.getElem?_eq_getElem h]; simp

theorem split_at {xs : List Int} {k : Nat} (h : k < xs.length) : xs = xs.take k ++ xs[k]?.getD 0 :: xs.drop (k + 1) := by
  rw [List.getElem?_eq_getElem h]
  simp

theorem info_i64 : (Try.prog.info? 2).map (fun i => (i.zero, i.size, i.bytes)) = some (some (.int .i64 0), 1, 8) := by kernel_rfl

theorem all_wrap {V : Int} (h1 : 0 ≤ V) (h2 : V ≤ 6) : wrap64 (wrap64 (2 ^ V.toNat) - 1) = allV V := by
  rcases (show V = 0 ∨ V = 1 ∨ V = 2 ∨ V = 3 ∨ V = 4 ∨ V = 5 ∨ V = 6 by omega) with rfl | rfl | rfl | rfl | rfl | rfl | rfl <;> decide +kernel

theorem bit_one {f v : Nat} (hf : f < 64) : bits BinOp.and IntKind.i64 ((f : Int) / 2 ^ v) 1 = if bitN f v then 1 else 0 := by
  have e : ((f : Int) / 2 ^ v) = ((f / 2 ^ v : Nat) : Int) := by simp
  have hle : f / 2 ^ v ≤ f := Nat.div_le_self _ _
  rw [e]
  have h := (bits_nat .i64 6 (by decide) (fun n h0 h1 => by rw [IntKind.wrap_i64]; omega) (f / 2 ^ v) 1 (by omega) (by decide)).1
  have h' : bits BinOp.and IntKind.i64 ((f / 2 ^ v : Nat) : Int) 1 = ((f / 2 ^ v &&& 1 : Nat) : Int) := h
  rw [h', Nat.and_one_is_mod]
  unfold bitN
  rcases Nat.mod_two_eq_zero_or_one (f / 2 ^ v) with h0 | h0 <;> simp [h0]

theorem pow62 {v : Nat} (hv : v ≤ 62) : (2 : Nat) ^ v ≤ 4611686018427387904 := by
  have h2 : (2 : Nat) ^ v ≤ 2 ^ 62 := Nat.pow_le_pow_right (by decide) hv
  simpa using h2

theorem pow_wrap {v : Nat} (hv : v ≤ 62) : wrap64 (2 ^ v) = ((2 ^ v : Nat) : Int) := by
  have h2 := pow62 hv
  rw [show ((2 : Int) ^ v) = ((2 ^ v : Nat) : Int) by simp]
  generalize (2 : Nat) ^ v = q at *
  exact IntWalk.wrap64_in _ ⟨by omega, by omega⟩

theorem pow_cast (v : Nat) : ((2 : Int) ^ v) = ((2 ^ v : Nat) : Int) := by simp

theorem sub_wrap {f v : Nat} (hf : f < 64) (hv : v ≤ 62) : wrap64 ((f : Int) - wrap64 (2 ^ v)) = (f : Int) - 2 ^ v := by
  have h2 := pow62 hv
  rw [pow_wrap hv, pow_cast]
  generalize (2 : Nat) ^ v = q at *
  exact IntWalk.wrap64_in _ ⟨by omega, by omega⟩

theorem ne_wrap {f v : Nat} (hv : v ≤ 62) : ((f : Int) != wrap64 (2 ^ v)) = (f != 2 ^ v) := by
  rw [pow_wrap hv]
  rw [Bool.eq_iff_iff]; simp only [bne_iff_ne, ne_eq]; rw [Int.natCast_inj]

/-- 'out = append(out, x)' on a slice of int64 that the call itself has made. -/
theorem append_int {w : World} {ops : Array Oper} {rest : List Oper} {o : Oper} {a : Act} {Q : Exit → Act → World → Prop} (hgd : o.guard = none) {s y : Operand}
    (ho : o.op = .call { callee := .builtin .append, args := #[s, y], argTypes := #[22, 22] })
    {base : Nat} {v : Value} {xs : List Int} {x : Int} (hown : w.ownsRow base 2 1 v xs.length (xs.map (Value.int .i64))) (hbase : base ≤ w.heap.size) (hl : xs.length ≤ 1099511627776)
    (hs : a.eval s = v) (hy : a.eval y = .slice (some ⟨w.heap.size, 0, none⟩) 1 1)
    (hK : ∀ v' w', w'.ownsRow base 2 1 v' (xs ++ [x]).length ((xs ++ [x]).map (Value.int .i64)) → w.grownBy w' v.ownBlock → Below base w w' → wpList Try.prog ops Q rest (a.put o.dst v') w') :
    wpList Try.prog ops Q (o :: rest) a (w.alloc (.cells #[.int .i64 x] 2)) := by
  obtain ⟨i0, hi, hz0, hz1, hz2⟩ := info_parts info_i64
  refine wpList_append_own _ hgd s y 22 ho base 2 i0 (.int .i64 0) 1 8 Try.underlying22 hi hz0 hz1 hz2 rfl (by decide) v _ _ hs (hown.alloc _) ⟨w.heap.size, 0, none⟩ 1 1 [.int .i64 x] hy rfl (cell_one_new _ _ _) (by simp [Value.oneCell']) (by unfold maxLen; omega) (by omega) (by simp; omega) ?_
  intro v' w1 hown1 hgrow1 _
  have hg : w.grownBy w1 v.ownBlock := (World.grownBy_alloc w _ _).trans hgrow1
  refine hK v' w1 (by simpa using hown1) hg ((Below.refl base w).grown hg hbase (fun k hk => (hown.lt k hk).1))

/-- A callee that leaves the world alone, in a region that draws its order. -/
theorem quiet_of_eq {P : Program} {f : FuncId} {args : Array Value} {w : World} {n : Nat} {v : Value}
    (h : Calls P f args (w.drewN n) fun e w' => e = .returned v ∧ w.drewN n = w') : Calls P f args (w.drewN n) fun e w'' => e = .returned v ∧ ∃ m, w'' = w.drewN m :=
  h.mono fun _ _ ⟨he, hm⟩ => ⟨he, n, hm.symm⟩

/-- 'make([]int64, n)'. -/
theorem make_int {w : World} {ops : Array Oper} {rest : List Oper} {o : Oper} {a : Act} {Q : Exit → Act → World → Prop} (hgd : o.guard = none) {l c : Operand} (hop : o.op = Op.makeSlice 22 l c)
    {n : Nat} (hl : a.eval l = .int .i64 (n : Int)) (hc : a.eval c = .int .i64 (n : Int)) (hn : n ≤ 1099511627776)
    (hK : ∀ w', w'.ownsRow w.heap.size 2 1 (.slice (some ⟨w.heap.size, 0, none⟩) n n) n ((List.replicate n (0 : Int)).map (Value.int .i64)) → w.grownBy w' none → Below w.heap.size w w' →
      wpList Try.prog ops Q rest (a.put o.dst (.slice (some ⟨w.heap.size, 0, none⟩) n n)) w') :
    wpList Try.prog ops Q (o :: rest) a w := by
  obtain ⟨i0, hi, hz0, hz1, hz2⟩ := info_parts info_i64
  refine wpList_make_full w hgd l c 22 hop w.heap.size 2 i0 (.int .i64 0) 1 Try.underlying22 hi hz0 hz1 .i64 .i64 _ _ n hl hc rfl rfl (by rw [hz2]; omega) (by unfold maxLen; omega) (Nat.le_refl _) ?_
  intro w' hown hg
  have e : (madeCells (Value.int .i64 0).cells (n * 1)).toList = (List.replicate n (0 : Int)).map (Value.int .i64) := by
    rw [Nat.mul_one]
    exact (toList_madeCells_one _ _).trans (by simp)
  rw [e] at hown
  exact hK w' hown hg ((Below.refl _ w).grown hg (Nat.le_refl _) (fun k hk => by cases hk))

theorem grownBy_set (w : World) (a : Addr) (u : Value) : w.grownBy (w.setCell a u) (some a.block) :=
  ⟨rfl, rfl, rfl, by simp [World.setCell], fun k _ hk => Below.heap_setCell _ _ _ _ (fun e => hk (by rw [e]))⟩

theorem ownsRow_set {w : World} {base e size : Nat} {v : Value} {n : Nat} {xs : List Value} (h : w.ownsRow base e size v n xs) {a : Addr} (ha : v.ownBlock ≠ some a.block) (u : Value) : (w.setCell a u).ownsRow base e size v n xs :=
  h.kept (grownBy_set w a u) (.inr ha)

theorem ownsRow_base {w : World} {base base' e size : Nat} {v : Value} {n : Nat} {xs : List Value} (h : w.ownsRow base e size v n xs) (hb : base' ≤ base) : w.ownsRow base' e size v n xs := by
  refine ⟨h.1, ?_⟩
  rcases h.2 with hn | ⟨g, cap, cur, rfl, hg, rest⟩
  · exact .inl hn
  · exact .inr ⟨g, cap, cur, rfl, by omega, rest⟩

/-- What is owned above a number stays so while what lies below it is kept. -/
theorem ownsRow_below {w w' : World} {base B e size : Nat} {v : Value} {n : Nat} {xs : List Value} (h : w.ownsRow base e size v n xs) (hb : Below B w w') (hB : ∀ g, v.ownBlock = some g → g < B) : w'.ownsRow base e size v n xs := by
  refine ⟨h.1, ?_⟩
  rcases h.2 with hn | ⟨g, cap, cur, rfl, hg, hh, rest⟩
  · exact .inl hn
  · exact .inr ⟨g, cap, cur, rfl, hg, (hb.block g (hB g rfl)).trans hh, rest⟩

theorem owned_slI {w : World} {base e : Nat} {a : Option Addr} {n m cap : Nat} {xs : List Int} (h : w.ownsRow base e 1 (.slice a m cap) n (xs.map (Value.int .i64))) : SlI w w.heap.size a xs := by
  obtain ⟨_, a', cap', he, hs⟩ := ownsRow_slI h
  cases he
  exact hs

theorem owned_len {w : World} {base e : Nat} {v : Value} {n : Nat} {xs : List Int} (h : w.ownsRow base e 1 v n (xs.map (Value.int .i64))) : n = xs.length := (ownsRow_slI h).1

end Go.Proofs.Ytmkknfdjoajpcaa
