import Derived.Deep.RegionLaw
import Derived.Lib.SliceRun
import Derived.Lib.AppendZeros
import Derived.Laws.OwnMore
import Derived.Sort.OwnSortedInts
import Derived.Test.YtpdhnjdnlgnniaaGreatMC21
import Derived.Test.YtpdhnjdnlgnniaaGreatMC22
import Derived.Test.YtpdhnjdnlgnniaaGreatMC23
import Derived.Test.YtpdhnjdnlgnniaaGreatMC24
import Derived.Test.YtpdhnjdnlgnniaaGreatMC25
/-! groupCanFollow, walked. -/
namespace Go.Proofs.YtpdhnjdnlgnniaaGreat
open Go.RowKit Go.Shelf

attribute [local go_sem] Oper.semAt_some

/-- The sides of a face are there or in the group. -/
def okM (L g : List Int) (m : Int) : Bool := (sidesF m.toNat).all fun s => decide (((s.val : Nat) : Int) ∈ L) || decide (((s.val : Nat) : Int) ∈ g)
theorem canB_ok (L g : List Int) : canB L g = g.all (okM L g) := rfl

/-- What the walk keeps of the world. -/
structure GcW (w W : World) (sl : Value) (M : Nat) (Ds : List Nat) : Prop where
  below : Go.RowKit.Below w.heap.size w W
  b0 : W.heap[w.heap.size]? = some (.cells #[sl] 22 (0, 0))
  b1 : W.heap[w.heap.size + 1]? = some (.cells #[.map (some M)] 83 (0, 0))
  res : W.heap[w.heap.size + 1 + 1]? = some (.cells #[.bool false] 4 (0, 0))
  nodup : Ds.Nodup
  marks : ∀ D ∈ Ds, w.heap.size + 3 ≤ D ∧ W.heap[D]? = some (.deferred (some []))
theorem GcW.size {w W : World} {sl : Value} {M : Nat} {Ds : List Nat} (h : GcW w W sl M Ds) : w.heap.size + 3 ≤ W.heap.size := by
  have := lt_of_get h.res; omega
theorem GcW.turn {w W W' : World} {sl : Value} {M : Nat} {Ds : List Nat} (h : GcW w W sl M Ds) {row : Option Nat} (hg : W.grownBy W' row)
    (hr : ∀ r, row = some r → w.heap.size + 3 ≤ r ∧ r ∉ Ds) : GcW w W' sl M Ds where
  below := h.below.grown hg h.below.size (fun k e => by have := (hr k e).1; omega)
  b0 := (hg.block _ (lt_of_get h.b0) (fun e => by have := (hr _ e.symm).1; omega)).trans h.b0
  b1 := (hg.block _ (lt_of_get h.b1) (fun e => by have := (hr _ e.symm).1; omega)).trans h.b1
  res := (hg.block _ (lt_of_get h.res) (fun e => by have := (hr _ e.symm).1; omega)).trans h.res
  nodup := h.nodup
  marks := fun D hD => ⟨(h.marks D hD).1, (hg.block _ (lt_of_get (h.marks D hD).2) (fun e => (hr _ e.symm).2 hD)).trans (h.marks D hD).2⟩
theorem gcw_own {β : Type} {w : World} {sl : Value} {M : Nat} {Ds : List Nat} {B : Nat} (hB : w.heap.size + 3 ≤ B) (hD : ∀ D ∈ Ds, D < B) : OwnFrom B (fun (_ : β) W => GcW w W sl M Ds) :=
  fun _ _ _ _ hs hg hr => hs.turn hg (fun r e => ⟨by have := (hr r e).1; omega, fun hm => by have := hD r hm; have := (hr r e).1; omega⟩)
theorem GcW.mark {w W : World} {sl : Value} {M : Nat} {Ds : List Nat} (h : GcW w W sl M Ds) {D : Nat} (hD : W.heap[D]? = some (.deferred (some []))) (hb : w.heap.size + 3 ≤ D) (hn : D ∉ Ds) : GcW w W sl M (D :: Ds) where
  below := h.below
  b0 := h.b0
  b1 := h.b1
  res := h.res
  nodup := List.nodup_cons.2 ⟨hn, h.nodup⟩
  marks := fun E hE => by
    rcases List.mem_cons.1 hE with rfl | hE
    · exact ⟨hb, hD⟩
    · exact h.marks E hE
theorem GcW.store {w W : World} {sl : Value} {M : Nat} {Ds : List Nat} (h : GcW w W sl M Ds) : GcW w (W.setCell ⟨w.heap.size + 1 + 1, 0, none⟩ (.bool false)) sl M Ds where
  below := h.below.setCell (p := ⟨w.heap.size + 1 + 1, 0, none⟩) (by simp; omega) _
  b0 := (Below.heap_setCell _ _ _ _ (by simp; omega)).trans h.b0
  b1 := (Below.heap_setCell _ _ _ _ (by simp)).trans h.b1
  res := one_setCell h.res
  nodup := h.nodup
  marks := fun D hD => ⟨(h.marks D hD).1, (Below.heap_setCell _ _ _ _ (by have := (h.marks D hD).1; simp <;> omega)).trans (h.marks D hD).2⟩


/-- Ahead of face k. -/
def GcSt (w : World) (a : Option Addr) (cap M : Nat) (L g : List Int) (a' : Act) (W : World) : Prop :=
  ∃ (k : Nat) (Ds : List Nat) (us : Nat → Value), a' = { tmps := List.toArray ((.slice a g.length cap) :: (.map (some M)) :: (.pointer (some ⟨w.heap.size, 0, none⟩)) :: (.pointer (some ⟨w.heap.size + 1, 0, none⟩)) :: (.pointer (some ⟨w.heap.size + 1 + 1, 0, none⟩)) :: us 5 :: us 6 :: us 7 :: (.slice a g.length cap) :: (.int .i64 (g.length : Int)) :: (.int .i64 (k : Int)) :: us 11 :: us 12 :: us 13 :: us 14 :: us 15 :: us 16 :: us 17 :: us 18 :: us 19 :: us 20 :: us 21 :: us 22 :: us 23 :: us 24 :: us 25 :: us 26 :: us 27 :: []), defers := marks Ds } ∧
    k ≤ g.length ∧ Hid (∀ j, j < k → okM L g (g[j]?.getD 0) = true) ∧ Hid (GcW w W (.slice a g.length cap) M Ds)
theorem gcSt_of {w W : World} {a : Option Addr} {cap M k : Nat} {L g : List Int} {Ds : List Nat} (tm : Array Value) (ds : List Deferred) (hds : ds = marks Ds)
    (h : tm = List.toArray ((.slice a g.length cap) :: (.map (some M)) :: (.pointer (some ⟨w.heap.size, 0, none⟩)) :: (.pointer (some ⟨w.heap.size + 1, 0, none⟩)) :: (.pointer (some ⟨w.heap.size + 1 + 1, 0, none⟩)) :: tm.getD 5 undef :: tm.getD 6 undef :: tm.getD 7 undef :: (.slice a g.length cap) :: (.int .i64 (g.length : Int)) :: (.int .i64 (k : Int)) :: tm.getD 11 undef :: tm.getD 12 undef :: tm.getD 13 undef :: tm.getD 14 undef :: tm.getD 15 undef :: tm.getD 16 undef :: tm.getD 17 undef :: tm.getD 18 undef :: tm.getD 19 undef :: tm.getD 20 undef :: tm.getD 21 undef :: tm.getD 22 undef :: tm.getD 23 undef :: tm.getD 24 undef :: tm.getD 25 undef :: tm.getD 26 undef :: tm.getD 27 undef :: [])) (hk : k ≤ g.length) (HP : Hid (∀ j, j < k → okM L g (g[j]?.getD 0) = true)) (HW : Hid (GcW w W (.slice a g.length cap) M Ds)) :
    GcSt w a cap M L g { tmps := tm, defers := ds } W :=
  ⟨k, Ds, fun i => tm.getD i undef, by rw [hds]; exact congrArg (fun t => ({ tmps := t, defers := marks Ds } : Act)) h, hk, HP, HW⟩



end Go.Proofs.YtpdhnjdnlgnniaaGreat

/-! 'append(row, list...)' of pairs, as a run. -/
namespace Go.Proofs.YtpdhnjdnlgnniaaGreat
open Go.RowKit

theorem wp_append_run {P : Program} {o : Oper} {a : Act} {w w' : World} {K : Act → World → Prop} {Q : Exit → Act → World → Prop} {s y : Operand} {T : TypeId} (ho : o.op = .call { callee := .builtin .append, args := #[s, y], argTypes := #[T, T] })
    {v u v' : Value} (hs : a.eval s = v) (hy : a.eval y = u) (hr : (Builtin.append_ #[T, T] o.type #[v, u]).run P w = .ok v' w') (hK : K (a.put o.dst v') w') : o.wp P a w K Q := by
  unfold Oper.wp execOp
  simp only [ho, resolve, invoke, builtin, Sem.run_bind, Sem.run_pure, Result.andThen_ok, List.map_toArray, List.map_cons, List.map_nil, hs, hy, hr]
  exact hK
/-- 'append(row, list...)' of pairs, as a run. -/
theorem append_run {w : World} {base : Nat} {v : Value} {m : Nat} {xs ys : List Int} {ad : Addr} {l c : Nat} (hown : w.ownsRow base 47 2 v m (xs.map (Value.int .i64))) (hbase : base ≤ w.heap.size) (hm : m ≤ 1048576) (hl : l ≤ 1048576) (hys : ys.length = l * 2)
    (hc : ∀ j, j < l * 2 → w.cell? (ad.add j) = some (.int .i64 (ys[j]?.getD 0))) :
    ∃ v' w', (Builtin.append_ #[32, 32] 32 #[v, .slice (some ad) l c]).run Tryz.prog w = .ok v' w' ∧ w'.ownsRow base 47 2 v' (m + l) ((xs ++ ys).map (Value.int .i64)) ∧ w.grownBy w' v.ownBlock ∧ Below base w w' := by
  obtain ⟨i0, hi, hz0, hz1, hz2⟩ := info_parts info_pair
  obtain ⟨v', w', h1, h2, h3, _, _⟩ := run_append_own_at (P := Tryz.prog) (w := w) base 32 32 47 i0 (.agg #[.int .i64 0, .int .i64 0]) 2 16 Tryz.underlying32 hi hz0 hz1 hz2 rfl (by decide) v m (xs.map (Value.int .i64)) hown ad l c (ys.map (Value.int .i64)) (by simp [hys]) (fun j u hj => by
    have hjl : j < ys.length := by
      have := (List.getElem?_eq_some_iff.1 hj).1
      simpa using this
    have h := hc j (by omega)
    rw [List.getElem?_map, List.getElem?_eq_getElem hjl] at hj
    rw [List.getElem?_eq_getElem hjl] at h
    simp at hj h
    rw [h, hj]) (fun u hu => by
    obtain ⟨x, _, rfl⟩ := List.mem_map.1 hu
    rfl) (by unfold maxLen; omega) (by omega) hbase
  exact ⟨v', w', h1, by rw [List.map_append]; exact h2, h3, (Below.refl base w).grown h3 hbase (fun k hk => (hown.lt k hk).1)⟩
/-- A list of one pair. -/
theorem one_pair {w : World} {base : Nat} (hb : base ≤ w.heap.size) (x y : Int) : (w.alloc (.cells #[.int .i64 x, .int .i64 y] 47)).ownsRow base 47 2 (.slice (some ⟨w.heap.size, 0, none⟩) 1 1) 1 ([x, y].map (Value.int .i64)) :=
  ⟨by simp, .inr ⟨w.heap.size, 1, _, rfl, hb, heap_alloc_new w _, Nat.le_refl _, by decide, by simp, by simp⟩⟩

theorem wpList_append_run {P : Program} {ops : Array Oper} {rest : List Oper} {o : Oper} {a : Act} {w w' : World} {Q : Exit → Act → World → Prop} (hgd : o.guard = none) {s y : Operand} {T : TypeId} (ho : o.op = .call { callee := .builtin .append, args := #[s, y], argTypes := #[T, T] })
    {v u v' : Value} (hs : a.eval s = v) (hy : a.eval y = u) (hr : (Builtin.append_ #[T, T] o.type #[v, u]).run P w = .ok v' w') (hK : wpList P ops Q rest (a.put o.dst v') w') : wpList P ops Q (o :: rest) a w :=
  wpList_plain hgd fun _ hK' => wp_append_run ho hs hy hr (hK' _ _ hK)

theorem map_get {ys : List Int} {j : Nat} (h : j < ys.length) : (ys.map (Value.int .i64))[j]? = some (.int .i64 (ys[j]?.getD 0)) := by simp [h]

theorem own_pairs {w : World} {base b n c : Nat} {qs : List Int} (h : w.ownsRow base 47 2 (.slice (some ⟨b, 0, none⟩) n c) n (qs.map (Value.int .i64))) : b < w.heap.size ∧ n ≤ c ∧ ∀ i, i < qs.length → w.cell? ⟨b, 0 + i, none⟩ = some (.int .i64 (qs[i]?.getD 0)) := by
  refine ⟨(h.lt b rfl).2, ?_, fun i hi => ?_⟩
  · rcases h.2 with ⟨h1, _⟩ | ⟨g, cp, cur, h1, _, _, h2, _⟩
    · cases h1
    · injection h1 with _ h3
      omega
  · have := h.cells rfl i _ (map_get hi)
    have hadd : (⟨b, 0, none⟩ : Addr).add i = ⟨b, 0 + i, none⟩ := by unfold Addr.add; split <;> simp_all
    rwa [hadd] at this
theorem row_later {w w' : World} {B base e s n : Nat} {v : Value} {xs : List Value} (h : w.ownsRow base e s v n xs) (hb : Below w.heap.size w w') (_ : B = 0) : w'.ownsRow base e s v n xs :=
  h.kept (row := none) ⟨hb.os, hb.tape, hb.output, hb.size, fun q hq _ => hb.block q hq⟩ (by cases hv : v.ownBlock <;> simp)

end Go.Proofs.YtpdhnjdnlgnniaaGreat

/-! Lists of groups in memory; the first group that can follow; a group taken out of a list. -/
namespace Go.Proofs.YtpdhnjdnlgnniaaGreat
open Go.RowKit

theorem info_rowO : (Tryz.prog.info? 22).map (fun i => (i.zero, i.size, i.bytes)) = some (some (.slice none 0 0), 1, 24) := by kernel_rfl

/-- The first of a row. -/
theorem own_firstO {w : World} {base g n cap m size e : Nat} {xs : List Value} (h : w.ownsRow base e size (.slice (some ⟨g, 0, none⟩) n cap) n xs) (hm : m ≤ n) :
    w.ownsRow base e size (.slice (some ⟨g, 0, none⟩) m cap) m (xs.take (m * size)) := by
  rcases h.2 with ⟨h', _⟩ | ⟨g', cap', cur, h', hb, hg, hnc, hcm, hcs, htake⟩
  · simp at h'
  · simp only [Value.slice.injEq, Option.some.injEq, Addr.mk.injEq, and_true, true_and] at h'
    obtain ⟨rfl, rfl⟩ := h'
    have hms : m * size ≤ n * size := Nat.mul_le_mul_right _ hm
    refine ⟨by rw [List.length_take, h.1]; omega, .inr ⟨g, cap, cur, rfl, hb, hg, by omega, hcm, hcs, ?_⟩⟩
    rw [← htake, List.take_take, Nat.min_eq_left hms]

/-- v is a slice with the integers g, in a block of its own. -/
def GrpV (w : World) (B : Nat) (v : Value) (g : List Int) : Prop := ∃ b, v = .slice (some ⟨b, 0, none⟩) g.length g.length ∧ B ≤ b ∧ w.heap[b]? = some (.cells (g.map (Value.int .i64)).toArray 2 (0, 0))
theorem GrpV.kept {w w' : World} {B : Nat} {v : Value} {g : List Int} (h : GrpV w B v g) {row : Option Nat} (hg : w.grownBy w' row) (hr : ∀ r, row = some r → ∀ cur, w.heap[r]? ≠ some (.cells cur 2 (0, 0))) : GrpV w' B v g := by
  obtain ⟨b, h1, h2, h3⟩ := h
  exact ⟨b, h1, h2, (hg.block b (lt_of_get h3) (fun e => hr b e.symm _ h3)).trans h3⟩
theorem GrpV.below {w w' : World} {B : Nat} {v : Value} {g : List Int} (h : GrpV w B v g) (hb : Go.RowKit.Below w.heap.size w w') : GrpV w' B v g := by
  obtain ⟨b, h1, h2, h3⟩ := h
  exact ⟨b, h1, h2, (hb.block b (lt_of_get h3)).trans h3⟩
theorem GrpV.slI {w : World} {B : Nat} {v : Value} {g : List Int} (h : GrpV w B v g) : ∃ a, v = .slice a g.length g.length ∧ SlI w w.heap.size a g := by
  obtain ⟨b, h1, h2, h3⟩ := h
  refine ⟨_, h1, .inr ⟨b, 0, lt_of_get h3, rfl, fun i hi => ?_⟩⟩
  simp [World.cell?, h3, hi]
theorem GrpV.one {w : World} {B : Nat} {v : Value} {g : List Int} (h : GrpV w B v g) : v.oneCell' = true := by
  obtain ⟨b, rfl, _, _⟩ := h
  rfl
/-- A list of such slices. -/
def Gs (w : World) (B : Nat) (vs : List Value) (gs : List (List Int)) : Prop := vs.length = gs.length ∧ ∀ i, i < gs.length → GrpV w B (vs[i]?.getD undef) (gs[i]?.getD [])
theorem Gs.kept {w w' : World} {B : Nat} {vs : List Value} {gs : List (List Int)} (h : Gs w B vs gs) {row : Option Nat} (hg : w.grownBy w' row) (hr : ∀ r, row = some r → ∀ cur, w.heap[r]? ≠ some (.cells cur 2 (0, 0))) : Gs w' B vs gs := ⟨h.1, fun i hi => (h.2 i hi).kept hg hr⟩
theorem Gs.below {w w' : World} {B : Nat} {vs : List Value} {gs : List (List Int)} (h : Gs w B vs gs) (hb : Go.RowKit.Below w.heap.size w w') : Gs w' B vs gs := ⟨h.1, fun i hi => (h.2 i hi).below hb⟩
theorem Gs.nil (w : World) (B : Nat) : Gs w B [] [] := ⟨rfl, fun i hi => absurd hi (by simp)⟩
theorem Gs.snoc {w : World} {B : Nat} {vs : List Value} {gs : List (List Int)} (h : Gs w B vs gs) {v : Value} {g : List Int} (hv : GrpV w B v g) : Gs w B (vs ++ [v]) (gs ++ [g]) := by
  refine ⟨by simp [h.1], fun i hi => ?_⟩
  by_cases e : i < gs.length
  · rw [List.getElem?_append_left (by rw [h.1]; exact e), List.getElem?_append_left e]
    exact h.2 i e
  · have : i = gs.length := by simp at hi; omega
    subst this
    rw [← h.1, List.getElem?_append_right (Nat.le_refl _), h.1, List.getElem?_append_right (Nat.le_refl _)]
    simpa using hv
theorem Gs.del {w : World} {B : Nat} {vs : List Value} {gs : List (List Int)} (h : Gs w B vs gs) {i : Nat} (hi : i < gs.length) : Gs w B (vs.take i ++ vs.drop (i + 1)) (gs.take i ++ gs.drop (i + 1)) := by
  have hl := h.1
  refine ⟨by simp [hl], fun j hj => ?_⟩
  simp at hj
  by_cases e : j < i
  · rw [List.getElem?_append_left (by simp; omega), List.getElem?_append_left (by simp; omega), List.getElem?_take_of_lt e, List.getElem?_take_of_lt e]
    exact h.2 j (by omega)
  · rw [List.getElem?_append_right (by simp; omega), List.getElem?_append_right (by simp; omega), List.getElem?_drop, List.getElem?_drop]
    simp only [List.length_take]
    rw [show i + 1 + (j - min i vs.length) = j + 1 by omega, show i + 1 + (j - min i gs.length) = j + 1 by omega]
    exact h.2 (j + 1) (by omega)
theorem Gs.ones {w : World} {B : Nat} {vs : List Value} {gs : List (List Int)} (h : Gs w B vs gs) : ∀ v ∈ vs, v.oneCell' = true := by
  intro v hv
  obtain ⟨i, hi, rfl⟩ := List.getElem_of_mem hv
  have := (h.2 i (by rw [← h.1]; exact hi)).one
  rwa [List.getElem?_eq_getElem hi] at this

/-- 'groups = append(groups, group)' on a list that the call itself has made. -/
theorem append_rowV {w : World} {ops : Array Oper} {rest : List Oper} {o : Oper} {a : Act} {Q : Exit → Act → World → Prop} (hgd : o.guard = none) {s y : Operand}
    (ho : o.op = .call { callee := .builtin .append, args := #[s, y], argTypes := #[90, 90] })
    {base n sz : Nat} {v u : Value} {xs : List Value} (hsz : w.heap.size = sz) (hn : n = xs.length) (hown : w.ownsRow base 22 1 v n xs) (hbase : base ≤ w.heap.size) (hl : n ≤ 1048576) (hu : u.oneCell' = true)
    (hs : a.eval s = v) (hy : a.eval y = .slice (some ⟨sz, 0, none⟩) 1 1)
    (hK : ∀ v' w', w'.ownsRow base 22 1 v' (n + 1) (xs ++ [u]) → w.grownBy w' v.ownBlock → (v'.ownBlock = v.ownBlock ∨ v'.ownBlock = some (sz + 1)) → Below base w w' → wpList Tryz.prog ops Q rest (a.put o.dst v') w') :
    wpList Tryz.prog ops Q (o :: rest) a (w.alloc (.cells #[u] 22)) := by
  subst hn
  subst hsz
  obtain ⟨i0, hi, hz0, hz1, hz2⟩ := info_parts info_rowO
  refine wpList_append_own_at _ hgd s y 90 ho base 22 i0 (.slice none 0 0) 1 24 Tryz.underlying90 hi hz0 hz1 hz2 rfl (by decide) v _ _ hs (hown.alloc _) ⟨w.heap.size, 0, none⟩ 1 1 [u] hy rfl (cell_one_new _ _ _) (by simpa using hu) (by unfold maxLen; omega) (by omega) (by simp; omega) ?_
  intro v' w1 hown1 hgrow1 _ hat
  have hg : w.grownBy w1 v.ownBlock := (World.grownBy_alloc w _ _).trans hgrow1
  refine hK v' w1 (by simpa using hown1) hg (by simpa using hat) ((Below.refl base w).grown hg hbase (fun k hk => (hown.lt k hk).1))



/-- A row that is written in one piece. -/
theorem own_lay {base e g n cap : Nat} : ∀ (us : List Value) (o : Nat) (w : World) (xs : List Value), w.ownsRow base e 1 (.slice (some ⟨g, 0, none⟩) n cap) n xs → o + us.length ≤ xs.length →
    (w.setCells g o us).ownsRow base e 1 (.slice (some ⟨g, 0, none⟩) n cap) n (xs.take o ++ us ++ xs.drop (o + us.length)) ∧ w.grownBy (w.setCells g o us) (some g)
  | [], o, w, xs, h, _ => ⟨by
    have e : xs.take o ++ [] ++ xs.drop (o + ([] : List Value).length) = xs := by simp
    rw [e]
    exact h, ⟨rfl, rfl, rfl, Nat.le_refl _, fun _ _ _ => rfl⟩⟩
  | u :: us, o, w, xs, h, ho => by
    simp only [List.length_cons] at ho
    obtain ⟨h1, h2⟩ := h.stored o u
    obtain ⟨e2, e3⟩ := own_lay us (o + 1) _ _ h1 (by simp; omega)
    refine ⟨?_, h2.trans e3⟩
    have e : (xs.set o u).take (o + 1) ++ us ++ (xs.set o u).drop (o + 1 + us.length) = xs.take o ++ (u :: us) ++ xs.drop (o + (us.length + 1)) := by
      rw [take_snocV (by simp; omega), List.take_set_of_le (Nat.le_refl _), List.getElem?_set_self (by omega), List.drop_set_of_lt (by omega), show o + 1 + us.length = o + (us.length + 1) by omega]
      simp
    rw [e] at e2
    exact e2
where
  take_snocV {xs : List Value} {k : Nat} (h : k < xs.length) : xs.take (k + 1) = xs.take k ++ [xs[k]?.getD undef] := by
    rw [List.take_succ_eq_append_getElem h, List.getElem?_eq_getElem h]; simp

theorem zero_row (w : World) : (zeroValue 22).run Tryz.prog w = .ok (.slice none 0 0) w := by kernel_rfl


end Go.Proofs.YtpdhnjdnlgnniaaGreat

/-! groupsOf, walked. -/
namespace Go.Proofs.YtpdhnjdnlgnniaaGreat
open Go.RowKit

theorem ownsRow_form {w : World} {base e n : Nat} {v : Value} {xs : List Value} (h : w.ownsRow base e 1 v n xs) : ∃ a cp, v = .slice a n cp := by
  rcases h.2 with ⟨rfl, rfl⟩ | ⟨g, cap, _, rfl, _⟩
  · exact ⟨none, 0, rfl⟩
  · exact ⟨_, cap, rfl⟩
/-- The block of a list of rows is none of integers. -/
theorem row_not_int {w : World} {base n : Nat} {v : Value} {xs : List Value} (h : w.ownsRow base 22 1 v n xs) : ∀ r, v.ownBlock = some r → ∀ cur, w.heap[r]? ≠ some (.cells cur 2 (0, 0)) := by
  rcases h.2 with ⟨rfl, rfl⟩ | ⟨g, cap, cur', rfl, _, hg, _⟩
  · intro r hr; cases hr
  · intro r hr cur hcur
    cases hr
    rw [hg] at hcur
    injection hcur with hcur
    injection hcur with _ h2 _
    exact absurd h2 (by decide)
theorem map_row_ne {R : Value → Option (DataW Unit × List MemPlace)} {w : World} {key M cnt : Nat} {D : DataW Unit} {base e n : Nat} {v : Value} {xs : List Value} (hm : w.ownsMap Tryz.prog key R M cnt D) (hr : w.ownsRow base e 1 v n xs) : some M ≠ v.ownBlock := by
  rcases hr.2 with ⟨rfl, rfl⟩ | ⟨g, cap, cur', rfl, _, hg, _⟩
  · intro h; cases h
  · intro h
    cases h
    obtain ⟨_, _, hh, _⟩ := hm
    rw [hh] at hg
    cases hg
def highsL (ps : List Int) (k : Nat) : List Int := (List.range k).map fun j => at0 ps (j * 2 + 1)
theorem highsL_succ (ps : List Int) (k : Nat) : highsL ps (k + 1) = highsL ps k ++ [at0 ps (k * 2 + 1)] := by simp [highsL, List.range_succ]
theorem highsL_mem (ps : List Int) (n : Nat) (f : Int) : decide (f ∈ highsL ps n) = isHighB ps n f := by
  rw [Bool.eq_iff_iff, isHighB_iff]
  simp [highsL]
theorem left_snoc (fs ps : List Int) (n : Nat) (L : List Int) {k : Nat} (hk : k < fs.length) : leftL (fs.take (k + 1)) ps n L = leftL (fs.take k) ps n L ++ (if !isHighB ps n (fs[k]?.getD 0) && !decide (fs[k]?.getD 0 ∈ L) then [fs[k]?.getD 0] else []) := by
  rw [take_snoc hk]
  unfold leftL
  rw [List.filter_append]
  congr 1
  rw [List.filter_cons]
  simp


end Go.Proofs.YtpdhnjdnlgnniaaGreat

/-! slices.Grow at nil and slices.Concat, over lists of int64. -/
namespace Go.Proofs.YtpdhnjdnlgnniaaGreat
open Go.RowKit

set_option maxRecDepth 100000 in
set_option maxHeartbeats 2000000 in
theorem growI_nil (n : Nat) (w : World) (hn : n ≤ 1048576) :
    Calls Tryz.prog 86 #[.slice none 0 0, .int .i64 n] w fun e w' => ∃ v, e = .returned v ∧ w'.ownsRow w.heap.size 2 1 v 0 [] ∧ Below w.heap.size w w' := by
  by_cases h0 : n = 0
  · subst h0
    go_enter Tryz.func86, Tryz.ntmps86
    go_wp2_with fail
    go_ret
    exact ⟨.slice none 0 0, rfl, World.ownsRow_nil _ _ _ _, Below.refl _ _⟩
  · obtain ⟨i0, hi0, hz0, hzs, hzb⟩ := info_parts info_i64
    have hrz := Lib.run_append_nil_zeros (P := Tryz.prog) w 22 3 22 2 i0 _ .i64 .i64 Tryz.underlying22 Tryz.underlying3 hi0 hz0 n (by omega) (by omega) (by omega) (by rw [hzb]; omega)
    obtain ⟨G, hG⟩ : ∃ G, G = grownCap w n 0 2 := ⟨_, rfl⟩
    rw [← hG] at hrz
    have hGn : n ≤ G := by rw [hG]; exact grownCap_ge w _ _ _
    have hG63 : G ≤ maxLen := by rw [hG]; exact grownCap_le_maxLen w n 0 2 (by unfold maxLen; omega)
    obtain ⟨ROW, hROW⟩ : ∃ ROW : Array Value, ROW = Builtin.zeroCells (Value.int .i64 0).cells n ++ Builtin.zeroCells (Value.int .i64 0).cells (G - n) := ⟨_, rfl⟩
    rw [← hROW] at hrz
    have hRz : ROW.size = G * 1 := by
      rw [hROW]
      simp [Builtin.zeroCells, Value.cells]
      omega
    have HO : Hid ((w.drew.alloc (.cells ROW 2)).ownsRow w.heap.size 2 1 (.slice (some ⟨w.heap.size, 0, none⟩) 0 G) 0 []) := hid (World.ownsRow_made (base := w.heap.size) (e := 2) (size := 1) w.drew ROW G (Nat.le_refl _) hG63 hRz)
    have HB : Hid (Below w.heap.size w (w.drew.alloc (.cells ROW 2))) := hid (by
      have h := (Below.refl _ w).alloc (Nat.le_refl _) (.cells ROW 2)
      exact ⟨h.os, h.tape, h.output, h.size, h.block⟩)
    have hpos : (0 : Int) < (n : Int) := by omega
    have hneg : ¬ ((n : Int) < 0) := by omega
    clear hROW hRz hG hG63 hi0 hz0 hzs hzb
    obtain ⟨W1, hW1⟩ : ∃ W1, W1 = w.drew.alloc (.cells ROW 2) := ⟨_, rfl⟩
    rw [← hW1] at HO HB hrz
    clear hW1
    go_enter Tryz.func86, Tryz.ntmps86
    go_wp2_with (at_builtin; refine Lib.wpList_append_run _ rfl _ _ _ _ rfl _ _ rfl rfl _ _ hrz ?_)
    go_ret
    exact ⟨_, rfl, HO.out, HB.out⟩

theorem flat_take {gs : List (List Int)} {k : Nat} (h : k < gs.length) : (gs.take (k + 1)).flatten = (gs.take k).flatten ++ gs[k]?.getD [] := by
  rw [List.take_succ_eq_append_getElem h, List.getElem?_eq_getElem h, List.flatten_append, Option.getD_some]
  show _ ++ (gs[k] ++ []) = _
  rw [List.append_nil]
theorem flat_take_le (gs : List (List Int)) (k : Nat) : (gs.take k).flatten.length ≤ gs.flatten.length := by
  have h : gs.flatten.length = (gs.take k ++ gs.drop k).flatten.length := by rw [List.take_append_drop]
  rw [h, List.flatten_append, List.length_append]
  omega

set_option maxRecDepth 100000 in
set_option maxHeartbeats 4000000 in
theorem concatG_any (v : Value) (m B : Nat) (vs : List Value) (gs : List (List Int)) (w : World) (hm : m = gs.length) (hn : m ≤ 1048576) (hown : w.ownsRow B 22 1 v m vs) (hG : Gs w B vs gs) (hl : gs.flatten.length ≤ 1048576) :
    Calls Tryz.prog 72 #[v] w fun e w' => ∃ v', e = .returned v' ∧ w'.ownsRow w.heap.size 2 1 v' gs.flatten.length (gs.flatten.map (Value.int .i64)) ∧ Below w.heap.size w w' := by
  obtain ⟨a, cp, rfl⟩ := ownsRow_form hown
  have hcs : ∀ i, i < m → ∃ g b c, a = some ⟨g, 0, none⟩ ∧ g < w.heap.size ∧ w.cell? ⟨g, i, none⟩ = some (.slice (some ⟨b, 0, none⟩) (gs[i]?.getD []).length c) ∧ b < w.heap.size ∧ ∀ j, j < (gs[i]?.getD []).length → w.cell? ⟨b, j, none⟩ = some (.int .i64 ((gs[i]?.getD [])[j]?.getD 0)) := by
    intro i hi
    have hlv : vs.length = m := by have := hown.1; omega
    obtain ⟨b, hb1, _, hb3⟩ := hG.2 i (by omega)
    rcases hown.2 with ⟨h1, h2⟩ | ⟨g, cap, cur, h1, _, hg, _⟩
    · omega
    · injection h1 with h1 _ _
      subst h1
      refine ⟨g, b, (gs[i]?.getD []).length, rfl, lt_of_get hg, ?_, lt_of_get hb3, fun j hj => by simp [World.cell?, hb3, hj]⟩
      rw [hown.cellAt i (by omega), List.getElem?_eq_getElem (by omega)]
      rw [List.getElem?_eq_getElem (by omega), Option.getD_some] at hb1
      rw [hb1]
  have Hcs := hid hcs
  have Hm := hid hm
  have HF := hid (flat_take_le gs)
  have HFt := hid (fun k (h : k < gs.length) => flat_take (gs := gs) h)
  clear hcs hm hown hG
  go_enter Tryz.func72, Tryz.ntmps72
  go_wp2_with fail
  go_loopw [3, 11] (fun sv iv wx => ∃ k : Nat, k ≤ m ∧ sv = .int .i64 ((gs.take k).flatten.length : Nat) ∧ iv = .int .i64 k ∧ Hid (wx = w)) (fun _ iv _ => m - (intOf iv).toNat)
  case atStart => exact ⟨0, Nat.zero_le _, rfl, rfl, hid rfl⟩
  case round =>
    obtain ⟨k, hk, rfl, rfl, HW⟩ := hrel
    have hww : wr = w := HW.out
    clear HW
    subst hww
    obtain ⟨s, hs⟩ : ∃ s, s = (gs.take k).flatten.length := ⟨_, rfl⟩
    have hsl : s ≤ 1048576 := by rw [hs]; exact Nat.le_trans (HF.out k) hl
    by_cases hlt : k < m
    · obtain ⟨g, b, c, rfl, hg, hc, _, _⟩ := Hcs.out k hlt
      obtain ⟨l, hle⟩ : ∃ l, l = (gs[k]?.getD []).length := ⟨_, rfl⟩
      have hs2 : (gs.take (k + 1)).flatten.length = s + l := by rw [HFt.out k (by have := Hm.out; omega), List.length_append, hs, hle]
      have hsl2 : s + l ≤ 1048576 := by rw [← hs2]; exact Nat.le_trans (HF.out _) hl
      rw [← hle] at hc
      rw [← hs]
      have Hs2 := hid hs2
      have hi0 : (0 : Int) ≤ (k : Int) := by omega
      have hi1 : (k : Int) < (m : Int) := by omega
      have hneg : ¬ ((s : Int) + (l : Int) < 0) := by omega
      clear hs2 hs hle
      go_wp2_with fail
      go_roundw
      case rel => exact ⟨k + 1, by omega, by rw [Hs2.out]; go_num, by go_num, trivial⟩
      case measure => simp [intOf]; omega
    · obtain rfl : k = m := by omega
      have htk : (gs.take k).flatten.length = gs.flatten.length := by rw [List.take_of_length_le (by have := Hm.out; omega)]
      rw [← hs] at htk
      rw [← hs]
      have HG := hid (growI_nil s wr hsl)
      have Hs := hid htk
      clear hs htk
      go_wp2_with fail
      refine HG.out.mono ?_
      rintro e w1 ⟨v1, rfl, hown1, hB1⟩
      have HO1 := hid hown1
      have HB1 := hid hB1
      clear hown1 hB1 HG
      go_wp2_with fail
      go_loopw [6, 27] (fun ov iv wx => ∃ (j : Nat) (v : Value), j ≤ k ∧ ov = v ∧ iv = .int .i64 j ∧ Hid (wx.ownsRow wr.heap.size 2 1 v (gs.take j).flatten.length ((gs.take j).flatten.map (Value.int .i64))) ∧ Hid (Below wr.heap.size wr wx)) (fun _ iv _ => k - (intOf iv).toNat)
      case atStart => exact ⟨0, v1, Nat.zero_le _, rfl, rfl, HO1, HB1⟩
      case round =>
        clear HO1
        obtain ⟨j, v, hj, rfl, rfl, HO, HB⟩ := hrel
        by_cases hlt2 : j < k
        · obtain ⟨g, b, c, rfl, hg, hc, hbl, hcc⟩ := Hcs.out j hlt2
          obtain ⟨ys, hys⟩ : ∃ ys, ys = gs[j]?.getD [] := ⟨_, rfl⟩
          obtain ⟨xs, hxs⟩ : ∃ xs, xs = (gs.take j).flatten := ⟨_, rfl⟩
          have hx2 : (gs.take (j + 1)).flatten = xs ++ ys := by rw [HFt.out j (by have := Hm.out; omega), hxs, hys]
          have hxl : xs.length + ys.length ≤ 1048576 := by
            have := HF.out (j + 1)
            rw [hx2, List.length_append] at this
            omega
          rw [← hys] at hc hcc
          rw [← hxs] at HO
          have hcx := (HB.out.cell (p := ⟨g, j, none⟩) hg).trans hc
          have hcy : ∀ t, t < ys.length → wr.cell? ⟨b, t, none⟩ = some (.int .i64 (ys[t]?.getD 0)) := fun t ht => (HB.out.cell (p := ⟨b, t, none⟩) hbl).trans (hcc t ht)
          have Hcy := hid hcy
          have Hx2 := hid hx2
          have hi0 : (0 : Int) ≤ (j : Int) := by omega
          have hi1 : (j : Int) < (k : Int) := by omega
          have hsz := HB.out.size
          clear hc hcc hcy hx2 hys hxs
          go_wp2_with (at_builtin; refine append_ints_at rfl rfl HO.out hsz (by omega) (by omega) rfl rfl Hcy.out ?_; intro v' w4 hown4 hgrow4 _ hB4)
          have Hown4 := hid hown4
          have HB4 := hid (HB.out.trans ((hB4.mono (Nat.le_refl _))))
          clear hown4 hgrow4 hB4
          go_wp2_with fail
          go_roundw
          case rel => exact ⟨j + 1, v', by omega, rfl, by go_num, hid (by rw [Hx2.out]; exact Hown4.out), HB4⟩
          case measure => simp [intOf]; omega
        · obtain rfl : j = k := by omega
          rw [List.take_of_length_le (show gs.length ≤ j by have := Hm.out; omega)] at HO
          go_wp2_with fail
          go_ret
          exact ⟨_, rfl, HO.out, HB.out⟩

end Go.Proofs.YtpdhnjdnlgnniaaGreat

/-! slices.Concat of lists that lie anywhere. -/
namespace Go.Proofs.YtpdhnjdnlgnniaaGreat
open Go.RowKit

theorem append_nil_runI (w : World) (ty : TypeId) (ap al : Option Addr) (n cap c : Nat) (h : n ≤ cap) :
    (Builtin.append_ #[22, 22] ty #[.slice ap n cap, .slice al 0 c]).run Tryz.prog w = .ok (.slice ap n cap) w := by
  obtain ⟨i0, hi, _⟩ := info_parts info_i64
  cases ap <;> cases al <;> simp [Builtin.append_, run_underlying Tryz.underlying22, sizeOf, typeInfo, hi, Builtin.lenOf, h, Builtin.firstCells, loadCells, loadCellsFrom, storeCells]

/-- 'append(row, list...)' of integers, wherever the list lies. -/
theorem append_sl {w : World} {ops : Array Oper} {rest : List Oper} {o : Oper} {a : Act} {Q : Exit → Act → World → Prop} (hgd : o.guard = none) {s y : Operand}
    (ho : o.op = .call { callee := .builtin .append, args := #[s, y], argTypes := #[22, 22] })
    {base : Nat} {v : Value} {xs ys : List Int} {al : Option Addr} {c : Nat} (hown : w.ownsRow base 2 1 v xs.length (xs.map (Value.int .i64))) (hbase : base ≤ w.heap.size) (hl : xs.length ≤ 1048576) (hly : ys.length ≤ 1048576)
    (hs : a.eval s = v) (hy : a.eval y = .slice al ys.length c) (hc : ys = [] ∨ ∃ g off, al = some ⟨g, off, none⟩ ∧ ∀ i, i < ys.length → w.cell? ⟨g, off + i, none⟩ = some (.int .i64 (ys[i]?.getD 0)))
    (hK : ∀ v' w', w'.ownsRow base 2 1 v' (xs ++ ys).length ((xs ++ ys).map (Value.int .i64)) → Below base w w' → wpList Tryz.prog ops Q rest (a.put o.dst v') w') :
    wpList Tryz.prog ops Q (o :: rest) a w := by
  rcases hc with rfl | ⟨g, off, rfl, hc⟩
  · obtain ⟨ap, cp, rfl⟩ := ownsRow_form hown
    refine wpList_plain hgd fun K hK' => ?_
    have hle : xs.length ≤ cp := by
      rcases hown.2 with ⟨h0, h1⟩ | ⟨g, cap, cur, hv, _, _, h1, _⟩
      · injection h0; omega
      · injection hv; omega
    have hr := append_nil_runI w o.type ap al xs.length cp c hle
    unfold Oper.wp execOp
    simp only [ho, resolve, invoke, builtin, Sem.run_bind, Sem.run_pure, Result.andThen_ok, List.map_toArray, List.map_cons, List.map_nil, hs, hy, List.length_nil, hr]
    exact hK' _ _ (hK _ _ (by simpa using hown) (Below.refl _ _))
  · obtain ⟨i0, hi, hz0, hz1, hz2⟩ := info_parts info_i64
    refine wpList_append_own_at w hgd s y 22 ho base 2 i0 (.int .i64 0) 1 8 Tryz.underlying22 hi hz0 hz1 hz2 rfl (by decide) v _ _ hs hown ⟨g, off, none⟩ ys.length c (ys.map (Value.int .i64)) hy (by simp) (fun j u hj => ?_) (fun u hu => ?_) (by unfold maxLen; omega) (by omega) hbase ?_
    · have hjl : j < ys.length := by
        have := (List.getElem?_eq_some_iff.1 hj).1
        simpa using this
      rw [List.getElem?_map, List.getElem?_eq_getElem hjl] at hj
      have := hc j hjl
      rw [List.getElem?_eq_getElem hjl] at this
      simp at hj this
      rw [← hj]
      rw [Addr.add_lit]
      exact this
    · obtain ⟨x, _, rfl⟩ := List.mem_map.1 hu
      rfl
    · intro v' w1 hown1 hgrow1 _ _
      exact hK v' w1 (by simpa using hown1) ((Below.refl base w).grown hgrow1 hbase (fun k hk => (hown.lt k hk).1))

/-- A list as a slice: nil, or with its cells. -/
def SlJ (w : World) (a : Option Addr) (_c : Nat) (ys : List Int) : Prop := ys = [] ∨ ∃ g off, g < w.heap.size ∧ a = some ⟨g, off, none⟩ ∧ ∀ i, i < ys.length → w.cell? ⟨g, off + i, none⟩ = some (.int .i64 (ys[i]?.getD 0))
theorem SlJ.later {w w' : World} {a : Option Addr} {c : Nat} {ys : List Int} (h : SlJ w a c ys) (hb : Below w.heap.size w w') (_hs : w.heap.size ≤ w'.heap.size) : SlJ w' a c ys := by
  rcases h with h | ⟨g, off, h1, h2, h3⟩
  · exact .inl h
  · exact .inr ⟨g, off, Nat.lt_of_lt_of_le h1 hb.size, h2, fun i hi => (hb.cell (p := ⟨g, off + i, none⟩) h1).trans (h3 i hi)⟩
theorem SlJ.use {w : World} {a : Option Addr} {c : Nat} {ys : List Int} (h : SlJ w a c ys) : ys = [] ∨ ∃ g off, a = some ⟨g, off, none⟩ ∧ ∀ i, i < ys.length → w.cell? ⟨g, off + i, none⟩ = some (.int .i64 (ys[i]?.getD 0)) := by
  rcases h with h | ⟨g, off, _, h2, h3⟩
  · exact .inl h
  · exact .inr ⟨g, off, h2, h3⟩
theorem slJ_own {w : World} {base e : Nat} {a : Option Addr} {c : Nat} {ys : List Int} {n : Nat} (hn : n = ys.length) (h : w.ownsRow base e 1 (.slice a n c) n (ys.map (Value.int .i64))) : SlJ w a c ys := by
  subst hn
  rcases h.2 with ⟨h0, h1⟩ | ⟨g, cap, cur, hv, hb, hg, h1, h2, h3, h4⟩
  · exact .inl (List.length_eq_zero_iff.1 h1)
  · injection hv with e1 e2 e3
    refine .inr ⟨g, 0, lt_of_get hg, e1, fun i hi => ?_⟩
    rcases owned_slI h with h0 | ⟨b, off, _, h2, h3⟩
    · rw [h0] at hi; simp at hi
    · rw [e1] at h2
      injection h2 with h2
      injection h2 with e4 e5 _
      have := h3 i hi
      rw [← e4, ← e5] at this
      exact this

set_option maxRecDepth 100000 in
set_option maxHeartbeats 4000000 in
theorem concatL_any (g cp m : Nat) (gs : List (List Int)) (w : World) (hm : m = gs.length) (hn : m ≤ 1048576) (hg : g < w.heap.size) (hc : ∀ i, i < m → ∃ a c, w.cell? ⟨g, i, none⟩ = some (.slice a (gs[i]?.getD []).length c) ∧ SlJ w a c (gs[i]?.getD [])) (hl : gs.flatten.length ≤ 1048576) :
    Calls Tryz.prog 72 #[.slice (some ⟨g, 0, none⟩) m cp] w fun e w' => ∃ v', e = .returned v' ∧ w'.ownsRow w.heap.size 2 1 v' gs.flatten.length (gs.flatten.map (Value.int .i64)) ∧ Below w.heap.size w w' := by
  have Hcs := hid hc
  have Hm := hid hm
  have HF := hid (flat_take_le gs)
  have HFt := hid (fun k (h : k < gs.length) => flat_take (gs := gs) h)
  clear hm hc
  go_enter Tryz.func72, Tryz.ntmps72
  go_wp2_with fail
  go_loopw [3, 11] (fun sv iv wx => ∃ k : Nat, k ≤ m ∧ sv = .int .i64 ((gs.take k).flatten.length : Nat) ∧ iv = .int .i64 k ∧ Hid (wx = w)) (fun _ iv _ => m - (intOf iv).toNat)
  case atStart => exact ⟨0, Nat.zero_le _, rfl, rfl, hid rfl⟩
  case round =>
    obtain ⟨k, hk, rfl, rfl, HW⟩ := hrel
    have hww : wr = w := HW.out
    clear HW
    subst hww
    obtain ⟨s, hs⟩ : ∃ s, s = (gs.take k).flatten.length := ⟨_, rfl⟩
    have hsl : s ≤ 1048576 := by rw [hs]; exact Nat.le_trans (HF.out k) hl
    by_cases hlt : k < m
    · obtain ⟨a, c, hc, _⟩ := Hcs.out k hlt
      obtain ⟨l, hle⟩ : ∃ l, l = (gs[k]?.getD []).length := ⟨_, rfl⟩
      have hs2 : (gs.take (k + 1)).flatten.length = s + l := by rw [HFt.out k (by have := Hm.out; omega), List.length_append, hs, hle]
      have hsl2 : s + l ≤ 1048576 := by rw [← hs2]; exact Nat.le_trans (HF.out _) hl
      rw [← hle] at hc
      rw [← hs]
      have Hs2 := hid hs2
      have hi0 : (0 : Int) ≤ (k : Int) := by omega
      have hi1 : (k : Int) < (m : Int) := by omega
      have hneg : ¬ ((s : Int) + (l : Int) < 0) := by omega
      clear hs2 hs hle
      go_wp2_with fail
      go_roundw
      case rel => exact ⟨k + 1, by omega, by rw [Hs2.out]; go_num, by go_num, trivial⟩
      case measure => simp [intOf]; omega
    · obtain rfl : k = m := by omega
      have htk : (gs.take k).flatten.length = gs.flatten.length := by rw [List.take_of_length_le (by have := Hm.out; omega)]
      rw [← hs] at htk
      rw [← hs]
      have HG := hid (growI_nil s wr hsl)
      have Hs := hid htk
      clear hs htk
      go_wp2_with fail
      refine HG.out.mono ?_
      rintro e w1 ⟨v1, rfl, hown1, hB1⟩
      have HO1 := hid hown1
      have HB1 := hid hB1
      clear hown1 hB1 HG
      go_wp2_with fail
      go_loopw [6, 27] (fun ov iv wx => ∃ (j : Nat) (v : Value), j ≤ k ∧ ov = v ∧ iv = .int .i64 j ∧ Hid (wx.ownsRow wr.heap.size 2 1 v (gs.take j).flatten.length ((gs.take j).flatten.map (Value.int .i64))) ∧ Hid (Below wr.heap.size wr wx)) (fun _ iv _ => k - (intOf iv).toNat)
      case atStart => exact ⟨0, v1, Nat.zero_le _, rfl, rfl, HO1, HB1⟩
      case round =>
        clear HO1
        obtain ⟨j, v, hj, rfl, rfl, HO, HB⟩ := hrel
        by_cases hlt2 : j < k
        · obtain ⟨a, c, hc, hcc⟩ := Hcs.out j hlt2
          obtain ⟨ys, hys⟩ : ∃ ys, ys = gs[j]?.getD [] := ⟨_, rfl⟩
          obtain ⟨xs, hxs⟩ : ∃ xs, xs = (gs.take j).flatten := ⟨_, rfl⟩
          have hx2 : (gs.take (j + 1)).flatten = xs ++ ys := by rw [HFt.out j (by have := Hm.out; omega), hxs, hys]
          have hxl : xs.length + ys.length ≤ 1048576 := by
            have := HF.out (j + 1)
            rw [hx2, List.length_append] at this
            omega
          rw [← hys] at hc hcc
          rw [← hxs] at HO
          have hcx := (HB.out.cell (p := ⟨g, j, none⟩) hg).trans hc
          have Hcy := hid (hcc.later HB.out HB.out.size)
          have Hx2 := hid hx2
          have hi0 : (0 : Int) ≤ (j : Int) := by omega
          have hi1 : (j : Int) < (k : Int) := by omega
          have hsz := HB.out.size
          clear hc hcc hx2 hys hxs
          go_wp2_with (at_builtin; (refine append_sl rfl rfl HO.out hsz (by omega) (by omega) rfl rfl Hcy.out.use ?_; intro v' w4 hown4 hB4))
          have Hown4 := hid hown4
          have HB4 := hid (HB.out.trans ((hB4.mono (Nat.le_refl _))))
          clear hown4 hB4
          go_wp2_with fail
          go_roundw
          case rel => exact ⟨j + 1, v', by omega, rfl, by go_num, hid (by rw [Hx2.out]; exact Hown4.out), HB4⟩
          case measure => simp [intOf]; omega
        · obtain rfl : j = k := by omega
          rw [List.take_of_length_le (show gs.length ≤ j by have := Hm.out; omega)] at HO
          go_wp2_with fail
          go_ret
          exact ⟨_, rfl, HO.out, HB.out⟩

end Go.Proofs.YtpdhnjdnlgnniaaGreat

/-! Boundaries modulo 2: parities. -/
namespace Go.Proofs.YtpdhnjdnlgnniaaGreat
open Go.RowKit Go.Shelf

/-- The number of places at which p stands is odd. -/
def par (p : Int) (L : List Int) : Bool := decide (L.count p % 2 = 1)
/-- All sides of some faces, one after the other. -/
def sidesI (_f : Nat) (pre : List (Fin 64)) : List Int := pre.map fun p => ((p.val : Nat) : Int)
def sidesAll (ch : List Int) : List Int := ch.flatMap fun x => sidesI x.toNat (sidesF x.toNat)
theorem sidesAll_snoc (ch : List Int) (x : Int) : sidesAll (ch ++ [x]) = sidesAll ch ++ sidesI x.toNat (sidesF x.toNat) := by simp [sidesAll]
theorem sidesI_len (f : Nat) (pre : List (Fin 64)) : (sidesI f pre).length = pre.length := by simp [sidesI]
theorem sidesI_snoc (f : Nat) (pre : List (Fin 64)) (p : Fin 64) : sidesI f (pre ++ [p]) = sidesI f pre ++ [((p.val : Nat) : Int)] := by simp [sidesI]
theorem sidesAll_len : ∀ ch : List Int, (sidesAll ch).length ≤ 6 * ch.length
  | [] => by simp [sidesAll]
  | x :: ch => by
    have h1 := sidesAll_len ch
    have h2 : (sidesF x.toNat).length ≤ 6 := sides_len x.toNat 6
    unfold sidesAll at h1 ⊢
    rw [List.flatMap_cons, List.length_append, sidesI_len, List.length_cons]
    omega

/-- The map of parities; the last number met comes first. -/
def togR : List Int → DataW Unit
  | [] => .map []
  | x :: L => (togR L).put (.int .i64 x) (.lit (.bool (!par x L)))
def togD (L : List Int) : DataW Unit := togR L.reverse

theorem par_rev (p : Int) (L : List Int) : par p L.reverse = par p L := by unfold par; rw [List.count_reverse]
theorem togD_snoc (L : List Int) (x : Int) : togD (L ++ [x]) = (togD L).put (.int .i64 x) (.lit (.bool (!par x L))) := by
  unfold togD
  rw [List.reverse_append]
  show togR (x :: L.reverse) = _
  unfold togR
  rw [par_rev]
  cases L.reverse <;> rfl
theorem togR_map : ∀ L : List Int, Maps.IsMap (togR L)
  | [] => Maps.isMap_empty
  | _ :: L => (togR_map L).put _ _
theorem par_cons_self (x : Int) (L : List Int) : par x (x :: L) = !par x L := by
  unfold par
  rw [List.count_cons_self]
  rcases Nat.mod_two_eq_zero_or_one (L.count x) with h | h
  · have : (L.count x + 1) % 2 = 1 := by omega
    simp [h, this]
  · have : ¬ (L.count x + 1) % 2 = 1 := by omega
    simp [h, this]
theorem par_cons_ne {p x : Int} (h : ¬ p = x) (L : List Int) : par p (x :: L) = par p L := by
  unfold par
  rw [List.count_cons_of_ne (fun e => h e.symm)]
theorem togR_at (p : Int) : ∀ L : List Int, (togR L).atKey (.int .i64 p) (.lit (.bool false)) = .lit (.bool (par p L))
  | [] => by simp [togR, par]; rfl
  | x :: L => by
    have ih := togR_at p L
    show ((togR L).put (.int .i64 x) (.lit (.bool (!par x L)))).atKey _ _ = _
    by_cases h : p = x
    · subst h
      rw [Maps.atKey_put_same (togR_map L) (show WideAt.IsKeyLit (.int .i64 p) from trivial), par_cons_self]
    · rw [Maps.atKey_put_other (by simpa using h), ih, par_cons_ne h]
theorem togD_at (p : Int) (L : List Int) : (togD L).atKey (.int .i64 p) (.lit (.bool false)) = .lit (.bool (par p L)) := by
  unfold togD; rw [togR_at, par_rev]

theorem lookup_tog {w : World} {b n : Nat} {L : List Int} (hown : w.ownsMap Tryz.prog 2 (plainElem (H := Unit) Tryz.prog 4) b n (togD L)) {p : Int} (hp : (Lit.int .i64 p).wf = true) :
    (Instr.lookup 83 (.map (some b)) (.int .i64 p) false).run Tryz.prog w = .ok (.bool (par p L)) w := by
  obtain ⟨v, ps, hrun, hv⟩ := hown.lookup (Maps.int_keyed Tryz.underlying2) Tryz.underlying83 (zero_bool w) (plainElem_bool Tryz.underlying4 false) (Maps.keyOf_int_mk Tryz.underlying2 hp)
  rw [togD_at] at hv
  rw [bool_inv hv] at hrun
  exact hrun

/-- 'odd[p]', at the operation. -/
theorem at_tog {F : Fence} {nF : Nat} {w : World} {ops : Array Oper} {rest : List Oper} {o : Oper} {a : Act} {Q : Exit → Act → World → Prop} (hg : o.guard = none) {m x : Operand} (hop : o.op = Op.lookup 83 m x false)
    {b n : Nat} {L : List Int} (hown : w.ownsMap Tryz.prog 2 (plainElem (H := Unit) Tryz.prog 4) b n (togD L)) {p : Int} (hp : (Lit.int .i64 p).wf = true)
    (hm : a.eval m = .map (some b)) (hx : a.eval x = .int .i64 p) (hK : wpListIn F nF Tryz.prog ops Q rest (a.put o.dst (.bool (par p L))) w) :
    wpListIn F nF Tryz.prog ops Q (o :: rest) a w := by
  refine wpListIn_plain hg fun K' hK' => ?_
  have hrun := lookup_tog hown hp
  unfold Oper.wpIn
  refine ⟨by simp [Oper.about, hop], ?_⟩
  rw [Oper.semAt_plain F _ _ (by rw [hop]; intro c hc'; cases hc')]
  simp [execOp, hop, hm, hx, hrun, Result.andThen]
  exact hK' _ _ hK

/-- The boundary of a chain: the faces with an odd number of places among the sides. -/
def bdL (fs ch : List Int) : List Int := fs.filter fun p => par p (sidesAll ch)

end Go.Proofs.YtpdhnjdnlgnniaaGreat

/-! Boundaries modulo 2: sums of ascending lists. -/
namespace Go.Proofs.YtpdhnjdnlgnniaaGreat
open Go.RowKit

/-- What stands in just one of two ascending lists. -/
def sumL : List Int → List Int → List Int
  | [], ys => ys
  | a :: xs, [] => a :: xs
  | a :: xs, b :: ys => if a < b then a :: sumL xs (b :: ys) else if b < a then b :: sumL (a :: xs) ys else sumL xs ys
termination_by x y => x.length + y.length

theorem sumL_nil (ys : List Int) : sumL [] ys = ys := by unfold sumL; rfl
theorem sumL_nil' (xs : List Int) : sumL xs [] = xs := by cases xs <;> (unfold sumL; rfl)
theorem sumL_lt {a b : Int} (xs ys : List Int) (h : a < b) : sumL (a :: xs) (b :: ys) = a :: sumL xs (b :: ys) := by rw [sumL, if_pos h]
theorem sumL_gt {a b : Int} (xs ys : List Int) (h : b < a) : sumL (a :: xs) (b :: ys) = b :: sumL (a :: xs) ys := by rw [sumL, if_neg (by omega), if_pos h]
theorem sumL_eq (a : Int) (xs ys : List Int) : sumL (a :: xs) (a :: ys) = sumL xs ys := by rw [sumL, if_neg (by omega), if_neg (by omega)]

theorem sumL_len (n : Nat) : ∀ xs ys : List Int, xs.length + ys.length ≤ n → (sumL xs ys).length ≤ xs.length + ys.length := by
  induction n with
  | zero => intro xs ys h; obtain rfl : xs = [] := List.length_eq_zero_iff.1 (by omega); rw [sumL_nil]; simp
  | succ n ih =>
    intro xs ys h
    cases xs with
    | nil => rw [sumL_nil]; simp
    | cons a xs =>
      cases ys with
      | nil => rw [sumL_nil']; simp
      | cons b ys =>
        simp only [List.length_cons] at h
        rcases Int.lt_trichotomy a b with h1 | h1 | h1
        · rw [sumL_lt _ _ h1]; have := ih xs (b :: ys) (by simp; omega); simp only [List.length_cons] at *; omega
        · subst h1; rw [sumL_eq]; have := ih xs ys (by omega); simp only [List.length_cons]; omega
        · rw [sumL_gt _ _ h1]; have := ih (a :: xs) ys (by simp; omega); simp only [List.length_cons] at *; omega

theorem sumL_spec (n : Nat) : ∀ xs ys : List Int, xs.length + ys.length ≤ n → xs.Pairwise (· < ·) → ys.Pairwise (· < ·) →
    (∀ x, x ∈ sumL xs ys ↔ ((x ∈ xs ∧ x ∉ ys) ∨ (x ∉ xs ∧ x ∈ ys))) ∧ (sumL xs ys).Pairwise (· < ·) := by
  induction n with
  | zero =>
    intro xs ys h ha hb
    obtain rfl : xs = [] := List.length_eq_zero_iff.1 (by omega)
    rw [sumL_nil]; exact ⟨fun x => by simp, hb⟩
  | succ n ih =>
    intro xs ys h ha hb
    cases xs with
    | nil => rw [sumL_nil]; exact ⟨fun x => by simp, hb⟩
    | cons a xs =>
      cases ys with
      | nil => rw [sumL_nil']; exact ⟨fun x => by simp, ha⟩
      | cons b ys =>
        simp only [List.length_cons] at h
        obtain ⟨ha1, ha2⟩ := List.pairwise_cons.1 ha
        obtain ⟨hb1, hb2⟩ := List.pairwise_cons.1 hb
        rcases Int.lt_trichotomy a b with h1 | h1 | h1
        · rw [sumL_lt _ _ h1]
          obtain ⟨i1, i2⟩ := ih xs (b :: ys) (by simp; omega) ha2 hb
          have hab : a ∉ b :: ys := fun hm => by
            rcases List.mem_cons.1 hm with rfl | hm
            · omega
            · have := hb1 _ hm; omega
          have haa : a ∉ xs := fun hm => by have := ha1 _ hm; omega
          refine ⟨fun x => ?_, List.pairwise_cons.2 ⟨fun y hy => ?_, i2⟩⟩
          · rw [List.mem_cons, i1]
            by_cases hx : x = a
            · subst hx; simp only [true_or, true_iff]; exact .inl ⟨by simp, hab⟩
            · simp only [hx, false_or, List.mem_cons (a := x) (b := a)]
          · rcases (i1 y).1 hy with ⟨hy, _⟩ | ⟨_, hy⟩
            · exact ha1 _ hy
            · rcases List.mem_cons.1 hy with rfl | hy
              · exact h1
              · have := hb1 _ hy; omega
        · subst h1
          rw [sumL_eq]
          obtain ⟨i1, i2⟩ := ih xs ys (by omega) ha2 hb2
          refine ⟨fun x => ?_, i2⟩
          rw [i1]
          by_cases hx : x = a
          · subst hx
            have haa : x ∉ xs := fun hm => by have := ha1 _ hm; omega
            have hbb : x ∉ ys := fun hm => by have := hb1 _ hm; omega
            simp [haa, hbb]
          · simp only [List.mem_cons, hx, false_or]
        · rw [sumL_gt _ _ h1]
          obtain ⟨i1, i2⟩ := ih (a :: xs) ys (by simp; omega) ha hb2
          have hba : b ∉ a :: xs := fun hm => by
            rcases List.mem_cons.1 hm with rfl | hm
            · omega
            · have := ha1 _ hm; omega
          have hbb : b ∉ ys := fun hm => by have := hb1 _ hm; omega
          refine ⟨fun x => ?_, List.pairwise_cons.2 ⟨fun y hy => ?_, i2⟩⟩
          · rw [List.mem_cons, i1]
            by_cases hx : x = b
            · subst hx; simp only [true_or, true_iff]; exact .inr ⟨hba, by simp⟩
            · simp only [hx, false_or, List.mem_cons (a := x) (b := b)]
          · rcases (i1 y).1 hy with ⟨hy, _⟩ | ⟨_, hy⟩
            · rcases List.mem_cons.1 hy with rfl | hy
              · exact h1
              · have := ha1 _ hy; omega
            · exact hb1 _ hy

theorem asc_ext : ∀ {a b : List Int}, a.Pairwise (· < ·) → b.Pairwise (· < ·) → (∀ x, x ∈ a ↔ x ∈ b) → a = b
  | [], [], _, _, _ => rfl
  | [], y :: b, _, _, h => by have := (h y).2 (by simp); simp at this
  | x :: a, [], _, _, h => by have := (h x).1 (by simp); simp at this
  | x :: a, y :: b, ha, hb, h => by
    obtain ⟨ha1, ha2⟩ := List.pairwise_cons.1 ha
    obtain ⟨hb1, hb2⟩ := List.pairwise_cons.1 hb
    have hxy : x = y := by
      rcases List.mem_cons.1 ((h x).1 (by simp)) with e | hx
      · exact e
      · rcases List.mem_cons.1 ((h y).2 (by simp)) with e | hy
        · exact e.symm
        · have h1 := hb1 _ hx; have h2 := ha1 _ hy; omega
    subst hxy
    have : a = b := asc_ext ha2 hb2 (fun z => by
      have hz := h z
      simp only [List.mem_cons] at hz
      constructor
      · intro hm
        rcases hz.1 (.inr hm) with e | hm'
        · subst e; have := ha1 _ hm; omega
        · exact hm'
      · intro hm
        rcases hz.2 (.inr hm) with e | hm'
        · subst e; have := hb1 _ hm; omega
        · exact hm')
    rw [this]

theorem below_sides : ∀ f : Fin 64, belowR f.val 63 = ((sidesF f.val).map fun p => ((p.val : Nat) : Int)).reverse := by decide +kernel
theorem below_asc : ∀ f : Fin 64, (belowR f.val 63).Pairwise (· < ·) := by decide +kernel
theorem sides_nodup : ∀ f : Fin 64, ((sidesF f.val).map fun p => ((p.val : Nat) : Int)).Nodup := by decide +kernel
theorem sides_sub : ∀ f : Fin 64, ∀ p ∈ sidesF f.val, p.val ≠ 0 ∧ p.val &&& f.val = p.val := by decide +kernel

/-- The boundary of a chain, xs the model sums it up. -/
def bdS (ch : List Int) : List Int := ch.foldl (fun o x => sumL o (belowR x.toNat 63)) []
theorem bdS_snoc (ch : List Int) (x : Int) : bdS (ch ++ [x]) = sumL (bdS ch) (belowR x.toNat 63) := by simp [bdS]

theorem par_add {p : Int} (L : List Int) (f : Nat) (hf : f < 64) : par p (L ++ sidesI f (sidesF f)) = (par p L != decide (p ∈ belowR f 63)) := by
  have hb := below_sides ⟨f, hf⟩
  simp only at hb
  have hn := sides_nodup ⟨f, hf⟩
  simp only at hn
  have e : sidesI f (sidesF f) = (sidesF f).map fun p => ((p.val : Nat) : Int) := rfl
  rw [hb, e]
  generalize (sidesF f).map (fun p => ((p.val : Nat) : Int)) = M at *
  unfold par
  rw [List.count_append]
  by_cases hm : p ∈ M
  · have h1 : M.count p = 1 := by rw [List.Nodup.count hn, if_pos hm]
    rw [h1]
    rcases Nat.mod_two_eq_zero_or_one (L.count p) with h | h
    · have : (L.count p + 1) % 2 = 1 := by omega
      simp [h, this, hm]
    · have : ¬ (L.count p + 1) % 2 = 1 := by omega
      simp [h, this, hm]
  · have h0 : M.count p = 0 := List.count_eq_zero.2 hm
    rw [h0]
    simp [hm]

theorem fold_spec : ∀ (ch o L : List Int), (∀ x ∈ ch, 1 ≤ x ∧ x ≤ 63) → (∀ p, p ∈ o ↔ par p L = true) → o.Pairwise (· < ·) →
    (∀ p, p ∈ ch.foldl (fun o x => sumL o (belowR x.toNat 63)) o ↔ par p (L ++ sidesAll ch) = true) ∧ (ch.foldl (fun o x => sumL o (belowR x.toNat 63)) o).Pairwise (· < ·)
  | [], o, L, _, h1, h2 => ⟨fun p => by simpa [sidesAll] using h1 p, h2⟩
  | x :: ch, o, L, h, i1, i2 => by
    have hx := h x (by simp)
    have hf : x.toNat < 64 := by omega
    have ha := below_asc ⟨x.toNat, hf⟩
    simp only at ha
    obtain ⟨s1, s2⟩ := sumL_spec _ o (belowR x.toNat 63) (Nat.le_refl _) i2 ha
    have e : L ++ sidesAll (x :: ch) = (L ++ sidesI x.toNat (sidesF x.toNat)) ++ sidesAll ch := by simp [sidesAll]
    rw [List.foldl_cons, e]
    refine fold_spec ch _ _ (fun y hy => h y (by simp [hy])) (fun p => ?_) s2
    rw [s1, i1, par_add _ _ hf]
    cases par p L <;> by_cases hm : p ∈ belowR x.toNat 63 <;> simp [hm]

theorem bdS_spec (ch : List Int) (h : ∀ x ∈ ch, 1 ≤ x ∧ x ≤ 63) : (∀ p, p ∈ bdS ch ↔ par p (sidesAll ch) = true) ∧ (bdS ch).Pairwise (· < ·) := by
  have := fold_spec ch [] [] h (fun p => by simp [par]) (by simp)
  simpa [bdS] using this

theorem bdS_bdL {V : Int} {fs : List Int} (hC : IsC V fs) {ch : List Int} (hs : ∀ x ∈ ch, x ∈ fs) : bdS ch = bdL fs ch := by
  obtain ⟨h1, h2⟩ := bdS_spec ch (fun x hx => hC.range63 x (hs x hx))
  refine asc_ext h2 (List.Pairwise.sublist List.filter_sublist hC.asc) (fun p => ?_)
  unfold bdL
  rw [h1, List.mem_filter]
  refine ⟨fun hp => ⟨?_, hp⟩, fun hp => hp.2⟩
  have hm : p ∈ sidesAll ch := by
    unfold par at hp
    have := of_decide_eq_true hp
    exact List.count_pos_iff.1 (by omega)
  unfold sidesAll at hm
  obtain ⟨x, hx, hm⟩ := List.mem_flatMap.1 hm
  have hxr := hC.range63 x (hs x hx)
  obtain ⟨q, hq, rfl⟩ := List.mem_map.1 hm
  have := sides_sub ⟨x.toNat, by omega⟩ q hq
  exact hC.closed x (hs x hx) q.val this.1 this.2

end Go.Proofs.YtpdhnjdnlgnniaaGreat

/-! The boundary of a chain, the program's. -/
namespace Go.Proofs.YtpdhnjdnlgnniaaGreat
open Go.RowKit Go.Shelf

attribute [local go_sem] Oper.semAt_some

/-- What the walk keeps of the world. -/
structure FbW (w W : World) (V : Int) (sl : Value) (L : List Int) (Ds : List Nat) : Prop where
  below : Below w.heap.size w W
  kbox : W.heap[w.heap.size]? = some (.cells #[.int .i64 V, sl] 30 (0, 0))
  own : W.ownsMap Tryz.prog 2 (plainElem (H := Unit) Tryz.prog 4) (w.heap.size + 1) L.length (togD L)
  mbox : W.heap[w.heap.size + 2]? = some (.cells #[.map (some (w.heap.size + 1))] 83 (0, 0))
  nodup : Ds.Nodup
  marks : ∀ D ∈ Ds, w.heap.size + 3 ≤ D ∧ W.heap[D]? = some (.deferred (some []))

theorem FbW.size {w W : World} {V : Int} {sl : Value} {L : List Int} {Ds : List Nat} (h : FbW w W V sl L Ds) : w.heap.size + 3 ≤ W.heap.size := by
  have := lt_of_get h.mbox; omega

theorem FbW.turn {w W W' : World} {V : Int} {sl : Value} {L : List Int} {Ds : List Nat} (h : FbW w W V sl L Ds) {row : Option Nat} (hg : W.grownBy W' row)
    (hr : ∀ r, row = some r → w.heap.size + 3 ≤ r ∧ r ∉ Ds) : FbW w W' V sl L Ds where
  below := h.below.grown hg h.below.size (fun k e => by have := (hr k e).1; omega)
  kbox := (hg.block _ (lt_of_get h.kbox) (fun e => by have := (hr _ e.symm).1; omega)).trans h.kbox
  own := h.own.kept hg (fun e => by have := (hr _ e.symm).1; omega)
  mbox := (hg.block _ (lt_of_get h.mbox) (fun e => by have := (hr _ e.symm).1; omega)).trans h.mbox
  nodup := h.nodup
  marks := fun D hD => ⟨(h.marks D hD).1, (hg.block _ (lt_of_get (h.marks D hD).2) (fun e => (hr _ e.symm).2 hD)).trans (h.marks D hD).2⟩

theorem fbw_own {w : World} {V : Int} {sl : Value} {g : List (Fin 64) → List Int} {Ds : List Nat} {B : Nat} (hB : w.heap.size + 3 ≤ B) (hD : ∀ D ∈ Ds, D < B) : OwnFrom B (fun (pre : List (Fin 64)) W => FbW w W V sl (g pre) Ds) :=
  fun _ _ _ _ hs hg hr => hs.turn hg (fun r e => ⟨by have := (hr r e).1; omega, fun hm => by have := hD r hm; have := (hr r e).1; omega⟩)

theorem box_ownB {β : Type} {B fb : Nat} {o : Obj} (hB : fb < B) : OwnFrom B (fun (_ : β) (W : World) => W.heap[fb]? = some o) :=
  fun _ _ _ _ hs hg hr => (hg.block _ (lt_of_get hs) (fun e => by have := (hr _ e.symm).1; omega)).trans hs

/-- A further mark. -/
theorem FbW.mark {w W : World} {V : Int} {sl : Value} {L : List Int} {Ds : List Nat} (h : FbW w W V sl L Ds) {D : Nat} (hD : W.heap[D]? = some (.deferred (some []))) (hb : w.heap.size + 3 ≤ D) (hn : D ∉ Ds) : FbW w W V sl L (D :: Ds) where
  below := h.below
  kbox := h.kbox
  own := h.own
  mbox := h.mbox
  nodup := List.nodup_cons.2 ⟨hn, h.nodup⟩
  marks := fun E hE => by
    rcases List.mem_cons.1 hE with rfl | hE
    · exact ⟨hb, hD⟩
    · exact h.marks E hE

/-- A side more in the map. -/
theorem FbW.put {w W w1 : World} {V : Int} {sl : Value} {L : List Int} {Ds : List Nat} (h : FbW w W V sl L Ds) {x : Int}
    (hown : w1.ownsMap Tryz.prog 2 (plainElem (H := Unit) Tryz.prog 4) (w.heap.size + 1) (L.length + 1) ((togD L).put (.int .i64 x) (.lit (.bool (!par x L))))) (hg : W.grownBy w1 (some (w.heap.size + 1))) : FbW w w1 V sl (L ++ [x]) Ds where
  below := h.below.grown hg h.below.size (fun k e => by cases e; omega)
  kbox := (hg.block _ (lt_of_get h.kbox) (fun e => by simp at e)).trans h.kbox
  own := by rw [togD_snoc]; simpa using hown
  mbox := (hg.block _ (lt_of_get h.mbox) (fun e => by simp at e)).trans h.mbox
  nodup := h.nodup
  marks := fun D hD => ⟨(h.marks D hD).1, (hg.block _ (lt_of_get (h.marks D hD).2) (fun e => by have := (h.marks D hD).1; simp at e; omega)).trans (h.marks D hD).2⟩

theorem oddWanted (L : List Int) (bm b n : Nat) (x : Int) (w : World) (hx0 : 1 ≤ x) (hx1 : x ≤ 63) (hm : w.cell? ⟨bm, 0, none⟩ = some (.map (some b))) (hM : w.ownsMap Tryz.prog 2 (plainElem (H := Unit) Tryz.prog 4) b n (togD L)) :
    Calls Tryz.prog 76 #[.int .i64 x, .pointer (some ⟨bm, 0, none⟩)] w fun e w' => e = .returned (.bool (par x L)) ∧ Below w.heap.size w w' := by
  have hlook := lookup_tog hM (p := x) (WalkArith.wf_i64 (by omega))
  clear hM
  obtain ⟨c, hc⟩ : ∃ c, c = par x L := ⟨_, rfl⟩
  rw [← hc] at hlook ⊢
  clear hc
  go_enter Tryz.func76, Tryz.ntmps76
  go_wp2_with fail
  go_ret
  exact ⟨rfl, Below.refl _ _⟩

set_option maxRecDepth 100000 in
set_option maxHeartbeats 4000000 in
theorem bd_in (V : Int) (a0 : Option Addr) (cap : Nat) (fs : List Int) (b off c2 : Nat) (ch : List Int) (w : World) (hx : SlI w w.heap.size a0 fs) (hl : fs.length ≤ 1048576) (hf : ∀ x ∈ fs, 1 ≤ x ∧ x ≤ 63) (hb : b < w.heap.size)
    (hc : ∀ i, i < ch.length → w.cell? ⟨b, off + i, none⟩ = some (.int .i64 (ch[i]?.getD 0))) (hch : ∀ x ∈ ch, 1 ≤ x ∧ x ≤ 63) (hcl : ch.length ≤ 1048576) :
    CallsIn Fence.wide 10 Tryz.prog 57 #[.agg #[.int .i64 V, .slice a0 fs.length cap], .slice (some ⟨b, off, none⟩) ch.length c2] w fun e w' => ∃ v, e = .returned v ∧ Res w w' v (bdL fs ch) := by
  have hmm := @run_makeMap Tryz.prog
  have Hx0 := hid hx
  have Hf := hid hf
  have Hc := hid hc
  have Hch := hid hch
  clear hx hc hf hch
  have hF0 : FbW w (((w.alloc (.cells #[.int .i64 V, .slice a0 fs.length cap] 30)).alloc (.map #[] 0)).alloc (.cells #[.map (some (w.heap.size + 1))] 83)) V (.slice a0 fs.length cap) [] [] := by
    have e3 := heap_alloc_new ((w.alloc (.cells #[.int .i64 V, .slice a0 fs.length cap] 30)).alloc (.map #[] 0)) (.cells #[.map (some (w.heap.size + 1))] 83)
    rw [World.size_alloc, World.size_alloc] at e3
    have e2 := World.ownsMap_made (w.alloc (.cells #[.int .i64 V, .slice a0 fs.length cap] 30)) Tryz.prog 2 (plainElem (H := Unit) Tryz.prog 4)
    rw [World.size_alloc] at e2
    exact {
      below := (((Below.refl _ w).alloc (Nat.le_refl _) _).alloc (by simp) _).alloc (by simp <;> omega) _
      kbox := (Below.heap_alloc _ _ _ (by simp <;> omega)).trans ((Below.heap_alloc _ _ _ (by simp)).trans (heap_alloc_new _ _))
      own := e2.alloc _
      mbox := e3
      nodup := by simp
      marks := by simp }
  have HF0 := hid hF0
  clear hF0
  refine callsIn_of_wp_marks Tryz.func57 rfl trivial ?_ rfl
  simp only [Tryz.ntmps57, List.size_toArray, List.length_cons, List.length_nil, Nat.reduceAdd, Nat.reduceSub, Array.replicate_succ, Array.replicate_zero, List.push_toArray, List.append_toArray, List.nil_append, List.cons_append]
  gi_wp2
  clear hmm
  refine wpIn_loop (fun a' W => ∃ (k : Nat) (c7 c8 c13 c14 c15 c16 c17 c18 c19 c20 c21 c22 c23 c24 c25 : Value) (Ds : List Nat),
      a' = { tmps := #[.agg #[.int .i64 V, .slice a0 fs.length cap], .slice (some ⟨b, off, none⟩) ch.length c2, .pointer (some ⟨w.heap.size, 0, none⟩), undef, .slice none 0 0, .pointer (some ⟨w.heap.size + 2, 0, none⟩), undef, c7, c8, .map (some (w.heap.size + 1)), .slice (some ⟨b, off, none⟩) ch.length c2, .int .i64 ch.length, .int .i64 k, c13, c14, c15, c16, c17, c18, c19, c20, c21, c22, c23, c24, c25, undef, undef, undef], defers := marks Ds } ∧
      k ≤ ch.length ∧ FbW w W V (.slice a0 fs.length cap) (sidesAll (ch.take k)) Ds)
    (fun a' _ => ch.length - (intOf (a'.tmps.getD 12 undef)).toNat) ?start ?round
  case start => exact ⟨0, _, _, _, _, _, _, _, _, _, _, _, _, _, _, _, [], rfl, Nat.zero_le _, by simpa [sidesAll] using HF0.out⟩
  case round =>
    rintro a W ⟨k, c7, c8, c13, c14, c15, c16, c17, c18, c19, c20, c21, c22, c23, c24, c25, Ds, rfl, hk, hW⟩
    have hsz := hW.size
    have k0 : W.cell? ⟨w.heap.size, 0, none⟩ = some (.int .i64 V) := by simp [World.cell?, hW.kbox]
    have k1 : W.cell? ⟨w.heap.size, 1, none⟩ = some (.slice a0 fs.length cap) := by simp [World.cell?, hW.kbox]
    have HW := hid hW
    clear hW
    by_cases hlt : k < ch.length
    · obtain ⟨x, hx⟩ : ∃ x, x = ch[k]?.getD 0 := ⟨_, rfl⟩
      have hck : W.cell? ⟨b, off + k, none⟩ = some (.int .i64 x) := by rw [hx]; exact (HW.out.below.cell (p := ⟨b, off + k, none⟩) hb).trans (Hc.out k hlt)
      have hxr := Hch.out _ (getD_mem hlt)
      rw [← hx] at hxr
      have Hx1 := hid hx
      have hi0 : (0 : Int) ≤ (k : Int) := by omega
      have hi1 : (k : Int) < (ch.length : Int) := by omega
      obtain ⟨f, rfl⟩ : ∃ f : Nat, x = f := ⟨x.toNat, by omega⟩
      have hf : f < 64 := by omega
      clear hx
      gi_wp2_with (first
        | (refine ⟨trivial, ?_⟩; gi_at_call 74; refine (sides_in _ _ _).mono ?_; rintro e w' ⟨rfl, rfl⟩))
      have hW2 : FbW w (W.alloc (.cells #[.int .i64 (f : Int)] 2)) V (.slice a0 fs.length cap) (sidesAll (ch.take k)) Ds := HW.out.turn (World.grownBy_alloc W _ none) (fun r e => by cases e)
      have hsb : (W.alloc (.cells #[.int .i64 (f : Int)] 2)).heap[W.heap.size]? = some (.cells #[.int .i64 (f : Int)] 2 (0, 0)) := heap_alloc_new _ _
      have hDlt : ∀ D ∈ Ds, D < (W.alloc (.cells #[.int .i64 (f : Int)] 2)).heap.size := fun D hD => lt_of_get (hW2.marks D hD).2
      have hLl := sidesAll_len (ch.take k)
      have hkl : (ch.take k).length ≤ 1048576 := by simp; omega
      obtain ⟨L0, hL0⟩ : ∃ L0, L0 = sidesAll (ch.take k) := ⟨_, rfl⟩
      have HL0 := hid hL0
      rw [← hL0] at hW2 hLl HW
      clear hL0
      refine wpIn_rangeFunc_ownG rfl (by decide) (gf := 87) (lb := #[.pointer (some ⟨W.heap.size, 0, none⟩)]) rfl trivial (enters_of Tryz.func87 (by kernel_rfl) rfl)
        (sides_stops 9 (by decide) W.heap.size f hf _ (by simp) hsb) keepB_t (keepB_b (by simp)) (Below.refl _ _) (fun _ => rfl)
        (fun pre W' => FbW w W' V (.slice a0 fs.length cap) (L0 ++ sidesI f pre) Ds ∧ W'.heap[W.heap.size]? = some (.cells #[.int .i64 (f : Int)] 2 (0, 0)))
        (fun _ _ _ => False)
        (OwnFrom.and (fbw_own (by simp; omega) hDlt) (box_ownB (by simp <;> omega))) (fun _ => ownFrom_pure _ _)
        ⟨by simpa [sidesI] using hW2, hsb⟩
        (fun x => { tmps := #[.agg #[.int .i64 V, .slice a0 fs.length cap], .slice (some ⟨b, off, none⟩) ch.length c2, .pointer (some ⟨w.heap.size, 0, none⟩), undef, .slice none 0 0, .pointer (some ⟨w.heap.size + 2, 0, none⟩), undef, .int .i64 f, .int .i64 (x.val : Int), .map (some (w.heap.size + 1)), .slice (some ⟨b, off, none⟩) ch.length c2, .int .i64 ch.length, .int .i64 k, .bool true, .pointer (some ⟨b, off + k, none⟩), .int .i64 f, .int .i64 f, .func (.func 87) #[] #[.pointer (some ⟨W.heap.size, 0, none⟩)], .int .i64 (x.val : Int), c19, c20, c21, c22, c23, c24, c25, undef, undef, undef], defers := [] }) ?assign ?body ?done ?stop
      case assign =>
        intro l x W3 K hK
        gi_wp2
        exact hK
      case body =>
        rintro l pre x W3 ⟨hW3, hsb3⟩ hpl
        have m3 : W3.cell? ⟨w.heap.size + 2, 0, none⟩ = some (.map (some (w.heap.size + 1))) := (box_cell hW3.mbox).1
        have hxl := x.isLt
        have hwx : (Lit.int .i64 (x.val : Int)).wf = true := WalkArith.wf_i64 (by omega)
        have hlook := lookup_tog hW3.own hwx
        have HW3 := hid hW3
        have Hsb3 := hid hsb3
        have hpre := sidesI_len f pre
        have Hs := hid (sidesI_snoc f pre x)
        have hkm : (L0 ++ sidesI f pre).length < maxLen := by unfold maxLen; rw [List.length_append, hpre]; omega
        clear hW3 hsb3
        gi_wp2_with (first
          | (gi_at_lookup; refine at_tog rfl rfl HW3.out.own hwx rfl rfl ?_)
          | (gi_at_mapUpdate; refine wpListIn_mapUpdate_own _ rfl _ _ _ 83 rfl 2 4 (Maps.int_keyed Tryz.underlying2) Tryz.underlying83 _ (w.heap.size + 1) _ _ rfl HW3.out.own hkm _ _ _ rfl rfl (Maps.keyOf_int_mk Tryz.underlying2 hwx) _ [] (plainElem_bool Tryz.underlying4 _) ?_; intro w4 hown4 hgrow4))
        refine ⟨KeepsFrom.of_grownBy hgrow4 (fun j e => by cases e; first | omega | (simp; omega)), (hgrow4.block _ (lt_of_get Hsb3.out) (fun e => by simp at e; omega)), ?_, (hgrow4.block _ (lt_of_get Hsb3.out) (fun e => by simp at e; omega)).trans Hsb3.out⟩
        rw [Hs.out, ← List.append_assoc]
        exact HW3.out.put hown4 hgrow4
      case done =>
        rintro D ys W3 hD rfl ⟨hW3, _⟩ hK
        have hDb : w.heap.size + 3 ≤ D := by simp at hD; omega
        have hDn : D ∉ Ds := fun hm => by have := hDlt D hm; omega
        have HW4 := hid (hW3.mark hK hDb hDn)
        have htk : sidesAll (ch.take (k + 1)) = L0 ++ sidesI f (sidesF f) := by rw [take_snoc hlt, sidesAll_snoc, ← Hx1.out, HL0.out, Int.toNat_natCast]
        have Htk := hid htk
        clear hW3 htk
        gi_wp2
        refine ⟨⟨k + 1, ?_⟩, ?_⟩
        · (repeat apply Exists.intro)
          refine ⟨?e, ?_⟩
          case e =>
            rw [show ((k + 1 : Nat) : Int) = (k : Int) + 1 by omega, show ({ target := .collected D, args := #[] } :: marks Ds : List Deferred) = marks (D :: Ds) from rfl]
          exact ⟨by omega, by rw [Htk.out]; exact HW4.out⟩
        · simp [intOf]; omega
      case stop =>
        rintro D c pre W3 hD hpre hF hK
        exact hF.elim
    · obtain rfl : k = ch.length := by omega
      rw [List.take_of_length_le (Nat.le_refl _)] at HW
      have hxW := Hx0.out.later HW.out.below HW.out.below.size
      have HFW : Hid (Calls Tryz.prog 75 #[.agg #[.int .i64 V, .slice a0 fs.length cap], .func (.func 76) #[] #[.pointer (some ⟨w.heap.size + 2, 0, none⟩)]] W fun e w' => ∃ v, e = .returned v ∧ Res W w' v (bdL fs ch)) := hid (by
        unfold bdL
        refine fw_any V _ cap fs W 76 _ (fun x => par x (sidesAll ch)) hxW hl (enters_of Tryz.func76 (by kernel_rfl) rfl) ?_
        intro W' x hW' hxm
        have hr := Hf.out x hxm
        have hkeep : W.grownBy W' none := ⟨hW'.os, hW'.tape, hW'.output, hW'.size, fun k hk _ => hW'.block k hk⟩
        exact oddWanted (sidesAll ch) _ _ _ x W' hr.1 hr.2 ((hW'.cell (p := ⟨w.heap.size + 2, 0, none⟩) (lt_of_get HW.out.mbox)).trans (box_cell HW.out.mbox).1) (HW.out.own.kept hkeep (by simp)))
      clear hxW
      gi_wp2_with (refine ⟨trivial, ?_⟩; gi_at_call 75; refine (callsIn_wide.2 HFW.out).mono ?_; rintro e w2 ⟨v, rfl, hr⟩)
      have hB2 : Below W.heap.size W w2 := hr.2
      refine leaves_marks (by simp) Ds _ HW.out.nodup (fun D hD => (hB2.block _ (lt_of_get (HW.out.marks D hD).2)).trans (HW.out.marks D hD).2) (fun w' hw' => ?_)
      have hsh : Below w.heap.size w2 w' := hw'.below (fun D hD => by have := (HW.out.marks D hD).1; omega)
      have hown : w'.ownsRow W.heap.size 2 1 v (bdL fs ch).length ((bdL fs ch).map (Value.int .i64)) := by
        refine ⟨hr.1.1, ?_⟩
        rcases hr.1.2 with hn | ⟨g, cp, cur, rfl, hg, hh, rest⟩
        · exact .inl hn
        · exact .inr ⟨g, cp, cur, rfl, hg, (hw'.block g (fun hm => by have := lt_of_get (HW.out.marks g hm).2; omega)).trans hh, rest⟩
      refine ⟨v, ?_, v, rfl, ownsRow_base hown HW.out.below.size, (HW.out.below.trans (hB2.mono HW.out.below.size)).trans hsh⟩
      simp [results, Tryz.results57, go_sem]

end Go.Proofs.YtpdhnjdnlgnniaaGreat

/-! CountFaces, the model's and the program's. -/
namespace Go.Proofs.YtpdhnjdnlgnniaaGreat
open Go.RowKit

/-- The numbers of faces of the first n dimensions. -/
def countL (fs : List Int) (n : Nat) : List Int := (List.range n).map fun d : Nat => ((ofDim fs (d : Int)).length : Int)

theorem countL_len (fs : List Int) (n : Nat) : (countL fs n).length = n := by simp [countL]

theorem countL_snoc (fs : List Int) (n : Nat) : countL fs (n + 1) = countL fs n ++ [((ofDim fs (n : Int)).length : Int)] := by
  simp [countL, List.range_succ]

theorem countL_face (pre : List Int) (x : Nat) (n e : Nat) (he : ones x = e + 1) : countL (pre ++ [(x : Int)]) n = (countL pre n).set e (((ofDim pre (e : Int)).length : Int) + 1) := by
  apply List.ext_getElem?
  intro i
  by_cases hi : i < n
  · by_cases hie : e = i
    · subst hie
      rw [List.getElem?_set_self (by rw [countL_len]; exact hi)]
      simp [countL, hi, ofDim, List.filter_append, he]
    · rw [List.getElem?_set_ne hie]
      have : ¬ ((ones x : Int) = (i : Int) + 1) := by omega
      simp [countL, hi, ofDim, List.filter_append, this]
  · rw [List.getElem?_eq_none (by rw [countL_len]; omega), List.getElem?_eq_none (by rw [List.length_set, countL_len]; omega)]

theorem countL_at (pre : List Int) (n e : Nat) (hn : e < n) : (countL pre n)[e]?.getD 0 = ((ofDim pre (e : Int)).length : Int) := by
  simp [countL, hn]

/-- What CountFaces hands back. -/
noncomputable def countFacesR (V : Int) (fs : List Int) : List Int × Int := if isCB V fs then (countL fs (top fs + 1).toNat, 0) else ([], 1)

theorem countFacesR_len (V : Int) (fs : List Int) (_h : fs.length ≤ 1048576) : (countFacesR V fs).1.length ≤ 1048576 := by
  unfold countFacesR
  have := top_hi fs
  split
  · rw [countL_len]; omega
  · simp


end Go.Proofs.YtpdhnjdnlgnniaaGreat

/-! CountFaces, the program's. -/
namespace Go.Proofs.YtpdhnjdnlgnniaaGreat
open Go.RowKit



theorem countL_nil (n : Nat) : countL [] n = List.replicate n 0 := by
  apply List.ext_getElem?
  intro i
  by_cases hi : i < n
  · simp [countL, hi, ofDim]
  · rw [List.getElem?_eq_none (by rw [countL_len]; omega), List.getElem?_eq_none (by simp; omega)]


end Go.Proofs.YtpdhnjdnlgnniaaGreat

/-! The faces of a dimension: the program's facesOfDimension. -/
namespace Go.Proofs.YtpdhnjdnlgnniaaGreat
open Go.RowKit


end Go.Proofs.YtpdhnjdnlgnniaaGreat

/-! FundamentalChain, the program's. -/
namespace Go.Proofs.YtpdhnjdnlgnniaaGreat
open Go.RowKit Go.Shelf

theorem bdL_nil (fs : List Int) : bdL fs [] = [] := by unfold bdL; simp [par, sidesAll]

set_option maxRecDepth 100000 in
set_option maxHeartbeats 1000000 in
theorem bd_nil (V : Int) (a : Option Addr) (cap : Nat) (fs : List Int) (a1 : Option Addr) (c2 : Nat) (w : World) (hx : SlI w w.heap.size a fs) (hl : fs.length ≤ 1048576) (hf : ∀ x ∈ fs, 1 ≤ x ∧ x ≤ 63) :
    CallsIn Fence.wide 10 Tryz.prog 57 #[.agg #[.int .i64 V, .slice a fs.length cap], .slice a1 0 c2] w fun e w' => ∃ v, e = .returned v ∧ Res w w' v [] := by
  have hmm := @run_makeMap Tryz.prog
  have hB0 : Below w.heap.size w (((w.alloc (.cells #[.int .i64 V, .slice a fs.length cap] 30)).alloc (.map #[] 0)).alloc (.cells #[.map (some (w.heap.size + 1))] 83)) := (((Below.refl _ w).alloc (Nat.le_refl _) _).alloc (by simp) _).alloc (by simp <;> omega) _
  have e3 := heap_alloc_new ((w.alloc (.cells #[.int .i64 V, .slice a fs.length cap] 30)).alloc (.map #[] 0)) (.cells #[.map (some (w.heap.size + 1))] 83)
  rw [World.size_alloc, World.size_alloc] at e3
  have e2 := (World.ownsMap_made (H := Unit) (w.alloc (.cells #[.int .i64 V, .slice a fs.length cap] 30)) Tryz.prog 2 (plainElem (H := Unit) Tryz.prog 4)).alloc (.cells #[.map (some (w.heap.size + 1))] 83)
  rw [World.size_alloc] at e2
  obtain ⟨W, hW⟩ : ∃ W, W = (((w.alloc (.cells #[.int .i64 V, .slice a fs.length cap] 30)).alloc (.map #[] 0)).alloc (.cells #[.map (some (w.heap.size + 1))] 83)) := ⟨_, rfl⟩
  have q0 : W.heap[w.heap.size]? = some (.cells #[.int .i64 V, .slice a fs.length cap] 30 (0, 0)) := by
    rw [hW]; exact (Below.heap_alloc _ _ _ (by simp <;> omega)).trans ((Below.heap_alloc _ _ _ (by simp)).trans (heap_alloc_new _ _))
  obtain ⟨k0, k1, _, _⟩ := two_of q0
  rw [← hW] at e2 e3 hB0
  have HFW : Hid (Calls Tryz.prog 75 #[.agg #[.int .i64 V, .slice a fs.length cap], .func (.func 76) #[] #[.pointer (some ⟨w.heap.size + 1 + 1, 0, none⟩)]] W fun e w' => ∃ v, e = .returned v ∧ Res W w' v []) := hid (by
    have h := fw_any V a cap fs W 76 (.pointer (some ⟨w.heap.size + 1 + 1, 0, none⟩)) (fun x => par x []) (hx.later hB0 hB0.size) hl (enters_of Tryz.func76 (by kernel_rfl) rfl) (fun W' x hW' hxm => by
      have hr := hf x hxm
      have hkeep : W.grownBy W' none := ⟨hW'.os, hW'.tape, hW'.output, hW'.size, fun k hk _ => hW'.block k hk⟩
      exact oddWanted [] _ _ _ x W' hr.1 hr.2 ((hW'.cell (p := ⟨w.heap.size + 1 + 1, 0, none⟩) (lt_of_get e3)).trans (box_cell e3).1) (World.ownsMap.kept e2 hkeep (by simp)))
    have e : (fs.filter fun x => par x []) = [] := by simp [par]
    rwa [e] at h)
  have HW := hid hW
  have HB0 := hid hB0
  clear hx hf hB0 e2 e3 hW q0
  refine callsIn_of_wp_marks Tryz.func57 rfl trivial ?_ rfl
  simp only [Tryz.ntmps57, List.size_toArray, List.length_cons, List.length_nil, Nat.reduceAdd, Nat.reduceSub, Array.replicate_succ, Array.replicate_zero, List.push_toArray, List.append_toArray, List.nil_append, List.cons_append]
  gi_wp2
  clear hmm
  rw [← HW.out]
  refine wpIn_loop_rounds 1 ?_
  rw [roundsIn_succ]
  gi_wp2_with (refine ⟨trivial, ?_⟩; gi_at_call 75; refine (callsIn_wide.2 HFW.out).mono ?_; rintro e w2 ⟨v, rfl, hr⟩)
  refine ⟨v, ?_, v, rfl, hr.later HB0.out⟩
  simp [results, Tryz.results57, go_sem]

theorem bd_any (V : Int) (a0 : Option Addr) (cap : Nat) (fs : List Int) (a1 : Option Addr) (c2 : Nat) (ch : List Int) (w : World) (hx : SlI w w.heap.size a0 fs) (hx1 : SlI w w.heap.size a1 ch) (hl : fs.length ≤ 1048576) (hf : ∀ x ∈ fs, 1 ≤ x ∧ x ≤ 63) (hch : ∀ x ∈ ch, 1 ≤ x ∧ x ≤ 63) (hcl : ch.length ≤ 1048576) :
    Calls Tryz.prog 57 #[.agg #[.int .i64 V, .slice a0 fs.length cap], .slice a1 ch.length c2] w fun e w' => ∃ v, e = .returned v ∧ Res w w' v (bdL fs ch) := by
  rcases hx1 with rfl | ⟨b, off, hb, rfl, hc⟩
  · rw [bdL_nil]
    exact callsIn_wide.1 (bd_nil V a0 cap fs a1 c2 w hx hl hf)
  · exact callsIn_wide.1 (bd_in V a0 cap fs b off c2 ch w hx hl hf hb hc hch hcl)


/-- What FundamentalChain hands back. -/
noncomputable def fundR (V : Int) (fs : List Int) : List Int × Int := if isCB V fs then (if (ofDim fs (top fs)).length = 0 ∨ (bdL fs (ofDim fs (top fs))).length ≠ 0 then ([], 5) else (ofDim fs (top fs), 0)) else ([], 1)

theorem fundR_len (V : Int) (fs : List Int) (h : fs.length ≤ 1048576) : (fundR V fs).1.length ≤ 1048576 := by
  unfold fundR
  split
  · split
    · simp
    · exact Nat.le_trans (List.length_filter_le _ _) h
  · simp

theorem res_monoF {P : Program} {f : FuncId} {args : Array Value} {w : World} {r : List Int × Int} {xs : List Int} {c : Int} (hr : r = (xs, c))
    (h : Calls P f args w fun e w' => ∃ v, e = .returned (.tuple #[v, .int .i64 c]) ∧ Res w w' v xs) : Calls P f args w fun e w' => ∃ v, e = .returned (.tuple #[v, .int .i64 r.2]) ∧ Res w w' v r.1 := by
  subst hr; exact h

theorem ofDim_sub {fs : List Int} {d x : Int} (h : x ∈ ofDim fs d) : x ∈ fs := (List.mem_filter.1 h).1


end Go.Proofs.YtpdhnjdnlgnniaaGreat

/-! Sums of ascending lists, and the boundary of a chain: the model's. -/
namespace Go.Proofs.YtpdhnjdnlgnniaaGreat
open Go.RowKit

theorem drop_at {xs : List Int} {i : Nat} (h : i < xs.length) : xs.drop i = xs[i]?.getD 0 :: xs.drop (i + 1) := by
  rw [List.drop_eq_getElem_cons h, List.getElem?_eq_getElem h]; rfl

set_option maxRecDepth 100000 in
set_option maxHeartbeats 8000000 in
theorem sum_any (a : Option Addr) (ca : Nat) (A : List Int) (b0 : Option Addr) (cb : Nat) (B : List Int) (w : World) (ha : SlI w w.heap.size a A) (hb : SlI w w.heap.size b0 B) (hla : A.length ≤ 1048576) (hlb : B.length ≤ 1048576) :
    Calls Tryz.prog 63 #[.slice a A.length ca, .slice b0 B.length cb] w fun e w' => ∃ v, e = .returned v ∧ Res w w' v (sumL A B) := by
  have hown0 := World.ownsRow_made (base := w.heap.size) (e := 2) (size := 1) w #[] 0 (by simp) (by simp [maxLen]) rfl
  have Hown0 := hid hown0
  have HA := hid ha
  have HB' := hid hb
  have Hlen := hid (sumL_len _ A B (Nat.le_refl _))
  clear hown0 ha hb
  go_enter Tryz.func63, Tryz.ntmps63
  go_wp2
  go_loopw [5, 6, 7] (fun v p q wr => ∃ (i k : Nat) (O : List Int), i ≤ A.length ∧ k ≤ B.length ∧ p = .int .i64 i ∧ q = .int .i64 k ∧ wr.ownsRow w.heap.size 2 1 v O.length (O.map (Value.int .i64)) ∧ Hid (O ++ sumL (A.drop i) (B.drop k) = sumL A B) ∧ Below w.heap.size w wr) (fun _ p q _ => A.length + B.length - (intOf p).toNat - (intOf q).toNat)
  case atStart => exact ⟨0, 0, [], Nat.zero_le _, Nat.zero_le _, rfl, rfl, Hown0.out, hid (by simp), (Below.refl _ w).alloc (Nat.le_refl _) _⟩
  case round =>
    obtain ⟨i, k, O, hi, hk, rfl, rfl, hown, Hs, hB⟩ := hrel
    have HO := hid hown
    have HB := hid hB
    have HS := hid hB.size
    have hOl : O.length ≤ 2097152 := by have := congrArg List.length Hs.out; rw [List.length_append] at this; have := Hlen.out; omega
    clear hown hB Hown0
    by_cases hia : i < A.length
    · obtain ⟨ba, oa, hba, rfl, hca⟩ : ∃ b off, b < w.heap.size ∧ a = some ⟨b, off, none⟩ ∧ ∀ i, i < A.length → w.cell? ⟨b, off + i, none⟩ = some (.int .i64 (A[i]?.getD 0)) := by
        rcases HA.out with h | h
        · rw [h] at hia; simp at hia
        · exact h
      have hcx : wr.cell? ⟨ba, oa + i, none⟩ = some (.int .i64 (A[i]?.getD 0)) := (HB.out.cell (p := ⟨ba, oa + i, none⟩) hba).trans (hca i hia)
      have hda := drop_at hia
      obtain ⟨x, hx⟩ : ∃ x, x = A[i]?.getD 0 := ⟨_, rfl⟩
      rw [← hx] at hcx hda
      have hi0 : (0 : Int) ≤ (i : Int) := by omega
      have hi1 : (i : Int) < (A.length : Int) := by omega
      have hi2 : ((i : Int) == (A.length : Int)) = false := beq_eq_false_iff_ne.2 (by omega)
      by_cases hkb : k < B.length
      · obtain ⟨bb, ob, hbb, rfl, hcb⟩ : ∃ b off, b < w.heap.size ∧ b0 = some ⟨b, off, none⟩ ∧ ∀ i, i < B.length → w.cell? ⟨b, off + i, none⟩ = some (.int .i64 (B[i]?.getD 0)) := by
          rcases HB'.out with h | h
          · rw [h] at hkb; simp at hkb
          · exact h
        have hcy : wr.cell? ⟨bb, ob + k, none⟩ = some (.int .i64 (B[k]?.getD 0)) := (HB.out.cell (p := ⟨bb, ob + k, none⟩) hbb).trans (hcb k hkb)
        have hdb := drop_at hkb
        obtain ⟨y, hy⟩ : ∃ y, y = B[k]?.getD 0 := ⟨_, rfl⟩
        rw [← hy] at hcy hdb
        have hk0 : (0 : Int) ≤ (k : Int) := by omega
        have hk1 : (k : Int) < (B.length : Int) := by omega
        have hk2 : ((k : Int) == (B.length : Int)) = false := beq_eq_false_iff_ne.2 (by omega)
        have Hda := hid hda
        have Hdb := hid hdb
        clear hx hy hca hcb hda hdb
        by_cases hxy : x < y
        · have He := hid (sumL_lt (A.drop (i + 1)) (B.drop (k + 1)) hxy)
          have hd : decide (x < y) = true := decide_eq_true hxy
          go_wp2_with fail
          refine wp_region_quiet_lit (by kernel_rfl) (by kernel_rfl) ?_
          iterate 22 (with_reducible refine wpQuiet_step (fun K hK => ?_); have HK := hid hK; clear hK; go_simp; (first | with_reducible refine HK.out _ ?_ | (rw [if_neg (by decide)]; with_reducible refine HK.out _ ?_)); clear HK K)
          with_reducible refine wpQuiet_nil ?_
          intro _ hw'
          obtain ⟨nq, hw''⟩ := hw'
          subst hw''
          go_wp2_with (at_builtin; refine append_int rfl rfl HO.out HS.out (by omega) rfl rfl ?_; intro v' w2 hown2 hgrow2 hB2)
          go_roundw
          case rel => exact ⟨i + 1, k, O ++ [x], by omega, by omega, by go_num, by go_num, hown2, hid (by rw [List.append_assoc, ← Hs.out, Hda.out, Hdb.out, He.out]; rfl), HB.out.trans (Below.mono (w := wr) ⟨hB2.os, hB2.tape, hB2.output, hB2.size, hB2.block⟩ (Nat.le_refl _))⟩
          case measure => simp [intOf]; omega
        · have hd : decide (x < y) = false := decide_eq_false hxy
          by_cases hyx : y < x
          · have He := hid (sumL_gt (A.drop (i + 1)) (B.drop (k + 1)) hyx)
            have hd2 : decide (y < x) = true := decide_eq_true hyx
            go_wp2_with fail
            refine wp_region_quiet_lit (by kernel_rfl) (by kernel_rfl) ?_
            iterate 22 (with_reducible refine wpQuiet_step (fun K hK => ?_); have HK := hid hK; clear hK; go_simp; (first | with_reducible refine HK.out _ ?_ | (rw [if_neg (by decide)]; with_reducible refine HK.out _ ?_)); clear HK K)
            with_reducible refine wpQuiet_nil ?_
            intro _ hw'
            obtain ⟨nq, hw''⟩ := hw'
            subst hw''
            go_wp2_with fail
            refine wp_region_quiet_lit (by kernel_rfl) (by kernel_rfl) ?_
            iterate 16 (with_reducible refine wpQuiet_step (fun K hK => ?_); have HK := hid hK; clear hK; go_simp; (first | with_reducible refine HK.out _ ?_ | (rw [if_neg (by decide)]; with_reducible refine HK.out _ ?_)); clear HK K)
            with_reducible refine wpQuiet_nil ?_
            intro _ hw'
            obtain ⟨nq, hw''⟩ := hw'
            subst hw''
            go_wp2_with (at_builtin; refine append_int rfl rfl HO.out HS.out (by omega) rfl rfl ?_; intro v' w2 hown2 hgrow2 hB2)
            go_roundw
            case rel => exact ⟨i, k + 1, O ++ [y], by omega, by omega, by go_num, by go_num, hown2, hid (by rw [List.append_assoc, ← Hs.out, Hda.out, Hdb.out, He.out]; rfl), HB.out.trans (Below.mono (w := wr) ⟨hB2.os, hB2.tape, hB2.output, hB2.size, hB2.block⟩ (Nat.le_refl _))⟩
            case measure => simp [intOf]; omega
          · have hd2 : decide (y < x) = false := decide_eq_false hyx
            obtain rfl : x = y := by omega
            have He := hid (sumL_eq x (A.drop (i + 1)) (B.drop (k + 1)))
            go_wp2_with fail
            refine wp_region_quiet_lit (by kernel_rfl) (by kernel_rfl) ?_
            iterate 22 (with_reducible refine wpQuiet_step (fun K hK => ?_); have HK := hid hK; clear hK; go_simp; (first | with_reducible refine HK.out _ ?_ | (rw [if_neg (by decide)]; with_reducible refine HK.out _ ?_)); clear HK K)
            with_reducible refine wpQuiet_nil ?_
            intro _ hw'
            obtain ⟨nq, hw''⟩ := hw'
            subst hw''
            go_wp2_with fail
            refine wp_region_quiet_lit (by kernel_rfl) (by kernel_rfl) ?_
            iterate 16 (with_reducible refine wpQuiet_step (fun K hK => ?_); have HK := hid hK; clear hK; go_simp; (first | with_reducible refine HK.out _ ?_ | (rw [if_neg (by decide)]; with_reducible refine HK.out _ ?_)); clear HK K)
            with_reducible refine wpQuiet_nil ?_
            intro _ hw'
            obtain ⟨nq, hw''⟩ := hw'
            subst hw''
            go_wp2_with fail
            go_roundw
            case rel => exact ⟨i + 1, k + 1, O, by omega, by omega, by go_num, by go_num, HO.out, hid (by rw [← Hs.out, Hda.out, Hdb.out, He.out]), HB.out.trans ⟨rfl, rfl, rfl, Nat.le_refl _, fun _ _ => rfl⟩⟩
            case measure => simp [intOf]; omega
      · obtain rfl : k = B.length := by omega
        have hk2 : ((B.length : Int) == (B.length : Int)) = true := by simp
        have He := hid (sumL_nil' (A.drop (i + 1)))
        have Hda := hid hda
        clear hx hca hda
        go_wp2_with fail
        refine wp_region_quiet_lit (by kernel_rfl) (by kernel_rfl) ?_
        iterate 22 (with_reducible refine wpQuiet_step (fun K hK => ?_); have HK := hid hK; clear hK; go_simp; (first | with_reducible refine HK.out _ ?_ | (rw [if_neg (by decide)]; with_reducible refine HK.out _ ?_)); clear HK K)
        with_reducible refine wpQuiet_nil ?_
        intro _ hw'
        obtain ⟨nq, hw''⟩ := hw'
        subst hw''
        go_wp2_with (at_builtin; refine append_int rfl rfl HO.out HS.out (by omega) rfl rfl ?_; intro v' w2 hown2 hgrow2 hB2)
        go_roundw
        case rel => exact ⟨i + 1, B.length, O ++ [x], by omega, by omega, by go_num, by go_num, hown2, hid (by rw [List.append_assoc, ← Hs.out, Hda.out, List.drop_length, sumL_nil', sumL_nil']; rfl), HB.out.trans (Below.mono (w := wr) ⟨hB2.os, hB2.tape, hB2.output, hB2.size, hB2.block⟩ (Nat.le_refl _))⟩
        case measure => simp [intOf]; omega
    · obtain rfl : i = A.length := by omega
      have hi2 : ((A.length : Int) == (A.length : Int)) = true := by simp
      by_cases hkb : k < B.length
      · obtain ⟨bb, ob, hbb, rfl, hcb⟩ : ∃ b off, b < w.heap.size ∧ b0 = some ⟨b, off, none⟩ ∧ ∀ i, i < B.length → w.cell? ⟨b, off + i, none⟩ = some (.int .i64 (B[i]?.getD 0)) := by
          rcases HB'.out with h | h
          · rw [h] at hkb; simp at hkb
          · exact h
        have hcy : wr.cell? ⟨bb, ob + k, none⟩ = some (.int .i64 (B[k]?.getD 0)) := (HB.out.cell (p := ⟨bb, ob + k, none⟩) hbb).trans (hcb k hkb)
        have hdb := drop_at hkb
        obtain ⟨y, hy⟩ : ∃ y, y = B[k]?.getD 0 := ⟨_, rfl⟩
        rw [← hy] at hcy hdb
        have hk0 : (0 : Int) ≤ (k : Int) := by omega
        have hk1 : (k : Int) < (B.length : Int) := by omega
        have hk2 : ((k : Int) == (B.length : Int)) = false := beq_eq_false_iff_ne.2 (by omega)
        have Hdb := hid hdb
        clear hy hcb hdb
        go_wp2_with fail
        refine wp_region_quiet_lit (by kernel_rfl) (by kernel_rfl) ?_
        iterate 22 (with_reducible refine wpQuiet_step (fun K hK => ?_); have HK := hid hK; clear hK; go_simp; (first | with_reducible refine HK.out _ ?_ | (rw [if_neg (by decide)]; with_reducible refine HK.out _ ?_)); clear HK K)
        with_reducible refine wpQuiet_nil ?_
        intro _ hw'
        obtain ⟨nq, hw''⟩ := hw'
        subst hw''
        go_wp2_with fail
        refine wp_region_quiet_lit (by kernel_rfl) (by kernel_rfl) ?_
        iterate 16 (with_reducible refine wpQuiet_step (fun K hK => ?_); have HK := hid hK; clear hK; go_simp; (first | with_reducible refine HK.out _ ?_ | (rw [if_neg (by decide)]; with_reducible refine HK.out _ ?_)); clear HK K)
        with_reducible refine wpQuiet_nil ?_
        intro _ hw'
        obtain ⟨nq, hw''⟩ := hw'
        subst hw''
        go_wp2_with (at_builtin; refine append_int rfl rfl HO.out HS.out (by omega) rfl rfl ?_; intro v' w2 hown2 hgrow2 hB2)
        go_roundw
        case rel => exact ⟨A.length, k + 1, O ++ [y], by omega, by omega, by go_num, by go_num, hown2, hid (by rw [List.append_assoc, ← Hs.out, Hdb.out, List.drop_length, sumL_nil, sumL_nil]; rfl), HB.out.trans (Below.mono (w := wr) ⟨hB2.os, hB2.tape, hB2.output, hB2.size, hB2.block⟩ (Nat.le_refl _))⟩
        case measure => simp [intOf]; omega
      · obtain rfl : k = B.length := by omega
        have He : Hid (O = sumL A B) := hid (by have := Hs.out; rw [List.drop_length, List.drop_length, sumL_nil] at this; simpa using this)
        go_wp2
        go_ret
        exact ⟨_, rfl, by rw [← He.out]; exact HO.out, HB.out⟩

end Go.Proofs.YtpdhnjdnlgnniaaGreat

/-! FundamentalChain, the model's. -/
namespace Go.Proofs.YtpdhnjdnlgnniaaGreat
open Go.RowKit

theorem par_mem {p : Int} {L : List Int} (h : par p L = true) : p ∈ L := by
  unfold par at h
  have := of_decide_eq_true h
  exact List.count_pos_iff.1 (by omega)

theorem sidesAll_range {ch : List Int} (h : ∀ x ∈ ch, 1 ≤ x ∧ x ≤ 63) {p : Int} (hp : p ∈ sidesAll ch) : 1 ≤ p ∧ p ≤ 63 := by
  unfold sidesAll at hp
  obtain ⟨x, hx, hm⟩ := List.mem_flatMap.1 hp
  have hxr := h x hx
  obtain ⟨q, hq, rfl⟩ := List.mem_map.1 hm
  have := (sides_sub ⟨x.toNat, by omega⟩ q hq).1
  have := q.isLt
  omega

theorem bdS_len {ch : List Int} (h : ∀ x ∈ ch, 1 ≤ x ∧ x ≤ 63) : (bdS ch).length ≤ 63 := by
  obtain ⟨h1, h2⟩ := bdS_spec ch h
  have := asc_len (bdS ch) 1 h2 (fun x hx => sidesAll_range h (par_mem ((h1 x).1 hx)))
  omega

set_option maxRecDepth 100000 in
set_option maxHeartbeats 2000000 in
theorem bdS_any (a1 : Option Addr) (c2 : Nat) (ch : List Int) (w : World) (hx : SlI w w.heap.size a1 ch) (hch : ∀ x ∈ ch, 1 ≤ x ∧ x ≤ 63) (hcl : ch.length ≤ 1048576) :
    Calls Tryz.prog 49 #[.slice a1 ch.length c2] w fun e w' => ∃ v, e = .returned v ∧ Res w w' v (bdS ch) := by
  have hown0 := World.ownsRow_made (base := w.heap.size) (e := 2) (size := 1) w #[] 0 (by simp) (by simp [maxLen]) rfl
  have Hown0 := hid hown0
  have HX := hid hx
  have Hch := hid hch
  clear hown0 hx hch
  go_enter Tryz.func49, Tryz.ntmps49
  go_wp2
  go_loopw [3, 4] (fun v i wr => ∃ k : Nat, k ≤ ch.length ∧ i = .int .i64 k ∧ wr.ownsRow w.heap.size 2 1 v (bdS (ch.take k)).length ((bdS (ch.take k)).map (Value.int .i64)) ∧ Below w.heap.size w wr) (fun _ i _ => ch.length - (intOf i).toNat)
  case atStart => exact ⟨0, Nat.zero_le _, rfl, by simpa [bdS] using Hown0.out, (Below.refl _ w).alloc (Nat.le_refl _) _⟩
  case round =>
    obtain ⟨k, hk, rfl, hown, hB⟩ := hrel
    clear Hown0
    by_cases hlt : k < ch.length
    · obtain ⟨b, off, hb, rfl, hc⟩ : ∃ b off, b < w.heap.size ∧ a1 = some ⟨b, off, none⟩ ∧ ∀ i, i < ch.length → w.cell? ⟨b, off + i, none⟩ = some (.int .i64 (ch[i]?.getD 0)) := by
        rcases HX.out with h | h
        · rw [h] at hlt; simp at hlt
        · exact h
      obtain ⟨x, hx⟩ : ∃ x, x = ch[k]?.getD 0 := ⟨_, rfl⟩
      have hck : wr.cell? ⟨b, off + k, none⟩ = some (.int .i64 x) := by rw [hx]; exact (hB.cell (p := ⟨b, off + k, none⟩) hb).trans (hc k hlt)
      have hxr := Hch.out _ (getD_mem hlt)
      rw [← hx] at hxr
      have Hsn : Hid (bdS (ch.take (k + 1)) = sumL (bdS (ch.take k)) (belowR x.toNat 63)) := hid (by rw [take_snoc hlt, ← hx, bdS_snoc])
      have hol := bdS_len (ch := ch.take k) (fun y hy => Hch.out y (List.mem_of_mem_take hy))
      have hyl := belowR_len x.toNat 63
      obtain ⟨ys, hys⟩ : ∃ ys, ys = belowR x.toNat 63 := ⟨_, rfl⟩
      rw [← hys] at Hsn hyl
      have Hys := hid hys
      obtain ⟨O, hO⟩ : ∃ O, O = bdS (ch.take k) := ⟨_, rfl⟩
      rw [← hO] at Hsn hol hown
      have hi0 : (0 : Int) ≤ (k : Int) := by omega
      have hi1 : (k : Int) < (ch.length : Int) := by omega
      have HB := hid hB
      have Hol : Hid (O.length ≤ 1048576) := hid (by omega)
      have Hyl : Hid (ys.length ≤ 1048576) := hid (by omega)
      have Hown := hid hown
      obtain ⟨_, av, cv, rfl, hs⟩ := ownsRow_slI hown
      have Hs := hid hs
      have HBel := hid (below_as x ys wr (by omega) (by omega) hys)
      have Hle := hid hB.size
      clear hx hc hys hO hB hown hs hol hyl
      go_wp2_with (first
        | (go_at_call 44; refine HBel.out.mono ?_; rintro e w1 ⟨ab, cb, rfl, hsb, hB1⟩; have HS1 := hid (sum_any av cv O ab cb ys w1 (Hs.out.later hB1 hB1.size) hsb Hol.out Hyl.out); have HB1 := hid hB1; clear hsb hB1)
        | (go_at_call 63; refine HS1.out.mono ?_; rintro e w2 ⟨v2, rfl, hr⟩; have HR := hid hr; clear hr))
      go_roundw
      case rel =>
        have hb1 := HB.out.trans (HB1.out.mono Hle.out)
        have hb2 : Below w1.heap.size w1 w2 := HR.out.2
        exact ⟨k + 1, by omega, by go_num, by rw [Hsn.out]; exact ownsRow_base HR.out.1 hb1.size, hb1.trans (hb2.mono hb1.size)⟩
      case measure => simp [intOf]; omega
    · obtain rfl : k = ch.length := by omega
      rw [List.take_of_length_le (Nat.le_refl _)] at hown
      go_wp2
      go_ret
      exact ⟨_, rfl, hown, hB⟩




end Go.Proofs.YtpdhnjdnlgnniaaGreat

/-! acyclicCode. -/
namespace Go.Proofs.YtpdhnjdnlgnniaaGreat
open Go.RowKit

noncomputable def acodeR (V : Int) (fs : List Int) (n : Nat) (ps : List Int) (s : Bool) : Int := if pcodeR V fs n ps = 0 then (if s then (if acyB ps n then 0 else 5) else 2) else pcodeR V fs n ps

set_option maxRecDepth 1000000 in
set_option maxHeartbeats 2000000 in
theorem acode_any (V : Int) (a0 : Option Addr) (cap : Nat) (fs : List Int) (a1 : Option Addr) (n cap1 : Nat) (ps : List Int) (s : Bool) (w : World) (hx : SlI w w.heap.size a0 fs) (hx1 : SlI w w.heap.size a1 ps) (hl : fs.length ≤ 1048576) (hp : ps.length = 2 * n) (hn : n ≤ 1048576) (hw : ∀ x ∈ ps, (Lit.int .i64 x).wf = true) :
    Calls Tryz.prog 24 #[.agg #[.int .i64 V, .slice a0 fs.length cap], .slice a1 n cap1, .bool s] w fun e w' => e = .returned (.int .i64 (acodeR V fs n ps s)) ∧ Below w.heap.size w w' := by
  have hB0 : Below w.heap.size w (w.alloc (.cells #[.int .i64 V, .slice a0 fs.length cap] 30)) := (Below.refl _ w).alloc (Nat.le_refl _) _
  have HK := hid (pcode_impl V a0 cap fs a1 n cap1 ps _ (hx.later hB0 hB0.size) (hx1.later hB0 hB0.size) hl hp hn hw)
  have HB0 := hid hB0
  obtain ⟨E, hE⟩ : ∃ E, E = acodeR V fs n ps s := ⟨_, rfl⟩
  rw [← hE]
  by_cases hpc : pcodeR V fs n ps = 0
  · have hCO : IsC V fs ∧ OkTo fs ps n := by
      rcases pcode_cases V fs n ps with ⟨hC, ho, _⟩ | ⟨_, _, h2, _⟩ | ⟨_, h2, _⟩
      · exact ⟨hC, ho⟩
      · rw [h2] at hpc; cases hpc
      · rw [h2] at hpc; cases hpc
    have hE1 : E = if s then (if acyB ps n then 0 else 5) else 2 := by rw [hE, acodeR, if_pos hpc]
    rw [hpc] at HK
    have HA := hid (fun w1 (h : Below w.heap.size w w1) => isAcy_any a1 n cap1 ps w1 (hx1.later h h.size) hp hn hw (okTo_apart hCO.2) (okTo_highs hCO.1 hCO.2))
    clear hx hx1 hp hw hpc hCO hE hB0
    cases s
    · have He : Hid (E = 2) := hid (by rw [hE1]; simp)
      clear hE1
      go_enter Tryz.func24, Tryz.ntmps24
      go_wp2_with fail
      refine HK.out.mono ?_
      rintro e w1 ⟨rfl, hB1⟩
      go_wp2_with fail
      go_ret
      exact ⟨ret_int (by rw [He.out]), HB0.out.trans (hB1.mono (by simp))⟩
    · cases hac : acyB ps n
      · have He : Hid (E = 5) := hid (by rw [hE1, hac]; simp)
        rw [hac] at HA
        clear hE1 hac
        go_enter Tryz.func24, Tryz.ntmps24
        go_wp2_with fail
        refine HK.out.mono ?_
        rintro e w1 ⟨rfl, hB1⟩
        have HB1 := hid (HB0.out.trans (hB1.mono (by simp)))
        clear hB1
        go_wp2_with fail
        refine (HA.out w1 HB1.out).mono ?_
        rintro e w2 ⟨rfl, hB2⟩
        go_wp2_with fail
        go_ret
        exact ⟨ret_int (by rw [He.out]), HB1.out.trans (hB2.mono HB1.out.size)⟩
      · have He : Hid (E = 0) := hid (by rw [hE1, hac]; simp)
        rw [hac] at HA
        clear hE1 hac
        go_enter Tryz.func24, Tryz.ntmps24
        go_wp2_with fail
        refine HK.out.mono ?_
        rintro e w1 ⟨rfl, hB1⟩
        have HB1 := hid (HB0.out.trans (hB1.mono (by simp)))
        clear hB1
        go_wp2_with fail
        refine (HA.out w1 HB1.out).mono ?_
        rintro e w2 ⟨rfl, hB2⟩
        go_wp2_with fail
        go_ret
        exact ⟨ret_int (by rw [He.out]), HB1.out.trans (hB2.mono HB1.out.size)⟩
  · have hE1 : E = pcodeR V fs n ps := by rw [hE, acodeR, if_neg hpc]
    rw [← hE1] at hpc HK
    have hcn : (E != 0) = true := by simpa using hpc
    clear hx hx1 hp hw hpc hE hE1 hB0
    go_enter Tryz.func24, Tryz.ntmps24
    go_wp2_with fail
    refine HK.out.mono ?_
    rintro e w1 ⟨rfl, hB1⟩
    go_wp2_with fail
    go_ret
    exact ⟨rfl, HB0.out.trans (hB1.mono (by simp))⟩

end Go.Proofs.YtpdhnjdnlgnniaaGreat

/-! What no code means. -/
namespace Go.Proofs.YtpdhnjdnlgnniaaGreat
open Go.RowKit

theorem pcode_zero {V : Int} {fs ps : List Int} {n : Nat} (h : pcodeR V fs n ps = 0) : IsC V fs ∧ OkTo fs ps n := by
  rcases pcode_cases V fs n ps with ⟨hC, ho, _⟩ | ⟨_, _, h2, _⟩ | ⟨_, h2, _⟩
  · exact ⟨hC, ho⟩
  · rw [h2] at h; cases h
  · rw [h2] at h; cases h
theorem acode_zero {V : Int} {fs ps : List Int} {n : Nat} (h : acodeR V fs n ps true = 0) : IsC V fs ∧ OkTo fs ps n ∧ acyB ps n = true := by
  unfold acodeR at h
  by_cases hp : pcodeR V fs n ps = 0
  · rw [if_pos hp, if_pos rfl] at h
    refine ⟨(pcode_zero hp).1, (pcode_zero hp).2, ?_⟩
    cases ha : acyB ps n
    · rw [ha] at h; cases h
    · rfl
  · rw [if_neg hp] at h
    exact absurd h hp

end Go.Proofs.YtpdhnjdnlgnniaaGreat
