import Derived.Lib.SliceRun
import Derived.Lib.Walk
import Derived.Lib.SlicesCompact
import Derived.Lib.RowBridge
import Derived.Shelf.SlLaysN
import Derived.Test.YtgcpakhagbbiiaaProg
import Derived.Shelf.SlLaysM
import Derived.Shelf.SlLaysZI
import Derived.Shelf.SlIterI.Nil
import Derived.Shelf.SortM.Plain
import Derived.Shelf.SortM.SortNone
import Derived.Maps.OwnIn
import Derived.Shelf.SlicesG.CompactI
import Derived.Sort.OwnSortedInts
import Derived.Test.YtgcpakhagbbiiaaMB2
import Derived.Test.YtgcpakhagbbiiaaMB1
import Derived.Test.YtgcpakhagbbiiaaMB4
import Derived.Test.YtgcpakhagbbiiaaMB6
import Derived.Test.YtgcpakhagbbiiaaMB5
import Derived.Test.YtgcpakhagbbiiaaCCriticalValues1
/-! Joins: copies of lists. -/
namespace Go.Proofs.Ytgcpakhagbbiiaa
open Go.RowKit

/-- 'append([]int64{}, list...)' of a list that lies in memory. -/
theorem append_all {w : World} {ops : Array Oper} {rest : List Oper} {o : Oper} {a : Act} {Q : Exit → Act → World → Prop} (hgd : o.guard = none) {s y : Operand}
    (ho : o.op = .call { callee := .builtin .append, args := #[s, y], argTypes := #[22, 22] })
    {b off cap : Nat} {xs : List Int} (hl : xs.length ≤ 1048576) (hc : ∀ i, i < xs.length → w.cell? ⟨b, off + i, none⟩ = some (.int .i64 (xs[i]?.getD 0)))
    (hs : a.eval s = .slice (some ⟨w.heap.size, 0, none⟩) 0 0) (hy : a.eval y = .slice (some ⟨b, off, none⟩) xs.length cap)
    (hK : ∀ v' w', w'.ownsRow w.heap.size 2 1 v' xs.length (xs.map (Value.int .i64)) → Below w.heap.size w w' → (v' = .slice none 0 0 → False) → wpList Try.prog ops Q rest (a.put o.dst v') w') :
    wpList Try.prog ops Q (o :: rest) a (w.alloc (.cells #[] 2)) := by
  obtain ⟨i0, hi, hz0, hz1, hz2⟩ := info_parts info_i64
  refine wpList_append_own _ hgd s y 22 ho w.heap.size 2 i0 (.int .i64 0) 1 8 Try.underlying22 hi hz0 hz1 hz2 rfl (by decide) (.slice (some ⟨w.heap.size, 0, none⟩) 0 0) 0 [] hs (World.ownsRow_made w #[] 0 (Nat.le_refl _) (Nat.zero_le _) rfl) ⟨b, off, none⟩ xs.length cap (xs.map (Value.int .i64)) hy (by simp) ?_ (fun u hu => by obtain ⟨x, _, rfl⟩ := List.mem_map.1 hu; rfl) (by unfold maxLen; omega) (by omega) (by simp) ?_
  · intro j u hj
    have hjn : j < xs.length := by
      have := (List.getElem?_eq_some_iff.1 hj).1
      simpa using this
    rw [Addr.add_lit]
    refine (World.cell?_alloc_some w _ _ (show (w.cell? _).isSome = true by rw [hc j hjn]; rfl)).trans ?_
    rw [hc j hjn, ← hj]
    simp [List.getElem?_eq_getElem hjn]
  · intro v' w1 hown hgrow hnil
    refine hK v' w1 (by simpa using hown) (((Below.refl _ w).alloc (Nat.le_refl _) _).grown hgrow (by simp) (by intro k hk; simp [Value.ownBlock] at hk; omega)) (fun e => ?_)
    have := (hnil.1 e).1
    simp at this

theorem own_any (a0 : Option Addr) (cap : Nat) (xs : List Int) (w : World) (hx : SlI w w.heap.size a0 xs) (hl : xs.length ≤ 1048576) :
    Calls Try.prog 140 #[.slice a0 xs.length cap] w fun e w' => ∃ v, e = .returned v ∧ Res w w' v xs := by
  rcases hx with rfl | ⟨b, off, hb, rfl, hc⟩
  · have hr : Res w (w.alloc (.cells #[] 2)) (.slice (some ⟨w.heap.size, 0, none⟩) 0 0) [] := ⟨World.ownsRow_made w #[] 0 (Nat.le_refl _) (Nat.zero_le _) rfl, (Below.refl _ w).alloc (Nat.le_refl _) _⟩
    have Hr := hid hr
    clear hr
    cases a0 with
    | none =>
      go_enter Try.func140, Try.ntmps140
      go_wp2_with fail
      go_ret
      exact ⟨_, rfl, Hr.out⟩
    | some ad =>
      go_enter Try.func140, Try.ntmps140
      go_wp2_with fail
      go_ret
      exact ⟨_, rfl, Hr.out⟩
  · have Hc := hid hc
    clear hc
    go_enter Try.func140, Try.ntmps140
    go_wp2_with (at_builtin; refine append_all rfl rfl hl Hc.out rfl rfl ?_; intro v' w1 hown hB _)
    go_ret
    exact ⟨v', rfl, hown, hB⟩

/-- slices.Clone: nil of nil; else a copy. -/
theorem clone_any (a0 : Option Addr) (cap : Nat) (xs : List Int) (w : World) (hx : SlI w w.heap.size a0 xs) (hl : xs.length ≤ 1048576) :
    Calls Try.prog 180 #[.slice a0 xs.length cap] w fun e w' => ∃ v, e = .returned v ∧ Res w w' v xs := by
  have q22 : ∀ (w : World) (a : Option Addr) (n c n' c' : Nat), (binOp .eql 22 (.slice a n c) (.slice none n' c')).run Try.prog w = .ok (.bool a.isNone) w := fun w a n c n' c' => Lib.run_eql_slice_nil w _ _ a n c n' c' Try.underlying22
  rcases hx with rfl | ⟨b, off, hb, rfl, hc⟩
  · have hr : Res w (w.alloc (.cells #[] 2)) (.slice (some ⟨w.heap.size, 0, none⟩) 0 0) [] := ⟨World.ownsRow_made w #[] 0 (Nat.le_refl _) (Nat.zero_le _) rfl, (Below.refl _ w).alloc (Nat.le_refl _) _⟩
    have hr0 : Res w w (.slice none 0 0) [] := res_nil _ _ (Below.refl _ _)
    have Hr := hid hr
    have Hr0 := hid hr0
    clear hr hr0
    cases a0 with
    | none =>
      go_enter Try.func180, Try.ntmps180
      go_wp2_with fail
      go_ret
      exact ⟨_, rfl, Hr0.out⟩
    | some ad =>
      go_enter Try.func180, Try.ntmps180
      go_wp2_with fail
      go_ret
      exact ⟨_, rfl, Hr.out⟩
  · have Hc := hid hc
    clear hc
    go_enter Try.func180, Try.ntmps180
    go_wp2_with (at_builtin; refine append_all rfl rfl hl Hc.out rfl rfl ?_; intro v' w1 hown hB _)
    go_ret
    exact ⟨v', rfl, hown, hB⟩

/-- step_append_new in a plain region. -/
theorem plain_append_new {W : World} {H : Nat} {ops : Array Oper} {rest : List Oper} {o : Oper} {a : Act} {Q : Exit → Act → World → Prop} (hgd : o.guard = none) {s y : Operand}
    (ho : o.op = .call { callee := .builtin .append, args := #[s, y], argTypes := #[22, 22] })
    {base : Nat} {v : Value} {xs : List Int} {x : Int} (hown : W.ownsRow base 2 1 v xs.length (xs.map (Value.int .i64))) (hH : W.heap.size = H) (hbase : base ≤ H) (hl : xs.length ≤ 1099511627776)
    (hs : a.eval s = v) (hy : a.eval y = .slice (some ⟨H, 0, none⟩) 1 1)
    (hK : ∀ g cap w', w'.ownsRow base 2 1 (.slice (some ⟨g, 0, none⟩) (xs ++ [x]).length cap) (xs ++ [x]).length ((xs ++ [x]).map (Value.int .i64)) → (W.alloc (.cells #[.int .i64 x] 2)).grownBy w' v.ownBlock →
      wpList Try.prog ops Q rest (a.put o.dst (.slice (some ⟨g, 0, none⟩) (xs ++ [x]).length cap)) w') :
    wpList Try.prog ops Q (o :: rest) a (W.alloc (.cells #[.int .i64 x] 2)) := by
  subst hH
  obtain ⟨i0, hi, hz0, hz1, hz2⟩ := info_parts info_i64
  refine wpList_append_lies (W.alloc (.cells #[.int .i64 x] 2)) hgd s y 22 ho base 2 i0 (.int .i64 0) 1 8 Try.underlying22 hi hz0 hz1 hz2 rfl (by decide) v _ _ hs (hown.alloc _) ⟨W.heap.size, 0, none⟩ 1 1 [.int .i64 x] hy rfl (cell_one_new _ _ _) (by simp [Value.oneCell']) (by decide) (by unfold maxLen; omega) (by omega) (by simp; omega) _ rfl ?_
  intro g cap w1 hown1 hg _ _
  have e : (xs ++ [x]).length = xs.length + 1 := by simp
  have h := hK g cap w1 (by rw [e]; simpa using hown1) hg
  rw [e] at h
  exact h

end Go.Proofs.Ytgcpakhagbbiiaa

/-! 'out.Faces = append(out.Faces, x)' in the model's loops, where the complex that is built has a number of vertices of its own (OutW, with that number). -/
namespace Go.Proofs.Ytgcpakhagbbiiaa
open Go.RowKit

/-- The same, where what is built has another number of vertices: B is the heap's size when the call began. -/
structure OutU (w W : World) (V U : Int) (sl : Value) (Bo : Nat) (xs : List Int) (a : Option Addr) (c : Nat) : Prop where
  below : Below w.heap.size w W
  kbox : W.heap[w.heap.size]? = some (.cells #[.int .i64 V, sl] 30 (0, 0))
  res : W.heap[w.heap.size + 1]? = some (.cells #[.int .i64 0, .slice none 0 0] 30 (0, 0))
  out : W.heap[Bo]? = some (.cells #[.int .i64 U, .slice a xs.length c] 30 (0, 0))
  own : W.ownsRow w.heap.size 2 1 (.slice a xs.length c) xs.length (xs.map (Value.int .i64))
  bo : w.heap.size + 1 < Bo

/-- Draws alone. -/
theorem OutU.drew {w W : World} {V U : Int} {sl : Value} {Bo : Nat} {xs : List Int} {a : Option Addr} {c : Nat} (h : OutU w W V U sl Bo xs a c) : OutU w W.drew V U sl Bo xs a c :=
  ⟨⟨h.below.os, h.below.tape, h.below.output, h.below.size, h.below.block⟩, h.kbox, h.res, h.out, h.own, h.bo⟩

theorem OutU.drewN {w W : World} {V U : Int} {sl : Value} {Bo : Nat} {xs : List Int} {a : Option Addr} {c : Nat} (h : OutU w W V U sl Bo xs a c) (n : Nat) : OutU w (W.drewN n) V U sl Bo xs a c :=
  ⟨⟨h.below.os, h.below.tape, h.below.output, h.below.size, h.below.block⟩, h.kbox, h.res, h.out, h.own, h.bo⟩

/-- Whatever keeps all that lay. -/
theorem OutU.later {w W W' : World} {V U : Int} {sl : Value} {Bo : Nat} {xs : List Int} {a : Option Addr} {c : Nat} (h : OutU w W V U sl Bo xs a c) (hb : Below W.heap.size W W') : OutU w W' V U sl Bo xs a c where
  below := h.below.trans (hb.mono h.below.size)
  kbox := (hb.block _ (lt_get h.kbox)).trans h.kbox
  res := (hb.block _ (lt_get h.res)).trans h.res
  out := (hb.block _ (lt_get h.out)).trans h.out
  own := ownsRow_below h.own hb (fun g hg => (h.own.lt g hg).2)
  bo := h.bo

/-- A face more. -/
theorem OutU.step {w W w2 : World} {V U : Int} {sl : Value} {Bo : Nat} {xs : List Int} {a : Option Addr} {c : Nat} (h : OutU w W V U sl Bo xs a c) {x : Int} {g cap : Nat} {o : Obj}
    (hown : w2.ownsRow w.heap.size 2 1 (.slice (some ⟨g, 0, none⟩) (xs ++ [x]).length cap) (xs ++ [x]).length ((xs ++ [x]).map (Value.int .i64))) (hg : (W.alloc o).grownBy w2 (Value.ownBlock (.slice a xs.length c))) :
    OutU w (w2.setCell ⟨Bo, 1, none⟩ (.slice (some ⟨g, 0, none⟩) (xs ++ [x]).length cap)) V U sl Bo (xs ++ [x]) (some ⟨g, 0, none⟩) cap := by
  have hgr : W.grownBy w2 (Value.ownBlock (.slice a xs.length c)) := (World.grownBy_alloc W o _).trans hg
  have hbo := h.bo
  have k2 := (hgr.block _ (lt_get h.kbox) (row_ne h.own h.kbox (by decide))).trans h.kbox
  have r2 := (hgr.block _ (lt_get h.res) (row_ne h.own h.res (by decide))).trans h.res
  have o2 := (hgr.block _ (lt_get h.out) (row_ne h.own h.out (by decide))).trans h.out
  refine ⟨?_, ?_, ?_, ?_, ?_, h.bo⟩
  · exact (h.below.grown hgr h.below.size (fun k hk => (h.own.lt k hk).1)).setCell (p := ⟨Bo, 1, none⟩) (by simp only; omega) _
  · exact (Below.heap_setCell _ _ _ _ (by simp only; omega)).trans k2
  · exact (Below.heap_setCell _ _ _ _ (by simp only; omega)).trans r2
  · simp only [World.setCell, Array.getElem?_modify, o2]
    simp
  · exact ownsRow_set hown (by
      have := row_ne hown o2 (by decide)
      exact fun e => this e.symm) _

/-- The model's loops hand back what they have built. -/
theorem OutU.done {w W : World} {V U : Int} {sl : Value} {Bo : Nat} {xs : List Int} {a : Option Addr} {c : Nat} (h : OutU w W V U sl Bo xs a c) (u v : Value) :
    Res w ((W.setCell ⟨w.heap.size + 1, 0, none⟩ u).setCell ⟨w.heap.size + 1, 1, none⟩ v) (.slice a xs.length c) xs := by
  have hn := row_ne h.own h.res (by decide)
  exact ⟨ownsRow_set (ownsRow_set h.own (fun e => hn e.symm) _) (fun e => hn e.symm) _, (h.below.setCell (p := ⟨w.heap.size + 1, 0, none⟩) (by simp) _).setCell (p := ⟨w.heap.size + 1, 1, none⟩) (by simp) _⟩

theorem OutU.stepN {w W w2 : World} {V U : Int} {sl : Value} {Bo : Nat} {xs : List Int} {a : Option Addr} {c : Nat} (h : OutU w W V U sl Bo xs a c) {x : Int} {g cap : Nat} {o : Obj} {n : Nat}
    (hown : w2.ownsRow w.heap.size 2 1 (.slice (some ⟨g, 0, none⟩) (xs ++ [x]).length cap) (xs ++ [x]).length ((xs ++ [x]).map (Value.int .i64))) (hg : ((W.drewN n).alloc o).grownBy w2 (Value.ownBlock (.slice a xs.length c))) :
    OutU w (w2.setCell ⟨Bo, 1, none⟩ (.slice (some ⟨g, 0, none⟩) (xs ++ [x]).length cap)) V U sl Bo (xs ++ [x]) (some ⟨g, 0, none⟩) cap := (h.drewN n).step hown hg

/-- The out block behind an append. -/
theorem OutU.mid {w W w2 : World} {V U : Int} {sl : Value} {Bo : Nat} {xs : List Int} {a : Option Addr} {c : Nat} (h : OutU w W V U sl Bo xs a c) {n : Nat} {o : Obj} (hg : ((W.drewN n).alloc o).grownBy w2 (Value.ownBlock (.slice a xs.length c))) :
    w2.cell? ⟨Bo, 1, none⟩ = some (.slice a xs.length c) ∧ w2.frozen? ⟨Bo, 1, none⟩ = false := by
  have hgr : (W.drewN n).grownBy w2 (Value.ownBlock (.slice a xs.length c)) := (World.grownBy_alloc _ o _).trans hg
  have o2 := (hgr.block _ (lt_get (h.drewN n).out) (row_ne (h.drewN n).own (h.drewN n).out (by decide))).trans (h.drewN n).out
  constructor <;> simp [World.cell?, World.frozen?, o2]

/-- The given complex's box behind an append. -/
theorem OutU.midK {w W w2 : World} {V U : Int} {sl : Value} {Bo : Nat} {xs : List Int} {a : Option Addr} {c : Nat} (h : OutU w W V U sl Bo xs a c) {n : Nat} {o : Obj} (hg : ((W.drewN n).alloc o).grownBy w2 (Value.ownBlock (.slice a xs.length c))) :
    w2.cell? ⟨w.heap.size, 1, none⟩ = some sl := by
  have hgr : (W.drewN n).grownBy w2 (Value.ownBlock (.slice a xs.length c)) := (World.grownBy_alloc _ o _).trans hg
  have o2 := (hgr.block _ (lt_get (h.drewN n).kbox) (row_ne (h.drewN n).own (h.drewN n).kbox (by decide))).trans (h.drewN n).kbox
  simp [World.cell?, o2]

/-- What lay before the call, behind an append. -/
theorem OutU.midX {w W w2 : World} {V U : Int} {sl : Value} {Bo : Nat} {xs : List Int} {a : Option Addr} {c : Nat} (h : OutU w W V U sl Bo xs a c) {n : Nat} {o : Obj} (hg : ((W.drewN n).alloc o).grownBy w2 (Value.ownBlock (.slice a xs.length c))) {p : Addr} (hp : p.block < w.heap.size) :
    w2.cell? p = W.cell? p := by
  have hgr : (W.drewN n).grownBy w2 (Value.ownBlock (.slice a xs.length c)) := (World.grownBy_alloc _ o _).trans hg
  have hlt : p.block < (W.drewN n).heap.size := Nat.lt_of_lt_of_le hp h.below.size
  have h2 : w2.heap[p.block]? = W.heap[p.block]? := hgr.block _ hlt (by
    intro he
    have := (h.own.lt _ he.symm).1
    omega)
  simp only [World.cell?, h2]

end Go.Proofs.Ytgcpakhagbbiiaa

/-! Finite facts on bits, decided. -/
namespace Go.Proofs.Ytgcpakhagbbiiaa
open Go.RowKit

theorem andNot_fin : ∀ x : Nat, x < 64 → ∀ s : Nat, s < 64 → (bits BinOp.andNot IntKind.i64 (x : Int) (s : Int) == 0) = decide (x &&& s = x) := by
  decide +kernel

end Go.Proofs.Ytgcpakhagbbiiaa

/-! The numbers from 1 to n that are wanted, ascending. -/
namespace Go.Proofs.Ytgcpakhagbbiiaa
open Go.RowKit

/-- The numbers from 1 to k of which p says yes. -/
def pickTo (p : Int → Bool) : Nat → List Int
  | 0 => []
  | k + 1 => pickTo p k ++ (if p ((k : Int) + 1) then [(k : Int) + 1] else [])

theorem pickTo_len (p : Int → Bool) : ∀ k, (pickTo p k).length ≤ k
  | 0 => by simp [pickTo]
  | k + 1 => by
    have := pickTo_len p k
    simp only [pickTo, List.length_append]
    split <;> simp <;> omega

theorem mem_pickTo {p : Int → Bool} {x : Int} : ∀ k : Nat, x ∈ pickTo p k ↔ 1 ≤ x ∧ x ≤ k ∧ p x = true
  | 0 => by simp [pickTo]; omega
  | k + 1 => by
    have ih := mem_pickTo (p := p) (x := x) k
    simp only [pickTo, List.mem_append, ih]
    constructor
    · rintro (⟨h1, h2, h3⟩ | h)
      · exact ⟨h1, by omega, h3⟩
      · split at h
        · rename_i hp
          simp at h
          subst h
          exact ⟨by omega, by omega, hp⟩
        · simp at h
    · rintro ⟨h1, h2, h3⟩
      by_cases he : x = (k : Int) + 1
      · subst he
        right
        rw [if_pos h3]; simp
      · exact .inl ⟨h1, by omega, h3⟩

theorem pickTo_asc (p : Int → Bool) : ∀ k : Nat, (pickTo p k).Pairwise (· < ·)
  | 0 => by simp [pickTo]
  | k + 1 => by
    simp only [pickTo]
    rw [List.pairwise_append]
    refine ⟨pickTo_asc p k, by split <;> simp, fun a ha b hb => ?_⟩
    have h1 := (mem_pickTo k).1 ha
    split at hb
    · simp at hb; omega
    · simp at hb

theorem pickTo_congr {p q : Int → Bool} : ∀ k : Nat, (∀ x : Int, 1 ≤ x → x ≤ k → p x = q x) → pickTo p k = pickTo q k
  | 0, _ => rfl
  | k + 1, h => by
    simp only [pickTo]
    rw [pickTo_congr k (fun x h1 h2 => h x h1 (by omega)), h ((k : Int) + 1) (by omega) (by omega)]

/-- Two ascending lists with the same members are one. -/
theorem asc_ext : ∀ {xs ys : List Int}, xs.Pairwise (· < ·) → ys.Pairwise (· < ·) → (∀ x, x ∈ xs ↔ x ∈ ys) → xs = ys
  | [], [], _, _, _ => rfl
  | [], y :: ys, _, _, h => absurd ((h y).2 (by simp)) (by simp)
  | x :: xs, [], _, _, h => absurd ((h x).1 (by simp)) (by simp)
  | x :: xs, y :: ys, hx, hy, h => by
    have hx' := List.pairwise_cons.1 hx
    have hy' := List.pairwise_cons.1 hy
    have hxy : x = y := by
      have h1 := (h x).1 (by simp)
      have h2 := (h y).2 (by simp)
      rcases List.mem_cons.1 h1 with h1 | h1
      · exact h1
      · rcases List.mem_cons.1 h2 with h2 | h2
        · exact h2.symm
        · have a := hy'.1 _ h1
          have b := hx'.1 _ h2
          omega
    subst hxy
    congr 1
    refine asc_ext hx'.2 hy'.2 fun z => ?_
    have hz := h z
    simp only [List.mem_cons] at hz
    constructor
    · intro hm
      rcases hz.1 (.inr hm) with rfl | h'
      · exact absurd (hx'.1 _ hm) (by omega)
      · exact h'
    · intro hm
      rcases hz.2 (.inr hm) with rfl | h'
      · exact absurd (hy'.1 _ hm) (by omega)
      · exact h'

end Go.Proofs.Ytgcpakhagbbiiaa

/-! l04Put: a number put into an ascending list. -/
namespace Go.Proofs.Ytgcpakhagbbiiaa
open Go.RowKit

def InsL (xs : List Int) (n : Int) (ys : List Int) : Prop := ys.Pairwise (· < ·) ∧ ∀ x, x ∈ ys ↔ x = n ∨ x ∈ xs
theorem asc_at {xs : List Int} (h : xs.Pairwise (· < ·)) {i j : Nat} (hij : i < j) (hj : j < xs.length) : xs[i]?.getD 0 < xs[j]?.getD 0 := by
  rw [List.getElem?_eq_getElem (by omega), List.getElem?_eq_getElem hj]
  exact List.pairwise_iff_getElem.1 h i j (by omega) hj hij
theorem ins_same {xs : List Int} (h : xs.Pairwise (· < ·)) {n : Int} {t : Nat} (ht : t < xs.length) (he : xs[t]?.getD 0 = n) : InsL xs n xs := by
  refine ⟨h, fun x => ⟨.inr, ?_⟩⟩
  rintro (rfl | hx)
  · rw [← he]; exact getD_mem ht
  · exact hx
theorem ins_new {xs : List Int} (h : xs.Pairwise (· < ·)) {n : Int} {t : Nat} (ht : t ≤ xs.length) (h1 : ∀ j, j < t → xs[j]?.getD 0 < n) (h2 : ∀ j, t ≤ j → j < xs.length → n < xs[j]?.getD 0) : InsL xs n (xs.take t ++ ([n] ++ xs.drop t)) := by
  have a1 : ∀ x ∈ xs.take t, x < n := by
    intro x hx
    obtain ⟨i, hi, rfl⟩ := List.getElem_of_mem hx
    have hi' : i < t := by simp at hi; omega
    have := h1 i hi'
    rw [List.getElem?_eq_getElem (by omega)] at this
    simpa using this
  have a2 : ∀ x ∈ xs.drop t, n < x := by
    intro x hx
    obtain ⟨i, hi, rfl⟩ := List.getElem_of_mem hx
    have hi' : t + i < xs.length := by simp at hi; omega
    have := h2 (t + i) (by omega) hi'
    rw [List.getElem?_eq_getElem hi'] at this
    simpa using this
  refine ⟨?_, fun x => ?_⟩
  · rw [List.pairwise_append]
    refine ⟨h.sublist (List.take_sublist _ _), ?_, ?_⟩
    · rw [List.singleton_append, List.pairwise_cons]
      exact ⟨a2, h.sublist (List.drop_sublist _ _)⟩
    · intro a ha b hb
      have := a1 a ha
      rcases List.mem_append.1 hb with hb | hb
      · simp at hb; omega
      · have := a2 b hb; omega
  · have e : x ∈ xs ↔ x ∈ xs.take t ∨ x ∈ xs.drop t := by rw [← List.mem_append, List.take_append_drop]
    simp only [List.mem_append, List.mem_singleton]
    rw [e]
    constructor
    · rintro (h | h | h)
      · exact .inr (.inl h)
      · exact .inl h
      · exact .inr (.inr h)
    · rintro (h | h | h)
      · exact .inr (.inl h)
      · exact .inl h
      · exact .inr (.inr h)

/-- 'append(row, list...)' of a list that begins anywhere. -/
theorem append_ints_ad {w : World} {ops : Array Oper} {rest : List Oper} {o : Oper} {a : Act} {Q : Exit → Act → World → Prop} (hgd : o.guard = none) {s y : Operand}
    (ho : o.op = .call { callee := .builtin .append, args := #[s, y], argTypes := #[22, 22] })
    {base : Nat} {v : Value} {xs ys : List Int} {ad : Addr} {m c : Nat} (hm : m = ys.length) (hown : w.ownsRow base 2 1 v xs.length (xs.map (Value.int .i64))) (hbase : base ≤ w.heap.size) (hl : xs.length ≤ 1048576) (hly : ys.length ≤ 1048576)
    (hs : a.eval s = v) (hy : a.eval y = .slice (some ad) m c) (hc : ∀ i, i < ys.length → w.cell? (ad.add i) = some (.int .i64 (ys[i]?.getD 0)))
    (hK : ∀ v' w', w'.ownsRow base 2 1 v' (xs ++ ys).length ((xs ++ ys).map (Value.int .i64)) → w.grownBy w' v.ownBlock → Below base w w' → wpList Try.prog ops Q rest (a.put o.dst v') w') :
    wpList Try.prog ops Q (o :: rest) a w := by
  subst hm
  obtain ⟨i0, hi, hz0, hz1, hz2⟩ := info_parts info_i64
  refine wpList_append_own_at w hgd s y 22 ho base 2 i0 (.int .i64 0) 1 8 Try.underlying22 hi hz0 hz1 hz2 rfl (by decide) v _ _ hs hown ad ys.length c (ys.map (Value.int .i64)) hy (by simp) (fun j u hj => ?_) (fun u hu => ?_) (by unfold maxLen; omega) (by omega) hbase ?_
  · have hjl : j < ys.length := by
      have := (List.getElem?_eq_some_iff.1 hj).1
      simpa using this
    have := hc j hjl
    rw [List.getElem?_map, List.getElem?_eq_getElem hjl] at hj
    rw [List.getElem?_eq_getElem hjl] at this
    simp at hj this
    rw [this, hj]
  · obtain ⟨x, _, rfl⟩ := List.mem_map.1 hu
    rfl
  · intro v' w1 hown1 hgrow1 _ _
    exact hK v' w1 (by simpa using hown1) hgrow1 ((Below.refl base w).grown hgrow1 hbase (fun k hk => (hown.lt k hk).1))

set_option maxRecDepth 100000 in
set_option maxHeartbeats 4000000 in
theorem putS_any (base g cap : Nat) (xs : List Int) (n : Int) (w : World) (hown : w.ownsRow base 2 1 (.slice (some ⟨g, 0, none⟩) xs.length cap) xs.length (xs.map (Value.int .i64))) (hasc : xs.Pairwise (· < ·)) (hl : xs.length ≤ 64) (hb : base ≤ w.heap.size) :
    Calls Try.prog 75 #[.slice (some ⟨g, 0, none⟩) xs.length cap, .int .i64 n] w fun e w' => ∃ (g' cap' : Nat) (ys : List Int), e = .returned (.slice (some ⟨g', 0, none⟩) ys.length cap') ∧ w'.ownsRow base 2 1 (.slice (some ⟨g', 0, none⟩) ys.length cap') ys.length (ys.map (Value.int .i64)) ∧ Below w.heap.size w w' ∧ InsL xs n ys := by
  have hcs : ∀ t, t < xs.length → w.cell? ⟨g, t, none⟩ = some (.int .i64 (xs[t]?.getD 0)) := by
    intro t ht
    rw [hown.cellAt t (by omega)]
    simp [ht]
  have hcap : xs.length ≤ cap := by
    rcases hown.2 with ⟨h1, _⟩ | ⟨_, _, _, h1, _, _, h2, _⟩
    · cases h1
    · injection h1 with _ _ h3; omega
  have hgl := (hown.lt g rfl).2
  have Hcs := hid hcs
  have Hown := hid hown
  have Hasc := hid hasc
  clear hcs hown hasc
  go_enter Try.func75, Try.ntmps75
  go_wp2_with fail
  go_loopw [5] (fun tv wx => ∃ t : Nat, t ≤ xs.length ∧ tv = .int .i64 t ∧ Hid (∀ j, t ≤ j → j < xs.length → n ≤ xs[j]?.getD 0) ∧ Hid (wx = w)) (fun tv _ => (intOf tv).toNat)
  case atStart => exact ⟨xs.length, Nat.le_refl _, rfl, hid (fun j h1 h2 => by omega), hid rfl⟩
  case round =>
    obtain ⟨t, ht, rfl, HH, HW⟩ := hrel
    have hww : wr = w := HW.out
    clear HW
    subst hww
    by_cases hc : 0 < t ∧ n ≤ xs[t - 1]?.getD 0
    · obtain ⟨hpos, hge⟩ := hc
      obtain ⟨x, hx⟩ : ∃ x, x = xs[t - 1]?.getD 0 := ⟨_, rfl⟩
      obtain ⟨q, rfl⟩ : ∃ q, t = q + 1 := ⟨t - 1, by omega⟩
      rw [Nat.add_sub_cancel] at hx hge
      have hcx := Hcs.out q (by omega)
      rw [← hx] at hcx hge
      have hi0 : (0 : Int) ≤ (q : Int) := by omega
      have hi1 : (q : Int) < (xs.length : Int) := by omega
      have hpz : (0 : Int) < ((q + 1 : Nat) : Int) := by omega
      have hsb : wrap64 (((q + 1 : Nat) : Int) - 1) = (q : Int) := by rw [show (((q + 1 : Nat) : Int) - 1) = (q : Int) by omega]; exact IntWalk.wrap64_in _ ⟨by omega, by omega⟩
      have HH' : Hid (∀ j, q ≤ j → j < xs.length → n ≤ xs[j]?.getD 0) := hid (fun j h1 h2 => by
        by_cases e : q = j
        · subst e; rw [← hx]; exact hge
        · exact HH.out j (by omega) h2)
      clear hx HH
      go_wp2_with fail
      go_roundw
      case rel => exact ⟨q, by omega, rfl, HH', trivial⟩
      case measure => simp [intOf]
    · -- the place is found
      have Hlow : Hid (∀ j, j < t → xs[j]?.getD 0 < n) := hid (fun j hj => by
        have hlt : ¬ n ≤ xs[t - 1]?.getD 0 := fun h => hc ⟨by omega, h⟩
        by_cases e : j = t - 1
        · subst e; omega
        · have := asc_at Hasc.out (show j < t - 1 by omega) (by omega)
          omega)
      have Hcond : Hid (t = 0 ∨ ∃ q, t = q + 1 ∧ ¬ n ≤ xs[q]?.getD 0) := hid (by
        rcases Nat.eq_zero_or_pos t with h | h
        · exact .inl h
        · exact .inr ⟨t - 1, by omega, fun hh => hc ⟨h, hh⟩⟩)
      clear hc
      have hic : t ≤ cap := by omega
      have hi0 : (0 : Int) ≤ (t : Int) := by omega
      have hi2 : (t : Int) ≤ (xs.length : Int) := by omega
      by_cases heq : t < xs.length ∧ xs[t]?.getD 0 = n
      · have Hins := hid (ins_same Hasc.out heq.1 heq.2)
        have hct := Hcs.out t heq.1
        rw [heq.2] at hct
        have hi1 : (t : Int) < (xs.length : Int) := by omega
        clear heq HH Hlow
        rcases Hcond.out with rfl | ⟨q, rfl, hq⟩
        · clear Hcond
          go_wp2_with fail
          go_ret
          exact ⟨g, cap, xs, rfl, Hown.out, Below.refl _ _, Hins.out⟩
        · clear Hcond
          obtain ⟨x, hx⟩ : ∃ x, x = xs[q]?.getD 0 := ⟨_, rfl⟩
          have hcx := Hcs.out q (by omega)
          rw [← hx] at hcx hq
          have hj0 : (0 : Int) ≤ (q : Int) := by omega
          have hj1 : (q : Int) < (xs.length : Int) := by omega
          have hpz : (0 : Int) < ((q + 1 : Nat) : Int) := by omega
          have hsb : wrap64 (((q + 1 : Nat) : Int) - 1) = (q : Int) := by rw [show (((q + 1 : Nat) : Int) - 1) = (q : Int) by omega]; exact IntWalk.wrap64_in _ ⟨by omega, by omega⟩
          clear hx
          go_wp2_with fail
          go_ret
          exact ⟨g, cap, xs, rfl, Hown.out, Below.refl _ _, Hins.out⟩
      · have Hins : Hid (InsL xs n (xs.take t ++ ([n] ++ xs.drop t))) := hid (ins_new Hasc.out ht Hlow.out (fun j h1 h2 => by
          by_cases e : j = t
          · subst e
            have := HH.out j (Nat.le_refl _) h2
            have : xs[j]?.getD 0 ≠ n := fun h => heq ⟨h2, h⟩
            omega
          · have h3 := asc_at Hasc.out (show t < j by omega) h2
            have := HH.out t (Nat.le_refl _) (by omega)
            omega))
        have Hnt : Hid (t < xs.length → xs[t]?.getD 0 ≠ n) := hid (fun h1 h2 => heq ⟨h1, h2⟩)
        have Hone : Hid ((wr.alloc (.cells #[.int .i64 n] 2)).ownsRow wr.heap.size 2 1 (.slice (some ⟨wr.heap.size, 0, none⟩) 1 1) [n].length ([n].map (Value.int .i64))) := hid ⟨by simp, .inr ⟨wr.heap.size, 1, _, rfl, Nat.le_refl _, heap_alloc_new wr _, Nat.le_refl _, by unfold maxLen; omega, by simp, by simp⟩⟩
        have Hc2 : Hid (¬ (0 : Int) < (t : Int) ∨ ∃ (x : Int), (0 : Int) < (t : Int) ∧ (0 : Int) ≤ (t : Int) - 1 ∧ (t : Int) - 1 < (xs.length : Int) ∧ wr.cell? ⟨g, t - 1, none⟩ = some (.int .i64 x) ∧ ¬ n ≤ x) := hid (by
          rcases Hcond.out with h | ⟨q, h, hq⟩
          · exact .inl (by omega)
          · obtain rfl : q = t - 1 := by omega
            exact .inr ⟨xs[t - 1]?.getD 0, by omega, by omega, by omega, Hcs.out (t - 1) (by omega), hq⟩)
        have Hct : Hid (¬ (t : Int) < (xs.length : Int) ∨ ∃ y : Int, (t : Int) < (xs.length : Int) ∧ wr.cell? ⟨g, t, none⟩ = some (.int .i64 y) ∧ (y == n) = false) := hid (by
          by_cases h : t < xs.length
          · exact .inr ⟨xs[t]?.getD 0, by omega, Hcs.out t h, by simpa using Hnt.out h⟩
          · exact .inl (by omega))
        obtain ⟨A, hA, hsrc⟩ : ∃ A : Addr, (if cap = t then some (⟨g, 0, none⟩ : Addr) else some ⟨g, t, none⟩) = some A ∧ Hid (∀ i, i < (xs.drop t).length → (wr.alloc (.cells #[.int .i64 n] 2)).cell? (A.add i) = some (.int .i64 ((xs.drop t)[i]?.getD 0))) := by
          by_cases h : cap = t
          · refine ⟨⟨g, 0, none⟩, by simp [h], hid (fun i hi => ?_)⟩
            simp at hi
            omega
          · refine ⟨⟨g, t, none⟩, by simp [h], hid (fun i hi => ?_)⟩
            have hit : t + i < xs.length := by simp at hi; omega
            have hadd : (⟨g, t, none⟩ : Addr).add i = ⟨g, t + i, none⟩ := by unfold Addr.add; split <;> simp_all
            rw [hadd, List.getElem?_drop, ← Hcs.out (t + i) hit]
            exact ((Below.refl wr.heap.size wr).alloc (Nat.le_refl _) _).cell (p := ⟨g, t + i, none⟩) hgl
        have Hsrc2 : Hid (∀ i, i < (xs.drop t).length → (wr.alloc (.cells #[.int .i64 n] 2)).cell? ((⟨g, t, none⟩ : Addr).add i) = some (.int .i64 ((xs.drop t)[i]?.getD 0))) := hid (fun i hi => by
          have hit : t + i < xs.length := by simp at hi; omega
          have hadd : (⟨g, t, none⟩ : Addr).add i = ⟨g, t + i, none⟩ := by unfold Addr.add; split <;> simp_all
          rw [hadd, List.getElem?_drop, ← Hcs.out (t + i) hit]
          exact ((Below.refl wr.heap.size wr).alloc (Nat.le_refl _) _).cell (p := ⟨g, t + i, none⟩) hgl)
        have hdl : xs.length - t = (xs.drop t).length := by simp
        have Hdl : Hid ((xs.drop t).length ≤ 64) := hid (by simp; omega)
        have htl : (xs.take t).length = t := by simp; omega
        have HOwn := hid (fun (W : World) (h : Below wr.heap.size wr W) => own_any (some ⟨g, 0, none⟩) cap (xs.take t) W (.inr ⟨g, 0, Nat.lt_of_lt_of_le hgl h.size, rfl, fun i hi => by
          have hit : i < t := by simpa [htl] using hi
          rw [Nat.zero_add, List.getElem?_take_of_lt hit, ← Hcs.out i (by omega)]
          exact h.cell (p := ⟨g, i, none⟩) hgl⟩) (by rw [htl]; omega))
        rw [htl] at HOwn
        have hsz1 : wr.heap.size ≤ (wr.alloc (.cells #[.int .i64 n] 2)).heap.size := by simp
        obtain ⟨xd, hxd⟩ : ∃ xd, xd = xs.drop t := ⟨_, rfl⟩
        obtain ⟨xt, hxt⟩ : ∃ xt, xt = xs.take t := ⟨_, rfl⟩
        rw [← hxd] at Hins hsrc Hsrc2 hdl Hdl
        rw [← hxt] at Hins HOwn htl
        obtain ⟨dl, hdle⟩ : ∃ dl, dl = xs.length - t := ⟨_, rfl⟩
        rw [← hdle] at hdl
        have Htl := hid htl
        have Hdle := hid hdle
        have Hdl2 := hid hdl
        clear Hcond Hnt heq HH Hlow hxd hxt htl hdle hdl
        rcases Hc2.out with hz | ⟨x, hpz, hj0, hj1, hcx, hlx⟩
        all_goals
          rcases Hct.out with hni | ⟨y, hi1, hct, hne⟩
        all_goals
          clear Hc2 Hct
          go_wp2_with (at_builtin; first
            | (refine append_ints_ad rfl rfl (m := xs.length - t) (c := cap - t) (ad := A) (by rw [← Hdle.out]; exact Hdl2.out) Hone.out hsz1 (by simp) (by have := Hdl.out; omega) rfl rfl hsrc.out ?_; intro v2 w2 hown2 hgrow2 hB2)
            | (refine append_ints_ad rfl rfl (m := xs.length - t) (c := cap - t) (ad := ⟨g, t, none⟩) (by rw [← Hdle.out]; exact Hdl2.out) Hone.out hsz1 (by simp) (by have := Hdl.out; omega) rfl rfl Hsrc2.out ?_; intro v2 w2 hown2 hgrow2 hB2))
          have hB20 : Below wr.heap.size wr w2 := ((Below.refl wr.heap.size wr).alloc (Nat.le_refl _) _).trans (hB2.mono (Nat.le_refl _))
          obtain ⟨_, av, cv, rfl, hs2⟩ := ownsRow_slI hown2
          have hsa : ∃ b2 off2, b2 < w2.heap.size ∧ av = some ⟨b2, off2, none⟩ ∧ ∀ i, i < ([n] ++ xd).length → w2.cell? ⟨b2, off2 + i, none⟩ = some (.int .i64 (([n] ++ xd)[i]?.getD 0)) := by
            rcases hs2 with h | h
            · simp at h
            · exact h
          obtain ⟨b2, off2, hb2, rfl, hc2⟩ := hsa
          have HB20 := hid hB20
          have HO := hid (HOwn.out w2 hB20)
          have Hc2 := hid hc2
          clear hown2 hgrow2 hB2 hs2 hB20 hc2
          go_wp2_with fail
          refine HO.out.mono ?_
          rintro e w3 ⟨v3, rfl, hr3⟩
          have HR3 := hid hr3
          have hsz3 := hr3.2.size
          have Hc3 : Hid (∀ i, i < ([n] ++ xd).length → w3.cell? ((⟨b2, off2, none⟩ : Addr).add i) = some (.int .i64 (([n] ++ xd)[i]?.getD 0))) := hid (fun i hi => by
            have hadd : (⟨b2, off2, none⟩ : Addr).add i = ⟨b2, off2 + i, none⟩ := by unfold Addr.add; split <;> simp_all
            rw [hadd, ← Hc2.out i hi]
            exact hr3.2.cell (p := ⟨b2, off2 + i, none⟩) hb2)
          have hxtl : xt.length ≤ 1048576 := by have := Htl.out; omega
          have hxdl : ([n] ++ xd).length ≤ 1048576 := by have := Hdl.out; simp; omega
          clear hr3
          go_wp2_with (at_builtin; refine append_ints_ad rfl rfl (ad := ⟨b2, off2, none⟩) rfl HR3.out.1 hsz3 hxtl hxdl rfl rfl Hc3.out ?_; intro v4 w4 hown4 hgrow4 hB4)
          have hB40 := HB20.out.trans ((HR3.out.2.trans (hB4.mono (Nat.le_refl _))).mono HB20.out.size)
          rcases hown4.2 with ⟨_, h0⟩ | ⟨g', cap', cur, rfl, hrest⟩
          · simp at h0
          · have Hown4 := hid hown4
            have HB40 := hid hB40
            clear hown4 hgrow4 hB4 hB40 hrest
            go_wp2_with fail
            go_ret
            exact ⟨g', cap', _, rfl, ownsRow_base Hown4.out (Nat.le_trans hb HB20.out.size), HB40.out, Hins.out⟩

end Go.Proofs.Ytgcpakhagbbiiaa

/-! CriticalValues: the pairs of a Morse function are a pairing; the values without their repeats. -/
namespace Go.Proofs.Ytgcpakhagbbiiaa
open Go.RowKit Go.Sort

theorem count_lt_two {α : Type} {p : α → Bool} {L : List α} (h : L.countP p < 2) {y z : α} (hy : y ∈ L) (hz : z ∈ L) (py : p y = true) (pz : p z = true) : y = z := by
  rw [List.countP_eq_length_filter] at h
  have h1 : y ∈ L.filter p := List.mem_filter.2 ⟨hy, py⟩
  have h2 : z ∈ L.filter p := List.mem_filter.2 ⟨hz, pz⟩
  match hL : L.filter p with
  | [] => rw [hL] at h1; cases h1
  | [a] => rw [hL] at h1 h2; simp at h1 h2; rw [h1, h2]
  | _ :: _ :: _ => rw [hL] at h; simp only [List.length_cons] at h; omega
theorem falls_at {V : Int} {fs gs : List Int} (hC : IsC V fs) (hg : gs.length = fs.length) (hm : morseB fs gs fs.length = true) {x : Int} (hx : x ∈ fs) :
    (aboveL fs x.toNat).countP (fun h => decide (numAt fs gs h ≤ numAt fs gs x)) < 2 ∧ (belowR x.toNat 63).countP (fun h => decide (numAt fs gs x ≤ numAt fs gs h)) < 2 := by
  obtain ⟨k, hk, rfl⟩ := List.getElem_of_mem hx
  unfold morseB at hm
  have h := List.all_eq_true.1 hm k (List.mem_range.2 hk)
  have hgi : gs[k]?.getD 0 = numAt fs gs (fs[k]?.getD 0) := (numAt_some (by omega) rfl (fun j hj e => isC_distinct hC j k hj hk e)).symm
  unfold fallsB cntUp cntDn at h
  rw [List.take_of_length_le (Nat.le_refl _), List.take_of_length_le (Nat.le_refl _), hgi, List.getElem?_eq_getElem hk] at h
  simpa using h
theorem up_diamond : ∀ f : Fin 64, ∀ u v : Fin 6, upN f.val u.val ≠ f.val → upN (upN f.val u.val) v.val ≠ upN f.val u.val →
    upN f.val v.val ≠ f.val ∧ upN f.val v.val ≠ upN f.val u.val ∧ upN (upN f.val v.val) u.val = upN (upN f.val u.val) v.val ∧ upN (upN f.val v.val) u.val ≠ upN f.val v.val ∧ f.val < upN f.val v.val := by decide +kernel
theorem up_below : ∀ f : Fin 64, ∀ u : Fin 6, upN f.val u.val ≠ f.val → 0 < f.val → decide ((f.val : Int) ∈ belowR (upN f.val u.val) 63) = true := by decide +kernel
theorem mem_above {fs : List Int} {x : Nat} {y : Int} : y ∈ aboveL fs x ↔ y ∈ fs ∧ y.toNat &&& x = x ∧ ones y.toNat = ones x + 1 := by
  unfold aboveL; rw [List.mem_filter]; simp
/-- A face above another goes through one vertex. -/
theorem above_up {V : Int} {fs : List Int} (hC : IsC V fs) {x y : Int} (hx : x ∈ fs) (hy : y ∈ aboveL fs x.toNat) : ∃ u : Fin 6, upN x.toNat u.val = y.toNat ∧ y.toNat ≠ x.toNat := by
  obtain ⟨h1, h2, h3⟩ := mem_above.1 hy
  have r1 := hC.range63 _ hx
  have r2 := hC.range63 _ h1
  exact (up_iff ⟨x.toNat, by omega⟩ ⟨y.toNat, by omega⟩).1 ⟨h2, h3⟩
theorem above_below {V : Int} {fs : List Int} (hC : IsC V fs) {x y : Int} (hx : x ∈ fs) (hy : y ∈ aboveL fs x.toNat) : x ∈ belowR y.toNat 63 := by
  obtain ⟨u, h1, h2⟩ := above_up hC hx hy
  have r1 := hC.range63 _ hx
  have h := up_below ⟨x.toNat, by omega⟩ u (by simp only; omega) (by simp only; omega)
  simp only [decide_eq_true_eq] at h
  rw [h1] at h
  rwa [Int.toNat_of_nonneg (by omega)] at h
theorem diamond {V : Int} {fs : List Int} (hC : IsC V fs) {x y h : Int} (hx : x ∈ fs) (hy : y ∈ aboveL fs x.toNat) (hh : h ∈ aboveL fs y.toNat) : ∃ z, z ∈ aboveL fs x.toNat ∧ h ∈ aboveL fs z.toNat ∧ z ≠ y := by
  have hyf := (mem_above.1 hy).1
  have hhf := (mem_above.1 hh).1
  obtain ⟨u, u1, u2⟩ := above_up hC hx hy
  obtain ⟨v, v1, v2⟩ := above_up hC hyf hh
  have r1 := hC.range63 _ hx
  have r2 := hC.range63 _ hyf
  have r3 := hC.range63 _ hhf
  obtain ⟨d1, d2, d3, d4, d5⟩ := up_diamond ⟨x.toNat, by omega⟩ u v (by simp only; omega) (by simp only [u1]; omega)
  simp only at d1 d2 d3 d4 d5
  rw [u1, v1] at d3
  rw [u1] at d2
  have hz64 : upN x.toNat v.val < 64 := up_lt ⟨x.toNat, by omega⟩ v
  obtain ⟨z, hz⟩ : ∃ z : Int, z = ((upN x.toNat v.val : Nat) : Int) := ⟨_, rfl⟩
  have hzn : z.toNat = upN x.toNat v.val := by rw [hz]; simp
  rw [← hzn] at d1 d2 d3 d4 d5 hz64
  obtain ⟨e1, e2⟩ := (up_iff ⟨z.toNat, hz64⟩ ⟨h.toNat, by omega⟩).2 ⟨u, d3, by simp only; omega⟩
  simp only at e1 e2
  have hzb : z ∈ belowR h.toNat 63 := by
    have h' := up_below ⟨z.toNat, hz64⟩ u (by simp only; omega) (by simp only; omega)
    simp only [decide_eq_true_eq] at h'
    rw [d3] at h'
    rwa [Int.toNat_of_nonneg (by omega)] at h'
  have hzf := below_mem hC hhf hzb
  obtain ⟨c1, c2⟩ := (up_iff ⟨x.toNat, by omega⟩ ⟨z.toNat, hz64⟩).2 ⟨v, hzn.symm, by simp only; omega⟩
  exact ⟨z, mem_above.2 ⟨hzf, c1, c2⟩, mem_above.2 ⟨hhf, e1, e2⟩, fun e => by subst e; exact d2 rfl⟩
theorem mem_fnP {fs gs : List Int} {p : Int × Int} : p ∈ fnP fs gs fs.length ↔ p.1 ∈ fs ∧ p.2 ∈ aboveL fs p.1.toNat ∧ numAt fs gs p.2 ≤ numAt fs gs p.1 := by
  unfold fnP fallsTo
  rw [List.take_of_length_le (Nat.le_refl _), List.mem_flatMap]
  constructor
  · rintro ⟨x, hx, hp⟩
    obtain ⟨y, hy, rfl⟩ := List.mem_map.1 hp
    rw [List.mem_filter] at hy
    exact ⟨hx, hy.1, by simpa using hy.2⟩
  · rintro ⟨h1, h2, h3⟩
    exact ⟨p.1, h1, List.mem_map.2 ⟨p.2, List.mem_filter.2 ⟨h2, by simpa using h3⟩, rfl⟩⟩
theorem fnP_sorted {V : Int} {fs gs : List Int} (hC : IsC V fs) : (fnP fs gs fs.length).Pairwise fun p q => lessP p.1 p.2 q.1 q.2 = true := by
  unfold fnP
  rw [List.take_of_length_le (Nat.le_refl _), List.pairwise_flatMap]
  constructor
  · intro x _
    unfold fallsTo
    rw [List.pairwise_map]
    have h := (hC.asc.sublist (List.filter_sublist (p := fun y => decide (y.toNat &&& x.toNat = x.toNat ∧ ones y.toNat = ones x.toNat + 1)))).sublist (List.filter_sublist (p := fun h => decide (numAt fs gs h ≤ numAt fs gs x)))
    exact h.imp fun h => by unfold lessP; simp [h]
  · exact hC.asc.imp fun hab p hp q hq => by
      unfold fallsTo at hp hq
      obtain ⟨y, _, rfl⟩ := List.mem_map.1 hp
      obtain ⟨z, _, rfl⟩ := List.mem_map.1 hq
      unfold lessP; simp [hab]
/-- THE PAIRS OF A MORSE FUNCTION: no two of them share a face. -/
theorem fnP_clash {V : Int} {fs gs : List Int} (hC : IsC V fs) (hg : gs.length = fs.length) (hm : morseB fs gs fs.length = true) {p q : Int × Int} (hp : p ∈ fnP fs gs fs.length) (hq : q ∈ fnP fs gs fs.length) (hne : p ≠ q) : clashB p.1 p.2 q.1 q.2 = false := by
  have key : ∀ {p q : Int × Int}, p ∈ fnP fs gs fs.length → q ∈ fnP fs gs fs.length → p.1 ≠ q.2 := by
    intro p q hp hq e
    obtain ⟨p1, p2, p3⟩ := mem_fnP.1 hp
    obtain ⟨q1, q2, q3⟩ := mem_fnP.1 hq
    rw [e] at p2 p3
    obtain ⟨z, z1, z2, z3⟩ := diamond hC q1 q2 p2
    have hhf := (mem_above.1 p2).1
    have hqf := (mem_above.1 q2).1
    have hzf := (mem_above.1 z1).1
    have u : ¬ numAt fs gs z ≤ numAt fs gs q.1 := fun h => z3 (count_lt_two (falls_at hC hg hm q1).1 z1 q2 (by simpa using h) (by simpa using q3))
    have d : ¬ numAt fs gs p.2 ≤ numAt fs gs z := fun h => z3 (count_lt_two (falls_at hC hg hm hhf).2 (above_below hC hzf z2) (above_below hC hqf p2) (by simpa using h) (by simpa using p3))
    omega
  obtain ⟨p1, p2, p3⟩ := mem_fnP.1 hp
  obtain ⟨q1, q2, q3⟩ := mem_fnP.1 hq
  have a1 : p.1 ≠ q.1 := by
    intro e
    rw [e] at p2 p3
    exact hne (Prod.ext e (count_lt_two (falls_at hC hg hm q1).1 p2 q2 (by simpa using p3) (by simpa using q3)))
  refine clash_iff.2 ⟨a1, key hp hq, fun e => key hq hp e.symm, fun e => ?_⟩
  have b1 := above_below hC p1 p2
  have b2 := above_below hC q1 q2
  have hhf := (mem_above.1 q2).1
  rw [e] at b1 p3
  exact a1 (count_lt_two (falls_at hC hg hm hhf).2 b1 b2 (by simpa using p3) (by simpa using q3))
theorem fnP_ok {V : Int} {fs gs : List Int} (hC : IsC V fs) (hg : gs.length = fs.length) (hm : morseB fs gs fs.length = true) : OkTo fs (flatP (fnP fs gs fs.length)) (fnP fs gs fs.length).length := by
  intro i hi
  have hs := List.pairwise_iff_getElem.1 (fnP_sorted (gs := gs) hC)
  obtain ⟨e1, e2⟩ := flatP_at _ i hi
  rw [List.getElem?_eq_getElem hi] at e1 e2
  simp only [Option.getD_some] at e1 e2
  have hmi : (fnP fs gs fs.length)[i] ∈ fnP fs gs fs.length := List.getElem_mem hi
  obtain ⟨m1, m2, m3⟩ := mem_fnP.1 hmi
  obtain ⟨a1, a2, a3⟩ := mem_above.1 m2
  rw [e1, e2]
  refine ⟨?_, ?_, ?_⟩
  · unfold pairB
    simp [m1, a1, a3]
    rw [Nat.and_comm]; exact a2
  · intro h
    obtain ⟨f1, f2⟩ := flatP_at (fnP fs gs fs.length) (i - 1) (by omega)
    rw [List.getElem?_eq_getElem (by omega)] at f1 f2
    rw [f1, f2]
    exact hs (i - 1) i (by omega) hi (by omega)
  · intro j hj
    obtain ⟨f1, f2⟩ := flatP_at (fnP fs gs fs.length) j (by omega)
    rw [List.getElem?_eq_getElem (by omega)] at f1 f2
    rw [f1, f2]
    refine fnP_clash hC hg hm hmi (List.getElem_mem _) (fun e => ?_)
    have := hs j i (by omega) hi hj
    simp only [Option.getD_some] at e
    rw [← e] at this
    unfold lessP at this
    simp at this

/-! The values without their repeats. -/
theorem compact_inv (zs : List Int) (hz : zs.Pairwise (· ≤ ·)) : ∀ m, m ≤ zs.length → (Lib.compactUpTo zs.toArray m).Pairwise (· < ·) ∧ (∀ x, x ∈ Lib.compactUpTo zs.toArray m ↔ x ∈ zs.take m)
  | 0, _ => by simp [Lib.compactUpTo]
  | m + 1, hm => by
    obtain ⟨ih1, ih2⟩ := compact_inv zs hz m (by omega)
    have hlt : m < zs.length := by omega
    have hd : zs.toArray[m]! = zs[m] := by simp [hlt]
    have hle := List.pairwise_iff_getElem.1 hz
    rw [Lib.compactUpTo_succ, List.take_add_one, List.getElem?_eq_getElem hlt]
    simp only [Option.toList_some]
    by_cases hk : Lib.keeps zs.toArray m = true
    · rw [if_pos hk, hd]
      refine ⟨List.pairwise_append.2 ⟨ih1, by simp, ?_⟩, fun x => by rw [List.mem_append, List.mem_append, ih2]⟩
      intro a ha b hb
      simp at hb
      subst hb
      have ha' := (ih2 a).1 ha
      obtain ⟨i, hi, rfl⟩ := List.getElem_of_mem ha'
      rw [List.length_take] at hi
      rw [List.getElem_take]
      have hm0 : m ≠ 0 := by omega
      unfold Lib.keeps at hk
      have hk' := of_decide_eq_true hk
      rcases hk' with h | h
      · exact absurd h hm0
      · rw [hd] at h
        have hd1 : zs.toArray[m - 1]! = zs[m - 1]'(by omega) := by simp [show m - 1 < zs.length by omega]
        rw [hd1] at h
        have h1 := hle (m - 1) m (by omega) hlt (by omega)
        have h2 : zs[i]'(by omega) ≤ zs[m - 1]'(by omega) := by
          by_cases e : i = m - 1
          · subst e; exact Int.le_refl _
          · exact hle i (m - 1) (by omega) (by omega) (by omega)
        omega
    · rw [if_neg hk, List.append_nil]
      refine ⟨ih1, fun x => ?_⟩
      rw [ih2, List.mem_append]
      constructor
      · exact .inl
      · rintro (h | h)
        · exact h
        · simp at h
          subst h
          have hm0 : m ≠ 0 := fun e => hk (Lib.keeps_lt_one _ _ (by omega))
          have h' : zs.toArray[m]! = zs.toArray[m - 1]! := Classical.byContradiction fun e => hk (Lib.keeps_pos e)
          rw [hd] at h'
          have hd1 : zs.toArray[m - 1]! = zs[m - 1]'(by omega) := by simp [show m - 1 < zs.length by omega]
          rw [h', hd1]
          exact List.mem_take_iff_getElem.2 ⟨m - 1, by omega, rfl⟩
/-- The different numbers of a list, ascending. -/
def diffL (xs : List Int) : List Int := Lib.compact (xs.mergeSort fun x y => decide (x ≤ y))
theorem merge_le (xs : List Int) : (xs.mergeSort fun x y => decide (x ≤ y)).Pairwise (· ≤ ·) := by
  have h := List.pairwise_mergeSort (le := fun x y : Int => decide (x ≤ y)) (fun a b c h1 h2 => by simp at *; omega) (fun a b => by simp; omega) xs
  exact h.imp fun h => by simpa using h
theorem diffL_asc (xs : List Int) : (diffL xs).Pairwise (· < ·) := (compact_inv _ (merge_le xs) _ (Nat.le_refl _)).1
theorem mem_diffL {xs : List Int} {x : Int} : x ∈ diffL xs ↔ x ∈ xs := by
  have h := (compact_inv _ (merge_le xs) _ (Nat.le_refl _)).2 x
  rw [List.take_of_length_le (Nat.le_refl _)] at h
  exact h.trans (List.mergeSort_perm _ _).mem_iff
theorem diff_ins {xs ys : List Int} {n : Int} (h : InsL (diffL xs) n ys) : ys = diffL (xs ++ [n]) := by
  refine asc_ext h.1 (diffL_asc _) (fun x => ?_)
  rw [h.2, mem_diffL, mem_diffL]
  simp [or_comm]

end Go.Proofs.Ytgcpakhagbbiiaa

/-! fallingPairs. -/
namespace Go.Proofs.Ytgcpakhagbbiiaa
open Go.RowKit

set_option maxRecDepth 100000 in
set_option maxHeartbeats 1000000 in
theorem idx_nil (bm : Nat) (w : World) :
    Calls Try.prog 201 #[.slice none 0 0, .func (.func 206) #[] #[.pointer (some ⟨bm, 0, none⟩)]] w fun e w' => e = .returned (.int .i64 (-1)) ∧ w = w' := by
  go_enter Try.func201, Try.ntmps201
  go_wp2
  refine wp_loop_rounds 1 ?_; rw [rounds_succ]
  go_wp2
  go_ret
  exact ⟨rfl, rfl⟩

set_option maxRecDepth 100000 in
set_option maxHeartbeats 1000000 in
theorem del_nil (bm : Nat) (w : World) :
    Calls Try.prog 135 #[.slice none 0 0, .func (.func 206) #[] #[.pointer (some ⟨bm, 0, none⟩)]] w fun e w' => e = .returned (.slice none 0 0) ∧ w = w' := by
  go_enter Try.func135, Try.ntmps135
  go_wp2_with fail
  refine (idx_nil bm w).mono ?_
  rintro e w1 ⟨rfl, rfl⟩
  go_wp2_with fail
  go_ret
  exact ⟨rfl, rfl⟩

theorem del_row (base n : Nat) (v : Value) (ps : List Int) (bm b : Nat) (fs gs : List Int) (w : World) (hn : n ≤ 1048576) (hown : w.ownsRow base 69 2 v n (ps.map (Value.int .i64)))
    (hm : NumM w b fs gs fs.length) (hg : gs.length = fs.length) (hbm : w.cell? ⟨bm, 0, none⟩ = some (.map (some b))) (hlt : bm < base) (hlt2 : b < base) (hbw : base ≤ w.heap.size) (hwp : ∀ x ∈ ps, (Lit.int .i64 x).wf = true) :
    Calls Try.prog 135 #[v, .func (.func 206) #[] #[.pointer (some ⟨bm, 0, none⟩)]] w fun e w' => ∃ (q : Nat) (v' : Value), e = .returned v' ∧ (keepL fs gs ps n).length = 2 * q ∧ w'.ownsRow base 69 2 v' q ((keepL fs gs ps n).map (Value.int .i64)) ∧ Below base w w' := by
  rcases hown.2 with ⟨rfl, rfl⟩ | ⟨g, cap, cur, rfl, hbg, _⟩
  · refine (del_nil bm w).mono ?_
    rintro e w1 ⟨rfl, rfl⟩
    exact ⟨0, _, rfl, rfl, World.ownsRow_nil _ _ _ _, (Below.refl _ _)⟩
  · obtain ⟨hgl, _, _⟩ := own_pairs hown
    refine (del_any base g n cap ps bm b fs gs w hn hown hm hg hbm (by omega) hwp (by omega) (by omega)).mono ?_
    rintro e w1 ⟨q, rfl, h1, h2, h3⟩
    exact ⟨q, _, rfl, h1, h2, ⟨h3.os, h3.tape, h3.output, h3.size, fun k hk => h3.block k (by omega) (by simp; omega)⟩⟩

set_option maxRecDepth 1000000 in
set_option maxHeartbeats 4000000 in
theorem fp_any (V : Int) (a0 : Option Addr) (cap : Nat) (fs : List Int) (a1 : Option Addr) (cap1 : Nat) (gs : List Int) (w : World) (hx : SlI w w.heap.size a0 fs) (hx1 : SlI w w.heap.size a1 gs) (hC : IsC V fs) (hg : gs.length = fs.length) (hwg : ∀ x ∈ gs, (Lit.int .i64 x).wf = true) :
    Calls Try.prog 142 #[.agg #[.int .i64 V, .slice a0 fs.length cap], .slice a1 gs.length cap1] w fun e w' => ∃ v, e = .returned v ∧ ResP w w' v (fnP fs gs fs.length) := by
  have h63 := hC.len63
  have hr := hC.range63
  obtain ⟨vn, rfl⟩ : ∃ vn : Nat, V = (vn : Int) := ⟨V.toNat, by have := hC.lo; omega⟩
  have hkf := keep_fn gs hC
  rw [Int.toNat_natCast] at hkf
  have hvn : vn ≤ 6 := by have := hC.hi; omega
  have hpl := pairsL_len fs vn fs.length (Nat.le_refl _)
  have hpl2 : (pairsL fs vn fs.length).length ≤ 1048576 := by
    have : fs.length * vn ≤ 63 * 6 := Nat.mul_le_mul h63 hvn
    omega
  have hwp : ∀ x ∈ flatP (pairsL fs vn fs.length), (Lit.int .i64 x).wf = true := by
    intro x hx
    obtain ⟨p, hp, hx⟩ := List.mem_flatMap.1 hx
    have hm := (mem_pairsL hC p.1 p.2).1 (by rw [Int.toNat_natCast]; exact hp)
    unfold pairB at hm
    simp only [Bool.and_eq_true, decide_eq_true_eq] at hm
    have h1 := hr _ hm.1.1.1
    have h2 := hr _ hm.1.1.2
    simp at hx
    rcases hx with rfl | rfl
    · exact WalkArith.wf_i64 (by omega)
    · exact WalkArith.wf_i64 (by omega)
  have hB0 : Below w.heap.size w (w.alloc (.cells #[.int .i64 vn, .slice a0 fs.length cap] 30)) := (Below.refl _ w).alloc (Nat.le_refl _) _
  have hk0 : (w.alloc (.cells #[.int .i64 vn, .slice a0 fs.length cap] 30)).cell? ⟨w.heap.size, 0, none⟩ = some (.int .i64 vn) := by simp [go_sem]
  have hk1 : (w.alloc (.cells #[.int .i64 vn, .slice a0 fs.length cap] 30)).cell? ⟨w.heap.size, 1, none⟩ = some (.slice a0 fs.length cap) := by simp [go_sem]
  have HN := hid (numbers_any vn a0 cap fs a1 cap1 gs _ (hx.later hB0 hB0.size) (hx1.later hB0 hB0.size) (by omega) hg (isC_distinct hC) (fun x hm => WalkArith.wf_i64 (by have := hr x hm; omega)) hwg)
  have HP := hid (fun W' (h : Below w.heap.size w W') => pairsOf_any vn a0 cap fs W' (hx.later h h.size) (by omega) hC)
  have HB0 := hid hB0
  have Hk0 := hid hk0
  have Hk1 := hid hk1
  have Hkf := hid hkf
  have Hwp := hid hwp
  have Hg := hid hg
  clear hB0 hk0 hk1 hkf hwp hpl h63 hr hx hx1 hC hwg hg
  go_enter Try.func142, Try.ntmps142
  go_wp2_with fail
  refine HN.out.mono ?_
  rintro e w1 ⟨rfl, hm, hB1⟩
  rw [World.size_alloc] at hm hB1 ⊢
  have HM1 := hid hm
  have HB1 := hid (HB0.out.trans (hB1.mono (by omega)))
  have hs1 : w.heap.size + 1 + 1 < w1.heap.size := hm.lt
  have K0 := hid ((hB1.cell (p := ⟨w.heap.size, 0, none⟩) (by simp)).trans Hk0.out)
  have K1 := hid ((hB1.cell (p := ⟨w.heap.size, 1, none⟩) (by simp)).trans Hk1.out)
  clear hm hB1 HN
  obtain ⟨W2, hW2⟩ : ∃ W2, W2 = w1.alloc (.cells #[.map (some (w.heap.size + 1 + 1))] 77) := ⟨_, rfl⟩
  have hB2 : Below w1.heap.size w1 W2 := by rw [hW2]; exact (Below.refl _ _).alloc (Nat.le_refl _) _
  have hs2 : W2.heap.size = w1.heap.size + 1 := by rw [hW2]; simp
  have HM2 := hid (HM1.out.kept (row := none) (W' := W2) ⟨hB2.os, hB2.tape, hB2.output, hB2.size, fun q hq _ => hB2.block q hq⟩ (by simp))
  have hbx : W2.cell? ⟨w1.heap.size, 0, none⟩ = some (.map (some (w.heap.size + 1 + 1))) := by rw [hW2]; simp [go_sem]
  have Hbx := hid hbx
  have HB2 := hid (HB1.out.trans (hB2.mono HB1.out.size))
  have hk0 := (hB2.cell (p := ⟨w.heap.size, 0, none⟩) (by simp only; omega)).trans K0.out
  have hk1 := (hB2.cell (p := ⟨w.heap.size, 1, none⟩) (by simp only; omega)).trans K1.out
  have HP2 := hid (HP.out W2 HB2.out)
  clear HP hB2 hbx
  rw [hW2] at hk0 hk1
  go_wp2_with fail
  rw [← hW2]
  refine HP2.out.mono ?_
  rintro e w3 ⟨v, rfl, hown, hB3⟩
  have HDel := hid (del_row W2.heap.size _ v _ w1.heap.size _ fs gs w3 hpl2 (ownsRow_base hown (by omega)) (HM2.out.kept (row := none) ⟨hB3.os, hB3.tape, hB3.output, hB3.size, fun q hq _ => hB3.block q hq⟩ (by simp)) Hg.out ((hB3.cell (p := ⟨w1.heap.size, 0, none⟩) (by simp only; omega)).trans Hbx.out) (by omega) (by omega) hB3.size Hwp.out)
  have HB3 := hid (HB2.out.trans (hB3.mono HB2.out.size))
  have hsz3 := hB3.size
  clear hB3 hown HP2
  go_wp2_with fail
  refine HDel.out.mono ?_
  rintro e w4 ⟨q, v', rfl, hq, ho, hB4⟩
  rw [Hkf.out] at hq ho
  have hql : q = (fnP fs gs fs.length).length := by rw [flatP_len] at hq; omega
  subst hql
  have Ho := hid (ownsRow_base (base' := w.heap.size) ho (by omega))
  have HB4 := hid (HB3.out.trans (hB4.mono (by omega)))
  clear ho hB4
  go_wp2_with fail
  go_ret
  exact ⟨_, rfl, Ho.out, HB4.out⟩

end Go.Proofs.Ytgcpakhagbbiiaa

/-! PairingOfFunction's doors. -/
namespace Go.Proofs.Ytgcpakhagbbiiaa
open Go.RowKit

noncomputable def pairFnR (V : Int) (fs gs : List Int) : List (Int × Int) × Int := if mcode4R V fs [gs] = 0 then (fnP fs gs fs.length, 0) else ([], mcode4R V fs [gs])
theorem mcode4_zero {V : Int} {fs gs : List Int} (h : mcode4R V fs [gs] = 0) : IsC V fs ∧ isFnB fs gs = true := by
  refine code4_zero (Classical.byContradiction fun hn => ?_)
  rw [mcode4R, if_neg hn] at h
  exact hn h

set_option maxRecDepth 1000000 in
set_option maxHeartbeats 2000000 in
theorem specPairingOfFunction (V : Int) (a0 : Option Addr) (cap : Nat) (fs : List Int) (a1 : Option Addr) (cap1 : Nat) (gs : List Int) (w : World) (hx : SlI w w.heap.size a0 fs) (hx1 : SlI w w.heap.size a1 gs) (hl : fs.length ≤ 1048576) (hg : gs.length ≤ 1048576) :
    Calls Try.prog 73 #[.agg #[.int .i64 V, .slice a0 fs.length cap], .slice a1 gs.length cap1] w fun e w' => ∃ v, e = .returned (.tuple #[v, .int .i64 (pairFnR V fs gs).2]) ∧ ResP w w' v (pairFnR V fs gs).1 := by
  obtain ⟨W0, hW0⟩ : ∃ W0, W0 = (w.alloc (.cells #[.int .i64 V, .slice a0 fs.length cap] 30)).alloc (.cells #[.slice a1 gs.length cap1] 22) := ⟨_, rfl⟩
  have hB0 : Below w.heap.size w W0 := by rw [hW0]; exact ((Below.refl _ w).alloc (Nat.le_refl _) _).alloc (by simp) _
  have hs0 : W0.heap.size = w.heap.size + 2 := by rw [hW0]; simp
  have hk0 : W0.cell? ⟨w.heap.size, 0, none⟩ = some (.int .i64 V) := by rw [hW0]; simp [go_sem]
  have hk1 : W0.cell? ⟨w.heap.size, 1, none⟩ = some (.slice a0 fs.length cap) := by rw [hW0]; simp [go_sem]
  have hk2 : W0.cell? ⟨w.heap.size + 1, 0, none⟩ = some (.slice a1 gs.length cap1) := by rw [hW0]; simp [go_sem]
  have HK : Hid (Calls Try.prog 106 #[.agg #[.int .i64 V, .slice a0 fs.length cap], .slice (some ⟨w.heap.size + 1, 0, none⟩) 1 1] W0 fun e w' => e = .returned (.int .i64 (code4R V fs [gs])) ∧ Below W0.heap.size W0 w') :=
    hid (code4_any V a0 cap fs (w.heap.size + 1) [(a1, cap1, gs)] W0 (hx.later hB0 hB0.size) hl (by omega) (fun i hi => by
      have : i = 0 := by simpa using hi
      subst this
      exact ⟨a1, cap1, gs, rfl, hk2⟩) (fun q hq => by
      have : q = (a1, cap1, gs) := by simpa using hq
      subst this
      exact ⟨hx1.later hB0 hB0.size, hg⟩) (by simp))
  have Hx := hid hx
  have Hy := hid hx1
  have HB0 := hid hB0
  have Hk0 := hid hk0
  have Hk1 := hid hk1
  clear hx hx1 hB0 hk0 hk1 hk2
  by_cases h0 : code4R V fs [gs] = 0
  · obtain ⟨hC, hfn⟩ := code4_zero h0
    have hmc : mcode4R V fs [gs] = if morseB fs gs fs.length = true then 0 else 5 := by rw [mcode4R, if_pos h0]; simp
    have hfe := fnPairs_eq hC (isFn_len hfn) fs.length (Nat.le_refl _)
    rw [h0] at HK
    have HM := hid (fun w1 (h : Below w.heap.size w w1) => fnPairs_any V a0 cap fs a1 cap1 gs w1 (Hx.out.later h h.size) (Hy.out.later h h.size) hC (isFn_len hfn))
    rw [hfe] at HM
    clear h0 hC hfn hfe
    have Hmc := hid hmc
    clear hmc
    rw [hW0] at HK
    go_enter Try.func73, Try.ntmps73
    go_wp2_with fail
    refine HK.out.mono ?_
    rintro e w1 ⟨rfl, hB1⟩
    rw [← hW0] at hB1
    have k0 := (hB1.cell (p := ⟨w.heap.size, 0, none⟩) (by simp only; omega)).trans Hk0.out
    have k1 := (hB1.cell (p := ⟨w.heap.size, 1, none⟩) (by simp only; omega)).trans Hk1.out
    have HB1 := hid (HB0.out.trans (hB1.mono HB0.out.size))
    clear hB1
    go_wp2_with fail
    refine (HM.out w1 HB1.out).mono ?_
    rintro e w2 ⟨n2, v2, rfl, hn2, ho2, hB2⟩
    have hql : n2 = (fnP fs gs fs.length).length := by rw [flatP_len] at hn2; omega
    subst hql
    have Ho2 := hid (ownsRow_base (base' := w.heap.size) ho2 HB1.out.size)
    have HB2 := hid (HB1.out.trans (hB2.mono HB1.out.size))
    clear hB2 ho2 hn2
    cases hb : morseB fs gs fs.length
    · have Hr : Hid (pairFnR V fs gs = ([], 5)) := hid (by rw [pairFnR, Hmc.out, hb]; simp)
      clear hb
      go_wp2_with fail
      go_ret2
      rw [Hr.out]
      exact ⟨_, rfl, resP_nil _ _ HB2.out⟩
    · have Hr : Hid (pairFnR V fs gs = (fnP fs gs fs.length, 0)) := hid (by rw [pairFnR, Hmc.out, hb]; simp)
      clear hb
      go_wp2_with fail
      go_ret2
      rw [Hr.out]
      exact ⟨_, rfl, Ho2.out, HB2.out⟩
  · obtain ⟨c, hc⟩ : ∃ c, c = code4R V fs [gs] := ⟨_, rfl⟩
    have hmc : mcode4R V fs [gs] = c := by rw [mcode4R, if_neg h0, hc]
    have Hr : Hid (pairFnR V fs gs = ([], c)) := hid (by rw [pairFnR, hmc, if_neg (by rw [hc]; exact h0)])
    clear hmc
    rw [← hc] at h0 HK
    have hcn : (c != 0) = true := by simpa using h0
    clear hc h0
    rw [hW0] at HK
    go_enter Try.func73, Try.ntmps73
    go_wp2_with fail
    refine HK.out.mono ?_
    rintro e w1 ⟨rfl, hB1⟩
    rw [← hW0] at hB1
    go_wp2_with fail
    go_ret2
    rw [Hr.out]
    exact ⟨_, rfl, resP_nil _ _ (HB0.out.trans (hB1.mono HB0.out.size))⟩

set_option maxRecDepth 1000000 in
set_option maxHeartbeats 2000000 in
theorem implPairingOfFunction (V : Int) (a0 : Option Addr) (cap : Nat) (fs : List Int) (a1 : Option Addr) (cap1 : Nat) (gs : List Int) (w : World) (hx : SlI w w.heap.size a0 fs) (hx1 : SlI w w.heap.size a1 gs) (hl : fs.length ≤ 1048576) (hg : gs.length ≤ 1048576) :
    Calls Try.prog 77 #[.agg #[.int .i64 V, .slice a0 fs.length cap], .slice a1 gs.length cap1] w fun e w' => ∃ v, e = .returned (.tuple #[v, .int .i64 (pairFnR V fs gs).2]) ∧ ResP w w' v (pairFnR V fs gs).1 := by
  obtain ⟨W0, hW0⟩ : ∃ W0, W0 = (w.alloc (.cells #[.int .i64 V, .slice a0 fs.length cap] 30)).alloc (.cells #[.slice a1 gs.length cap1] 22) := ⟨_, rfl⟩
  have hB0 : Below w.heap.size w W0 := by rw [hW0]; exact ((Below.refl _ w).alloc (Nat.le_refl _) _).alloc (by simp) _
  have hs0 : W0.heap.size = w.heap.size + 2 := by rw [hW0]; simp
  have hk0 : W0.cell? ⟨w.heap.size, 0, none⟩ = some (.int .i64 V) := by rw [hW0]; simp [go_sem]
  have hk1 : W0.cell? ⟨w.heap.size, 1, none⟩ = some (.slice a0 fs.length cap) := by rw [hW0]; simp [go_sem]
  have hk2 : W0.cell? ⟨w.heap.size + 1, 0, none⟩ = some (.slice a1 gs.length cap1) := by rw [hW0]; simp [go_sem]
  have HK : Hid (Calls Try.prog 141 #[.agg #[.int .i64 V, .slice a0 fs.length cap], .slice (some ⟨w.heap.size + 1, 0, none⟩) 1 1] W0 fun e w' => e = .returned (.int .i64 (mcode4R V fs [gs])) ∧ Below W0.heap.size W0 w') :=
    hid (mcode_any V a0 cap fs (w.heap.size + 1) [(a1, cap1, gs)] W0 (hx.later hB0 hB0.size) hl (by omega) (fun i hi => by
      have : i = 0 := by simpa using hi
      subst this
      exact ⟨a1, cap1, gs, rfl, hk2⟩) (fun q hq => by
      have : q = (a1, cap1, gs) := by simpa using hq
      subst this
      exact ⟨hx1.later hB0 hB0.size, hg⟩) (by simp))
  have Hx := hid hx
  have Hy := hid hx1
  have HB0 := hid hB0
  have Hk0 := hid hk0
  have Hk1 := hid hk1
  clear hx hx1 hB0 hk0 hk1 hk2
  by_cases h0 : mcode4R V fs [gs] = 0
  · obtain ⟨hC, hfn⟩ := mcode4_zero h0
    have Hr : Hid (pairFnR V fs gs = (fnP fs gs fs.length, 0)) := hid (by rw [pairFnR, if_pos h0])
    rw [h0] at HK
    have HM := hid (fun w1 (h : Below w.heap.size w w1) => fp_any V a0 cap fs a1 cap1 gs w1 (Hx.out.later h h.size) (Hy.out.later h h.size) hC (isFn_len hfn) (fn_wf hfn))
    clear h0 hC hfn
    rw [hW0] at HK
    go_enter Try.func77, Try.ntmps77
    go_wp2_with fail
    refine HK.out.mono ?_
    rintro e w1 ⟨rfl, hB1⟩
    rw [← hW0] at hB1
    have k0 := (hB1.cell (p := ⟨w.heap.size, 0, none⟩) (by simp only; omega)).trans Hk0.out
    have k1 := (hB1.cell (p := ⟨w.heap.size, 1, none⟩) (by simp only; omega)).trans Hk1.out
    have HB1 := hid (HB0.out.trans (hB1.mono HB0.out.size))
    clear hB1
    go_wp2_with fail
    refine (HM.out w1 HB1.out).mono ?_
    rintro e w2 ⟨v2, rfl, ho2, hB2⟩
    have Ho2 := hid (ownsRow_base (base' := w.heap.size) ho2 HB1.out.size)
    have HB2 := hid (HB1.out.trans (hB2.mono HB1.out.size))
    clear hB2 ho2
    go_wp2_with fail
    go_ret2
    rw [Hr.out]
    exact ⟨_, rfl, Ho2.out, HB2.out⟩
  · obtain ⟨c, hc⟩ : ∃ c, c = mcode4R V fs [gs] := ⟨_, rfl⟩
    have Hr : Hid (pairFnR V fs gs = ([], c)) := hid (by rw [pairFnR, if_neg h0, hc])
    rw [← hc] at h0 HK
    have hcn : (c != 0) = true := by simpa using h0
    clear hc h0
    rw [hW0] at HK
    go_enter Try.func77, Try.ntmps77
    go_wp2_with fail
    refine HK.out.mono ?_
    rintro e w1 ⟨rfl, hB1⟩
    rw [← hW0] at hB1
    go_wp2_with fail
    go_ret2
    rw [Hr.out]
    exact ⟨_, rfl, resP_nil _ _ (HB0.out.trans (hB1.mono HB0.out.size))⟩

theorem pairFnR_len (V : Int) (fs gs : List Int) : (pairFnR V fs gs).1.length ≤ 1048576 := by
  unfold pairFnR
  split
  · next h =>
    obtain ⟨hC, hfn⟩ := mcode4_zero h
    have h63 := hC.len63
    obtain ⟨m, h1, h2⟩ := fnPairs_even fs gs h63 fs.length
    rw [fnPairs_eq hC (isFn_len hfn) fs.length (Nat.le_refl _), flatP_len] at h1
    simp only
    omega
  · simp

end Go.Proofs.Ytgcpakhagbbiiaa

/-! spec.CriticalValues. -/
namespace Go.Proofs.Ytgcpakhagbbiiaa
open Go.RowKit Go.Sort

/-- The critical values of a function. -/
def cvL (fs gs : List Int) : List Int := diffL ((critL fs (flatP (fnP fs gs fs.length))).map (numAt fs gs))
noncomputable def cvR (V : Int) (fs gs : List Int) : List Int × Int := if mcode4R V fs [gs] = 0 then (cvL fs gs, 0) else ([], mcode4R V fs [gs])
theorem diffL_len (xs : List Int) : (diffL xs).length ≤ xs.length := by
  have h := Lib.compact_length_le (xs.mergeSort fun x y => decide (x ≤ y))
  rwa [List.length_mergeSort] at h
theorem diffL_nil : diffL [] = [] := List.eq_nil_of_length_eq_zero (by have := diffL_len []; simpa using this)
theorem critL_len (fs ps : List Int) : (critL fs ps).length ≤ fs.length := List.length_filter_le _ _
theorem cvR_len (V : Int) (fs gs : List Int) (hl : fs.length ≤ 1048576) (_hg : gs.length ≤ 1048576) : (cvR V fs gs).1.length ≤ 1048576 := by
  unfold cvR cvL
  split
  · have h1 := diffL_len ((critL fs (flatP (fnP fs gs fs.length))).map (numAt fs gs))
    have h2 := critL_len fs (flatP (fnP fs gs fs.length))
    rw [List.length_map] at h1
    simp only
    omega
  · simp
/-- What holds where a function is a Morse function. -/
theorem mcode4_morse {V : Int} {fs gs : List Int} (h0 : mcode4R V fs [gs] = 0) : morseB fs gs fs.length = true := by
  have h1 := h0
  rw [mcode4R] at h1
  by_cases h2 : code4R V fs [gs] = 0
  · rw [if_pos h2] at h1
    cases hb : morseB fs gs fs.length
    · simp [hb] at h1
    · rfl
  · rw [if_neg h2] at h1
    exact absurd h1 h2
theorem fnP_len {V : Int} {fs gs : List Int} (hC : IsC V fs) (hg : gs.length = fs.length) : (fnP fs gs fs.length).length ≤ 1048576 := by
  obtain ⟨m, h1, h2⟩ := fnPairs_even fs gs hC.len63 fs.length
  rw [fnPairs_eq hC hg fs.length (Nat.le_refl _), flatP_len] at h1
  have := hC.len63
  omega

set_option maxRecDepth 1000000 in
set_option maxHeartbeats 4000000 in
theorem specCriticalValues (V : Int) (a0 : Option Addr) (cap : Nat) (fs : List Int) (a1 : Option Addr) (cap1 : Nat) (gs : List Int) (w : World) (hx : SlI w w.heap.size a0 fs) (hx1 : SlI w w.heap.size a1 gs) (hl : fs.length ≤ 1048576) (hg : gs.length ≤ 1048576) :
    Calls Try.prog 36 #[.agg #[.int .i64 V, .slice a0 fs.length cap], .slice a1 gs.length cap1] w fun e w' => ∃ v, e = .returned (.tuple #[v, .int .i64 (cvR V fs gs).2]) ∧ Res w w' v (cvR V fs gs).1 := by
  obtain ⟨W0, hW0⟩ : ∃ W0, W0 = w.alloc (.cells #[.int .i64 V, .slice a0 fs.length cap] 30) := ⟨_, rfl⟩
  have hB0 : Below w.heap.size w W0 := by rw [hW0]; exact (Below.refl _ w).alloc (Nat.le_refl _) _
  have hs0 : W0.heap.size = w.heap.size + 1 := by rw [hW0]; simp
  have hkb : W0.heap[w.heap.size]? = some (.cells #[.int .i64 V, .slice a0 fs.length cap] 30 (0, 0)) := by rw [hW0]; exact heap_alloc_new _ _
  have HK := hid (specPairingOfFunction V a0 cap fs a1 cap1 gs W0 (hx.later hB0 hB0.size) (hx1.later hB0 hB0.size) hl hg)
  have Hx := hid hx
  have Hy := hid hx1
  have HB0 := hid hB0
  have Hkb := hid hkb
  clear hx hx1 hB0 hkb
  by_cases h0 : mcode4R V fs [gs] = 0
  · obtain ⟨hC, hfn⟩ := mcode4_zero h0
    have hgl := isFn_len hfn
    rw [show pairFnR V fs gs = (fnP fs gs fs.length, 0) by rw [pairFnR, if_pos h0]] at HK
    refine res_mono (show cvR V fs gs = (cvL fs gs, 0) by rw [cvR, if_pos h0]) ?_
    have hLl := fnP_len hC hgl
    have h63 := hC.len63
    have Hcv : Hid (∀ L, L = fnP fs gs fs.length → cvL fs gs = diffL ((critL fs (flatP L)).map (numAt fs gs))) := hid (fun L h => by rw [h]; rfl)
    obtain ⟨L, hL⟩ : ∃ L, L = fnP fs gs fs.length := ⟨_, rfl⟩
    have Hcv := hid (Hcv.out L hL)
    rw [← hL] at HK hLl
    have HCr := hid (fun (a2 : Option Addr) (c2 : Nat) (W : World) (h : Below w.heap.size w W) (hs : SlI W W.heap.size a2 (flatP L)) => critS_any V a0 cap fs a2 L.length c2 (flatP L) W (Hx.out.later h h.size) hs hl (by rw [flatP_len]) hLl)
    have HAt := hid (fun (x : Int) (W : World) (h : Below w.heap.size w W) => at_any V a0 cap fs a1 cap1 gs x W (Hx.out.later h h.size) (Hy.out.later h h.size) hl hgl)
    have hCl := critL_len fs (flatP L)
    obtain ⟨C, hCe⟩ : ∃ C, C = critL fs (flatP L) := ⟨_, rfl⟩
    rw [← hCe] at Hcv hCl HCr
    clear h0 hC hfn hL hgl hCe
    rw [hW0] at HK
    go_enter Try.func36, Try.ntmps36
    go_wp2_with fail
    refine HK.out.mono ?_
    rintro e w1 ⟨v1, rfl, hr1⟩
    rw [← hW0] at hr1
    have hB1 := hr1.2
    obtain ⟨_, av, cv, rfl, hs1⟩ := pairs_slI hr1.1
    have Kb1 := hid ((hB1.block w.heap.size (by omega)).trans Hkb.out)
    have HB1 := hid (HB0.out.trans (hB1.mono HB0.out.size))
    have HCq := hid (HCr.out av cv w1 HB1.out hs1)
    obtain ⟨k0, k1, _, _⟩ := two_of Kb1.out
    clear hB1 hr1 hs1
    go_wp2_with fail
    refine HCq.out.mono ?_
    rintro e w2 ⟨v2, rfl, hr2⟩
    obtain ⟨_, a3, c3, rfl, hs3⟩ := ownsRow_slI hr2.1
    have HB2 := hid (HB1.out.trans (hr2.2.mono HB1.out.size))
    have Kb2 := hid ((hr2.2.block w.heap.size (lt_of_get Kb1.out)).trans Kb1.out)
    have Hs3 := hid hs3
    have hown0 := World.ownsRow_made (base := w2.heap.size) (e := 2) (size := 1) w2 #[] 0 (Nat.le_refl _) (by simp [maxLen]) rfl
    have Hown0 := hid hown0
    have hbz := lt_of_get Kb2.out
    clear hr2 hs3 k0 k1 hown0
    go_wp2_with fail
    go_loopw [9, 10] (fun oo ii wr => ∃ (k g c : Nat) (ys : List Int), k ≤ C.length ∧ oo = .slice (some ⟨g, 0, none⟩) ys.length c ∧ ii = .int .i64 k ∧ Hid (ys = diffL ((C.take k).map (numAt fs gs))) ∧
        Hid (wr.ownsRow w2.heap.size 2 1 (.slice (some ⟨g, 0, none⟩) ys.length c) ys.length (ys.map (Value.int .i64))) ∧ Hid (Below w2.heap.size w2 wr)) (fun _ ii _ => C.length - (RowKit.intOf ii).toNat)
    case atStart => exact ⟨0, w2.heap.size, 0, [], Nat.zero_le _, rfl, rfl, hid diffL_nil.symm, hid (by simpa using Hown0.out), hid ((Below.refl _ _).alloc (Nat.le_refl _) _)⟩
    case round =>
      clear Hown0
      obtain ⟨k, g, c, ys, hk, rfl, rfl, Hys, Hown, HB⟩ := hrel
      obtain ⟨k0, k1, _, _⟩ := two_of ((HB.out.block _ hbz).trans Kb2.out)
      by_cases hlt : k < C.length
      · obtain ⟨x, hxe⟩ : ∃ x, x = C[k]?.getD 0 := ⟨_, rfl⟩
        obtain ⟨b3, off3, hb3, rfl, hc3⟩ : ∃ b off, b < w2.heap.size ∧ a3 = some ⟨b, off, none⟩ ∧ ∀ i, i < C.length → w2.cell? ⟨b, off + i, none⟩ = some (.int .i64 (C[i]?.getD 0)) := by
          rcases Hs3.out with h | h
          · rw [h] at hlt; simp at hlt
          · exact h
        have e0 : wr.cell? ⟨b3, off3 + k, none⟩ = some (.int .i64 x) := by rw [HB.out.cell (p := ⟨b3, off3 + k, none⟩) hb3, hc3 k hlt, hxe]
        have HBw := hid (HB2.out.trans (HB.out.mono HB2.out.size))
        have hsz := HB.out.size
        have Hys1 : Hid (∀ zs, InsL ys (numAt fs gs x) zs → zs = diffL ((C.take (k + 1)).map (numAt fs gs))) := hid (fun zs h => by
          rw [take_snoc hlt, ← hxe, List.map_append, Hys.out] at *
          exact diff_ins h)
        have hasc : ys.Pairwise (· < ·) := by rw [Hys.out]; exact diffL_asc _
        have hyl : ys.length ≤ 64 := by
          have := diffL_len ((C.take k).map (numAt fs gs))
          rw [← Hys.out] at this
          simp at this
          omega
        have hbz1 : w.heap.size < wr.heap.size := by omega
        have hb31 : b3 < wr.heap.size := by omega
        have hd := HBw.out.trans ((below_drewN (Below.refl _ wr) 1).mono HBw.out.size)
        have HAx := hid (HAt.out x wr.drew hd)
        obtain ⟨z, hz⟩ : ∃ z, z = numAt fs gs x := ⟨_, rfl⟩
        rw [← hz] at HAx Hys1
        have HPut := hid (fun (w3 : World) (h : Below wr.heap.size wr w3) => putS_any w2.heap.size g c ys z w3 (row_later (B := 0) Hown.out h rfl) hasc hyl (Nat.le_trans hsz h.size))
        have hi0 : (0 : Int) ≤ (k : Int) := by omega
        have hi1 : (k : Int) < (C.length : Int) := by omega
        clear hc3 hxe hz hasc hyl hd
        go_wp2_with fail
        go_region_held3 (fun w' => w'.cell? ⟨w.heap.size, 0, none⟩ = some (.int .i64 V) ∧ w'.cell? ⟨w.heap.size, 1, none⟩ = some (.slice a0 fs.length cap) ∧ w'.cell? ⟨b3, off3 + k, none⟩ = some (.int .i64 x)) (go_keep) (first
          | (go_at_call 76; refine HAx.out.mono ?_; rintro e w3 ⟨rfl, hB3⟩; have m0 := (hB3.cell (p := ⟨w.heap.size, 0, none⟩) hbz1).trans k0; have m1 := (hB3.cell (p := ⟨w.heap.size, 1, none⟩) hbz1).trans k1; have m2 := (hB3.cell (p := ⟨b3, off3 + k, none⟩) hb31).trans e0; have HB3 := hid ((below_drewN (Below.refl _ wr) 1).trans (hB3.mono (Nat.le_refl _))); clear hB3)
          | (go_at_call 75; refine (HPut.out w3 HB3.out).mono ?_; rintro e w4 ⟨g4, c4, zs, rfl, hown4, hB4, hins⟩; have HB4 := hid (HB3.out.trans (hB4.mono HB3.out.size)); have Hown4 := hid hown4; have Hins := hid (Hys1.out zs hins); have n0 := (HB4.out.cell (p := ⟨w.heap.size, 0, none⟩) hbz1).trans k0; have n1 := (HB4.out.cell (p := ⟨w.heap.size, 1, none⟩) hbz1).trans k1; have n2 := (HB4.out.cell (p := ⟨b3, off3 + k, none⟩) hb31).trans e0; clear hB4 hown4 hins))
        go_wp2_with fail
        go_roundw
        case rel => exact ⟨k + 1, g4, c4, zs, by omega, rfl, by go_num, Hins, Hown4, hid (HB.out.trans (HB4.out.mono hsz))⟩
        case measure => simp [RowKit.intOf]; omega
      · obtain rfl : k = C.length := by omega
        have Hr : Hid (cvL fs gs = ys) := hid (by rw [Hcv.out, Hys.out, List.take_length])
        go_wp2_with fail
        go_ret2
        rw [Hr.out]
        exact ⟨_, rfl, ownsRow_base Hown.out HB2.out.size, HB2.out.trans (HB.out.mono HB2.out.size)⟩
  · obtain ⟨c, hc⟩ : ∃ c, c = mcode4R V fs [gs] := ⟨_, rfl⟩
    rw [show pairFnR V fs gs = ([], c) by rw [pairFnR, if_neg h0, hc]] at HK
    refine res_mono (show cvR V fs gs = ([], c) by rw [cvR, if_neg h0, hc]) ?_
    rw [← hc] at h0
    have hcn : (c != 0) = true := by simpa using h0
    clear hc h0
    rw [hW0] at HK
    go_enter Try.func36, Try.ntmps36
    go_wp2_with fail
    refine HK.out.mono ?_
    rintro e w1 ⟨v1, rfl, hr1⟩
    rw [← hW0] at hr1
    go_wp2_with fail
    go_ret2
    exact ⟨_, rfl, res_nil _ _ (HB0.out.trans (hr1.2.mono HB0.out.size))⟩

end Go.Proofs.Ytgcpakhagbbiiaa

/-! The library's slices.Compact at int64: that this program holds their very bodies. -/
namespace Go.Proofs.Ytgcpakhagbbiiaa
open Go.Shelf

def compactL_ren : Go.Shelf.Ren := ⟨fun | 43 => 145 | n => n, fun | 22 => 22 | 23 => 2 | 3 => 3 | 4 => 4 | 0 => 0 | n => n, fun | n => n⟩
theorem compactL : Go.Proofs.SlLaysN.n43 Try.prog compactL_ren := {
  mixed := by kernel_rfl,
  f43 := ⟨Try.f145.name, by decide, Try.func145.trans (congrArg some (by kernel_rfl))⟩,
  t0 := Try.underlying0,
  a0 := Try.isAgg0,
  z0 := Try.sizeOf0,
  v0 := Try.zeroValue0,
  t3 := Try.underlying3,
  a3 := Try.isAgg3,
  z3 := Try.sizeOf3,
  v3 := Try.zeroValue3,
  t4 := Try.underlying4,
  a4 := Try.isAgg4,
  z4 := Try.sizeOf4,
  v4 := Try.zeroValue4,
  t22 := Try.underlying22,
  a22 := Try.isAgg22,
  z22 := Try.sizeOf22,
  v22 := Try.zeroValue22,
  t23 := Try.underlying2,
  a23 := Try.isAgg2,
  z23 := Try.sizeOf2,
  v23 := Try.zeroValue2,
  i23 := by kernel_rfl }

end Go.Proofs.Ytgcpakhagbbiiaa

/-! The library's sort, slices.Sorted and maps.Keys at int64: that this program holds their very bodies. -/
namespace Go.Proofs.Ytgcpakhagbbiiaa
open Go.Shelf

def sortL_ren : Go.Shelf.Ren := ⟨fun | 5 => 105 | 8 => 175 | 7 => 174 | 19 => 225 | 20 => 226 | 10 => 216 | 11 => 217 | 12 => 218 | 13 => 219 | 14 => 220 | 15 => 221 | 16 => 222 | 17 => 223 | 18 => 224 | 30 => 243 | 31 => 244 | 32 => 245 | 33 => 246 | 34 => 247 | 35 => 229 | 40 => 254 | n => n, fun | 23 => 22 | 25 => 2 | 3 => 3 | 32 => 165 | 22 => 22 | 0 => 0 | 44 => 206 | 46 => 80 | 4 => 4 | 36 => 198 | 35 => 197 | 41 => 203 | 5 => 5 | 9 => 9 | 53 => 219 | 57 => 223 | 63 => 231 | 64 => 232 | n => n, fun | n => n⟩
theorem sortL : Go.Proofs.SlLaysM.n5 Try.prog sortL_ren := {
  mixed := by kernel_rfl,
  f5 := ⟨Try.f105.name, by decide, Try.func105.trans (congrArg some (by kernel_rfl))⟩,
  f7 := ⟨Try.f174.name, by decide, Try.func174.trans (congrArg some (by kernel_rfl))⟩,
  f8 := Try.func175.trans (congrArg some (by kernel_rfl)),
  f10 := ⟨Try.f216.name, by decide, Try.func216.trans (congrArg some (by kernel_rfl))⟩,
  f11 := ⟨Try.f217.name, by decide, Try.func217.trans (congrArg some (by kernel_rfl))⟩,
  f12 := ⟨Try.f218.name, by decide, Try.func218.trans (congrArg some (by kernel_rfl))⟩,
  f13 := ⟨Try.f219.name, by decide, Try.func219.trans (congrArg some (by kernel_rfl))⟩,
  f14 := ⟨Try.f220.name, by decide, Try.func220.trans (congrArg some (by kernel_rfl))⟩,
  f15 := ⟨Try.f221.name, by decide, Try.func221.trans (congrArg some (by kernel_rfl))⟩,
  f16 := ⟨Try.f222.name, by decide, Try.func222.trans (congrArg some (by kernel_rfl))⟩,
  f17 := ⟨Try.f223.name, by decide, Try.func223.trans (congrArg some (by kernel_rfl))⟩,
  f18 := ⟨Try.f224.name, by decide, Try.func224.trans (congrArg some (by kernel_rfl))⟩,
  f19 := Try.func225.trans (congrArg some (by kernel_rfl)),
  f20 := Try.func226.trans (congrArg some (by kernel_rfl)),
  f30 := ⟨Try.f243.name, by decide, Try.func243.trans (congrArg some (by kernel_rfl))⟩,
  f31 := Try.func244.trans (congrArg some (by kernel_rfl)),
  f32 := Try.func245.trans (congrArg some (by kernel_rfl)),
  f33 := ⟨Try.f246.name, by decide, Try.func246.trans (congrArg some (by kernel_rfl))⟩,
  f34 := ⟨Try.f247.name, by decide, Try.func247.trans (congrArg some (by kernel_rfl))⟩,
  f35 := ⟨Try.f229.name, by decide, Try.func229.trans (congrArg some (by kernel_rfl))⟩,
  f40 := ⟨Try.f254.name, by decide, Try.func254.trans (congrArg some (by kernel_rfl))⟩,
  t0 := Try.underlying0,
  a0 := Try.isAgg0,
  z0 := Try.sizeOf0,
  v0 := Try.zeroValue0,
  t3 := Try.underlying3,
  a3 := Try.isAgg3,
  z3 := Try.sizeOf3,
  v3 := Try.zeroValue3,
  t4 := Try.underlying4,
  a4 := Try.isAgg4,
  z4 := Try.sizeOf4,
  v4 := Try.zeroValue4,
  t5 := Try.underlying5,
  a5 := Try.isAgg5,
  z5 := Try.sizeOf5,
  v5 := Try.zeroValue5,
  t9 := Try.underlying9,
  a9 := Try.isAgg9,
  z9 := Try.sizeOf9,
  v9 := Try.zeroValue9,
  t22 := Try.underlying22,
  a22 := Try.isAgg22,
  z22 := Try.sizeOf22,
  v22 := Try.zeroValue22,
  t23 := Try.underlying22,
  a23 := Try.isAgg22,
  z23 := Try.sizeOf22,
  v23 := Try.zeroValue22,
  t25 := Try.underlying2,
  a25 := Try.isAgg2,
  z25 := Try.sizeOf2,
  v25 := Try.zeroValue2,
  t32 := Try.underlying165,
  a32 := Try.isAgg165,
  z32 := Try.sizeOf165,
  v32 := Try.zeroValue165,
  t35 := Try.underlying197,
  a35 := Try.isAgg197,
  z35 := Try.sizeOf197,
  v35 := Try.zeroValue197,
  t36 := Try.underlying198,
  a36 := Try.isAgg198,
  z36 := Try.sizeOf198,
  v36 := Try.zeroValue198,
  t41 := Try.underlying203,
  a41 := Try.isAgg203,
  z41 := Try.sizeOf203,
  v41 := Try.zeroValue203,
  t44 := Try.underlying206,
  a44 := Try.isAgg206,
  z44 := Try.sizeOf206,
  v44 := Try.zeroValue206,
  t46 := Try.underlying80,
  a46 := Try.isAgg80,
  z46 := Try.sizeOf80,
  v46 := Try.zeroValue80,
  t53 := Try.underlying219,
  a53 := Try.isAgg219,
  z53 := Try.sizeOf219,
  v53 := Try.zeroValue219,
  t57 := Try.underlying223,
  a57 := Try.isAgg223,
  z57 := Try.sizeOf223,
  v57 := Try.zeroValue223,
  t63 := Try.underlying231,
  a63 := Try.isAgg231,
  z63 := Try.sizeOf231,
  v63 := Try.zeroValue231,
  t64 := Try.underlying232,
  a64 := Try.isAgg232,
  z64 := Try.sizeOf232,
  v64 := Try.zeroValue232 }

def sortedL_ren : Go.Shelf.Ren := ⟨fun | 6 => 146 | 8 => 207 | 9 => 105 | 11 => 241 | 13 => 175 | 12 => 174 | 23 => 225 | 24 => 226 | 14 => 216 | 15 => 217 | 16 => 218 | 17 => 219 | 18 => 220 | 19 => 221 | 20 => 222 | 21 => 223 | 22 => 224 | 25 => 243 | 26 => 244 | 27 => 245 | 28 => 246 | 29 => 247 | 30 => 229 | 31 => 254 | n => n, fun | 26 => 2 | 28 => 134 | 24 => 22 | 0 => 0 | 3 => 3 | 37 => 165 | 48 => 206 | 50 => 80 | 4 => 4 | 40 => 198 | 39 => 197 | 45 => 203 | 5 => 5 | 9 => 9 | 51 => 219 | 55 => 223 | 57 => 231 | 58 => 232 | 33 => 83 | n => n, fun | n => n⟩
theorem sortedL : Go.Proofs.SlLaysZI.n6 Try.prog sortedL_ren := {
  mixed := by kernel_rfl,
  f6 := ⟨Try.f146.name, by decide, Try.func146.trans (congrArg some (by kernel_rfl))⟩,
  f8 := ⟨Try.f207.name, by decide, Try.func207.trans (congrArg some (by kernel_rfl))⟩,
  f11 := ⟨Try.f241.name, by decide, Try.func241.trans (congrArg some (by kernel_rfl))⟩,
  t0 := Try.underlying0,
  a0 := Try.isAgg0,
  z0 := Try.sizeOf0,
  v0 := Try.zeroValue0,
  t24 := Try.underlying22,
  a24 := Try.isAgg22,
  z24 := Try.sizeOf22,
  v24 := Try.zeroValue22,
  t26 := Try.underlying2,
  a26 := Try.isAgg2,
  z26 := Try.sizeOf2,
  v26 := Try.zeroValue2,
  t28 := Try.underlying134,
  a28 := Try.isAgg134,
  z28 := Try.sizeOf134,
  v28 := Try.zeroValue134,
  i26 := by kernel_rfl }

def keysL_ren : Go.Shelf.Ren := ⟨fun | 7 => 177 | 10 => 227 | n => n, fun | 23 => 128 | 26 => 2 | 3 => 4 | 28 => 134 | 0 => 0 | 27 => 133 | 33 => 83 | 4 => 4 | n => n, fun | n => n⟩
theorem keysL : Go.Proofs.SlLaysZI.n7 Try.prog keysL_ren := {
  mixed := by kernel_rfl,
  f7 := ⟨Try.f177.name, by decide, Try.func177.trans (congrArg some (by kernel_rfl))⟩,
  f10 := ⟨Try.f227.name, by decide, Try.func227.trans (congrArg some (by kernel_rfl))⟩,
  t0 := Try.underlying0,
  a0 := Try.isAgg0,
  z0 := Try.sizeOf0,
  v0 := Try.zeroValue0,
  t4 := Try.underlying4,
  a4 := Try.isAgg4,
  z4 := Try.sizeOf4,
  v4 := Try.zeroValue4,
  t23 := Try.underlying128,
  a23 := Try.isAgg128,
  z23 := Try.sizeOf128,
  v23 := Try.zeroValue128,
  t26 := Try.underlying2,
  a26 := Try.isAgg2,
  z26 := Try.sizeOf2,
  v26 := Try.zeroValue2,
  t27 := Try.underlying133,
  a27 := Try.isAgg133,
  z27 := Try.sizeOf133,
  v27 := Try.zeroValue133,
  t28 := Try.underlying134,
  a28 := Try.isAgg134,
  z28 := Try.sizeOf134,
  v28 := Try.zeroValue134,
  t33 := Try.underlying83,
  a33 := Try.isAgg83,
  z33 := Try.sizeOf83,
  v33 := Try.zeroValue83 }

end Go.Proofs.Ytgcpakhagbbiiaa

/-! The library's sort at int64, and slices.Sorted(maps.Keys(m)) of a set. -/
namespace Go.Proofs.Ytgcpakhagbbiiaa
open Go.RowKit Go.Maps Go.Sort Go.Shelf

/-- slices.Sort's two contracts, as slices.Sorted asks them. -/
theorem sortsL (m : Nat) : AnyZI.SortsIn Try.prog sortedL_ren Fence.wide m :=
  ⟨fun blk off cap ss W hH hblk hsz => callsIn_wide.2 (AnyM.slices_Sort_int sortL blk off cap ss W hH hblk hsz),
   fun p cap W => callsIn_wide.2 (AnyM.slices_Sort_int_none sortL p cap W)⟩

theorem has_knownFrom (x : Int) : ∀ (pre : List Int) (D : DataW Unit), Maps.IsMap D → (has (knownFrom D pre) (.int .i64 x) = true ↔ x ∈ pre ∨ has D (.int .i64 x) = true)
  | [], D, _ => by simp [knownFrom]
  | y :: pre, D, hD => by
    have ih := has_knownFrom x pre (D.put (.int .i64 y) (.lit (.bool true))) (hD.put _ _)
    have e : knownFrom D (y :: pre) = knownFrom (D.put (.int .i64 y) (.lit (.bool true))) pre := rfl
    rw [e, ih]
    by_cases hx : x = y
    · subst hx
      rw [has_put_same hD (show WideAt.IsKeyLit (.int .i64 x) from trivial)]
      simp
    · rw [has_put_other (by simpa using hx)]
      simp [hx]

theorem has_knownD (x : Int) (pre : List Int) : has (knownD pre) (.int .i64 x) = true ↔ x ∈ pre := by
  unfold knownD
  rw [has_knownFrom x pre _ Maps.isMap_empty]
  simp [has]

/-- A set's numbers, ascending. -/
def ascOf (L : List Int) : List Int := pickTo (fun x => decide (x ∈ L)) 63

theorem mem_ascOf {L : List Int} (hL : ∀ x ∈ L, 1 ≤ x ∧ x ≤ 63) {x : Int} : x ∈ ascOf L ↔ x ∈ L := by
  unfold ascOf
  rw [mem_pickTo]
  constructor
  · intro h; simpa using h.2.2
  · intro h; exact ⟨(hL x h).1, (hL x h).2, by simpa using h⟩

theorem sorted_known {w : World} {b n : Nat} {L : List Int} (hown : w.ownsMap Try.prog 2 (plainElem (H := Unit) Try.prog 4) b n (knownD L)) (hL : ∀ x ∈ L, 1 ≤ x ∧ x ≤ 63) {ss : List Int} (hp : ss.Perm (intKeys (knownD L))) :
    ss.mergeSort (fun x y => decide (x ≤ y)) = ascOf L := by
  obtain ⟨es, hD, hpw, _⟩ := hown.entries (Maps.int_keyed Try.underlying2)
  obtain ⟨es', hD', hko⟩ := hown.keysOf
  obtain rfl : es = es' := by rw [hD] at hD'; simpa using hD'
  have hasc := pickTo_asc (fun x => decide (x ∈ L)) 63
  have h1 : (ascOf L).Perm (intKeys (knownD L)) := by
    rw [hD]
    refine perm_intKeys hpw (fun p hp => by obtain ⟨v, hv⟩ := hko p hp; obtain ⟨x, _, hx, _⟩ := Maps.keyOf_i64 Try.underlying2 hv; exact ⟨x, hx⟩) (hasc.imp fun h e => by omega) (fun x => ?_)
    rw [← hD, has_knownD, mem_ascOf hL]
  have h2 := mergeSort_of_perm_i (hp.trans h1.symm)
  refine h2.trans (List.mergeSort_of_pairwise ?_)
  exact hasc.imp fun h => by simp only [leI, decide_eq_true_eq]; omega

end Go.Proofs.Ytgcpakhagbbiiaa

/-! slices.Collect and slices.Sorted over an iterator that reads cells. -/
namespace Go.Proofs.Ytgcpakhagbbiiaa
open Go.RowKit Go.Maps Go.Sort Go.Shelf

attribute [local go_sem] Oper.semAt_some

/-- The list that is being appended to: it lies in the call's own memory, and its variable holds it. -/
structure ApW (w W : World) (v : Value) (xs : List Int) : Prop where
  below : Below w.heap.size w W
  box : W.heap[w.heap.size]? = some (.cells #[v] 22 (0, 0))
  row : W.ownsRow (w.heap.size + 3) 2 1 v xs.length (xs.map (Value.int .i64))

theorem ApW.turn {w W W' : World} {v : Value} {xs : List Int} (h : ApW w W v xs) {row : Option Nat} (hg : W.grownBy W' row) (hr : ∀ r, row = some r → w.heap.size + 1 ≤ r ∧ v.ownBlock ≠ some r) : ApW w W' v xs where
  below := h.below.grown hg h.below.size (fun k e => by have := (hr k e).1; omega)
  box := (hg.block _ (lt_of_get h.box) (fun e => by have := (hr _ e.symm).1; omega)).trans h.box
  row := by
    cases hv : v.ownBlock with
    | none => exact h.row.kept hg (.inl hv)
    | some g => exact h.row.kept hg (.inr (fun e => by rw [hv] at e; exact (hr g e.symm).2 hv))

theorem apw_ownIn {α : Type} {w : World} (f : List α → List Int) : OwnIn (w.heap.size + 1) 2 (fun (pre : List α) W' => ∃ v, ApW w W' v (f pre)) := by
  rintro s A C row ⟨v, h⟩ hg hr
  refine ⟨v, h.turn hg (fun r e => ?_)⟩
  obtain ⟨h1, h2⟩ := hr r e
  refine ⟨h1, fun ev => ?_⟩
  have hb := (h.row.lt r ev).1
  rcases h2 with h2 | ⟨o, ho, hc⟩
  · omega
  · rcases h.row.2 with ⟨rfl, _⟩ | ⟨g, cp, cur, rfl, _, hg', _⟩
    · simp [Value.ownBlock] at ev
    · simp [Value.ownBlock] at ev
      subst ev
      rw [hg'] at ho
      injection ho with ho
      rw [← ho] at hc
      simp [Obj.isCells] at hc

theorem ApW.grow {w W W' : World} {v v' : Value} {xs ys : List Int} (h : ApW w W v xs) (hq : W'.ownsRow (w.heap.size + 3) 2 1 v' ys.length (ys.map (Value.int .i64))) (hg : W.grownBy W' v.ownBlock) :
    ApW w (W'.setCell ⟨w.heap.size, 0, none⟩ v') v' ys := by
  have hlt := h.row.lt
  have ne : ∀ j, j < w.heap.size + 3 → v.ownBlock ≠ some j := fun j hj e => by have := (hlt j e).1; omega
  have ne' : v'.ownBlock ≠ some w.heap.size := fun e => by have := (hq.lt _ e).1; omega
  have hgs := grownBy_set W' ⟨w.heap.size, 0, none⟩ v'
  have b4' : W'.heap[w.heap.size]? = some (.cells #[v] 22 (0, 0)) := (hg.block _ (lt_of_get h.box) (fun e => ne _ (by omega) e.symm)).trans h.box
  refine ⟨?_, ?_, ownsRow_set hq ne' _⟩
  · have hb := h.below.grown hg h.below.size (fun k e => by have := (hlt k e).1; omega)
    exact hb.grown hgs hb.size (fun k e => by cases e; exact Nat.le_refl _)
  · simp only [World.setCell, Array.getElem?_modify, b4']
    simp

theorem ApW.leaves {w W w' : World} {v : Value} {xs : List Int} (h : ApW w W v xs) (hw' : Shut [w.heap.size + 1] W w') : Res w w' v xs := by
  refine ⟨?_, h.below.trans (hw'.below (fun D hD => by simp at hD; omega))⟩
  have hr := h.row
  refine ⟨hr.1, ?_⟩
  rcases hr.2 with hn | ⟨g, cap, cur, hv, hb, hg, rest⟩
  · exact .inl hn
  · exact .inr ⟨g, cap, cur, hv, by omega, (hw'.block g (fun hm => by simp at hm; omega)).trans hg, rest⟩

theorem append_intK {F : Fence} {nF : Nat} {w : World} {ops : Array Oper} {rest : List Oper} {o : Oper} {a : Act} {Q : Exit → Act → World → Prop} (hgd : o.guard = none) {s y : Operand}
    (ho : o.op = .call { callee := .builtin .append, args := #[s, y], argTypes := #[22, 22] })
    {base : Nat} {v : Value} {L : List Int} {x : Int} (hown : w.ownsRow base 2 1 v L.length (L.map (Value.int .i64))) (hbase : base ≤ w.heap.size) (hl : L.length ≤ 1099511627776)
    (hs : a.eval s = v) (hy : a.eval y = .slice (some ⟨w.heap.size, 0, none⟩) 1 1)
    (hK : ∀ v' w', w'.ownsRow base 2 1 v' (L ++ [x]).length ((L ++ [x]).map (Value.int .i64)) → w.grownBy w' v.ownBlock → wpListIn F nF Try.prog ops Q rest (a.put o.dst v') w') :
    wpListIn F nF Try.prog ops Q (o :: rest) a (w.alloc (.cells #[.int .i64 x] 2)) := by
  obtain ⟨i0, hi, hz0, hz1, hz2⟩ := info_parts info_i64
  refine wpListIn_append_own_at _ hgd s y 22 ho base 2 i0 (.int .i64 0) 1 8 Try.underlying22 hi hz0 hz1 hz2 rfl (by decide) v _ _ hs (hown.alloc _) ⟨w.heap.size, 0, none⟩ 1 1 [.int .i64 x] hy rfl (cell_one_new _ _ _) (by simp [Value.oneCell']) (by unfold maxLen; omega) (by omega) (by simp; omega) ?_
  intro v' w1 hown1 hgrow1 _ _
  exact hK v' w1 (by simpa using hown1) ((World.grownBy_alloc w _ _).trans hgrow1)

set_option maxRecDepth 100000 in
set_option maxHeartbeats 4000000 in
/-- slices.AppendSeq(nil, seq): what the iterator hands over, in its order. -/
theorem appendSeq_in {α : Type} (n : Nat) (hn : 12 ≤ n) (gf : Nat) (lb : Array Value) (eg : ∀ args w, (callFunc gf args).run Try.prog w = .ok (.enter gf args) w) (f : α → Int) (Bs : List Nat) (L : List α) (w : World) (hBs : ∀ b ∈ Bs, b < w.heap.size) (hL : L.length ≤ 1048576)
    (hseq : SeqStopsP Fence.wide (n - 1) Try.prog gf lb (fun x => #[.int .i64 (f x)]) Bs 0 L w) :
    CallsIn Fence.wide n Try.prog 241 #[.slice none 0 0, .func (.func gf) #[] lb] w fun e w' => ∃ v, e = .returned v ∧ Res w w' v (L.map f) := by
  refine callsIn_of_wp_marks Try.func241 rfl trivial ?_ rfl
  simp only [Try.ntmps241, List.size_toArray, List.length_cons, List.length_nil, Nat.reduceAdd, Nat.reduceSub, Array.replicate_succ, Array.replicate_zero, List.push_toArray, List.append_toArray, List.nil_append, List.cons_append]
  gi_wp2_with fail
  obtain ⟨W0, hW0⟩ : ∃ W0, W0 = w.alloc (.cells #[.slice none 0 0] 22) := ⟨_, rfl⟩
  have hs0 : W0.heap.size = w.heap.size + 1 := by rw [hW0]; simp
  have hB0 : Below w.heap.size w W0 := by rw [hW0]; exact (Below.refl _ w).alloc (Nat.le_refl _) _
  have hap : ApW w W0 (.slice none 0 0) [] := ⟨hB0, by rw [hW0]; exact heap_alloc_new _ _, World.ownsRow_nil _ _ _ _⟩
  rw [← hW0]
  have Hap := hid hap
  clear hap hW0
  refine wpIn_rangeFunc_P rfl (by omega) (gf := gf) (lb := lb) rfl trivial eg hseq (fun b hb => by have := hBs b hb; omega) hB0 (fun _ => rfl)
    (fun pre W' => ∃ v, ApW w W' v (pre.map f)) (fun _ _ _ => False)
    (by rw [hs0]; exact apw_ownIn (fun pre => pre.map f)) (fun _ => ownIn_pure _ _ _) ⟨_, Hap.out⟩
    (fun x => { tmps := #[.slice none 0 0, .func (.func gf) #[] lb, .pointer (some ⟨w.heap.size, 0, none⟩), undef, .slice none 0 0, .int .i64 (f x), .func (.func gf) #[] lb, .int .i64 (f x), undef, undef, undef, undef, undef], defers := [] }) ?assign ?body ?done ?stop
  case assign =>
    intro l x W3 K hK
    gi_wp2
    exact hK
  case stop =>
    rintro c pre W3 hpre hF hD
    exact hF.elim
  case body =>
    rintro l pre x W3 hpre hsz3 ⟨v, hA⟩
    have hpl : (pre.map f).length ≤ 1048576 := by have := hpre.length_le; simp at this ⊢; omega
    obtain ⟨c0, f0⟩ := box_cell hA.box
    have HA := hid hA
    have hba : w.heap.size + 3 ≤ W3.heap.size := by omega
    clear hA
    gi_wp2_with (gi_at_builtin; refine append_intK rfl rfl HA.out.row hba (by omega) rfl rfl ?_; intro v' w6 hq6 hg6; obtain ⟨_, av6, cp6, rfl, _⟩ := ownsRow_slI hq6; have c66 := (box_cell ((hg6.block _ (lt_of_get HA.out.box) (fun e => by have := (HA.out.row.lt _ e.symm).1; omega)).trans HA.out.box)).1; have f66 := (box_cell ((hg6.block _ (lt_of_get HA.out.box) (fun e => by have := (HA.out.row.lt _ e.symm).1; omega)).trans HA.out.box)).2; have Hq6 := hid hq6; have Hg6 := hid hg6; clear hq6 hg6)
    refine ⟨⟨by have := Hg6.out.size; simp [World.setCell]; omega, fun r hr => ?_⟩, ?_⟩
    · have hne : v.ownBlock ≠ some r := fun e => by
        have := (HA.out.row.lt _ e).1
        rcases hr with h | h
        · have := hBs r h; omega
        · omega
      refine (Below.heap_setCell _ _ _ _ (fun e => ?_)).trans (Hg6.out.block r (by rcases hr with h | h; have := hBs r h; omega; omega) (fun e => hne e.symm))
      simp only at e
      rcases hr with h | h
      · have := hBs r h; omega
      · omega
    · exact ⟨_, HA.out.grow (ys := (pre ++ [x]).map f) (by simpa using Hq6.out) Hg6.out⟩
  case done =>
    rintro W4 ⟨v, hA⟩ hD4
    obtain ⟨c0, f0⟩ := box_cell hA.box
    have HA := hid hA
    rw [hs0] at hD4
    have HD := hid hD4
    clear hA hD4
    gi_wp2
    refine leaves_marks (by simp) [_] _ (by simp) (fun D hD => by simp only [List.mem_singleton] at hD; subst hD; first | exact HD.out | (rw [hs0]; exact HD.out)) (fun w' hw' => ?_)
    refine ⟨_, results_tmp rfl _ _ _, _, rfl, HA.out.leaves ?_⟩
    first | exact hw' | (rw [hs0] at hw'; exact hw')

set_option maxRecDepth 100000 in
set_option maxHeartbeats 1000000 in
theorem collect_in {α : Type} (n : Nat) (hn : 13 ≤ n) (gf : Nat) (lb : Array Value) (eg : ∀ args w, (callFunc gf args).run Try.prog w = .ok (.enter gf args) w) (f : α → Int) (Bs : List Nat) (L : List α) (w : World) (hBs : ∀ b ∈ Bs, b < w.heap.size) (hL : L.length ≤ 1048576)
    (hseq : SeqStopsP Fence.wide (n - 1 - 1) Try.prog gf lb (fun x => #[.int .i64 (f x)]) Bs 0 L w) :
    CallsIn Fence.wide n Try.prog 207 #[.func (.func gf) #[] lb] w fun e w' => ∃ v, e = .returned v ∧ Res w w' v (L.map f) := by
  have h1 : 1 ≤ n := by omega
  have HA := hid (appendSeq_in (n - 1) (by omega) gf lb eg f Bs L w hBs hL hseq)
  refine callsIn_of_wp Try.func207 rfl trivial ?_ rfl
  simp only [Try.ntmps207, List.size_toArray, List.length_cons, List.length_nil, Nat.reduceAdd, Nat.reduceSub, Array.replicate_succ, Array.replicate_zero, List.push_toArray, List.append_toArray, List.nil_append, List.cons_append]
  gi_wp2_with (refine ⟨trivial, ?_⟩; gi_at_call 241; refine HA.out.mono ?_; rintro e w1 ⟨v, rfl, hr⟩)
  go_ret
  exact ⟨v, rfl, hr⟩

set_option maxRecDepth 100000 in
set_option maxHeartbeats 1000000 in
theorem sortedP_in {α : Type} (n : Nat) (hn : 14 ≤ n) (gf : Nat) (lb : Array Value) (eg : ∀ args w, (callFunc gf args).run Try.prog w = .ok (.enter gf args) w) (f : α → Int) (Bs : List Nat) (L : List α) (w : World) (hBs : ∀ b ∈ Bs, b < w.heap.size) (hL : L.length ≤ 1048576)
    (hseq : SeqStopsP Fence.wide (n - 1 - 1 - 1) Try.prog gf lb (fun x => #[.int .i64 (f x)]) Bs 0 L w) :
    CallsIn Fence.wide n Try.prog 146 #[.func (.func gf) #[] lb] w fun e w' => ∃ v, e = .returned v ∧ Res w w' v ((L.map f).mergeSort fun x y => decide (x ≤ y)) := by
  have h1 : 1 ≤ n := by omega
  have HA := hid (collect_in (n - 1) (by omega) gf lb eg f Bs L w hBs hL hseq)
  obtain ⟨ss, hss⟩ : ∃ ss, ss = L.map f := ⟨_, rfl⟩
  have hsl : ss.length ≤ 1048576 := by rw [hss]; simpa using hL
  rw [← hss] at HA ⊢
  clear hss
  refine callsIn_of_wp Try.func146 rfl trivial ?_ rfl
  simp only [Try.ntmps146, List.size_toArray, List.length_cons, List.length_nil, Nat.reduceAdd, Nat.reduceSub, Array.replicate_succ, Array.replicate_zero, List.push_toArray, List.append_toArray, List.nil_append, List.cons_append]
  gi_wp2_with (refine ⟨trivial, ?_⟩; gi_at_call 207; refine HA.out.mono ?_; rintro e W ⟨v, rfl, hr⟩)
  obtain ⟨hrow, hb⟩ := hr
  rcases hrow.2 with ⟨rfl, hz⟩ | ⟨gb, cap, cur, rfl, hbase, hgb, r1, r2, r3, r4⟩
  · have hss : ss = [] := List.eq_nil_of_length_eq_zero hz
    subst hss
    gi_wp2_with (refine ⟨trivial, ?_⟩; gi_at_call 105; refine ((sortsL (n - 1)).2 none 0 W).mono ?_; rintro e w' ⟨rfl, rfl⟩)
    go_ret
    exact ⟨.slice none 0 0, rfl, by simpa using hrow, hb⟩
  · have hH : Holds (Value.int .i64) W gb 0 ss.toArray := holds_of_block_i hgb (by simpa using r4)
    have hgl : gb < W.heap.size := (Array.getElem?_eq_some_iff.1 hgb).1
    have hsz : ss.length < 4611686018427387904 := by omega
    have cS := (sortsL (n - 1)).1 gb 0 cap ss W hH hgl hsz
    gi_wp2_with (refine ⟨trivial, ?_⟩; gi_at_call 105; refine cS.mono ?_; rintro e w' ⟨rfl, nn, os, rfl⟩)
    go_ret
    refine ⟨_, rfl, ?_, hb.grown (grownBy_sorted_i _) hb.size (fun j hj => by cases hj; exact hbase)⟩
    have h1 := ownsRow_sorted_i (ts := ss.mergeSort fun x y => decide (x ≤ y)) (os := os) (n := nn) (by simp) hbase hgb r1 r2 r3
    rw [show (ss.mergeSort fun x y => decide (x ≤ y)).length = ss.length by simp]
    exact h1

end Go.Proofs.Ytgcpakhagbbiiaa

/-! slices.Values and partsOf as iterators that read cells; slices.Equal at integers. -/
namespace Go.Proofs.Ytgcpakhagbbiiaa
open Go.RowKit Go.Shelf

attribute [local go_sem] Oper.semAt_some

/-- The block that a list's numbers lie in. -/
def rowBs (a : Option Addr) (xs : List Int) : List Nat := if xs.length = 0 then [] else a.toList.map (·.block)

set_option maxRecDepth 100000 in
set_option maxHeartbeats 2000000 in
theorem values_P (n : Nat) (hn : 1 ≤ n) (B0 : Nat) (a : Option Addr) (cap : Nat) (xs : List Int) (w : World) (hB : w.heap[B0]? = some (.cells #[.slice a xs.length cap] 22 (0, 0))) (hx : SlI w w.heap.size a xs) (hl : xs.length ≤ 1048576) :
    SeqStopsP Fence.wide n Try.prog 208 #[.pointer (some ⟨B0, 0, none⟩)] (fun x : Int => #[Value.int .i64 x]) (B0 :: rowBs a xs) 0 xs w := by
  intro l J Jx W hW hJ _ hY h0
  have hB' := (hW.block B0 (lt_of_get hB)).trans hB
  have hx' := hx.later hW hW.size
  have Hx := hid hx'
  have HY := hid hY
  have HB := hid hB'
  clear hx hx' hY hB hW
  have c0 := (box_cell HB.out).1
  refine callsIn_of_wp Try.func208 rfl trivial ?_ rfl
  simp only [Try.ntmps208, List.size_toArray, List.length_cons, List.length_nil, Nat.reduceAdd, Nat.reduceSub, Array.replicate_succ, Array.replicate_zero, List.push_toArray, List.append_toArray, List.nil_append, List.cons_append]
  gi_wp2
  clear c0
  gi_loopw [7] (fun i wr => ∃ k : Nat, k ≤ xs.length ∧ i = .int .i64 k ∧ J (xs.take k) wr ∧ W.heap.size ≤ wr.heap.size ∧ Hid (∀ r, r ∈ (B0 :: rowBs a xs) → wr.heap[r]? = W.heap[r]?)) (fun i _ => xs.length - (intOf i).toNat)
  case atStart => exact ⟨0, Nat.zero_le _, rfl, by simpa using h0, Nat.le_refl _, hid (fun _ _ => rfl)⟩
  case round =>
    obtain ⟨k, hk, rfl, hJk, hsz, Hk⟩ := hrel
    by_cases hlt : k < xs.length
    · obtain ⟨b, off, hb, rfl, hc⟩ : ∃ b off, b < W.heap.size ∧ a = some ⟨b, off, none⟩ ∧ ∀ i, i < xs.length → W.cell? ⟨b, off + i, none⟩ = some (.int .i64 (xs[i]?.getD 0)) := by
        rcases Hx.out with h | h
        · rw [h] at hlt; simp at hlt
        · exact h
      obtain ⟨x, hxk⟩ : ∃ x, x = xs[k]?.getD 0 := ⟨_, rfl⟩
      have d0 : wr.cell? ⟨b, off + k, none⟩ = some (.int .i64 x) := by
        rw [World.cell?_of_block (Hk.out b (by unfold rowBs; rw [if_neg (by omega)]; simp))]
        rw [hxk]
        exact hc k hlt
      have htk : xs.take (k + 1) = xs.take k ++ [x] := by rw [take_snoc hlt, hxk]
      have hpre : xs.take k ++ [x] <+: xs := by rw [← htk]; exact List.take_prefix _ _
      obtain ⟨fn, tmps, assign, body, hy, hR⟩ := HY.out (xs.take k) x wr hpre (by omega) hJk
      have Htk := hid htk
      have Hpre := hid hpre
      have hi0 : (0 : Int) ≤ (k : Int) := by omega
      have hi1 : (k : Int) < (xs.length : Int) := by omega
      have Hsz := hid hsz
      clear hxk htk hpre hc hsz
      gi_wp2
      refine hR.mono ?_
      rintro e W3 ⟨hkp, ⟨rfl, hJ3⟩ | ⟨rfl, hJ3⟩⟩
      · have HJ3 := hid hJ3
        have Hkp := hid hkp
        clear hJ3 hkp
        gi_wp2
        go_roundw
        case rel => exact ⟨k + 1, by omega, by go_num, by rw [Htk.out]; exact HJ3.out, Nat.le_trans Hsz.out Hkp.out.size, hid (fun r hr => (Hkp.out.same r (.inl hr)).trans (Hk.out r hr))⟩
        case measure => simp [intOf]; omega
      · have HJ3 := hid hJ3
        clear hJ3 hkp
        gi_wp2
        refine bodyPost_ret (results_none rfl _ _ _) rfl ?_
        exact ⟨⟨_, rfl⟩, .inr ⟨_, Hpre.out, HJ3.out⟩⟩
    · have HJ := hid (show J xs wr by rw [show k = xs.length by omega, List.take_length] at hJk; exact hJk)
      gi_wp2
      go_end0
      exact ⟨⟨_, rfl⟩, .inl HJ.out⟩

set_option maxRecDepth 100000 in
set_option maxHeartbeats 1000000 in
theorem values_in (n : Nat) (a : Option Addr) (cap : Nat) (xs : List Int) (w : World) :
    CallsIn Fence.wide n Try.prog 147 #[.slice a xs.length cap] w fun e w' => e = .returned (.func (.func 208) #[] #[.pointer (some ⟨w.heap.size, 0, none⟩)]) ∧ w' = w.alloc (.cells #[.slice a xs.length cap] 22) := by
  refine callsIn_of_wp Try.func147 rfl trivial ?_ rfl
  simp only [Try.ntmps147, List.size_toArray, List.length_cons, List.length_nil, Nat.reduceAdd, Nat.reduceSub, Array.replicate_succ, Array.replicate_zero, List.push_toArray, List.append_toArray, List.nil_append, List.cons_append]
  gi_wp2
  go_ret
  exact ⟨rfl, rfl⟩

/-- slices.Sorted over slices.Values, from the world in which the iterator lies. -/
theorem sortedV_any (a : Option Addr) (cap : Nat) (xs : List Int) (w : World) (hx : SlI w w.heap.size a xs) (hl : xs.length ≤ 1048576) :
    Calls Try.prog 146 #[.func (.func 208) #[] #[.pointer (some ⟨w.heap.size, 0, none⟩)]] (w.alloc (.cells #[.slice a xs.length cap] 22)) fun e w' => ∃ v, e = .returned v ∧ Res (w.alloc (.cells #[.slice a xs.length cap] 22)) w' v (xs.mergeSort fun x y => decide (x ≤ y)) := by
  have hB : Below w.heap.size w (w.alloc (.cells #[.slice a xs.length cap] 22)) := (Below.refl _ w).alloc (Nat.le_refl _) _
  have h := sortedP_in (α := Int) 20 (by decide) 208 #[.pointer (some ⟨w.heap.size, 0, none⟩)] (enters_of Try.func208 (by kernel_rfl) rfl) (fun x => x) (w.heap.size :: rowBs a xs) xs (w.alloc (.cells #[.slice a xs.length cap] 22)) (fun b hb => by
    rcases List.mem_cons.1 hb with rfl | hb
    · simp
    · unfold rowBs at hb
      split at hb
      · simp at hb
      · rcases hx with h | ⟨b', off, hb', rfl, _⟩
        · subst h; simp at *
        · simp at hb; subst hb; simp; omega) hl (values_P 17 (by decide) w.heap.size a cap xs _ (heap_alloc_new _ _) (hx.later hB hB.size) hl)
  rw [List.map_id'] at h
  exact callsIn_wide.1 h

theorem ext_takeI {L M : List Int} (hl : L.length = M.length) (h : ∀ k, k < L.length → L[k]?.getD 0 = M[k]?.getD 0) : L = M := by
  apply List.ext_getElem hl
  intro i h1 h2
  have := h i h1
  rw [List.getElem?_eq_getElem h1, List.getElem?_eq_getElem h2] at this
  simpa using this

set_option maxRecDepth 100000 in
set_option maxHeartbeats 2000000 in
theorem eqIs_any (a : Option Addr) (c : Nat) (L : List Int) (b : Option Addr) (d : Nat) (M : List Int) (w : World) (ha : SlI w w.heap.size a L) (hb : SlI w w.heap.size b M) (hl : L.length ≤ 1048576) :
    Calls Try.prog 98 #[.slice a L.length c, .slice b M.length d] w fun e w' => e = .returned (.bool (decide (L = M))) ∧ Below w.heap.size w w' := by
  have Ha := hid ha
  have Hb := hid hb
  obtain ⟨R, hR⟩ : ∃ R, R = decide (L = M) := ⟨_, rfl⟩
  have HR := hid hR
  rw [← hR]
  clear ha hb hR
  by_cases hlm : L.length = M.length
  · have hd : ((L.length : Int) != (M.length : Int)) = false := by simp; omega
    have Hlm := hid hlm
    clear hlm
    go_enter Try.func98, Try.ntmps98
    go_wp2_with fail
    go_loopw [13] (fun i wr => ∃ k : Nat, k ≤ L.length ∧ i = .int .i64 k ∧ Hid (∀ j, j < k → L[j]?.getD 0 = M[j]?.getD 0) ∧ Hid (Below w.heap.size w wr)) (fun i _ => L.length - (intOf i).toNat)
    case atStart => exact ⟨0, Nat.zero_le _, rfl, hid (by intro j h; omega), hid (Below.refl _ _)⟩
    case round =>
      obtain ⟨k, hk, rfl, Hk, HB⟩ := hrel
      by_cases hlt : k < L.length
      · have hlt2 : k < M.length := by have := Hlm.out; omega
        obtain ⟨ba, oa, hba, rfl, hca⟩ : ∃ b off, b < wr.heap.size ∧ a = some ⟨b, off, none⟩ ∧ ∀ i, i < L.length → wr.cell? ⟨b, off + i, none⟩ = some (.int .i64 (L[i]?.getD 0)) := by
          rcases Ha.out.later HB.out HB.out.size with h | h
          · rw [h] at hlt; simp at hlt
          · exact h
        obtain ⟨bb, ob, hbb, rfl, hcb⟩ : ∃ b' off, b' < wr.heap.size ∧ b = some ⟨b', off, none⟩ ∧ ∀ i, i < M.length → wr.cell? ⟨b', off + i, none⟩ = some (.int .i64 (M[i]?.getD 0)) := by
          rcases Hb.out.later HB.out HB.out.size with h | h
          · rw [h] at hlt2; simp at hlt2
          · exact h
        have c1 := hca k hlt
        have c2 := hcb k hlt2
        obtain ⟨p, hp⟩ : ∃ p, p = L[k]?.getD 0 := ⟨_, rfl⟩
        obtain ⟨q, hq⟩ : ∃ q, q = M[k]?.getD 0 := ⟨_, rfl⟩
        rw [← hp] at c1
        rw [← hq] at c2
        have hi0 : (0 : Int) ≤ (k : Int) := by omega
        have hi1 : (k : Int) < (L.length : Int) := by omega
        have hi2 : (k : Int) < (M.length : Int) := by omega
        have Hp := hid hp
        have Hq := hid hq
        clear hp hq hca hcb
        by_cases he : p = q
        · have hd2 : (p != q) = false := by simp [he]
          have Hn : Hid (∀ j, j < k + 1 → L[j]?.getD 0 = M[j]?.getD 0) := hid (by
            intro j hj
            by_cases e : j < k
            · exact Hk.out j e
            · obtain rfl : j = k := by omega
              rw [← Hp.out, ← Hq.out, he])
          clear he
          go_wp2_with fail
          go_quiet (fail)
          go_wp2_with fail
          go_roundw
          case rel => exact ⟨k + 1, by omega, by go_num, Hn, hid ⟨HB.out.os, HB.out.tape, HB.out.output, HB.out.size, HB.out.block⟩⟩
          case measure => simp [intOf]; omega
        · have hd2 : (p != q) = true := by simpa using he
          have Hn : Hid (R = false) := hid (by
            rw [HR.out]
            exact decide_eq_false fun h => he (by rw [Hp.out, Hq.out, h]))
          clear he
          go_wp2_with fail
          go_quiet (fail)
          go_wp2_with fail
          go_ret
          exact ⟨ret_bool (by rw [Hn.out]), HB.out.os, HB.out.tape, HB.out.output, HB.out.size, HB.out.block⟩
      · have Hn : Hid (R = true) := hid (by
          rw [HR.out]
          exact decide_eq_true (ext_takeI Hlm.out (fun j hj => Hk.out j (by omega))))
        go_wp2_with fail
        go_ret
        exact ⟨ret_bool (by rw [Hn.out]), HB.out⟩
  · have hd : ((L.length : Int) != (M.length : Int)) = true := by simp; omega
    have Hn : Hid (R = false) := hid (by
      rw [HR.out]
      exact decide_eq_false (fun h => hlm (by rw [h])))
    clear hlm
    go_enter Try.func98, Try.ntmps98
    go_wp2_with fail
    go_ret
    exact ⟨ret_bool (by rw [Hn.out]), Below.refl _ _⟩

end Go.Proofs.Ytgcpakhagbbiiaa

/-! impl.CriticalValues. -/
namespace Go.Proofs.Ytgcpakhagbbiiaa
open Go.RowKit Go.Sort

/-- slices.Compact on a list of the call's own. -/
theorem compact_ownL (base : Nat) (v : Value) (xs : List Int) (w : World) (hown : w.ownsRow base 2 1 v xs.length (xs.map (Value.int .i64))) (hl : xs.length ≤ 1048576) :
    Calls Try.prog 145 #[v] w fun e w' => ∃ v', e = .returned v' ∧ w'.ownsRow base 2 1 v' (Lib.compact xs).length ((Lib.compact xs).map (Value.int .i64)) ∧ w.grownBy w' v.ownBlock := by
  rcases hown.2 with ⟨rfl, h0⟩ | ⟨g, cap, cur, rfl, hg, hh, h1, h2, h3, h4⟩
  · obtain rfl : xs = [] := List.eq_nil_of_length_eq_zero h0
    have h : Calls Try.prog 145 #[.slice none 0 0] w fun e w' => e = .returned (.slice none 0 0) ∧ w' = w := AnyG.slices_Compact_int_empty compactL none 0 w
    exact h.mono fun e w' ⟨hv, hw⟩ => ⟨_, hv, by rw [hw]; exact World.ownsRow_nil _ _ _ _, by rw [hw]; exact ⟨rfl, rfl, rfl, Nat.le_refl _, fun _ _ _ => rfl⟩⟩
  · have hH := holds_of_blockI hh (by simpa using h4)
    have hlen := Lib.compact_length_le xs
    have h : Calls Try.prog 145 #[.slice (some ⟨g, 0, none⟩) xs.length cap] w fun e w' => e = .returned (.slice (some ⟨g, 0, none⟩) (Lib.compact xs).length cap) ∧ ∃ q, w' = putRow (Value.int .i64) (Sort.ahead w q) g 0 (Lib.compact xs ++ List.replicate (xs.length - (Lib.compact xs).length) 0).toArray := AnyG.slices_Compact_int compactL g 0 cap xs w hH (by omega) h1
    refine h.mono fun e w' ⟨hv, m, hw⟩ => ?_
    obtain ⟨ts, hts⟩ : ∃ ts, ts = Lib.compact xs ++ List.replicate (xs.length - (Lib.compact xs).length) 0 := ⟨_, rfl⟩
    rw [← hts] at hw
    have htl : ts.length = xs.length := by rw [hts]; simp; omega
    have hw' : w' = Go.Sort.grow (putRow (Value.int .i64) (Sort.ahead w m) g 0 ts.toArray) #[] := by rw [hw]; simp [Go.Sort.grow]; rfl
    refine ⟨_, hv, ?_, ?_⟩
    · rw [hw']
      refine ⟨by simp, .inr ⟨g, cap, _, rfl, hg, heap_sortedI _ hh, by omega, h2, by simp [putCells, h3], ?_⟩⟩
      have ht := take_putCellsI cur ts (by omega)
      have hm : (Lib.compact xs).length ≤ ts.length := by omega
      rw [Nat.mul_one, show (Lib.compact xs).length = min (Lib.compact xs).length ts.length by omega, ← List.take_take, ht, hts, ← List.map_take]
      simp
    · rw [hw']
      exact grownBy_sortedI (w := w) (g := g) (n := m) (os := #[]) ts.toArray

set_option maxRecDepth 100000 in
set_option maxHeartbeats 4000000 in
theorem different_any (a : Option Addr) (cap : Nat) (xs : List Int) (w : World) (hx : SlI w w.heap.size a xs) (hl : xs.length ≤ 1048576) :
    Calls Try.prog 80 #[.slice a xs.length cap] w fun e w' => ∃ v, e = .returned v ∧ Res w w' v (diffL xs) := by
  obtain ⟨W, hW⟩ : ∃ W, W = w.alloc (.cells #[.slice a xs.length cap] 22) := ⟨_, rfl⟩
  have hB0 : Below w.heap.size w W := by rw [hW]; exact (Below.refl _ w).alloc (Nat.le_refl _) _
  have HV := hid (callsIn_wide.1 (values_in 5 a cap xs w))
  have HS := hid (sortedV_any a cap xs w hx hl)
  rw [← hW] at HV HS
  have hsl : (xs.mergeSort fun x y => decide (x ≤ y)).length ≤ 1048576 := by rw [List.length_mergeSort]; exact hl
  have hd : diffL xs = Lib.compact (xs.mergeSort fun x y => decide (x ≤ y)) := rfl
  obtain ⟨ss, hss⟩ : ∃ ss, ss = (xs.mergeSort fun x y => decide (x ≤ y)) := ⟨_, rfl⟩
  rw [← hss] at HS hsl hd
  have Hd := hid hd
  have HB0 := hid hB0
  clear hx hB0 hss hd hW
  go_enter Try.func80, Try.ntmps80
  go_wp2_with fail
  refine HV.out.mono ?_
  rintro e w1 ⟨rfl, rfl⟩
  go_wp2_with fail
  refine HS.out.mono ?_
  rintro e w2 ⟨v2, rfl, hr2⟩
  have Hr2 := hid hr2
  clear hr2
  go_wp2_with fail
  refine (compact_ownL _ v2 ss w2 Hr2.out.1 hsl).mono ?_
  rintro e w3 ⟨v3, rfl, hown3, hg3⟩
  have Ho3 := hid hown3
  have hb2 := HB0.out.trans (Hr2.out.2.mono HB0.out.size)
  have hoff := Hr2.out.1.lt
  have HB3 := hid (hb2.grown hg3 hb2.size (fun q e => by have := (hoff q e).1; have := HB0.out.size; omega))
  clear hown3 hg3 hb2 hoff
  go_wp2_with fail
  go_ret
  rw [Hd.out]
  exact ⟨_, rfl, ownsRow_base Ho3.out HB0.out.size, HB3.out⟩

set_option maxRecDepth 1000000 in
set_option maxHeartbeats 4000000 in
theorem implCriticalValues (V : Int) (a0 : Option Addr) (cap : Nat) (fs : List Int) (a1 : Option Addr) (cap1 : Nat) (gs : List Int) (w : World) (hx : SlI w w.heap.size a0 fs) (hx1 : SlI w w.heap.size a1 gs) (hl : fs.length ≤ 1048576) (hg : gs.length ≤ 1048576) :
    Calls Try.prog 37 #[.agg #[.int .i64 V, .slice a0 fs.length cap], .slice a1 gs.length cap1] w fun e w' => ∃ v, e = .returned (.tuple #[v, .int .i64 (cvR V fs gs).2]) ∧ Res w w' v (cvR V fs gs).1 := by
  obtain ⟨W0, hW0⟩ : ∃ W0, W0 = w.alloc (.cells #[.int .i64 V, .slice a0 fs.length cap] 30) := ⟨_, rfl⟩
  have hB0 : Below w.heap.size w W0 := by rw [hW0]; exact (Below.refl _ w).alloc (Nat.le_refl _) _
  have hs0 : W0.heap.size = w.heap.size + 1 := by rw [hW0]; simp
  have hkb : W0.heap[w.heap.size]? = some (.cells #[.int .i64 V, .slice a0 fs.length cap] 30 (0, 0)) := by rw [hW0]; exact heap_alloc_new _ _
  have HK := hid (implPairingOfFunction V a0 cap fs a1 cap1 gs W0 (hx.later hB0 hB0.size) (hx1.later hB0 hB0.size) hl hg)
  have Hx := hid hx
  have Hy := hid hx1
  have HB0 := hid hB0
  have Hkb := hid hkb
  clear hx hx1 hB0 hkb
  by_cases h0 : mcode4R V fs [gs] = 0
  · obtain ⟨hC, hfn⟩ := mcode4_zero h0
    have hgl := isFn_len hfn
    rw [show pairFnR V fs gs = (fnP fs gs fs.length, 0) by rw [pairFnR, if_pos h0]] at HK
    refine res_mono (show cvR V fs gs = (cvL fs gs, 0) by rw [cvR, if_pos h0]) ?_
    have hLl := fnP_len hC hgl
    have h63 := hC.len63
    have hok := fnP_ok hC hgl (mcode4_morse h0)
    have hpw : ∀ x ∈ flatP (fnP fs gs fs.length), (Lit.int .i64 x).wf = true := by
      intro x hx
      unfold flatP at hx
      obtain ⟨p, hp, hxp⟩ := List.mem_flatMap.1 hx
      obtain ⟨p1, p2, _⟩ := mem_fnP.1 hp
      have r1 := hC.range63 _ p1
      have r2 := hC.range63 _ (mem_above.1 p2).1
      simp at hxp
      rcases hxp with rfl | rfl
      · exact WalkArith.wf_i64 (by omega)
      · exact WalkArith.wf_i64 (by omega)
    have Hcv : Hid (∀ L, L = fnP fs gs fs.length → cvL fs gs = diffL ((critL fs (flatP L)).map (numAt fs gs))) := hid (fun L h => by rw [h]; rfl)
    obtain ⟨L, hL⟩ : ∃ L, L = fnP fs gs fs.length := ⟨_, rfl⟩
    have Hcv := hid (Hcv.out L hL)
    rw [← hL] at HK hLl hok hpw
    have hcr : criticalFacesR V fs L.length (flatP L) = (critL fs (flatP L), 0) := by
      rcases pcode_cases V fs L.length (flatP L) with ⟨_, _, h, _, _⟩ | ⟨_, h, _⟩ | ⟨h, _⟩
      · unfold criticalFacesR; rw [h, if_pos rfl]
      · exact absurd hok h
      · exact absurd hC h
    have HCr := hid (fun (a2 : Option Addr) (c2 : Nat) (W : World) (h : Below w.heap.size w W) (hs : SlI W W.heap.size a2 (flatP L)) => implCriticalFaces V a0 cap fs a2 L.length c2 (flatP L) W (Hx.out.later h h.size) hs hl (by rw [flatP_len]) hLl hpw)
    rw [hcr] at HCr
    have HNu := hid (fun (W : World) (h : Below w.heap.size w W) => numbers_any V a0 cap fs a1 cap1 gs W (Hx.out.later h h.size) (Hy.out.later h h.size) hl hgl (isC_distinct hC) (fun x hx => WalkArith.wf_i64 (by have := hC.range63 x hx; omega)) (fn_wf hfn))
    have hCl := critL_len fs (flatP L)
    have hCw : ∀ x ∈ critL fs (flatP L), (Lit.int .i64 x).wf = true := fun x hx => WalkArith.wf_i64 (by have := hC.range63 x (List.mem_filter.1 hx).1; omega)
    obtain ⟨C, hCe⟩ : ∃ C, C = critL fs (flatP L) := ⟨_, rfl⟩
    rw [← hCe] at Hcv hCl HCr hCw
    have HCw := hid hCw
    have Hgl := hid hgl
    clear h0 hC hfn hL hgl hCe hok hpw hcr hCw
    rw [hW0] at HK
    go_enter Try.func37, Try.ntmps37
    go_wp2_with fail
    refine HK.out.mono ?_
    rintro e w1 ⟨v1, rfl, hr1⟩
    rw [← hW0] at hr1
    have hB1 := hr1.2
    obtain ⟨_, av, cv, rfl, hs1⟩ := pairs_slI hr1.1
    have Kb1 := hid ((hB1.block w.heap.size (by omega)).trans Hkb.out)
    have HB1 := hid (HB0.out.trans (hB1.mono HB0.out.size))
    have HCq := hid (HCr.out av cv w1 HB1.out hs1)
    obtain ⟨k0, k1, _, _⟩ := two_of Kb1.out
    clear hB1 hr1 hs1
    go_wp2_with fail
    refine HCq.out.mono ?_
    rintro e w2 ⟨v2, rfl, hr2⟩
    obtain ⟨_, a3, c3, rfl, hs3⟩ := ownsRow_slI hr2.1
    have HB2 := hid (HB1.out.trans (hr2.2.mono HB1.out.size))
    have hkb2 := (hr2.2.block w.heap.size (lt_of_get Kb1.out)).trans Kb1.out
    have Hs3 := hid hs3
    obtain ⟨j0, j1, _, _⟩ := two_of hkb2
    have HNq := hid (HNu.out w2 HB2.out)
    clear hr2 hs3 k0 k1 hkb2
    go_wp2_with fail
    refine HNq.out.mono ?_
    rintro e w3 ⟨rfl, hM, hB3⟩
    have HM := hid hM
    have HB3 := hid (HB2.out.trans (hB3.mono HB2.out.size))
    have Hs4 := hid (Hs3.out.later hB3 hB3.size)
    clear hM hB3 j0 j1
    go_wp2_with fail
    go_loopw [10, 33] (fun oo ii wr => ∃ (k : Nat) (v : Value), k ≤ C.length ∧ oo = v ∧ ii = .int .i64 k ∧ Hid (wr.ownsRow w3.heap.size 2 1 v ((C.take k).map (numAt fs gs)).length (((C.take k).map (numAt fs gs)).map (Value.int .i64))) ∧ Hid (Below w3.heap.size w3 wr)) (fun _ ii _ => C.length - (RowKit.intOf ii).toNat)
    case atStart => exact ⟨0, _, Nat.zero_le _, rfl, rfl, hid (World.ownsRow_nil _ _ _ _), hid (Below.refl _ _)⟩
    case round =>
      obtain ⟨k, v, hk, rfl, rfl, HO, HB⟩ := hrel
      have hsz := HB.out.size
      by_cases hlt : k < C.length
      · obtain ⟨x, hxe⟩ : ∃ x, x = C[k]?.getD 0 := ⟨_, rfl⟩
        obtain ⟨b3, off3, hb3, rfl, hc3⟩ : ∃ b off, b < w3.heap.size ∧ a3 = some ⟨b, off, none⟩ ∧ ∀ i, i < C.length → w3.cell? ⟨b, off + i, none⟩ = some (.int .i64 (C[i]?.getD 0)) := by
          rcases Hs4.out with h | h
          · rw [h] at hlt; simp at hlt
          · exact h
        have e0 : wr.cell? ⟨b3, off3 + k, none⟩ = some (.int .i64 x) := by rw [HB.out.cell (p := ⟨b3, off3 + k, none⟩) hb3, hc3 k hlt, hxe]
        have hlk := (HM.out.same (HB.out.block _ HM.out.lt)).look (p := x) (HCw.out x (by rw [hxe]; exact getD_mem hlt))
        rw [List.take_of_length_le (by have := Hgl.out; omega)] at hlk
        have hsn : (C.take (k + 1)).map (numAt fs gs) = (C.take k).map (numAt fs gs) ++ [numAt fs gs x] := by rw [take_snoc hlt, ← hxe]; simp
        obtain ⟨z, hz⟩ : ∃ z, z = numAt fs gs x := ⟨_, rfl⟩
        obtain ⟨xs, hxs⟩ : ∃ xs, xs = (C.take k).map (numAt fs gs) := ⟨_, rfl⟩
        have hxl : xs.length ≤ 63 := by rw [hxs]; simp; omega
        rw [← hz] at hlk hsn
        rw [← hxs] at hsn HO
        have Hsn := hid hsn
        have hi0 : (0 : Int) ≤ (k : Int) := by omega
        have hi1 : (k : Int) < (C.length : Int) := by omega
        clear hc3 hxe hsn hz hxs
        go_wp2_with (at_builtin; refine append_int rfl rfl HO.out hsz (by omega) rfl rfl ?_; intro v' w4 hown4 hgrow4 hB4)
        have Hown4 := hid hown4
        have HB4 := hid (HB.out.trans (hB4.mono (Nat.le_refl _)))
        clear hown4 hgrow4 hB4
        go_wp2_with fail
        go_roundw
        case rel => exact ⟨k + 1, v', by omega, rfl, by go_num, hid (by rw [Hsn.out]; exact Hown4.out), HB4⟩
        case measure => simp [RowKit.intOf]; omega
      · obtain rfl : k = C.length := by omega
        rw [List.take_length] at HO
        obtain ⟨_, bv, dv, rfl, hs⟩ := ownsRow_slI HO.out
        have hil : (C.map (numAt fs gs)).length ≤ 1048576 := by simp; omega
        have HD := hid (different_any bv dv (C.map (numAt fs gs)) wr hs hil)
        rw [← Hcv.out] at HD
        simp only [List.length_map] at HD
        have HBw := hid (HB3.out.trans (HB.out.mono HB3.out.size))
        clear hs
        go_wp2_with fail
        refine HD.out.mono ?_
        rintro e w5 ⟨v5, rfl, hr5⟩
        have Hr5 := hid hr5
        clear hr5
        go_wp2_with fail
        go_ret2
        exact ⟨_, rfl, ownsRow_base Hr5.out.1 HBw.out.size, HBw.out.trans (Hr5.out.2.mono HBw.out.size)⟩
  · obtain ⟨c, hc⟩ : ∃ c, c = mcode4R V fs [gs] := ⟨_, rfl⟩
    rw [show pairFnR V fs gs = ([], c) by rw [pairFnR, if_neg h0, hc]] at HK
    refine res_mono (show cvR V fs gs = ([], c) by rw [cvR, if_neg h0, hc]) ?_
    rw [← hc] at h0
    have hcn : (c != 0) = true := by simpa using h0
    clear hc h0
    rw [hW0] at HK
    go_enter Try.func37, Try.ntmps37
    go_wp2_with fail
    refine HK.out.mono ?_
    rintro e w1 ⟨v1, rfl, hr1⟩
    rw [← hW0] at hr1
    go_wp2_with fail
    go_ret2
    exact ⟨_, rfl, res_nil _ _ (HB0.out.trans (hr1.2.mono HB0.out.size))⟩

end Go.Proofs.Ytgcpakhagbbiiaa

/-! The law on CriticalValues, walked. -/
namespace Go.Proofs.Ytgcpakhagbbiiaa
open Go.RowKit

set_option maxRecDepth 100000 in
set_option maxHeartbeats 8000000 in
theorem law_CriticalValues (V0 : Int) (a0 : Option Addr) (cap0 : Nat) (xs0 : List Int) (a1 : Option Addr) (cap1 : Nat) (gs1 : List Int) (w : World) (hx0 : SlI w w.heap.size a0 xs0) (hx1 : SlI w w.heap.size a1 gs1)  (hn0 : xs0.length ≤ 9223372036854775807)  :
    Calls Try.prog 7 #[.agg #[.int .i64 V0, .slice a0 xs0.length cap0], .slice a1 gs1.length cap1] w fun e w' => e = .returned (.bool true) ∧ Below w.heap.size w w' := by
  have F0 : Book w w [(a0, xs0), (a1, gs1)] [] [] := ⟨Below.refl _ _, by simp; exact ⟨hx0, hx1⟩, by simp, by simp⟩
  have F0 := F0.alloc (.cells #[.int .i64 V0, .slice a0 xs0.length cap0] 24)
  (try simp only [World.size_alloc] at F0)
  have B0 := hid F0
  clear F0 hx0 hx1
  obtain ⟨r0, hr0⟩ : ∃ r, r = szR 1048576 xs0.length := ⟨_, rfl⟩
  have Hr0 := hid hr0
  by_cases hbL1 : 1048576 < gs1.length
  · clear hr0
    have hbi1 : (gs1.length : Int) > 1048576 := by omega
    go_enter Try.func7, Try.ntmps7
    go_wp2_with fail
    go_ret
    exact ⟨rfl, B0.out.from0⟩
  have hl1 : gs1.length ≤ 1048576 := by omega
  have hbi1 : ¬ (gs1.length : Int) > 1048576 := by omega
  by_cases hb0 : 1048576 < xs0.length
  · have hm0 : r0 = -1 := by rw [hr0]; exact szR_big (by omega)
    clear hb0
    clear hr0
    go_enter Try.func7, Try.ntmps7
    go_wp2_with fail
    refine (szCx V0 a0 xs0.length cap0 1048576 _ (by omega) (by omega) hn0).mono ?_
    rintro e s0 ⟨rfl, hB⟩
    have zs0 := hB.size
    (try simp only [World.size_alloc] at zs0)
    have B0 := hid (B0.out.below hB)
    clear hB
    rw [← Hr0.out]
    go_wp2_with fail
    go_ret
    exact ⟨rfl, B0.out.from0⟩
  · have hv0 : r0 = 1048576 - xs0.length := by rw [hr0, szR_fit (by omega)]
    have hg0 : 0 ≤ r0 := by omega
    have hu0 : r0 ≤ 1048576 := by omega
    have hl0 : xs0.length ≤ 1048576 := by omega
    clear hr0 hb0
    have Hv0 := hid hv0
    clear hv0
    obtain ⟨R, hR⟩ : ∃ R, R = cvR V0 xs0 gs1 := ⟨_, rfl⟩
    have hRl : R.1.length ≤ 1048576 := by rw [hR]; exact cvR_len V0 xs0 gs1 hl0 hl1
    obtain ⟨ys, c⟩ := R
    simp only at hRl
    have HS : Hid (∀ a0 cap0 a1 cap1 w', SlI w' w'.heap.size a0 xs0 → SlI w' w'.heap.size a1 gs1 → Calls Try.prog 36 #[.agg #[.int .i64 V0, .slice a0 xs0.length cap0], .slice a1 gs1.length cap1] w' fun e w'' => ∃ v, e = .returned (.tuple #[v, .int .i64 c]) ∧ Res w' w'' v ys) :=
      hid (fun a0 cap0 a1 cap1 w' hs0 hs1 => by have := specCriticalValues V0 a0 cap0 xs0 a1 cap1 gs1 w' hs0 hs1 hl0 hl1; rwa [← hR] at this)
    have HI : Hid (∀ a0 cap0 a1 cap1 w', SlI w' w'.heap.size a0 xs0 → SlI w' w'.heap.size a1 gs1 → Calls Try.prog 37 #[.agg #[.int .i64 V0, .slice a0 xs0.length cap0], .slice a1 gs1.length cap1] w' fun e w'' => ∃ v, e = .returned (.tuple #[v, .int .i64 c]) ∧ Res w' w'' v ys) :=
      hid (fun a0 cap0 a1 cap1 w' hs0 hs1 => by have := implCriticalValues V0 a0 cap0 xs0 a1 cap1 gs1 w' hs0 hs1 hl0 hl1; rwa [← hR] at this)
    have hcc : (c != c) = false := by simp
    clear hR
    go_enter Try.func7, Try.ntmps7
    go_wp2_with fail
    refine (szCx V0 a0 xs0.length cap0 1048576 _ (by omega) (by omega) hn0).mono ?_
    rintro e s0 ⟨rfl, hB⟩
    have zs0 := hB.size
    (try simp only [World.size_alloc] at zs0)
    have B0 := hid (B0.out.below hB)
    clear hB
    rw [← Hr0.out]
    obtain ⟨q0, q1⟩ := B0.out.two (.head _)
    go_wp2_with fail
    clear q0 q1
    refine (toCx V0 a0 cap0 xs0 _ (B0.out.arg (.head _)) hl0).mono ?_
    rintro e u0 ⟨gu0, rfl, hown, hB⟩
    have zu0 := hB.size
    (try simp only [World.size_alloc] at zu0)
    have B0 := hid (B0.out.row hown hB)
    clear hown hB
    (try simp only [World.size_alloc] at B0)
    go_wp2_with fail
    refine (toInts a1 cap1 gs1 _ (B0.out.arg (.tail _ (.head _))) hl1).mono ?_
    rintro e u1 ⟨rfl, hown, hB⟩
    have zu1 := hB.size
    (try simp only [World.size_alloc] at zu1)
    have B0 := hid (B0.out.row hown hB)
    clear hown hB
    (try simp only [World.size_alloc] at B0)
    go_wp2_with fail
    refine (HS.out _ _ _ _ _ (B0.out.slI (.tail _ (.head _))) (B0.out.slI (.head _))).mono ?_
    rintro e u9 ⟨vw, rfl, hres⟩
    have zu9 := hres.2.size
    (try simp only [World.size_alloc] at zu9)
    obtain ⟨_, aw, cw, rfl, _⟩ := ownsRow_slI hres.1
    have B0 := hid (B0.out.row hres.1 hres.2)
    clear hres
    (try simp only [World.size_alloc] at B0)
    obtain ⟨q0, q1⟩ := B0.out.two (.head _)
    go_wp2_with fail
    clear q0 q1
    refine (toCx V0 a0 cap0 xs0 _ (B0.out.arg (.head _)) hl0).mono ?_
    rintro e x0 ⟨gx0, rfl, hown, hB⟩
    have zx0 := hB.size
    (try simp only [World.size_alloc] at zx0)
    have B0 := hid (B0.out.row hown hB)
    clear hown hB
    (try simp only [World.size_alloc] at B0)
    have B0 := hid (B0.out.alloc (.cells #[.int .i64 V0, .slice (some ⟨gx0, 0, none⟩) xs0.length xs0.length] 30))
    go_wp2_with fail
    refine (toInts a1 cap1 gs1 _ (B0.out.arg (.tail _ (.head _))) hl1).mono ?_
    rintro e x1 ⟨rfl, hown, hB⟩
    have zx1 := hB.size
    (try simp only [World.size_alloc] at zx1)
    have B0 := hid (B0.out.row hown hB)
    clear hown hB
    (try simp only [World.size_alloc] at B0)
    obtain ⟨p00, p01⟩ := B0.out.two (.head _)
    go_wp2_with fail
    clear p00 p01
    refine (HI.out _ _ _ _ _ (B0.out.slI (.tail _ (.head _))) (B0.out.slI (.head _))).mono ?_
    rintro e v9 ⟨vg, rfl, hres⟩
    have zv9 := hres.2.size
    (try simp only [World.size_alloc] at zv9)
    obtain ⟨_, ag, cg, rfl, _⟩ := ownsRow_slI hres.1
    have B0 := hid (B0.out.row hres.1 hres.2)
    clear hres
    (try simp only [World.size_alloc] at B0)
    go_wp2_with fail
    refine (eqInts_yes _ _ _ _ ys ys _ (B0.out.slI (.head _)) (B0.out.slI (.tail _ (.tail _ (.tail _ (.head _))))) hRl hRl rfl).mono ?_
    rintro e e1 ⟨rfl, hB⟩
    have ze1 := hB.size
    (try simp only [World.size_alloc] at ze1)
    have B0 := hid (B0.out.below hB)
    clear hB
    obtain ⟨lxb00, lxb01⟩ := B0.out.two (.head _)
    obtain ⟨lk00, lk01⟩ := B0.out.two (.tail _ (.head _))
    go_wp2_with fail
    go_region_with (first
      | (go_at_call 18; refine (toCx V0 a0 cap0 xs0 _ (B0.out.drew.arg (.head _)) hl0).mono ?_; rintro e f0 ⟨gf0, rfl, hown, hB⟩; have zf0 := hB.size; have C0 := hid (B0.out.drew.row hown hB); clear hown hB; obtain ⟨m00, m01⟩ := C0.out.two (.head _))
      | (go_at_call 22; refine (eqCx_yes V0 _ _ _ _ xs0 xs0 _ (C0.out.slI (.tail _ (.tail _ (.tail _ (.head _))))) (C0.out.slI (.head _)) hl0 hl0 rfl).mono ?_; rintro e h0 ⟨rfl, hB⟩))
    all_goals
      have zh0 := hB.size
      have D0 := hid (C0.out.below hB)
      clear hB C0 B0 m00 m01
      clear lxb00 lxb01
      clear lk00 lk01
      have B0 := D0
      clear D0
      skip
      go_wp2_with fail
      refine (toInts a1 cap1 gs1 _ (B0.out.arg (.tail _ (.head _))) hl1).mono ?_
      rintro e f1 ⟨rfl, hown, hB⟩
      have zf1 := hB.size
      (try simp only [World.size_alloc] at zf1)
      have B0 := hid (B0.out.row hown hB)
      clear hown hB
      (try simp only [World.size_alloc] at B0)
      go_wp2_with fail
      refine (eqInts_yes _ _ _ _ gs1 gs1 _ (B0.out.slI (.tail _ (.tail _ (.tail _ (.head _))))) (B0.out.slI (.head _)) hl1 hl1 rfl).mono ?_
      rintro e h1 ⟨rfl, hB⟩
      have zh1 := hB.size
      (try simp only [World.size_alloc] at zh1)
      have B0 := hid (B0.out.below hB)
      clear hB
      (try simp only [World.size_alloc] at B0)
      have B0 := hid (B0.out.only (bs' := _) (L' := [⟨u9.heap.size, x0.heap.size, 2, 1, xs0.length, .slice (some ⟨gx0, 0, none⟩) xs0.length xs0.length, xs0⟩, ⟨x0.heap.size + 1, x1.heap.size, 2, 1, gs1.length, .slice (some ⟨x0.heap.size + 1, 0, none⟩) gs1.length gs1.length, gs1⟩, ⟨x1.heap.size, v9.heap.size, 2, 1, ys.length, .slice ag ys.length cg, ys⟩, ⟨u1.heap.size, u9.heap.size, 2, 1, ys.length, .slice aw ys.length cw, ys⟩]) (fun _ h => h) (by simp))
      obtain ⟨lxb00, lxb01⟩ := B0.out.two (.head _)
      go_wp2_with fail
      clear lxb00 lxb01
      refine (markCx V0 _ _ _ xs0 (1) _ (B0.out.own (.head _)) hl0 (by omega) (by omega)).mono ?_
      rintro e m0 ⟨rfl, hown, hg⟩
      have zm0 := hg.size
      (try simp only [World.size_alloc] at zm0)
      have B0 := hid (B0.out.mark (ys := count (1) xs0.length) (L' := [⟨x0.heap.size + 1, x1.heap.size, 2, 1, gs1.length, .slice (some ⟨x0.heap.size + 1, 0, none⟩) gs1.length gs1.length, gs1⟩, ⟨x1.heap.size, v9.heap.size, 2, 1, ys.length, .slice ag ys.length cg, ys⟩, ⟨u1.heap.size, u9.heap.size, 2, 1, ys.length, .slice aw ys.length cw, ys⟩]) (.head _) hown hg (by simp only; omega) (by simp; omega) (by simp <;> omega))
      clear hown hg
      go_wp2_with fail
      refine (markInts _ _ _ gs1 (1 + xs0.length) _ (B0.out.own (.head _)) hl1 (by omega) (by omega)).mono ?_
      rintro e m1 ⟨rfl, hown, hg⟩
      have zm1 := hg.size
      (try simp only [World.size_alloc] at zm1)
      have B0 := hid (B0.out.mark (ys := count (1 + xs0.length) gs1.length) (L' := [⟨x1.heap.size, v9.heap.size, 2, 1, ys.length, .slice ag ys.length cg, ys⟩, ⟨u1.heap.size, u9.heap.size, 2, 1, ys.length, .slice aw ys.length cw, ys⟩]) (.head _) hown hg (by simp only; omega) (by simp; omega) (by simp <;> omega))
      clear hown hg
      go_wp2_with fail
      refine (eqInts_yes _ _ _ _ ys ys _ (B0.out.slI (.head _)) (B0.out.slI (.tail _ (.head _))) hRl hRl rfl).mono ?_
      rintro e e2 ⟨rfl, hB⟩
      have ze2 := hB.size
      (try simp only [World.size_alloc] at ze2)
      have B0 := hid (B0.out.below hB)
      clear hB
      go_wp2_with fail
      refine (markInts _ _ _ ys 1 _ (B0.out.own (.head _)) hRl (by omega) (by omega)).mono ?_
      rintro e m8 ⟨rfl, hown, hg⟩
      have zm8 := hg.size
      (try simp only [World.size_alloc] at zm8)
      have B0 := hid (B0.out.mark (ys := count 1 ys.length) (L' := [⟨x1.heap.size, v9.heap.size, 2, 1, ys.length, .slice ag ys.length cg, count 1 ys.length⟩, ⟨u1.heap.size, u9.heap.size, 2, 1, ys.length, .slice aw ys.length cw, ys⟩]) (.head _) hown hg (by simp only; omega) (by simp; omega) (by simp <;> omega))
      clear hown hg
      go_wp2_with fail
      refine (heldInts _ _ ys.length _ 1 _ rfl (B0.out.slI (.head _)) hRl (by omega) (by omega)).mono ?_
      rintro e t1 ⟨rfl, hB⟩
      have zt1 := hB.size
      (try simp only [World.size_alloc] at zt1)
      have B0 := hid (B0.out.below hB)
      clear hB
      have hnn : ((1 : Int) + ys.length != 1 + ys.length) = false := by simp
      obtain ⟨q0, q1⟩ := B0.out.two (.tail _ (.head _))
      go_wp2_with fail
      clear q0 q1
      refine (toCx V0 a0 cap0 xs0 _ (B0.out.arg (.head _)) hl0).mono ?_
      rintro e y0 ⟨gy0, rfl, hown, hB⟩
      have zy0 := hB.size
      (try simp only [World.size_alloc] at zy0)
      have B0 := hid (B0.out.row hown hB)
      clear hown hB
      (try simp only [World.size_alloc] at B0)
      go_wp2_with fail
      refine (toInts a1 cap1 gs1 _ (B0.out.arg (.tail _ (.head _))) hl1).mono ?_
      rintro e y1 ⟨rfl, hown, hB⟩
      have zy1 := hB.size
      (try simp only [World.size_alloc] at zy1)
      have B0 := hid (B0.out.row hown hB)
      clear hown hB
      (try simp only [World.size_alloc] at B0)
      go_wp2_with fail
      refine (HI.out _ _ _ _ _ (B0.out.slI (.tail _ (.head _))) (B0.out.slI (.head _))).mono ?_
      rintro e t2 ⟨vh, rfl, hres⟩
      have zt2 := hres.2.size
      (try simp only [World.size_alloc] at zt2)
      obtain ⟨_, ah, ch, rfl, _⟩ := ownsRow_slI hres.1
      have B0 := hid (B0.out.row hres.1 hres.2)
      clear hres
      (try simp only [World.size_alloc] at B0)
      go_wp2_with fail
      refine (eqInts_yes _ _ _ _ ys ys _ (B0.out.slI (.head _)) (B0.out.slI (.tail _ (.tail _ (.tail _ (.tail _ (.head _)))))) hRl hRl rfl).mono ?_
      rintro e t3 ⟨rfl, hB⟩
      have zt3 := hB.size
      (try simp only [World.size_alloc] at zt3)
      have B0 := hid (B0.out.below hB)
      clear hB
      go_wp2_with fail
      refine (heldInts _ _ ys.length _ 1 _ rfl (B0.out.slI (.tail _ (.tail _ (.tail _ (.head _))))) hRl (by omega) (by omega)).mono ?_
      rintro e t4 ⟨rfl, hB⟩
      have zt4 := hB.size
      (try simp only [World.size_alloc] at zt4)
      have B0 := hid (B0.out.below hB)
      clear hB
      go_wp2_with fail
      go_ret
      exact ⟨rfl, B0.out.from0⟩

end Go.Proofs.Ytgcpakhagbbiiaa
