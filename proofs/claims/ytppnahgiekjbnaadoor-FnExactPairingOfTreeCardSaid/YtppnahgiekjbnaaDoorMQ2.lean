import Derived.Deep.RegionHeld3
import Derived.Deep.AppendLies
import Derived.Deep.RegionLaw
import Derived.Laws.ResultCell
import Derived.Laws.CopyRow
import Derived.Laws.Tables
import Derived.Deep.WholeRow
import Derived.Deep.CutRange
import Derived.Test.YtppnahgiekjbnaaDoorMQ1
/-! 'out.Faces = append(out.Faces, x)' in the model's loops. -/
namespace Go.Proofs.YtppnahgiekjbnaaDoor
open Go.RowKit

theorem cell_alloc_drew {W : World} {p : Addr} {v : Value} (h : W.cell? p = some v) (n : Nat) (o : Obj) : ((W.drewN n).alloc o).cell? p = some v :=
  (World.cell?_alloc_some (W.drewN n) p o (show (W.cell? p).isSome = true by rw [h]; rfl)).trans h

theorem step_append_int {w : World} {ops : Array Oper} {o : Oper} {a : Act} {K : Act → World → Prop} {Q : Exit → Act → World → Prop} {E : Prop} (hgd : o.guard = none) {s y : Operand}
    (ho : o.op = .call { callee := .builtin .append, args := #[s, y], argTypes := #[22, 22] })
    {base : Nat} {v : Value} {xs : List Int} {x : Int} {ad : Addr} (hown : w.ownsRow base 2 1 v xs.length (xs.map (Value.int .i64))) (hbase : base ≤ w.heap.size) (hl : xs.length ≤ 1099511627776)
    (hs : a.eval s = v) (hy : a.eval y = .slice (some ad) 1 1) (hc : w.cell? (ad.add 0) = some (.int .i64 x))
    (hK : ∀ g cap w', w'.ownsRow base 2 1 (.slice (some ⟨g, 0, none⟩) (xs ++ [x]).length cap) (xs ++ [x]).length ((xs ++ [x]).map (Value.int .i64)) → w.grownBy w' v.ownBlock →
      K (a.put o.dst (.slice (some ⟨g, 0, none⟩) (xs ++ [x]).length cap)) w') :
    if Region.wanted o (yielded ops a.tmps) = true then Oper.wp Tryd.prog o a w K Q else E := by
  obtain ⟨i0, hi, hz0, hz1, hz2⟩ := info_parts info_i64
  refine step_append_lies w hgd s y 22 ho base 2 i0 (.int .i64 0) 1 8 Tryd.underlying22 hi hz0 hz1 hz2 rfl (by decide) v _ _ hs hown ad 1 1 [.int .i64 x] hy rfl ?_ (by simp [Value.oneCell']) (by decide) (by unfold maxLen; omega) (by omega) hbase _ rfl ?_
  · intro j u hu
    match j, hu with
    | 0, hu => simp at hu; subst hu; exact hc
  · intro g cap w1 hown1 hg _ _
    have e : (xs ++ [x]).length = xs.length + 1 := by simp
    have h := hK g cap w1 (by rw [e]; simpa using hown1) hg
    rw [e] at h
    exact h

/-- What the model's loops keep of the world while they build a complex in block Bo: B is the heap's size when the call began. -/
structure OutW (w W : World) (V : Int) (sl : Value) (Bo : Nat) (xs : List Int) (a : Option Addr) (c : Nat) : Prop where
  below : Below w.heap.size w W
  kbox : W.heap[w.heap.size]? = some (.cells #[.int .i64 V, sl] 28 (0, 0))
  res : W.heap[w.heap.size + 1]? = some (.cells #[.int .i64 0, .slice none 0 0] 28 (0, 0))
  out : W.heap[Bo]? = some (.cells #[.int .i64 V, .slice a xs.length c] 28 (0, 0))
  own : W.ownsRow w.heap.size 2 1 (.slice a xs.length c) xs.length (xs.map (Value.int .i64))
  bo : w.heap.size + 1 < Bo

/-- A block of another type is none of an owned row's. -/
theorem row_ne {W : World} {base e t : Nat} {v : Value} {n : Nat} {xs : List Value} {b : Nat} {cs : Array Value} {fz : Nat × Nat} (h : W.ownsRow base e 1 v n xs) (hb : W.heap[b]? = some (.cells cs t fz)) (hne : e ≠ t) : some b ≠ v.ownBlock := by
  intro he
  rcases h.2 with ⟨rfl, _⟩ | ⟨g, cap, cur, rfl, _, hg, _⟩
  · simp [Value.ownBlock] at he
  · simp [Value.ownBlock] at he
    subst he
    rw [hb] at hg
    simp at hg
    exact hne hg.2.1.symm

theorem lt_get {W : World} {b : Nat} {o : Obj} (h : W.heap[b]? = some o) : b < W.heap.size := (Array.getElem?_eq_some_iff.1 h).1

/-- Draws alone. -/
theorem OutW.drew {w W : World} {V : Int} {sl : Value} {Bo : Nat} {xs : List Int} {a : Option Addr} {c : Nat} (h : OutW w W V sl Bo xs a c) : OutW w W.drew V sl Bo xs a c :=
  ⟨⟨h.below.os, h.below.tape, h.below.output, h.below.size, h.below.block⟩, h.kbox, h.res, h.out, h.own, h.bo⟩

theorem OutW.drewN {w W : World} {V : Int} {sl : Value} {Bo : Nat} {xs : List Int} {a : Option Addr} {c : Nat} (h : OutW w W V sl Bo xs a c) (n : Nat) : OutW w (W.drewN n) V sl Bo xs a c :=
  ⟨⟨h.below.os, h.below.tape, h.below.output, h.below.size, h.below.block⟩, h.kbox, h.res, h.out, h.own, h.bo⟩

/-- Whatever keeps all that lay. -/
theorem OutW.later {w W W' : World} {V : Int} {sl : Value} {Bo : Nat} {xs : List Int} {a : Option Addr} {c : Nat} (h : OutW w W V sl Bo xs a c) (hb : Below W.heap.size W W') : OutW w W' V sl Bo xs a c where
  below := h.below.trans (hb.mono h.below.size)
  kbox := (hb.block _ (lt_get h.kbox)).trans h.kbox
  res := (hb.block _ (lt_get h.res)).trans h.res
  out := (hb.block _ (lt_get h.out)).trans h.out
  own := ownsRow_below h.own hb (fun g hg => (h.own.lt g hg).2)
  bo := h.bo

/-- A face more. -/
theorem OutW.step {w W w2 : World} {V : Int} {sl : Value} {Bo : Nat} {xs : List Int} {a : Option Addr} {c : Nat} (h : OutW w W V sl Bo xs a c) {x : Int} {g cap : Nat} {o : Obj}
    (hown : w2.ownsRow w.heap.size 2 1 (.slice (some ⟨g, 0, none⟩) (xs ++ [x]).length cap) (xs ++ [x]).length ((xs ++ [x]).map (Value.int .i64))) (hg : (W.alloc o).grownBy w2 (Value.ownBlock (.slice a xs.length c))) :
    OutW w (w2.setCell ⟨Bo, 1, none⟩ (.slice (some ⟨g, 0, none⟩) (xs ++ [x]).length cap)) V sl Bo (xs ++ [x]) (some ⟨g, 0, none⟩) cap := by
  have hgr : W.grownBy w2 (Value.ownBlock (.slice a xs.length c)) := (World.grownBy_alloc W o _).trans hg
  have hbo := h.bo
  have k2 := (hgr.block _ (lt_get h.kbox) (row_ne h.own h.kbox (by decide))).trans h.kbox
  have r2 := (hgr.block _ (lt_get h.res) (row_ne h.own h.res (by decide))).trans h.res
  have o2 := (hgr.block _ (lt_get h.out) (row_ne h.own h.out (by decide))).trans h.out
  refine ⟨?_, ?_, ?_, ?_, ?_, h.bo⟩
  · exact (h.below.grown hgr h.below.size (fun k hk => (h.own.lt k hk).1)).setCell (p := ⟨Bo, 1, none⟩) (by simp only; omega) _
  · exact (Below.heap_setCell _ _ _ _ (by simp only; omega)).trans k2
  · exact (Below.heap_setCell _ _ _ _ (by simp only; omega)).trans r2
  · simp only [World.setCell, Array.getElem?_modify, o2]
    simp
  · exact ownsRow_set hown (by
      have := row_ne hown o2 (by decide)
      exact fun e => this e.symm) _

theorem outW_start {w W : World} {V : Int} {sl : Value} (hB : Below w.heap.size w W) (hk : W.heap[w.heap.size]? = some (.cells #[.int .i64 V, sl] 28 (0, 0)))
    (hr : W.heap[w.heap.size + 1]? = some (.cells #[.int .i64 0, .slice none 0 0] 28 (0, 0))) :
    OutW w ((W.alloc (.cells #[] 2)).alloc (.cells #[.int .i64 V, .slice (some ⟨W.heap.size, 0, none⟩) 0 0] 28)) V sl (W.heap.size + 1) [] (some ⟨W.heap.size, 0, none⟩) 0 where
  below := (hB.alloc hB.size _).alloc (by have := hB.size; simp; omega) _
  kbox := (Below.heap_alloc _ _ _ (by have := lt_get hk; simp; omega)).trans ((Below.heap_alloc _ _ _ (lt_get hk)).trans hk)
  res := (Below.heap_alloc _ _ _ (by have := lt_get hr; simp; omega)).trans ((Below.heap_alloc _ _ _ (lt_get hr)).trans hr)
  out := by have := heap_alloc_new (W.alloc (.cells #[] 2)) (.cells #[.int .i64 V, .slice (some ⟨W.heap.size, 0, none⟩) 0 0] 28); rwa [World.size_alloc] at this
  own := by
    have h := World.ownsRow_made (base := w.heap.size) (e := 2) (size := 1) W #[] 0 hB.size (by simp [maxLen]) rfl
    exact h.alloc _
  bo := by have := lt_get hr; omega

/-- The model's loops hand back what they have built. -/
theorem OutW.done {w W : World} {V : Int} {sl : Value} {Bo : Nat} {xs : List Int} {a : Option Addr} {c : Nat} (h : OutW w W V sl Bo xs a c) (u v : Value) :
    Res w ((W.setCell ⟨w.heap.size + 1, 0, none⟩ u).setCell ⟨w.heap.size + 1, 1, none⟩ v) (.slice a xs.length c) xs := by
  have hn := row_ne h.own h.res (by decide)
  exact ⟨ownsRow_set (ownsRow_set h.own (fun e => hn e.symm) _) (fun e => hn e.symm) _, (h.below.setCell (p := ⟨w.heap.size + 1, 0, none⟩) (by simp) _).setCell (p := ⟨w.heap.size + 1, 1, none⟩) (by simp) _⟩

/-- .. where the new element has just been laid. -/
theorem step_append_new {W : World} {H : Nat} {ops : Array Oper} {o : Oper} {a : Act} {K : Act → World → Prop} {Q : Exit → Act → World → Prop} {E : Prop} (hgd : o.guard = none) {s y : Operand}
    (ho : o.op = .call { callee := .builtin .append, args := #[s, y], argTypes := #[22, 22] })
    {base : Nat} {v : Value} {xs : List Int} {x : Int} (hown : W.ownsRow base 2 1 v xs.length (xs.map (Value.int .i64))) (hH : W.heap.size = H) (hbase : base ≤ H) (hl : xs.length ≤ 1099511627776)
    (hs : a.eval s = v) (hy : a.eval y = .slice (some ⟨H, 0, none⟩) 1 1)
    (hK : ∀ g cap w', w'.ownsRow base 2 1 (.slice (some ⟨g, 0, none⟩) (xs ++ [x]).length cap) (xs ++ [x]).length ((xs ++ [x]).map (Value.int .i64)) → (W.alloc (.cells #[.int .i64 x] 2)).grownBy w' v.ownBlock →
      K (a.put o.dst (.slice (some ⟨g, 0, none⟩) (xs ++ [x]).length cap)) w') :
    if Region.wanted o (yielded ops a.tmps) = true then Oper.wp Tryd.prog o a (W.alloc (.cells #[.int .i64 x] 2)) K Q else E := by
  subst hH
  exact step_append_int hgd ho (hown.alloc _) (by simp; omega) hl hs hy (by simp [go_sem, Addr.add]) hK

theorem OutW.stepN {w W w2 : World} {V : Int} {sl : Value} {Bo : Nat} {xs : List Int} {a : Option Addr} {c : Nat} (h : OutW w W V sl Bo xs a c) {x : Int} {g cap : Nat} {o : Obj} {n : Nat}
    (hown : w2.ownsRow w.heap.size 2 1 (.slice (some ⟨g, 0, none⟩) (xs ++ [x]).length cap) (xs ++ [x]).length ((xs ++ [x]).map (Value.int .i64))) (hg : ((W.drewN n).alloc o).grownBy w2 (Value.ownBlock (.slice a xs.length c))) :
    OutW w (w2.setCell ⟨Bo, 1, none⟩ (.slice (some ⟨g, 0, none⟩) (xs ++ [x]).length cap)) V sl Bo (xs ++ [x]) (some ⟨g, 0, none⟩) cap := (h.drewN n).step hown hg

/-- The out block behind an append. -/
theorem OutW.mid {w W w2 : World} {V : Int} {sl : Value} {Bo : Nat} {xs : List Int} {a : Option Addr} {c : Nat} (h : OutW w W V sl Bo xs a c) {n : Nat} {o : Obj} (hg : ((W.drewN n).alloc o).grownBy w2 (Value.ownBlock (.slice a xs.length c))) :
    w2.cell? ⟨Bo, 1, none⟩ = some (.slice a xs.length c) ∧ w2.frozen? ⟨Bo, 1, none⟩ = false := by
  have hgr : (W.drewN n).grownBy w2 (Value.ownBlock (.slice a xs.length c)) := (World.grownBy_alloc _ o _).trans hg
  have o2 := (hgr.block _ (lt_get (h.drewN n).out) (row_ne (h.drewN n).own (h.drewN n).out (by decide))).trans (h.drewN n).out
  constructor <;> simp [World.cell?, World.frozen?, o2]

/-- The given complex's box behind an append. -/
theorem OutW.midK {w W w2 : World} {V : Int} {sl : Value} {Bo : Nat} {xs : List Int} {a : Option Addr} {c : Nat} (h : OutW w W V sl Bo xs a c) {n : Nat} {o : Obj} (hg : ((W.drewN n).alloc o).grownBy w2 (Value.ownBlock (.slice a xs.length c))) :
    w2.cell? ⟨w.heap.size, 1, none⟩ = some sl := by
  have hgr : (W.drewN n).grownBy w2 (Value.ownBlock (.slice a xs.length c)) := (World.grownBy_alloc _ o _).trans hg
  have o2 := (hgr.block _ (lt_get (h.drewN n).kbox) (row_ne (h.drewN n).own (h.drewN n).kbox (by decide))).trans (h.drewN n).kbox
  simp [World.cell?, o2]

/-- What lay before the call, behind an append. -/
theorem OutW.midX {w W w2 : World} {V : Int} {sl : Value} {Bo : Nat} {xs : List Int} {a : Option Addr} {c : Nat} (h : OutW w W V sl Bo xs a c) {n : Nat} {o : Obj} (hg : ((W.drewN n).alloc o).grownBy w2 (Value.ownBlock (.slice a xs.length c))) {p : Addr} (hp : p.block < w.heap.size) :
    w2.cell? p = W.cell? p := by
  have hgr : (W.drewN n).grownBy w2 (Value.ownBlock (.slice a xs.length c)) := (World.grownBy_alloc _ o _).trans hg
  have hlt : p.block < (W.drewN n).heap.size := Nat.lt_of_lt_of_le hp h.below.size
  have h2 : w2.heap[p.block]? = W.heap[p.block]? := hgr.block _ hlt (by
    intro he
    have := (h.own.lt _ he.symm).1
    omega)
  simp only [World.cell?, h2]

end Go.Proofs.YtppnahgiekjbnaaDoor

/-! Complexes that are handed back: the ends of bodies with a result in a block, and the program's complexWith. -/
namespace Go.Proofs.YtppnahgiekjbnaaDoor
open Go.RowKit

theorem cell_alloc_drew1 {W : World} {p : Addr} {v : Value} (h : W.cell? p = some v) (o : Obj) : (W.alloc o).cell? p = some v := cell_alloc_drew h 0 o

theorem two_of {W : World} {b : Nat} {x y : Value} {t : Nat} (h : W.heap[b]? = some (.cells #[x, y] t (0, 0))) : W.cell? ⟨b, 0, none⟩ = some x ∧ W.cell? ⟨b, 1, none⟩ = some y ∧ W.frozen? ⟨b, 0, none⟩ = false ∧ W.frozen? ⟨b, 1, none⟩ = false := by
  refine ⟨?_, ?_, ?_, ?_⟩ <;> simp [World.cell?, World.frozen?, h]

theorem two_set {W : World} {b : Nat} {x y : Value} {t : Nat} (h : W.heap[b]? = some (.cells #[x, y] t (0, 0))) (u v : Value) : ((W.setCell ⟨b, 0, none⟩ u).setCell ⟨b, 1, none⟩ v).heap[b]? = some (.cells #[u, v] t (0, 0)) := by
  simp only [World.setCell, Array.getElem?_modify, h]
  simp

/-- A result stays where a block of another type is written. -/
theorem Res.set2 {w W : World} {sv : Value} {xs : List Int} (h : Res w W sv xs) {b : Nat} {cs : Array Value} {t : Nat} {fz : Nat × Nat} (hb : W.heap[b]? = some (.cells cs t fz)) (hne : 2 ≠ t) (hw : w.heap.size ≤ b) (u v : Value) :
    Res w ((W.setCell ⟨b, 0, none⟩ u).setCell ⟨b, 1, none⟩ v) sv xs := by
  have hn := row_ne h.1 hb hne
  exact ⟨ownsRow_set (ownsRow_set h.1 (fun e => hn e.symm) _) (fun e => hn e.symm) _, (h.2.setCell (p := ⟨b, 0, none⟩) hw _).setCell (p := ⟨b, 1, none⟩) hw _⟩

theorem new2 (w : World) (A B : Obj) : ((w.alloc A).alloc B).heap[w.heap.size + 1]? = some B := by
  have := heap_alloc_new (w.alloc A) B
  rwa [World.size_alloc] at this

theorem new3 (w : World) (A B C : Obj) : (((w.alloc A).alloc B).alloc C).heap[w.heap.size + 1 + 1]? = some C := by
  have := new2 (w.alloc A) B C
  rwa [World.size_alloc] at this

set_option maxRecDepth 100000 in
theorem load_cx {w : World} {b o : Nat} {x y : Value} (h0 : w.cell? ⟨b, o, none⟩ = some x) (h1 : w.cell? ⟨b, o + 1, none⟩ = some y) :
    (loadVar 28 ⟨b, o, none⟩).run Tryd.prog w = .ok (.agg #[x, y]) w := by
  go_simp

set_option maxRecDepth 100000 in
theorem done_cx {fn : Func} {R : Ending → World → Prop} {a : Act} {w : World} {p u : Tmp} (hr : fn.results = #[.cell p 28, .tmp u]) (hd : a.defers = []) {b o : Nat} {x y c : Value}
    (hp : a.tmps.getD p undef = .pointer (some ⟨b, o, none⟩)) (h0 : w.cell? ⟨b, o, none⟩ = some x) (h1 : w.cell? ⟨b, o + 1, none⟩ = some y) (hu : a.tmps.getD u undef = c) (hR : R (.returned (.tuple #[.agg #[x, y], c])) w) : bodyPost Tryd.prog fn R .ret a w := by
  refine bodyPost_ret (v := .tuple #[.agg #[x, y], c]) ?_ hd hR
  rw [results_cell_tmp hr, hp, hu]
  show ((loadVar 28 ⟨b, o, none⟩).run Tryd.prog w).andThen _ = _
  rw [load_cx h0 h1]
  rfl

set_option maxRecDepth 100000 in
theorem done_cx1 {fn : Func} {R : Ending → World → Prop} {a : Act} {w : World} {p : Tmp} (hr : fn.results = #[.cell p 28]) (hd : a.defers = []) {b o : Nat} {x y : Value}
    (hp : a.tmps.getD p undef = .pointer (some ⟨b, o, none⟩)) (h0 : w.cell? ⟨b, o, none⟩ = some x) (h1 : w.cell? ⟨b, o + 1, none⟩ = some y) (hR : R (.returned (.agg #[x, y])) w) : bodyPost Tryd.prog fn R .ret a w := by
  refine bodyPost_ret (v := .agg #[x, y]) ?_ hd hR
  have hp' : a.tmps[p]?.getD undef = .pointer (some ⟨b, o, none⟩) := by simpa using hp
  simp [results, hr, hp', asAddr, load_cx h0 h1]

theorem cx_mono {P : Program} {f : FuncId} {args : Array Value} {w : World} {r : Int × List Int × Int} {U : Int} {xs : List Int} {c : Int} (hr : r = (U, xs, c))
    (h : Calls P f args w fun e w' => ∃ v, e = .returned (.tuple #[.agg #[.int .i64 U, v], .int .i64 c]) ∧ Res w w' v xs) : Calls P f args w fun e w' => ∃ v, e = .returned (.tuple #[.agg #[.int .i64 r.1, v], .int .i64 r.2.2]) ∧ Res w w' v r.2.1 := by
  subst hr; exact h


end Go.Proofs.YtppnahgiekjbnaaDoor

/-! 'out.Faces = append(out.Faces, x)' in the model's loops, where the complex that is built has a number of vertices of its own (OutW, with that number). -/
namespace Go.Proofs.YtppnahgiekjbnaaDoor
open Go.RowKit

/-- The same, where what is built has another number of vertices: B is the heap's size when the call began. -/
structure OutU (w W : World) (V U : Int) (sl : Value) (Bo : Nat) (xs : List Int) (a : Option Addr) (c : Nat) : Prop where
  below : Below w.heap.size w W
  kbox : W.heap[w.heap.size]? = some (.cells #[.int .i64 V, sl] 28 (0, 0))
  res : W.heap[w.heap.size + 1]? = some (.cells #[.int .i64 0, .slice none 0 0] 28 (0, 0))
  out : W.heap[Bo]? = some (.cells #[.int .i64 U, .slice a xs.length c] 28 (0, 0))
  own : W.ownsRow w.heap.size 2 1 (.slice a xs.length c) xs.length (xs.map (Value.int .i64))
  bo : w.heap.size + 1 < Bo

/-- Draws alone. -/
theorem OutU.drew {w W : World} {V U : Int} {sl : Value} {Bo : Nat} {xs : List Int} {a : Option Addr} {c : Nat} (h : OutU w W V U sl Bo xs a c) : OutU w W.drew V U sl Bo xs a c :=
  ⟨⟨h.below.os, h.below.tape, h.below.output, h.below.size, h.below.block⟩, h.kbox, h.res, h.out, h.own, h.bo⟩

theorem OutU.drewN {w W : World} {V U : Int} {sl : Value} {Bo : Nat} {xs : List Int} {a : Option Addr} {c : Nat} (h : OutU w W V U sl Bo xs a c) (n : Nat) : OutU w (W.drewN n) V U sl Bo xs a c :=
  ⟨⟨h.below.os, h.below.tape, h.below.output, h.below.size, h.below.block⟩, h.kbox, h.res, h.out, h.own, h.bo⟩

/-- Whatever keeps all that lay. -/
theorem OutU.later {w W W' : World} {V U : Int} {sl : Value} {Bo : Nat} {xs : List Int} {a : Option Addr} {c : Nat} (h : OutU w W V U sl Bo xs a c) (hb : Below W.heap.size W W') : OutU w W' V U sl Bo xs a c where
  below := h.below.trans (hb.mono h.below.size)
  kbox := (hb.block _ (lt_get h.kbox)).trans h.kbox
  res := (hb.block _ (lt_get h.res)).trans h.res
  out := (hb.block _ (lt_get h.out)).trans h.out
  own := ownsRow_below h.own hb (fun g hg => (h.own.lt g hg).2)
  bo := h.bo

/-- A face more. -/
theorem OutU.step {w W w2 : World} {V U : Int} {sl : Value} {Bo : Nat} {xs : List Int} {a : Option Addr} {c : Nat} (h : OutU w W V U sl Bo xs a c) {x : Int} {g cap : Nat} {o : Obj}
    (hown : w2.ownsRow w.heap.size 2 1 (.slice (some ⟨g, 0, none⟩) (xs ++ [x]).length cap) (xs ++ [x]).length ((xs ++ [x]).map (Value.int .i64))) (hg : (W.alloc o).grownBy w2 (Value.ownBlock (.slice a xs.length c))) :
    OutU w (w2.setCell ⟨Bo, 1, none⟩ (.slice (some ⟨g, 0, none⟩) (xs ++ [x]).length cap)) V U sl Bo (xs ++ [x]) (some ⟨g, 0, none⟩) cap := by
  have hgr : W.grownBy w2 (Value.ownBlock (.slice a xs.length c)) := (World.grownBy_alloc W o _).trans hg
  have hbo := h.bo
  have k2 := (hgr.block _ (lt_get h.kbox) (row_ne h.own h.kbox (by decide))).trans h.kbox
  have r2 := (hgr.block _ (lt_get h.res) (row_ne h.own h.res (by decide))).trans h.res
  have o2 := (hgr.block _ (lt_get h.out) (row_ne h.own h.out (by decide))).trans h.out
  refine ⟨?_, ?_, ?_, ?_, ?_, h.bo⟩
  · exact (h.below.grown hgr h.below.size (fun k hk => (h.own.lt k hk).1)).setCell (p := ⟨Bo, 1, none⟩) (by simp only; omega) _
  · exact (Below.heap_setCell _ _ _ _ (by simp only; omega)).trans k2
  · exact (Below.heap_setCell _ _ _ _ (by simp only; omega)).trans r2
  · simp only [World.setCell, Array.getElem?_modify, o2]
    simp
  · exact ownsRow_set hown (by
      have := row_ne hown o2 (by decide)
      exact fun e => this e.symm) _

/-- The model's loops hand back what they have built. -/
theorem OutU.done {w W : World} {V U : Int} {sl : Value} {Bo : Nat} {xs : List Int} {a : Option Addr} {c : Nat} (h : OutU w W V U sl Bo xs a c) (u v : Value) :
    Res w ((W.setCell ⟨w.heap.size + 1, 0, none⟩ u).setCell ⟨w.heap.size + 1, 1, none⟩ v) (.slice a xs.length c) xs := by
  have hn := row_ne h.own h.res (by decide)
  exact ⟨ownsRow_set (ownsRow_set h.own (fun e => hn e.symm) _) (fun e => hn e.symm) _, (h.below.setCell (p := ⟨w.heap.size + 1, 0, none⟩) (by simp) _).setCell (p := ⟨w.heap.size + 1, 1, none⟩) (by simp) _⟩

theorem OutU.stepN {w W w2 : World} {V U : Int} {sl : Value} {Bo : Nat} {xs : List Int} {a : Option Addr} {c : Nat} (h : OutU w W V U sl Bo xs a c) {x : Int} {g cap : Nat} {o : Obj} {n : Nat}
    (hown : w2.ownsRow w.heap.size 2 1 (.slice (some ⟨g, 0, none⟩) (xs ++ [x]).length cap) (xs ++ [x]).length ((xs ++ [x]).map (Value.int .i64))) (hg : ((W.drewN n).alloc o).grownBy w2 (Value.ownBlock (.slice a xs.length c))) :
    OutU w (w2.setCell ⟨Bo, 1, none⟩ (.slice (some ⟨g, 0, none⟩) (xs ++ [x]).length cap)) V U sl Bo (xs ++ [x]) (some ⟨g, 0, none⟩) cap := (h.drewN n).step hown hg

/-- The out block behind an append. -/
theorem OutU.mid {w W w2 : World} {V U : Int} {sl : Value} {Bo : Nat} {xs : List Int} {a : Option Addr} {c : Nat} (h : OutU w W V U sl Bo xs a c) {n : Nat} {o : Obj} (hg : ((W.drewN n).alloc o).grownBy w2 (Value.ownBlock (.slice a xs.length c))) :
    w2.cell? ⟨Bo, 1, none⟩ = some (.slice a xs.length c) ∧ w2.frozen? ⟨Bo, 1, none⟩ = false := by
  have hgr : (W.drewN n).grownBy w2 (Value.ownBlock (.slice a xs.length c)) := (World.grownBy_alloc _ o _).trans hg
  have o2 := (hgr.block _ (lt_get (h.drewN n).out) (row_ne (h.drewN n).own (h.drewN n).out (by decide))).trans (h.drewN n).out
  constructor <;> simp [World.cell?, World.frozen?, o2]

/-- The given complex's box behind an append. -/
theorem OutU.midK {w W w2 : World} {V U : Int} {sl : Value} {Bo : Nat} {xs : List Int} {a : Option Addr} {c : Nat} (h : OutU w W V U sl Bo xs a c) {n : Nat} {o : Obj} (hg : ((W.drewN n).alloc o).grownBy w2 (Value.ownBlock (.slice a xs.length c))) :
    w2.cell? ⟨w.heap.size, 1, none⟩ = some sl := by
  have hgr : (W.drewN n).grownBy w2 (Value.ownBlock (.slice a xs.length c)) := (World.grownBy_alloc _ o _).trans hg
  have o2 := (hgr.block _ (lt_get (h.drewN n).kbox) (row_ne (h.drewN n).own (h.drewN n).kbox (by decide))).trans (h.drewN n).kbox
  simp [World.cell?, o2]

/-- What lay before the call, behind an append. -/
theorem OutU.midX {w W w2 : World} {V U : Int} {sl : Value} {Bo : Nat} {xs : List Int} {a : Option Addr} {c : Nat} (h : OutU w W V U sl Bo xs a c) {n : Nat} {o : Obj} (hg : ((W.drewN n).alloc o).grownBy w2 (Value.ownBlock (.slice a xs.length c))) {p : Addr} (hp : p.block < w.heap.size) :
    w2.cell? p = W.cell? p := by
  have hgr : (W.drewN n).grownBy w2 (Value.ownBlock (.slice a xs.length c)) := (World.grownBy_alloc _ o _).trans hg
  have hlt : p.block < (W.drewN n).heap.size := Nat.lt_of_lt_of_le hp h.below.size
  have h2 : w2.heap[p.block]? = W.heap[p.block]? := hgr.block _ hlt (by
    intro he
    have := (h.own.lt _ he.symm).1
    omega)
  simp only [World.cell?, h2]

end Go.Proofs.YtppnahgiekjbnaaDoor

/-! Finite facts on bits, decided. -/
namespace Go.Proofs.YtppnahgiekjbnaaDoor
open Go.RowKit

theorem andNot_fin : ∀ x : Nat, x < 64 → ∀ s : Nat, s < 64 → (bits BinOp.andNot IntKind.i64 (x : Int) (s : Int) == 0) = decide (x &&& s = x) := by
  decide +kernel

end Go.Proofs.YtppnahgiekjbnaaDoor

/-! The numbers from 1 to n that are wanted, ascending. -/
namespace Go.Proofs.YtppnahgiekjbnaaDoor
open Go.RowKit

/-- The numbers from 1 to k of which p says yes. -/
def pickTo (p : Int → Bool) : Nat → List Int
  | 0 => []
  | k + 1 => pickTo p k ++ (if p ((k : Int) + 1) then [(k : Int) + 1] else [])

theorem pickTo_len (p : Int → Bool) : ∀ k, (pickTo p k).length ≤ k
  | 0 => by simp [pickTo]
  | k + 1 => by
    have := pickTo_len p k
    simp only [pickTo, List.length_append]
    split <;> simp <;> omega

theorem mem_pickTo {p : Int → Bool} {x : Int} : ∀ k : Nat, x ∈ pickTo p k ↔ 1 ≤ x ∧ x ≤ k ∧ p x = true
  | 0 => by simp [pickTo]; omega
  | k + 1 => by
    have ih := mem_pickTo (p := p) (x := x) k
    simp only [pickTo, List.mem_append, ih]
    constructor
    · rintro (⟨h1, h2, h3⟩ | h)
      · exact ⟨h1, by omega, h3⟩
      · split at h
        · rename_i hp
          simp at h
          subst h
          exact ⟨by omega, by omega, hp⟩
        · simp at h
    · rintro ⟨h1, h2, h3⟩
      by_cases he : x = (k : Int) + 1
      · subst he
        right
        rw [if_pos h3]; simp
      · exact .inl ⟨h1, by omega, h3⟩

theorem pickTo_asc (p : Int → Bool) : ∀ k : Nat, (pickTo p k).Pairwise (· < ·)
  | 0 => by simp [pickTo]
  | k + 1 => by
    simp only [pickTo]
    rw [List.pairwise_append]
    refine ⟨pickTo_asc p k, by split <;> simp, fun a ha b hb => ?_⟩
    have h1 := (mem_pickTo k).1 ha
    split at hb
    · simp at hb; omega
    · simp at hb

theorem pickTo_congr {p q : Int → Bool} : ∀ k : Nat, (∀ x : Int, 1 ≤ x → x ≤ k → p x = q x) → pickTo p k = pickTo q k
  | 0, _ => rfl
  | k + 1, h => by
    simp only [pickTo]
    rw [pickTo_congr k (fun x h1 h2 => h x h1 (by omega)), h ((k : Int) + 1) (by omega) (by omega)]

/-- Two ascending lists with the same members are one. -/
theorem asc_ext : ∀ {xs ys : List Int}, xs.Pairwise (· < ·) → ys.Pairwise (· < ·) → (∀ x, x ∈ xs ↔ x ∈ ys) → xs = ys
  | [], [], _, _, _ => rfl
  | [], y :: ys, _, _, h => absurd ((h y).2 (by simp)) (by simp)
  | x :: xs, [], _, _, h => absurd ((h x).1 (by simp)) (by simp)
  | x :: xs, y :: ys, hx, hy, h => by
    have hx' := List.pairwise_cons.1 hx
    have hy' := List.pairwise_cons.1 hy
    have hxy : x = y := by
      have h1 := (h x).1 (by simp)
      have h2 := (h y).2 (by simp)
      rcases List.mem_cons.1 h1 with h1 | h1
      · exact h1
      · rcases List.mem_cons.1 h2 with h2 | h2
        · exact h2.symm
        · have a := hy'.1 _ h1
          have b := hx'.1 _ h2
          omega
    subst hxy
    congr 1
    refine asc_ext hx'.2 hy'.2 fun z => ?_
    have hz := h z
    simp only [List.mem_cons] at hz
    constructor
    · intro hm
      rcases hz.1 (.inr hm) with rfl | h'
      · exact absurd (hx'.1 _ hm) (by omega)
      · exact h'
    · intro hm
      rcases hz.2 (.inr hm) with rfl | h'
      · exact absurd (hy'.1 _ hm) (by omega)
      · exact h'

end Go.Proofs.YtppnahgiekjbnaaDoor

/-! Renumbered sets: the mathematics. -/
namespace Go.Proofs.YtppnahgiekjbnaaDoor
open Go.RowKit

/-- The image of a set, vertex by vertex. -/
def movN (p : List Int) (f : Nat) : Nat → Nat
  | 0 => 0
  | k + 1 => if bitN f k then movN p f k ||| 2 ^ (p[k]?.getD 0).toNat else movN p f k
def moved (p : List Int) (f : Nat) : Nat := movN p f p.length
theorem bit_test (f v : Nat) : bitN f v = f.testBit v := by
  unfold bitN
  rw [Nat.testBit_eq_decide_div_mod_eq]
  cases h : decide (f / 2 ^ v % 2 = 1) <;> simp_all
theorem test_pow (a w : Nat) : (2 ^ a).testBit w = decide (a = w) := by rw [Nat.testBit_two_pow]
theorem movN_test (p : List Int) (f w : Nat) : ∀ k, (movN p f k).testBit w = true ↔ ∃ v, v < k ∧ f.testBit v = true ∧ (p[v]?.getD 0).toNat = w
  | 0 => by simp [movN]
  | k + 1 => by
    have ih := movN_test p f w k
    unfold movN
    by_cases hb : bitN f k = true
    · rw [if_pos hb, Nat.testBit_or, Bool.or_eq_true, ih, test_pow, decide_eq_true_eq]
      rw [bit_test] at hb
      constructor
      · rintro (⟨v, h1, h2, h3⟩ | h)
        · exact ⟨v, by omega, h2, h3⟩
        · exact ⟨k, by omega, hb, h⟩
      · rintro ⟨v, h1, h2, h3⟩
        by_cases e : v = k
        · subst e; exact .inr h3
        · exact .inl ⟨v, by omega, h2, h3⟩
    · rw [if_neg hb, ih]
      rw [bit_test] at hb
      constructor
      · rintro ⟨v, h1, h2, h3⟩
        exact ⟨v, by omega, h2, h3⟩
      · rintro ⟨v, h1, h2, h3⟩
        by_cases e : v = k
        · subst e; exact absurd h2 hb
        · exact ⟨v, by omega, h2, h3⟩
theorem moved_test (p : List Int) (f w : Nat) : (moved p f).testBit w = true ↔ ∃ v, v < p.length ∧ f.testBit v = true ∧ (p[v]?.getD 0).toNat = w := movN_test p f w p.length
theorem movN_lt {p : List Int} {n : Nat} (h : ∀ x ∈ p, x.toNat < n) (f : Nat) : ∀ k, k ≤ p.length → movN p f k < 2 ^ n
  | 0, _ => Nat.two_pow_pos n
  | k + 1, hk => by
    have ih := movN_lt h f k (by omega)
    unfold movN
    split
    · exact Nat.or_lt_two_pow ih (Nat.pow_lt_pow_right (by decide) (h _ (getD_mem (by omega))))
    · exact ih

/-- A renumbering of n vertices. -/
structure IsR (p : List Int) (n : Int) : Prop where
  len : (p.length : Int) = n
  rng : ∀ x ∈ p, 0 ≤ x ∧ x < n
  inj : ∀ i j, i < j → j < p.length → p[i]?.getD 0 ≠ p[j]?.getD 0
noncomputable def isRB (p : List Int) (n : Int) : Bool := @decide (IsR p n) (Classical.propDecidable _)
theorem isRB_true {p : List Int} {n : Int} (h : IsR p n) : isRB p n = true := @decide_eq_true _ (Classical.propDecidable _) h
theorem isRB_false {p : List Int} {n : Int} (h : ¬ IsR p n) : isRB p n = false := @decide_eq_false _ (Classical.propDecidable _) h
theorem isRB_iff {p : List Int} {n : Int} : isRB p n = true ↔ IsR p n := @decide_eq_true_iff _ (Classical.propDecidable _)
/-- .. so far. -/
structure OkR (p : List Int) (n : Int) (k : Nat) : Prop where
  rng : ∀ i, i < k → 0 ≤ p[i]?.getD 0 ∧ p[i]?.getD 0 < n
  inj : ∀ i j, i < j → j < k → p[i]?.getD 0 ≠ p[j]?.getD 0
theorem OkR.zero (p : List Int) (n : Int) : OkR p n 0 := ⟨fun _ h => absurd h (Nat.not_lt_zero _), fun _ _ _ h => absurd h (Nat.not_lt_zero _)⟩
theorem OkR.succ {p : List Int} {n : Int} {k : Nat} (h : OkR p n k) (h1 : 0 ≤ p[k]?.getD 0 ∧ p[k]?.getD 0 < n) (h2 : p[k]?.getD 0 ∉ p.take k) (hk : k < p.length) : OkR p n (k + 1) where
  rng := fun i hi => by
    by_cases e : i = k
    · subst e; exact h1
    · exact h.rng i (by omega)
  inj := fun i j hij hj => by
    by_cases e : j = k
    · subst e
      intro he
      apply h2
      rw [← he]
      have hi : i < (p.take j).length := by simp; omega
      have := getD_mem hi
      rwa [List.getElem?_take_of_lt hij] at this
    · exact h.inj i j hij (by omega)
theorem OkR.all {p : List Int} {n : Int} (h : OkR p n p.length) (hl : (p.length : Int) = n) : IsR p n where
  len := hl
  rng := fun x hx => by
    obtain ⟨i, hi, rfl⟩ := List.getElem_of_mem hx
    have := h.rng i hi
    rwa [List.getElem?_eq_getElem hi, Option.getD_some] at this
  inj := h.inj
theorem not_rng {p : List Int} {n : Int} {k : Nat} (hk : k < p.length) (h : ¬ (0 ≤ p[k]?.getD 0 ∧ p[k]?.getD 0 < n)) : isRB p n = false := isRB_false fun hR => h (hR.rng _ (getD_mem hk))
theorem not_inj {p : List Int} {n : Int} {k : Nat} (hk : k < p.length) (h : p[k]?.getD 0 ∈ p.take k) : isRB p n = false := isRB_false fun hR => by
  obtain ⟨i, hi, he⟩ := List.getElem_of_mem h
  have hik : i < k := by have := hi; simp at this; omega
  refine hR.inj i k hik hk ?_
  rw [← he, List.getElem_take, List.getElem?_eq_getElem (by omega)]
  rfl
theorem not_len {p : List Int} {n : Int} (h : ¬ (p.length : Int) = n) : isRB p n = false := isRB_false fun hR => h hR.len

/-- The images of the faces. -/
def imgL (p fs : List Int) : List Int := fs.map fun f => ((moved p f.toNat : Nat) : Int)
theorem allV_two {V : Int} (h1 : 1 ≤ V) (h2 : V ≤ 6) : allV V = ((2 ^ V.toNat - 1 : Nat) : Int) := by
  rcases (show V = 1 ∨ V = 2 ∨ V = 3 ∨ V = 4 ∨ V = 5 ∨ V = 6 by omega) with rfl | rfl | rfl | rfl | rfl | rfl <;> decide

section
variable {V : Int} {fs p : List Int}
theorem test_lt {f n w : Nat} (hf : f < 2 ^ n) (h : f.testBit w = true) : w < n := by
  rcases Nat.lt_or_ge w n with h1 | h1
  · exact h1
  · have := Nat.testBit_lt_two_pow (Nat.lt_of_lt_of_le hf (Nat.pow_le_pow_right (by decide) h1))
    rw [this] at h
    cases h
theorem moved_inj (hR : IsR p V) (h1 : 1 ≤ V) {f g : Nat} (hf : f < 2 ^ V.toNat) (hg : g < 2 ^ V.toNat) (h : moved p f = moved p g) : f = g := by
  have hl := hR.len
  have key : ∀ f g : Nat, f < 2 ^ V.toNat → moved p f = moved p g → ∀ w, f.testBit w = true → g.testBit w = true := by
    intro f g hf h w hw
    have hwV := test_lt hf hw
    have h2 := (moved_test p f (p[w]?.getD 0).toNat).2 ⟨w, by omega, hw, rfl⟩
    rw [h] at h2
    obtain ⟨v, hv, hgv, he⟩ := (moved_test p g _).1 h2
    have r1 := hR.rng _ (getD_mem (show w < p.length by omega))
    have r2 := hR.rng _ (getD_mem hv)
    have hpe : p[v]?.getD 0 = p[w]?.getD 0 := by omega
    rcases Nat.lt_trichotomy v w with hlt | heq | hlt
    · exact absurd hpe (hR.inj v w hlt (by omega))
    · subst heq; exact hgv
    · exact absurd hpe.symm (hR.inj w v hlt hv)
  apply Nat.eq_of_testBit_eq
  intro w
  rw [Bool.eq_iff_iff]
  exact ⟨key f g hf h w, key g f hg h.symm w⟩
/-- What of f goes into x. -/
def preN (p : List Int) (x f : Nat) : Nat → Nat
  | 0 => 0
  | k + 1 => if f.testBit k && x.testBit (p[k]?.getD 0).toNat then preN p x f k ||| 2 ^ k else preN p x f k
theorem preN_test (p : List Int) (x f w : Nat) : ∀ k, (preN p x f k).testBit w = true ↔ w < k ∧ f.testBit w = true ∧ x.testBit (p[w]?.getD 0).toNat = true
  | 0 => by simp [preN]
  | k + 1 => by
    have ih := preN_test p x f w k
    unfold preN
    by_cases hb : (f.testBit k && x.testBit (p[k]?.getD 0).toNat) = true
    · rw [if_pos hb, Nat.testBit_or, Bool.or_eq_true, ih, test_pow, decide_eq_true_eq]
      rw [Bool.and_eq_true] at hb
      constructor
      · rintro (⟨a, b, c⟩ | rfl)
        · exact ⟨by omega, b, c⟩
        · exact ⟨by omega, hb.1, hb.2⟩
      · rintro ⟨a, b, c⟩
        by_cases e : k = w
        · exact .inr e
        · exact .inl ⟨by omega, b, c⟩
    · rw [if_neg hb, ih]
      constructor
      · rintro ⟨a, b, c⟩; exact ⟨by omega, b, c⟩
      · rintro ⟨a, b, c⟩
        by_cases e : k = w
        · subst e; exact absurd (by rw [b, c]; rfl) hb
        · exact ⟨by omega, b, c⟩
end

end Go.Proofs.YtppnahgiekjbnaaDoor

/-! Trees of questions as lists: the model's test, and the tree of an order. -/
namespace Go.Proofs.YtppnahgiekjbnaaDoor
open Go.RowKit

/-- The question at place p of a list. -/
def atP (T : List Int) (p : Nat) : Int := T[p - 1]?.getD 0
/-- The question at place p is one of the numbers, and not asked for on the way there. -/
def okP (n : Nat) (T : List Int) (p : Nat) : Prop := (0 ≤ atP T p ∧ atP T p ≤ (n : Int) - 1) ∧ ∀ j, 0 < p / 2 ^ (j + 1) → atP T (p / 2 ^ (j + 1)) ≠ atP T p
structure IsT (n : Nat) (T : List Int) : Prop where
  len : T.length = 2 ^ n - 1
  ok : ∀ p, 1 ≤ p → p ≤ T.length → okP n T p
noncomputable def isTB (n : Nat) (T : List Int) : Bool := @decide (IsT n T) (Classical.propDecidable _)
theorem isTB_true {n : Nat} {T : List Int} (h : IsT n T) : isTB n T = true := @decide_eq_true _ (Classical.propDecidable _) h
theorem isTB_false {n : Nat} {T : List Int} (h : ¬ IsT n T) : isTB n T = false := @decide_eq_false _ (Classical.propDecidable _) h
theorem isTB_iff {n : Nat} {T : List Int} : isTB n T = true ↔ IsT n T := @decide_eq_true_iff _ (Classical.propDecidable _)
theorem half_pow (p j : Nat) : p / 2 ^ (j + 1) = p / 2 ^ j / 2 := by rw [Nat.pow_succ, Nat.div_div_eq_div_mul]

/-- The tree that asks in an order: the first k numbers of it. -/
def treeL (L : List Int) (k : Nat) : List Int := (List.range (2 ^ k - 1)).map fun i => L[Nat.log2 (i + 1)]?.getD 0
theorem treeL_len (L : List Int) (k : Nat) : (treeL L k).length = 2 ^ k - 1 := by unfold treeL; simp
theorem treeL_at {L : List Int} {k p : Nat} (h1 : 1 ≤ p) (h2 : p ≤ 2 ^ k - 1) : atP (treeL L k) p = L[Nat.log2 p]?.getD 0 := by
  unfold atP treeL
  rw [List.getElem?_map, List.getElem?_range (by omega)]
  simp only [Option.map_some, Option.getD_some]
  rw [show p - 1 + 1 = p by omega]
theorem log_half : ∀ p : Fin 64, ∀ j : Fin 6, 0 < p.val / 2 ^ (j.val + 1) → Nat.log2 (p.val / 2 ^ (j.val + 1)) + (j.val + 1) = Nat.log2 p.val := by decide +kernel
theorem log_lt6 : ∀ n : Fin 7, ∀ p : Fin 64, 1 ≤ p.val → p.val ≤ 2 ^ n.val - 1 → Nat.log2 p.val < n.val := by decide +kernel
theorem log_two : ∀ k : Fin 6, Nat.log2 (2 ^ k.val) = k.val := by decide +kernel
theorem log_row : ∀ k : Fin 6, ∀ x : Fin 64, 2 ^ k.val ≤ x.val → x.val < 2 ^ (k.val + 1) → Nat.log2 x.val = k.val := by decide +kernel
theorem pow_le64 {n : Nat} (h : n ≤ 6) : 2 ^ n ≤ 64 := show 2 ^ n ≤ 2 ^ 6 from Nat.pow_le_pow_right (by decide) h
theorem big_half {p j : Nat} (hp : p < 64) (hj : 6 ≤ j + 1) : p / 2 ^ (j + 1) = 0 := by
  have : 2 ^ 6 ≤ 2 ^ (j + 1) := Nat.pow_le_pow_right (by decide) hj
  exact Nat.div_eq_of_lt (by omega)

/-- The tree of an order is a tree exactly if this is a renumbering. -/
theorem treeL_is {L : List Int} {n : Nat} (hn : n ≤ 6) (hl : L.length = n) : IsT n (treeL L n) ↔ IsR L (n : Int) := by
  have h64 := pow_le64 hn
  constructor
  · intro h
    refine ⟨by omega, fun x hx => ?_, fun i j hij hj => ?_⟩
    · obtain ⟨i, hi, rfl⟩ := List.getElem_of_mem hx
      have hp : 1 ≤ 2 ^ i := Nat.one_le_two_pow
      have hp2 : 2 ^ i < 2 ^ n := Nat.pow_lt_pow_right (by decide) (by omega)
      have h1 := (h.ok (2 ^ i) hp (by rw [treeL_len]; omega)).1
      rw [treeL_at hp (by omega), log_two ⟨i, by omega⟩, List.getElem?_eq_getElem hi] at h1
      simp only [Option.getD_some] at h1
      omega
    · have hp : 1 ≤ 2 ^ j := Nat.one_le_two_pow
      have hp2 : 2 ^ j < 2 ^ n := Nat.pow_lt_pow_right (by decide) (by omega)
      have hd : 2 ^ j / 2 ^ (j - i - 1 + 1) = 2 ^ i := by
        rw [show j - i - 1 + 1 = j - i by omega, Nat.pow_div (by omega) (by decide)]
        congr 1
        omega
      have hpi : 1 ≤ 2 ^ i := Nat.one_le_two_pow
      have hpi2 : 2 ^ i < 2 ^ n := Nat.pow_lt_pow_right (by decide) (by omega)
      have h1 := (h.ok (2 ^ j) hp (by rw [treeL_len]; omega)).2 (j - i - 1) (by rw [hd]; omega)
      rw [hd, treeL_at hp (by omega), treeL_at hpi (by omega), log_two ⟨i, by omega⟩, log_two ⟨j, by omega⟩] at h1
      exact h1
  · intro h
    refine ⟨treeL_len L n, fun p h1 h2 => ?_⟩
    rw [treeL_len] at h2
    have hlt := log_lt6 ⟨n, by omega⟩ ⟨p, by omega⟩ h1 h2
    simp only at hlt
    have hm : L[Nat.log2 p]?.getD 0 ∈ L := getD_mem (by omega)
    refine ⟨?_, fun j hj => ?_⟩
    · rw [treeL_at h1 h2]
      have := h.rng _ hm
      omega
    · have hj6 : j < 6 := by
        apply Classical.byContradiction
        intro hc
        rw [big_half (by omega) (by omega)] at hj
        omega
      have hle : p / 2 ^ (j + 1) ≤ p := Nat.div_le_self _ _
      have hlg := log_half ⟨p, by omega⟩ ⟨j, hj6⟩ hj
      simp only at hlg
      rw [treeL_at (by omega) (by omega), treeL_at h1 h2]
      exact h.inj _ _ (by omega) (by omega)
theorem treeL_isB {L : List Int} {n : Nat} (hn : n ≤ 6) (hl : L.length = n) : isTB n (treeL L n) = isRB L (n : Int) := by
  rw [Bool.eq_iff_iff, isTB_iff, isRB_iff, treeL_is hn hl]
theorem treeL_get {L : List Int} {k i : Nat} (h : i < (treeL L k).length) : (treeL L k)[i] = L[Nat.log2 (i + 1)]?.getD 0 := by
  have h2 : i < 2 ^ k - 1 := by rw [treeL_len] at h; exact h
  have := treeL_at (L := L) (k := k) (p := i + 1) (by omega) (by omega)
  unfold atP at this
  rw [show i + 1 - 1 = i by omega, List.getElem?_eq_getElem h] at this
  exact this
/-- A number more. -/
theorem treeL_succ {L : List Int} {k : Nat} (hk : k < 6) : treeL L (k + 1) = treeL L k ++ List.replicate (2 ^ k) (L[k]?.getD 0) := by
  have hp : 1 ≤ 2 ^ k := Nat.one_le_two_pow
  have h64 : 2 ^ (k + 1) ≤ 64 := pow_le64 (by omega)
  have hs : 2 ^ (k + 1) = 2 ^ k + 2 ^ k := by rw [Nat.pow_succ]; omega
  apply List.ext_getElem (by rw [List.length_append, treeL_len, treeL_len, List.length_replicate]; omega)
  intro i h1 h2
  rw [treeL_len] at h1
  rw [List.getElem_append]
  split
  · rw [treeL_get, treeL_get]
  · rename_i h3
    rw [treeL_len] at h3
    rw [List.getElem_replicate, treeL_get, log_row ⟨k, hk⟩ ⟨i + 1, by omega⟩ (by simp only; omega) (by simp only; omega)]
theorem treeL_zero (L : List Int) : treeL L 0 = [] := rfl
/-- .. place by place. -/
def dep (q : Nat) : Nat := if q = 0 then 0 else Nat.log2 q + 1
theorem dep_step : ∀ p : Fin 64, 1 ≤ p.val → dep p.val = if p.val &&& (p.val - 1) = 0 then dep (p.val - 1) + 1 else dep (p.val - 1) := by decide +kernel
theorem dep_le : ∀ n : Fin 7, ∀ p : Fin 64, p.val ≤ 2 ^ n.val - 1 → dep p.val ≤ n.val := by decide +kernel
def treeP (L : List Int) (p : Nat) : List Int := (List.range p).map fun i => L[Nat.log2 (i + 1)]?.getD 0
theorem treeP_succ (L : List Int) (p : Nat) : treeP L (p + 1) = treeP L p ++ [L[Nat.log2 (p + 1)]?.getD 0] := by unfold treeP; rw [List.range_succ, List.map_append]; rfl
theorem treeP_len (L : List Int) (p : Nat) : (treeP L p).length = p := by unfold treeP; simp

set_option maxRecDepth 100000 in
set_option maxHeartbeats 4000000 in
theorem treeT_any (n : Nat) (a : Option Addr) (cap : Nat) (T : List Int) (w : World) (hx : SlI w w.heap.size a T) (hl : T.length ≤ 1048576) (hn : n ≤ 6) :
    Calls Tryd.prog 56 #[.int .i64 (n : Int), .slice a T.length cap] w fun e w' => e = .returned (.bool (isTB n T)) ∧ Below w.heap.size w w' := by
  have h64 := pow_le64 hn
  have Hx := hid hx
  have hp1 : 1 ≤ 2 ^ n := Nat.one_le_two_pow
  have hsh : wrap64 (2 ^ n) = ((2 ^ n : Nat) : Int) := by
    rw [wrap64, show ((2 : Int) ^ n) = ((2 ^ n : Nat) : Int) by simp]
    generalize 2 ^ n = z at h64
    omega
  obtain ⟨R, hR⟩ : ∃ R, R = isTB n T := ⟨_, rfl⟩
  have HT : Hid (IsT n T → R = true) := hid (fun h => hR.trans (isTB_true h))
  have HF : Hid (¬ IsT n T → R = false) := hid (fun h => hR.trans (isTB_false h))
  rw [← hR]
  have HI := hid (fun x W => in_any x 0 ((n : Int) - 1) W)
  have hn0 : (0 : Int) ≤ (n : Int) := by omega
  obtain ⟨P, hP⟩ : ∃ P, P = 2 ^ n := ⟨_, rfl⟩
  rw [← hP] at hsh h64 hp1
  have HP := hid hP
  have hs1 : wrap64 ((P : Int) - 1) = (P : Int) - 1 := by rw [wrap64]; omega
  have hs2 : wrap64 ((n : Int) - 1) = (n : Int) - 1 := by rw [wrap64]; omega
  clear hx hR hP
  by_cases hlen : T.length = P - 1
  · have hd : ((T.length : Int) != (P : Int) - 1) = false := by simp; omega
    have Hlen := hid hlen
    clear hlen
    go_enter Tryd.func56, Tryd.ntmps56
    go_wp2_with fail
    clear hd
    rw [hsh]
    clear hsh
    go_loopw [5] (fun iv wx => ∃ p : Nat, 1 ≤ p ∧ p ≤ T.length + 1 ∧ iv = .int .i64 (p : Int) ∧ Hid (∀ q, 1 ≤ q → q < p → okP n T q) ∧ Hid (Below w.heap.size w wx)) (fun iv _ => T.length + 1 - (intOf iv).toNat)
    case atStart => exact ⟨1, Nat.le_refl _, by omega, rfl, hid (fun q h1 h2 => by omega), hid (Below.refl _ _)⟩
    case round =>
      obtain ⟨p, hp0, hp, rfl, HK, HB⟩ := hrel
      by_cases hlt : p ≤ T.length
      · obtain ⟨b, off, hb, rfl, hc⟩ : ∃ b off, b < w.heap.size ∧ a = some ⟨b, off, none⟩ ∧ ∀ i, i < T.length → w.cell? ⟨b, off + i, none⟩ = some (.int .i64 (T[i]?.getD 0)) := by
          rcases Hx.out with h | h
          · rw [h] at hlt; simp at hlt; omega
          · exact h
        obtain ⟨x, hxe⟩ : ∃ x, x = atP T p := ⟨_, rfl⟩
        have hck : wr.cell? ⟨b, off + (p - 1), none⟩ = some (.int .i64 x) := by rw [hxe]; exact (HB.out.cell (p := ⟨b, off + (p - 1), none⟩) hb).trans (hc (p - 1) (by omega))
        have hsub : wrap64 ((p : Int) - 1) = ((p - 1 : Nat) : Int) := by rw [wrap64]; omega
        have hsub2 : IntKind.i64.wrap ((p : Int) - 1) = ((p - 1 : Nat) : Int) := by rw [IntKind.wrap_i64]; omega
        have hi0 : (0 : Int) ≤ ((p - 1 : Nat) : Int) := by omega
        have hi1 : ((p - 1 : Nat) : Int) < (T.length : Int) := by omega
        have hlp : (p : Int) ≤ (T.length : Int) := by omega
        have HIx := hid (HI.out x)
        have Hcl := hid (fun i (h : i < T.length) => (HB.out.cell (p := ⟨b, off + i, none⟩) hb).trans (hc i h))
        have Hxe := hid hxe
        have HB' := hid (fun W (h : Below wr.heap.size wr W) => HB.out.trans (h.mono HB.out.size))
        clear hc hxe
        by_cases hin : 0 ≤ x ∧ x ≤ (n : Int) - 1
        · rw [decide_eq_true hin.1, decide_eq_true hin.2] at HIx
          have Hin := hid hin
          clear hin
          go_wp2_with fail
          refine (HIx.out wr).mono ?_
          rintro e w2 ⟨rfl, rfl⟩
          go_wp2_with fail
          go_loopw [6] (fun qv wx => ∃ j q : Nat, q = p / 2 ^ (j + 1) ∧ qv = .int .i64 (q : Int) ∧ Hid (∀ i, i < j → atP T (p / 2 ^ (i + 1)) ≠ x) ∧ Hid (Below wr.heap.size wr wx)) (fun qv _ => (intOf qv).toNat)
          case atStart => exact ⟨0, p / 2, by simp, by simp, hid (fun i h => absurd h (by omega)), hid (Below.refl _ _)⟩
          case round =>
            obtain ⟨j, q, hq, rfl, HJ, HB2⟩ := hrel
            have hqp : q ≤ p := by rw [hq]; exact Nat.div_le_self _ _
            by_cases hq0 : 0 < q
            · have hqp2 : q ≤ T.length := by omega
              have hg0 : decide (0 < q) = true := decide_eq_true hq0
              have hg1 : (0 : Int) < (q : Int) := by omega
              have c0 := (HB2.out.cell (p := ⟨b, off + (p - 1), none⟩) (by have := HB.out.size; simp only; omega)).trans hck
              have c1 := (HB2.out.cell (p := ⟨b, off + (q - 1), none⟩) (by have := HB.out.size; simp only; omega)).trans (Hcl.out (q - 1) (by omega))
              obtain ⟨y, hye⟩ : ∃ y, y = atP T q := ⟨_, rfl⟩
              have c1' : ∀ z, z = T[q - 1]?.getD 0 → z = y := fun z hz => by rw [hz, hye]; rfl
              rw [c1' _ rfl] at c1
              have hqs : wrap64 ((q : Int) - 1) = ((q - 1 : Nat) : Int) := by rw [wrap64]; omega
              have hqs2 : IntKind.i64.wrap ((q : Int) - 1) = ((q - 1 : Nat) : Int) := by rw [IntKind.wrap_i64]; omega
              have hj0 : (0 : Int) ≤ ((q - 1 : Nat) : Int) := by omega
              have hj1 : ((q - 1 : Nat) : Int) < (T.length : Int) := by omega
              have Hq := hid hq
              have Hye := hid hye
              clear hq hye c1'
              by_cases hxy : y = x
              · have hd2 : (y == x) = true := by simp [hxy]
                have He : Hid (R = false) := hid (HF.out (fun h => (h.ok p hp0 hlt).2 j (by rw [← Hq.out]; exact hq0) (by rw [← Hq.out, ← Hye.out, ← Hxe.out]; exact hxy)))
                clear hxy
                go_wp2_with fail
                go_quiet (fail)
                go_wp2_with fail
                go_ret
                exact ⟨ret_bool He.out.symm, (HB'.out _ HB2.out).trans ⟨rfl, rfl, rfl, Nat.le_refl _, fun _ _ => rfl⟩⟩
              · have hd2 : (y == x) = false := by simpa using hxy
                have HJ2 : Hid (∀ i, i < j + 1 → atP T (p / 2 ^ (i + 1)) ≠ x) := hid (fun i hi => by
                  by_cases e : i = j
                  · subst e; rw [← Hq.out, ← Hye.out]; exact hxy
                  · exact HJ.out i (by omega))
                have hhalf : q / 2 = p / 2 ^ (j + 1 + 1) := by rw [Hq.out, Nat.pow_succ _ (j + 1), Nat.div_div_eq_div_mul]
                have Hhalf := hid hhalf
                clear hxy hhalf
                go_wp2_with fail
                go_quiet (fail)
                go_wp2_with fail
                go_roundw
                case rel => exact ⟨j + 1, q / 2, Hhalf.out, by simp, HJ2, hid (HB2.out.trans ⟨rfl, rfl, rfl, Nat.le_refl _, fun _ _ => rfl⟩)⟩
                case measure => simp [intOf]; omega
            · obtain rfl : q = 0 := by omega
              have HK2 : Hid (∀ q, 1 ≤ q → q < p + 1 → okP n T q) := hid (fun q h1 h2 => by
                by_cases e : q = p
                · subst e
                  refine ⟨by rw [← Hxe.out]; exact Hin.out, fun i hi => ?_⟩
                  rw [← Hxe.out]
                  by_cases hij : i < j
                  · exact HJ.out i hij
                  · have h0 : q / 2 ^ (i + 1) ≤ q / 2 ^ (j + 1) := Nat.div_le_div_left (Nat.pow_le_pow_right (by decide) (by omega)) (Nat.two_pow_pos _)
                    omega
                · exact HK.out q h1 (by omega))
              clear hq hqp hsub hsub2 hck
              go_wp2_with fail
              go_roundw
              case rel => exact ⟨p + 1, by omega, by omega, by go_num, HK2, hid (HB'.out _ HB2.out)⟩
              case measure => simp [intOf]; omega
        · have hf : (decide (0 ≤ x) && decide (x ≤ (n : Int) - 1)) = false := by simp; omega
          rw [hf] at HIx
          have He : Hid (R = false) := hid (HF.out (fun h => hin (by have := (h.ok p hp0 hlt).1; rw [← Hxe.out] at this; exact this)))
          clear hin hf
          go_wp2_with fail
          refine (HIx.out wr).mono ?_
          rintro e w2 ⟨rfl, rfl⟩
          go_wp2_with fail
          go_ret
          exact ⟨ret_bool He.out.symm, HB.out⟩
      · have He : Hid (R = true) := hid (HT.out ⟨by rw [Hlen.out, HP.out], fun q h1 h2 => HK.out q h1 (by omega)⟩)
        have hlp : ¬ (p : Int) ≤ (T.length : Int) := by omega
        go_wp2_with fail
        go_ret
        exact ⟨ret_bool He.out.symm, HB.out⟩
  · have hd : ((T.length : Int) != (P : Int) - 1) = true := by simp; omega
    have He : Hid (R = false) := hid (HF.out (fun h => hlen (by rw [h.len, HP.out])))
    clear hlen
    go_enter Tryd.func56, Tryd.ntmps56
    go_wp2_with fail
    go_ret
    exact ⟨ret_bool He.out.symm, Below.refl _ _⟩

end Go.Proofs.YtppnahgiekjbnaaDoor

/-! Hidden sets behind some answers, as mathematics: what is told, the questions that are needed, the evaders. -/
namespace Go.Proofs.YtppnahgiekjbnaaDoor
open Go.RowKit

/-- A hidden set has the numbers of a, and none of o. -/
def inS (V a o h : Nat) : Bool := decide (h < 2 ^ V) && (h &&& a == a) && (h &&& o == 0)
/-- A hidden set counts. -/
def cnt (fs : List Int) (h : Nat) : Bool := h == 0 || decide ((h : Int) ∈ fs)
def allC (fs : List Int) (V a o : Nat) : Bool := (List.range 64).all fun h => !inS V a o h || cnt fs h
def noneC (fs : List Int) (V a o : Nat) : Bool := (List.range 64).all fun h => !inS V a o h || !cnt fs h
def toldB (fs : List Int) (V a o : Nat) : Bool := allC fs V a o || noneC fs V a o

/-- The number of questions that are needed, with m numbers not asked for. -/
def need (fs : List Int) (V : Nat) : Nat → Nat → Nat → Nat
  | 0, _, _ => 0
  | m + 1, a, o => if toldB fs V a o then 0 else (List.range V).foldl (fun b v => if (a ||| o).testBit v then b else min b (1 + max (need fs V m (a ||| 2 ^ v) o) (need fs V m a (o ||| 2 ^ v)))) V
/-- The least number of evaders. -/
def least (fs : List Int) (V : Nat) : Nat → Nat → Nat → Nat
  | 0, _, _ => 0
  | m + 1, a, o => if toldB fs V a o then 0 else if m = 0 then 2 else (List.range V).foldl (fun b v => if (a ||| o).testBit v then b else min b (least fs V m (a ||| 2 ^ v) o + least fs V m a (o ||| 2 ^ v))) 64

/-- Some answers: the numbers asked for, with yes and with no; m are left. -/
structure St (V m a o : Nat) : Prop where
  le : V ≤ 6
  alt : a < 64
  olt : o < 64
  lt : a ||| o < 2 ^ V
  dis : ∀ v, a.testBit v = true → o.testBit v = false
  cnt : ones (a ||| o) + m = V

theorem ones_or : ∀ x : Fin 64, ∀ v : Fin 6, (x.val ||| 2 ^ v.val < 64) ∧ ones (x.val ||| 2 ^ v.val) = if x.val.testBit v.val then ones x.val else ones x.val + 1 := by decide +kernel
theorem full_or : ∀ V : Fin 7, ∀ x : Fin 64, x.val < 2 ^ V.val → ones x.val = V.val → x.val = 2 ^ V.val - 1 := by decide +kernel
theorem ones_lt : ∀ V : Fin 7, ∀ x : Fin 64, x.val < 2 ^ V.val → ones x.val ≤ V.val := by decide +kernel

theorem St.olt2 {V m a o : Nat} (h : St V m a o) : a ||| o < 64 := Nat.or_lt_two_pow (n := 6) h.alt h.olt
theorem two_lt {v V : Nat} (h : v < V) : 2 ^ v < 2 ^ V := Nat.pow_lt_pow_right (by decide) h
theorem tb_two (v i : Nat) : (2 ^ v).testBit i = decide (v = i) := by
  rw [Nat.testBit_two_pow]
/-- One question more. -/
theorem St.step {V m a o v : Nat} (h : St V m a o) (hv : v < V) (hf : (a ||| o).testBit v = false) : ∃ k, m = k + 1 ∧ St V k (a ||| 2 ^ v) o ∧ St V k a (o ||| 2 ^ v) := by
  have h6 := h.le
  have hx := ones_or ⟨a ||| o, h.olt2⟩ ⟨v, by omega⟩
  simp only [hf] at hx
  have hv64 : 2 ^ v < 64 := by have := two_lt (V := 6) (show v < 6 by omega); omega
  have e1 : (a ||| 2 ^ v) ||| o = (a ||| o) ||| 2 ^ v := by rw [Nat.or_assoc, Nat.or_comm (2 ^ v) o, ← Nat.or_assoc]
  have e2 : a ||| (o ||| 2 ^ v) = (a ||| o) ||| 2 ^ v := by rw [Nat.or_assoc]
  have hlt : (a ||| o) ||| 2 ^ v < 2 ^ V := Nat.or_lt_two_pow h.lt (two_lt hv)
  have hle := ones_lt ⟨V, by omega⟩ ⟨(a ||| o) ||| 2 ^ v, hx.1⟩ hlt
  have hc := h.cnt
  have h2 := hx.2
  simp only [Bool.false_eq_true, if_false] at h2
  simp only at hle
  have ha := Nat.or_lt_two_pow (n := 6) h.alt hv64
  have ho := Nat.or_lt_two_pow (n := 6) h.olt hv64
  have hfa : a.testBit v = false ∧ o.testBit v = false := by rw [Nat.testBit_or] at hf; simpa using hf
  refine ⟨m - 1, by omega, ⟨h6, ha, h.olt, by rw [e1]; exact hlt, fun i hi => ?_, by rw [e1]; omega⟩, ⟨h6, h.alt, ho, by rw [e2]; exact hlt, fun i hi => ?_, by rw [e2]; omega⟩⟩
  · rw [Nat.testBit_or, tb_two] at hi
    by_cases e : v = i
    · subst e; exact hfa.2
    · exact h.dis i (by simpa [e] using hi)
  · rw [Nat.testBit_or, tb_two]
    by_cases e : v = i
    · subst e; rw [hfa.1] at hi; exact absurd hi (by decide)
    · simp [e, h.dis i hi]
theorem St.start {V : Nat} (h : V ≤ 6) : St V V 0 0 := ⟨h, by decide, by decide, Nat.two_pow_pos V, fun v hv => by simp at hv, by simp [ones]⟩

/-- A set's members as a hidden set. -/
theorem inS_iff {V a o h : Nat} : inS V a o h = true ↔ h < 2 ^ V ∧ (∀ i, a.testBit i = true → h.testBit i = true) ∧ (∀ i, o.testBit i = true → h.testBit i = false) := by
  unfold inS
  simp only [Bool.and_eq_true, decide_eq_true_eq, beq_iff_eq]
  constructor
  · rintro ⟨⟨h1, h2⟩, h3⟩
    refine ⟨h1, fun i hi => ?_, fun i hi => ?_⟩
    · rw [← h2, Nat.testBit_and] at hi
      exact (Bool.and_eq_true _ _ ▸ hi).1
    · have := congrArg (fun x => x.testBit i) h3
      simp only [Nat.testBit_and, hi, Bool.and_true, Nat.zero_testBit] at this
      exact this
  · rintro ⟨h1, h2, h3⟩
    refine ⟨⟨h1, ?_⟩, ?_⟩
    · apply Nat.eq_of_testBit_eq
      intro i
      rw [Nat.testBit_and]
      cases e : a.testBit i
      · simp
      · simp [h2 i e]
    · apply Nat.eq_of_testBit_eq
      intro i
      rw [Nat.testBit_and, Nat.zero_testBit]
      cases e : o.testBit i
      · simp
      · simp [h3 i e]
theorem inS_lt {V a o h : Nat} (hV : V ≤ 6) (hi : inS V a o h = true) : h < 64 := Nat.lt_of_lt_of_le (inS_iff.1 hi).1 (show 2 ^ V ≤ 2 ^ 6 from Nat.pow_le_pow_right (by decide) hV)
theorem inS_self {V m a o : Nat} (h : St V m a o) : inS V a o a = true := inS_iff.2 ⟨Nat.lt_of_le_of_lt Nat.left_le_or h.lt, fun _ hi => hi, fun i hi => by
  cases e : a.testBit i
  · rfl
  · rw [h.dis i e] at hi; exact absurd hi (by decide)⟩
theorem inS_yes {V a o v h : Nat} : inS V (a ||| 2 ^ v) o h = (inS V a o h && h.testBit v) := by
  rw [Bool.eq_iff_iff, Bool.and_eq_true, inS_iff, inS_iff]
  constructor
  · rintro ⟨h1, h2, h3⟩
    exact ⟨⟨h1, fun i hi => h2 i (by rw [Nat.testBit_or, hi, Bool.true_or]), h3⟩, h2 v (by rw [Nat.testBit_or, tb_two]; simp)⟩
  · rintro ⟨⟨h1, h2, h3⟩, h4⟩
    refine ⟨h1, fun i hi => ?_, h3⟩
    rw [Nat.testBit_or, tb_two] at hi
    by_cases e : v = i
    · subst e; exact h4
    · exact h2 i (by simpa [e] using hi)
theorem inS_no {V a o v h : Nat} : inS V a (o ||| 2 ^ v) h = (inS V a o h && !h.testBit v) := by
  rw [Bool.eq_iff_iff, Bool.and_eq_true, inS_iff, inS_iff]
  constructor
  · rintro ⟨h1, h2, h3⟩
    exact ⟨⟨h1, h2, fun i hi => h3 i (by rw [Nat.testBit_or, hi, Bool.true_or])⟩, by rw [h3 v (by rw [Nat.testBit_or, tb_two]; simp)]; rfl⟩
  · rintro ⟨⟨h1, h2, h3⟩, h4⟩
    refine ⟨h1, h2, fun i hi => ?_⟩
    rw [Nat.testBit_or, tb_two] at hi
    by_cases e : v = i
    · subst e; simpa using h4
    · exact h3 i (by simpa [e] using hi)

theorem allC_iff {fs : List Int} {V a o : Nat} (hV : V ≤ 6) : allC fs V a o = true ↔ ∀ h, inS V a o h = true → cnt fs h = true := by
  unfold allC
  rw [List.all_eq_true]
  constructor
  · intro H h hi
    have := H h (by simpa using inS_lt hV hi)
    simpa [hi] using this
  · intro H h _
    cases e : inS V a o h
    · simp
    · simp [H h e]
theorem noneC_iff {fs : List Int} {V a o : Nat} (hV : V ≤ 6) : noneC fs V a o = true ↔ ∀ h, inS V a o h = true → cnt fs h = false := by
  unfold noneC
  rw [List.all_eq_true]
  constructor
  · intro H h hi
    have := H h (by simpa using inS_lt hV hi)
    simpa [hi] using this
  · intro H h _
    cases e : inS V a o h
    · simp
    · simp [H h e]
/-- With nothing left all is told. -/
theorem told_zero {fs : List Int} {V a o : Nat} (h : St V 0 a o) : toldB fs V a o = true := by
  have hV := h.le
  have e := full_or ⟨V, by omega⟩ ⟨a ||| o, h.olt2⟩ h.lt (by have := h.cnt; simpa using this)
  simp only at e
  have one : ∀ x, inS V a o x = true → x = a := by
    intro x hx
    obtain ⟨h1, h2, h3⟩ := inS_iff.1 hx
    apply Nat.eq_of_testBit_eq
    intro i
    by_cases hi : i < V
    · have hb : (a ||| o).testBit i = true := by rw [e, Nat.testBit_two_pow_sub_one]; simpa using hi
      rw [Nat.testBit_or] at hb
      cases ea : a.testBit i
      · rw [ea, Bool.false_or] at hb
        exact h3 i hb
      · exact h2 i ea
    · have hx1 : x.testBit i = false := Nat.testBit_lt_two_pow (Nat.lt_of_lt_of_le h1 (Nat.pow_le_pow_right (by decide) (by omega)))
      have hx2 : a.testBit i = false := Nat.testBit_lt_two_pow (Nat.lt_of_lt_of_le (Nat.lt_of_le_of_lt Nat.left_le_or h.lt) (Nat.pow_le_pow_right (by decide) (by omega)))
      rw [hx1, hx2]
  unfold toldB
  cases hc : cnt fs a
  · rw [(noneC_iff hV).2 (fun x hx => by rw [one x hx]; exact hc), Bool.or_true]
  · rw [(allC_iff hV).2 (fun x hx => by rw [one x hx]; exact hc), Bool.true_or]
theorem need_told {fs : List Int} {V m a o : Nat} (h : toldB fs V a o = true) : need fs V m a o = 0 := by
  cases m with
  | zero => rfl
  | succ m => unfold need; rw [if_pos h]
theorem least_told {fs : List Int} {V m a o : Nat} (h : toldB fs V a o = true) : least fs V m a o = 0 := by
  cases m with
  | zero => rfl
  | succ m => unfold least; rw [if_pos h]

/-- The least so far, over the first k numbers. -/
def needTo (fs : List Int) (V m a o k : Nat) : Nat := (List.range k).foldl (fun b v => if (a ||| o).testBit v then b else min b (1 + max (need fs V m (a ||| 2 ^ v) o) (need fs V m a (o ||| 2 ^ v)))) V
theorem needTo_zero (fs : List Int) (V m a o : Nat) : needTo fs V m a o 0 = V := rfl
theorem needTo_succ (fs : List Int) (V m a o k : Nat) : needTo fs V m a o (k + 1) = if (a ||| o).testBit k then needTo fs V m a o k else min (needTo fs V m a o k) (1 + max (need fs V m (a ||| 2 ^ k) o) (need fs V m a (o ||| 2 ^ k))) := by
  unfold needTo
  rw [List.range_succ, List.foldl_append]
  rfl
theorem needTo_le (fs : List Int) (V m a o : Nat) : ∀ k, needTo fs V m a o k ≤ V
  | 0 => Nat.le_refl _
  | k + 1 => by
    rw [needTo_succ]
    have := needTo_le fs V m a o k
    split <;> omega
theorem need_full {fs : List Int} {V m a o : Nat} (h : toldB fs V a o = false) : need fs V (m + 1) a o = needTo fs V m a o V := by
  unfold need
  rw [if_neg (by simp [h])]
  rfl
theorem need_le (fs : List Int) (V m a o : Nat) : need fs V m a o ≤ V := by
  cases m with
  | zero => exact Nat.zero_le _
  | succ m =>
    cases h : toldB fs V a o
    · rw [need_full h]; exact needTo_le ..
    · rw [need_told h]; exact Nat.zero_le _

/-! ## Sets of hidden sets as digits -/

/-- L has the digit h exactly if the hidden set h is left. -/
def IsL (V a o L : Nat) : Prop := L < 2 ^ 64 ∧ ∀ h, h < 64 → L.testBit h = inS V a o h
/-- C has the digit h exactly if the hidden set h counts. -/
def IsK (fs : List Int) (C : Nat) : Prop := C < 2 ^ 64 ∧ ∀ h, h < 64 → C.testBit h = cnt fs h
def wN (v : Nat) : Nat := [12297829382473034410, 14757395258967641292, 17361641481138401520, 18374966859414961920, 18446462603027742720, 18446744069414584320].getD v 0
theorem wN_bit : ∀ v : Fin 6, ∀ h : Fin 64, (wN v.val).testBit h.val = h.val.testBit v.val := by decide +kernel
theorem wN_lt : ∀ v : Fin 6, wN v.val < 2 ^ 64 := by decide +kernel
/-- What is in x and not in y. -/
def andN (x y : Nat) : Nat := x &&& (2 ^ 64 - (y + 1))
theorem andN_bit {x y h : Nat} (hy : y < 2 ^ 64) (hh : h < 64) : (andN x y).testBit h = (x.testBit h && !y.testBit h) := by
  unfold andN
  rw [Nat.testBit_and, Nat.testBit_two_pow_sub_succ hy]
  simp [hh]
theorem andN_lt {x y : Nat} (hx : x < 2 ^ 64) : andN x y < 2 ^ 64 := Nat.lt_of_le_of_lt Nat.and_le_left hx
theorem eq_zero_iff {x : Nat} (hx : x < 2 ^ 64) : x = 0 ↔ ∀ h, h < 64 → x.testBit h = false := by
  constructor
  · rintro rfl h _; simp
  · intro H
    apply Nat.eq_of_testBit_eq
    intro i
    rw [Nat.zero_testBit]
    by_cases hi : i < 64
    · exact H i hi
    · exact Nat.testBit_lt_two_pow (Nat.lt_of_lt_of_le hx (Nat.pow_le_pow_right (by decide) (by omega)))
theorem IsL.yes {V a o L v : Nat} (h : IsL V a o L) (hv : v < 6) : IsL V (a ||| 2 ^ v) o (L &&& wN v) :=
  ⟨Nat.lt_of_le_of_lt Nat.and_le_left h.1, fun x hx => by rw [Nat.testBit_and, h.2 x hx, inS_yes, wN_bit ⟨v, hv⟩ ⟨x, hx⟩]⟩
theorem IsL.no {V a o L v : Nat} (h : IsL V a o L) (hv : v < 6) : IsL V a (o ||| 2 ^ v) (andN L (wN v)) :=
  ⟨andN_lt h.1, fun x hx => by rw [andN_bit (wN_lt ⟨v, hv⟩) hx, h.2 x hx, inS_no, wN_bit ⟨v, hv⟩ ⟨x, hx⟩]⟩
theorem IsL.ne {V m a o L : Nat} (h : IsL V a o L) (hs : St V m a o) : L ≠ 0 := fun e => by
  have h1 := h.2 a hs.alt
  rw [inS_self hs, e] at h1
  simp at h1
theorem IsL.zero {V a o L v : Nat} (h : IsL V a o L) (h1 : a.testBit v = true) (h2 : o.testBit v = true) : L = 0 := (eq_zero_iff h.1).2 fun x hx => by
  rw [h.2 x hx]
  cases e : inS V a o x
  · rfl
  · obtain ⟨_, h3, h4⟩ := inS_iff.1 e
    have := h3 v h1
    rw [h4 v h2] at this
    exact absurd this (by decide)
/-- Both answers are possible exactly if the question has not been asked. -/
theorem split_free {V m a o L v : Nat} (hs : St V m a o) (h : IsL V a o L) (hv : v < V) (hf : (a ||| o).testBit v = false) : andN L (wN v) ≠ 0 ∧ L &&& wN v ≠ 0 := by
  obtain ⟨k, _, h1, h2⟩ := hs.step hv hf
  have := hs.le
  exact ⟨(h.no (by omega)).ne h2, (h.yes (by omega)).ne h1⟩
theorem split_not {V m a o L v : Nat} (hs : St V m a o) (h : IsL V a o L) (hv : v < V) (hf : (a ||| o).testBit v = true) : andN L (wN v) = 0 ∨ L &&& wN v = 0 := by
  have h6 := hs.le
  rw [Nat.testBit_or, Bool.or_eq_true] at hf
  rcases hf with hf | hf
  · exact .inl ((h.no (v := v) (by omega)).zero hf (by rw [Nat.testBit_or, tb_two]; simp))
  · exact .inr ((h.yes (v := v) (by omega)).zero (by rw [Nat.testBit_or, tb_two]; simp) hf)
theorem told_none {fs : List Int} {V a o L C : Nat} (hV : V ≤ 6) (h : IsL V a o L) (hC : IsK fs C) : (L &&& C == 0) = noneC fs V a o := by
  rw [Bool.eq_iff_iff, beq_iff_eq, noneC_iff hV, eq_zero_iff (Nat.lt_of_le_of_lt Nat.and_le_left h.1)]
  constructor
  · intro H x hx
    have hx64 := inS_lt hV hx
    have := H x hx64
    rw [Nat.testBit_and, h.2 x hx64, hC.2 x hx64, hx, Bool.true_and] at this
    exact this
  · intro H x hx
    rw [Nat.testBit_and, h.2 x hx, hC.2 x hx]
    cases e : inS V a o x
    · rfl
    · rw [H x e]; rfl
theorem told_all {fs : List Int} {V a o L C : Nat} (hV : V ≤ 6) (h : IsL V a o L) (hC : IsK fs C) : (andN L C == 0) = allC fs V a o := by
  rw [Bool.eq_iff_iff, beq_iff_eq, allC_iff hV, eq_zero_iff (andN_lt h.1)]
  constructor
  · intro H x hx
    have hx64 := inS_lt hV hx
    have := H x hx64
    rw [andN_bit hC.1 hx64, h.2 x hx64, hC.2 x hx64, hx, Bool.true_and] at this
    simpa using this
  · intro H x hx
    rw [andN_bit hC.1 hx, h.2 x hx, hC.2 x hx]
    cases e : inS V a o x
    · rfl
    · rw [H x e]; rfl

theorem and_int6 {x y : Nat} (hx : x < 64) (hy : y < 64) : bits BinOp.and IntKind.i64 (x : Int) (y : Int) = ((x &&& y : Nat) : Int) := (bits_nat .i64 6 (by decide) (fun n h0 h1 => by rw [IntKind.wrap_i64]; omega) x y (by omega) (by omega)).1
theorem or_int6 {x y : Nat} (hx : x < 64) (hy : y < 64) : bits BinOp.or IntKind.i64 (x : Int) (y : Int) = ((x ||| y : Nat) : Int) := (bits_nat .i64 6 (by decide) (fun n h0 h1 => by rw [IntKind.wrap_i64]; omega) x y (by omega) (by omega)).2
theorem and_u64 {x y : Nat} (hx : x < 2 ^ 64) (hy : y < 2 ^ 64) : bits BinOp.and IntKind.u64 (x : Int) (y : Int) = ((x &&& y : Nat) : Int) :=
  (bits_nat .u64 64 (by decide) (fun n h0 h1 => by rw [IntKind.wrap_u64]; omega) x y hx hy).1
theorem or_u64 {x y : Nat} (hx : x < 2 ^ 64) (hy : y < 2 ^ 64) : bits BinOp.or IntKind.u64 (x : Int) (y : Int) = ((x ||| y : Nat) : Int) :=
  (bits_nat .u64 64 (by decide) (fun n h0 h1 => by rw [IntKind.wrap_u64]; omega) x y hx hy).2
theorem andN_u64 {x y : Nat} (hx : x < 2 ^ 64) (hy : y < 2 ^ 64) : bits BinOp.andNot IntKind.u64 (x : Int) (y : Int) = ((andN x y : Nat) : Int) := by
  have ex : x % 2 ^ 64 = x := Nat.mod_eq_of_lt hx
  have ey : y % 2 ^ 64 = y := Nat.mod_eq_of_lt hy
  have e : (BitVec.ofNat 64 x &&& ~~~(BitVec.ofNat 64 y)).toNat = andN x y := by
    rw [BitVec.toNat_and, BitVec.toNat_not, BitVec.toNat_ofNat, BitVec.toNat_ofNat, ex, ey]
    unfold andN
    rw [show 2 ^ 64 - 1 - y = 2 ^ 64 - (y + 1) by omega]
  have hlt := andN_lt (y := y) hx
  simp only [bits, BitVec.ofInt_natCast]
  show IntKind.u64.wrap (((BitVec.ofNat 64 x &&& ~~~(BitVec.ofNat 64 y)).toNat : Nat) : Int) = _
  rw [e, IntKind.wrap_u64]
  omega

end Go.Proofs.YtppnahgiekjbnaaDoor

/-! The way that a tree asks for a hidden set, as mathematics. -/
namespace Go.Proofs.YtppnahgiekjbnaaDoor
open Go.RowKit

/-- The places on the way; the questions there; the answers. -/
def plA (T : List Int) (h : Nat) : Nat → Nat
  | 0 => 1
  | i + 1 => 2 * plA T h i + (h >>> (atP T (plA T h i)).toNat) % 2
def qsA (T : List Int) (h i : Nat) : Nat := (atP T (plA T h i)).toNat
def ansA (T : List Int) (h i : Nat) : Nat := (h >>> qsA T h i) % 2
theorem plA_succ (T : List Int) (h i : Nat) : plA T h (i + 1) = 2 * plA T h i + ansA T h i := rfl
def wayL (T : List Int) (h k : Nat) : List Int := (List.range k).map fun i => atP T (plA T h i)
theorem wayL_len (T : List Int) (h k : Nat) : (wayL T h k).length = k := by unfold wayL; simp
theorem wayL_succ (T : List Int) (h k : Nat) : wayL T h (k + 1) = wayL T h k ++ [atP T (plA T h k)] := by unfold wayL; rw [List.range_succ, List.map_append]; rfl
theorem wayL_at (T : List Int) (h : Nat) {k i : Nat} (hi : i < k) : (wayL T h k)[i]?.getD 0 = atP T (plA T h i) := by unfold wayL; simp [hi]
theorem wayL_take (T : List Int) (h : Nat) {k m : Nat} (hm : m ≤ k) : (wayL T h k).take m = wayL T h m := by
  unfold wayL
  rw [← List.map_take, List.take_range, Nat.min_eq_left hm]
theorem plA_in (T : List Int) (h : Nat) : ∀ i, 2 ^ i ≤ plA T h i ∧ plA T h i < 2 ^ (i + 1)
  | 0 => by simp [plA]
  | i + 1 => by
    have ih := plA_in T h i
    have e1 : 2 ^ (i + 1) = 2 * 2 ^ i := by rw [Nat.pow_succ]; omega
    have e2 : 2 ^ (i + 1 + 1) = 2 * 2 ^ (i + 1) := by rw [Nat.pow_succ]; omega
    have hm : (h >>> (atP T (plA T h i)).toNat) % 2 < 2 := Nat.mod_lt _ (by decide)
    unfold plA
    omega
theorem ansA_lt (T : List Int) (h i : Nat) : ansA T h i < 2 := Nat.mod_lt _ (by decide)
theorem shr_one : ∀ h : Fin 64, ∀ v : Fin 6, bits BinOp.and IntKind.i64 (((h.val >>> v.val : Nat) : Int)) 1 = (((h.val >>> v.val) % 2 : Nat) : Int) := by decide +kernel
theorem shr_int (h q : Nat) (hh : h < 64) (hq : q < 6) : bits BinOp.and IntKind.i64 ((h : Int) / 2 ^ q) 1 = (((h >>> q) % 2 : Nat) : Int) := by
  have e : (h : Int) / 2 ^ q = ((h >>> q : Nat) : Int) := by rw [Nat.shiftRight_eq_div_pow, Int.natCast_ediv, Int.natCast_pow]; rfl
  rw [e]
  exact shr_one ⟨h, hh⟩ ⟨q, hq⟩
theorem and_two : ∀ h : Fin 64, ∀ v : Fin 6, (h.val &&& 2 ^ v.val != 0) = ((h.val >>> v.val) % 2 == 1) := by decide +kernel

/-- What is known behind i answers: the numbers in the hidden set, and those that aren't. -/
def asA (T : List Int) (h : Nat) : Nat → Nat × Nat
  | 0 => (0, 0)
  | i + 1 => if ansA T h i = 1 then ((asA T h i).1 ||| 2 ^ qsA T h i, (asA T h i).2) else ((asA T h i).1, (asA T h i).2 ||| 2 ^ qsA T h i)
def tolA (fs : List Int) (V : Nat) (T : List Int) (h i : Nat) : Bool := toldB fs V (asA T h i).1 (asA T h i).2
/-- The number of questions that are needed. -/
def neededN (fs : List Int) (V : Nat) (T : List Int) (h : Nat) : Nat := ((List.range V).find? fun i => tolA fs V T h i).getD V
theorem needed_none {fs : List Int} {V : Nat} {T : List Int} {h : Nat} (hn : ∀ i, i < V → tolA fs V T h i = false) : neededN fs V T h = V := by
  unfold neededN
  rw [List.find?_eq_none.2 fun x hx => by rw [hn x (List.mem_range.1 hx)]; simp]
  rfl
theorem needed_some {fs : List Int} {V : Nat} {T : List Int} {h k : Nat} (hk : k < V) (hn : ∀ i, i < k → tolA fs V T h i = false) (h1 : tolA fs V T h k = true) : neededN fs V T h = k := by
  unfold neededN
  have : (List.range V).find? (fun i => tolA fs V T h i) = some k := by
    rw [List.find?_eq_some_iff_getElem]
    refine ⟨h1, k, by simpa using hk, by simp, fun j hj => ?_⟩
    rw [List.getElem_range, hn j hj]
    rfl
  rw [this]
  rfl
theorem needed_le (fs : List Int) (V : Nat) (T : List Int) (h : Nat) : neededN fs V T h ≤ V := by
  unfold neededN
  cases hq : (List.range V).find? fun i => tolA fs V T h i with
  | none => simp
  | some k =>
    have := List.mem_range.1 (List.mem_of_find?_eq_some hq)
    simp
    omega

theorem way_ok {n : Nat} {T : List Int} (hT : IsT n T) (h : Nat) {k : Nat} (hk : k < n) : 1 ≤ plA T h k ∧ plA T h k ≤ T.length ∧ atP T (plA T h k) = (qsA T h k : Int) ∧ qsA T h k < n := by
  obtain ⟨l1, l2⟩ := plA_in T h k
  have hp0 : 1 ≤ 2 ^ k := Nat.one_le_two_pow
  have hpk : 2 ^ (k + 1) ≤ 2 ^ n := Nat.pow_le_pow_right (by decide) hk
  have hl := hT.len
  have h1 : plA T h k ≤ T.length := by omega
  have hok := (hT.ok (plA T h k) (by omega) h1).1
  refine ⟨by omega, h1, ?_, ?_⟩ <;> unfold qsA <;> omega
theorem asA_lt {n : Nat} {T : List Int} (hT : IsT n T) (h6 : n ≤ 6) (h : Nat) : ∀ k, k ≤ n → (asA T h k).1 < 64 ∧ (asA T h k).2 < 64
  | 0, _ => by simp [asA]
  | k + 1, hk => by
    obtain ⟨i1, i2⟩ := asA_lt hT h6 h k (by omega)
    have hq := (way_ok hT h (show k < n by omega)).2.2.2
    have h2 : 2 ^ qsA T h k < 2 ^ 6 := Nat.pow_lt_pow_right (by decide) (by omega)
    unfold asA
    split
    · exact ⟨Nat.or_lt_two_pow (n := 6) i1 h2, i2⟩
    · exact ⟨i1, Nat.or_lt_two_pow (n := 6) i2 h2⟩

end Go.Proofs.YtppnahgiekjbnaaDoor

/-! The faces as keys of a map: the program's facesHaving. -/
namespace Go.Proofs.YtppnahgiekjbnaaDoor
open Go.RowKit

theorem wf_face {x : Int} (h0 : 1 ≤ x) (h1 : x ≤ 63) : (Lit.int .i64 x).wf = true := WalkArith.wf_i64 (by omega)

/-- The map of faces. -/
def MapW (w' : World) (b n : Nat) (fs : List Int) : Prop := w'.ownsMap Tryd.prog 2 (plainElem (H := Unit) Tryd.prog 4) b n (knownD fs)

theorem MapW.later {w w' : World} {b n : Nat} {fs : List Int} (h : MapW w b n fs) (hB : Below w.heap.size w w') : MapW w' b n fs :=
  World.ownsMap.kept h (row := none) ⟨hB.os, hB.tape, hB.output, hB.size, fun k hk _ => hB.block k hk⟩ (by simp)

theorem MapW.lt {w : World} {b n : Nat} {fs : List Int} (h : MapW w b n fs) : b < w.heap.size := World.ownsMap.lt h


/-! The model's test of a face. -/

end Go.Proofs.YtppnahgiekjbnaaDoor

/-! The program's trees: questions that can stand at a place. -/
namespace Go.Proofs.YtppnahgiekjbnaaDoor
open Go.RowKit

/-- The cells of a tree of n: its places from 0 on. -/
def tcells (n : Int) (T : List Int) : List Value := .int .i64 n :: T.map (Value.int .i64)
/-- The question at a place of a padded list can stand there. -/
def canP (n : Int) (T : List Int) (p : Nat) : Prop := (∀ j, 0 < p / 2 ^ (j + 1) → T[p / 2 ^ (j + 1)]?.getD 0 ≠ T[p]?.getD 0) ∧ 0 ≤ T[p]?.getD 0 ∧ T[p]?.getD 0 < n
noncomputable def canB (n : Int) (T : List Int) (p : Nat) : Bool := @decide (canP n T p) (Classical.propDecidable _)
theorem canB_true {n : Int} {T : List Int} {p : Nat} (h : canP n T p) : canB n T p = true := @decide_eq_true _ (Classical.propDecidable _) h
theorem canB_false {n : Int} {T : List Int} {p : Nat} (h : ¬ canP n T p) : canB n T p = false := @decide_eq_false _ (Classical.propDecidable _) h
theorem canB_iff {n : Int} {T : List Int} {p : Nat} : canB n T p = true ↔ canP n T p := @decide_eq_true_iff _ (Classical.propDecidable _)

theorem tree_cells {w : World} {b : Nat} {n : Int} {T : List Int} {t : TypeId} (h : w.heap[b]? = some (.cells (tcells n T).toArray t (0, 0))) : w.cell? ⟨b, 0, none⟩ = some (.int .i64 n) ∧ ∀ p, p < T.length → w.cell? ⟨b, 1 + p, none⟩ = some (.int .i64 (T[p]?.getD 0)) := by
  refine ⟨by rw [cell_of_row w b 0 _ _ (0, 0) h]; rfl, fun p hp => ?_⟩
  rw [cell_of_row w b (1 + p) _ _ (0, 0) h, List.getElem?_toArray, Nat.add_comm]
  unfold tcells
  rw [List.getElem?_cons_succ, List.getElem?_map, List.getElem?_eq_getElem hp]
  rfl

set_option maxRecDepth 100000 in
set_option maxHeartbeats 2000000 in
theorem can_any (n : Int) (T : List Int) (p : Nat) (w : World) (hT : T.length = 64) (hp : p < 64) (h1 : 1 ≤ p) :
    Calls Tryd.prog 109 #[.agg (tcells n T).toArray, .int .i64 (p : Int)] w fun e w' => e = .returned (.bool (canB n T p)) ∧ Below w.heap.size w w' := by
  obtain ⟨W0, hW0⟩ : ∃ W0, W0 = w.alloc (.cells (tcells n T).toArray 54) := ⟨_, rfl⟩
  have hB0 : Below w.heap.size w W0 := by rw [hW0]; exact (Below.refl _ w).alloc (Nat.le_refl _) _
  have hk : W0.heap[w.heap.size]? = some (.cells (tcells n T).toArray 54 (0, 0)) := by rw [hW0]; exact heap_alloc_new _ _
  obtain ⟨t0, tc⟩ := tree_cells hk
  have cp := tc p (by omega)
  have Htc := hid tc
  have HB0 := hid hB0
  obtain ⟨x, hx⟩ : ∃ x, x = T[p]?.getD 0 := ⟨_, rfl⟩
  rw [← hx] at cp
  have HT : Hid (canP n T p → canB n T p = true) := hid canB_true
  have HF : Hid (¬ canP n T p → canB n T p = false) := hid canB_false
  obtain ⟨R, hR⟩ : ∃ R, R = canB n T p := ⟨_, rfl⟩
  rw [← hR] at HT HF ⊢
  obtain ⟨A, hA⟩ : ∃ A, A = (tcells n T).toArray := ⟨_, rfl⟩
  rw [← hA] at hW0 ⊢
  have hi0 : (0 : Int) ≤ (p : Int) := by omega
  have hi1 : (p : Int) < 64 := by omega
  have Hx := hid hx
  have HlT := hid hT
  have t00 := t0
  have Ht0 := hid t0
  rw [hW0] at t00 cp
  clear hk tc hB0 hA hx hR hT t0
  go_enter Tryd.func109, Tryd.ntmps109
  go_wp2_with fail
  rw [← hW0] at cp t00 ⊢
  clear hW0 cp t00
  go_loopw [6] (fun qv wx => ∃ j q : Nat, q = p / 2 ^ (j + 1) ∧ qv = .int .i64 (q : Int) ∧ Hid (∀ i, i < j → T[p / 2 ^ (i + 1)]?.getD 0 ≠ x) ∧ wx = W0) (fun qv _ => (intOf qv).toNat)
  case atStart => exact ⟨0, p / 2, by simp, by simp, hid (fun i h => absurd h (by omega)), rfl⟩
  case round =>
    obtain ⟨j, q, hq, rfl, HJ, rfl⟩ := hrel
    have hqp : q ≤ p := by rw [hq]; exact Nat.div_le_self _ _
    by_cases hq0 : 0 < q
    · have hg1 : (0 : Int) < (q : Int) := by omega
      have cq := Htc.out q (by have := HlT.out; omega)
      obtain ⟨y, hye⟩ : ∃ y, y = T[q]?.getD 0 := ⟨_, rfl⟩
      rw [← hye] at cq
      have hj0 : (0 : Int) ≤ (q : Int) := by omega
      have hj1 : (q : Int) < 64 := by omega
      have Hq := hid hq
      have Hye := hid hye
      clear hq hye
      by_cases hxy : y = x
      · have hd2 : (y == x) = true := by simp [hxy]
        have He : Hid (R = false) := hid (HF.out (fun h => h.1 j (by rw [← Hq.out]; exact hq0) (by rw [← Hq.out, ← Hye.out, ← Hx.out]; exact hxy)))
        clear hxy
        go_wp2_with fail
        go_ret
        exact ⟨ret_bool He.out.symm, HB0.out⟩
      · have hd2 : (y == x) = false := by simpa using hxy
        have HJ2 : Hid (∀ i, i < j + 1 → T[p / 2 ^ (i + 1)]?.getD 0 ≠ x) := hid (fun i hi => by
          by_cases e : i = j
          · subst e; rw [← Hq.out, ← Hye.out]; exact hxy
          · exact HJ.out i (by omega))
        have hhalf : q / 2 = p / 2 ^ (j + 1 + 1) := by rw [Hq.out, Nat.pow_succ _ (j + 1), Nat.div_div_eq_div_mul]
        have Hhalf := hid hhalf
        clear hxy hhalf
        go_wp2_with fail
        go_roundw
        case rel => exact ⟨j + 1, q / 2, Hhalf.out, by simp, HJ2, by trivial⟩
        case measure => simp [intOf]; omega
    · obtain rfl : q = 0 := by omega
      have HK : Hid (∀ i, 0 < p / 2 ^ (i + 1) → T[p / 2 ^ (i + 1)]?.getD 0 ≠ x) := hid (fun i hi => by
        by_cases hij : i < j
        · exact HJ.out i hij
        · have h0 : p / 2 ^ (i + 1) ≤ p / 2 ^ (j + 1) := Nat.div_le_div_left (Nat.pow_le_pow_right (by decide) (by omega)) (Nat.two_pow_pos _)
          omega)
      have t00 := Ht0.out
      clear hq hqp
      by_cases hx0 : 0 ≤ x
      · by_cases hxn : x < n
        · have He : Hid (R = true) := hid (HT.out ⟨fun i hi => by rw [← Hx.out]; exact HK.out i hi, by rw [← Hx.out]; exact ⟨hx0, hxn⟩⟩)
          go_wp2_with fail
          go_ret
          exact ⟨ret_bool He.out.symm, HB0.out⟩
        · have He : Hid (R = false) := hid (HF.out (fun h => hxn (by have := h.2.2; rwa [← Hx.out] at this)))
          go_wp2_with fail
          go_ret
          exact ⟨ret_bool He.out.symm, HB0.out⟩
      · have He : Hid (R = false) := hid (HF.out (fun h => hx0 (by have := h.2.1; rwa [← Hx.out] at this)))
        go_wp2_with fail
        go_ret
        exact ⟨ret_bool He.out.symm, HB0.out⟩

end Go.Proofs.YtppnahgiekjbnaaDoor

/-! mustBeTree. -/
namespace Go.Proofs.YtppnahgiekjbnaaDoor
open Go.RowKit

theorem zero_tree : ∃ Z : Array Value, Z.size = 65 ∧ Z.all (·.oneCell') = true ∧ (∀ w, (zeroValue 54).run Tryd.prog w = .ok (.agg Z) w) ∧ (Tryd.prog.info? 54).map (·.size) = some 65 := by
  refine ⟨Array.replicate 65 (.int .i64 0), by simp, by kernel_rfl, fun w => ?_, by kernel_rfl⟩
  exact (zero_of_info (P := Tryd.prog) (t := 54) (v := .agg (Array.replicate 65 (.int .i64 0))) (n := 65) (by kernel_rfl)).1 w

/-- The padded list: place 0 has no question. -/
def padL (T : List Int) : List Int := 0 :: T ++ List.replicate (63 - T.length) 0
theorem padL_len {T : List Int} (h : T.length ≤ 63) : (padL T).length = 64 := by unfold padL; simp; omega
theorem padL_at {T : List Int} {p : Nat} (h1 : 1 ≤ p) (h2 : p ≤ T.length) : (padL T)[p]?.getD 0 = atP T p := by
  unfold padL atP
  rw [List.cons_append, List.getElem?_cons, if_neg (by omega), List.getElem?_append_left (by omega)]
theorem can_ok {n : Nat} {T : List Int} {p : Nat} (_hT : T.length ≤ 63) (h1 : 1 ≤ p) (h2 : p ≤ T.length) : canP (n : Int) (padL T) p ↔ okP n T p := by
  unfold canP okP
  rw [padL_at h1 h2]
  have hd : ∀ j, p / 2 ^ (j + 1) ≤ p := fun j => Nat.div_le_self _ _
  constructor
  · rintro ⟨h3, h4, h5⟩
    exact ⟨⟨h4, by omega⟩, fun j hj => by have := h3 j hj; rwa [padL_at hj (Nat.le_trans (hd j) h2)] at this⟩
  · rintro ⟨⟨h4, h5⟩, h3⟩
    exact ⟨fun j hj => by rw [padL_at hj (Nat.le_trans (hd j) h2)]; exact h3 j hj, h4, by omega⟩

theorem tree_heap {w : World} {base e g n : Nat} {xs : List Value} (h : w.ownsRow base e 1 (.slice (some ⟨g, 0, none⟩) n n) n xs) : w.heap[g]? = some (.cells xs.toArray e (0, 0)) := by
  rcases h.2 with ⟨h', _⟩ | ⟨g', cap', cur, h', hb, hg, hnc, hcm, hcs, htake⟩
  · simp at h'
  · simp only [Value.slice.injEq, Option.some.injEq, Addr.mk.injEq, and_true, true_and] at h'
    obtain ⟨rfl, rfl⟩ := h'
    rw [hg, ← htake, List.take_of_length_le (by simp; omega)]
theorem copyT {W : World} {g b off dCap sCap : Nat} {T : List Int} (ty : TypeId) (hg : W.heap[g]? = some (.cells ((List.replicate 64 (0 : Int)).map (Value.int .i64)).toArray 2 (0, 0))) (h63 : T.length ≤ 63) (hs : ∀ j, j < T.length → W.cell? ((⟨b, off, none⟩ : Addr).add j) = some (.int .i64 (T[j]?.getD 0))) :
    (Builtin.copy_ #[22, 22] ty #[.slice (some ⟨g, 1, none⟩) 63 dCap, .slice (some ⟨b, off, none⟩) T.length sCap]).run Tryd.prog W = .ok (goInt T.length) (W.setRow g ((padL T).map (Value.int .i64)).toArray) := by
  have h := run_copy_row (P := Tryd.prog) W 22 22 ty 2 g 1 63 dCap ⟨b, off, none⟩ T.length sCap ((List.replicate 64 (0 : Int)).map (Value.int .i64)).toArray 2 (T.map (Value.int .i64)) Tryd.underlying22 (by kernel_rfl) hg (by rw [List.length_map]; show T.length = min T.length 63; omega)
    (fun j v hj => by
      have hjl : j < T.length := by have := (List.getElem?_eq_some_iff.1 hj).1; simpa using this
      rw [hs j hjl]
      rw [List.getElem?_map, List.getElem?_eq_getElem hjl] at hj
      rw [List.getElem?_eq_getElem hjl]
      exact hj) (by simp; omega) (fun v hv => by
      obtain ⟨x, _, rfl⟩ := List.mem_map.1 hv
      rfl)
  have e : (((List.replicate 64 (0 : Int)).map (Value.int .i64)).take 1 ++ T.map (Value.int .i64) ++ ((List.replicate 64 (0 : Int)).map (Value.int .i64)).drop (1 + T.length)) = (padL T).map (Value.int .i64) := by
    unfold padL
    rw [List.map_replicate, List.drop_replicate, List.take_replicate, show 64 - (1 + T.length) = 63 - T.length by omega, List.map_append, List.map_cons, List.map_replicate]
    rfl
  rw [List.length_map] at h
  dsimp only at h
  rw [e] at h
  exact h

theorem setRow_grown2 (w : World) (g : Nat) (cs : Array Value) : w.grownBy (w.setRow g cs) (some g) :=
  ⟨rfl, rfl, rfl, by simp [World.setRow], fun k _ hk => by
    unfold World.setRow
    simp only [Array.getElem?_modify]
    rw [if_neg (fun e => hk (by rw [e]))]⟩
theorem arr_at (g : Nat) (W : World) : (Instr.arrayAt 52 (.slice (some ⟨g, 0, none⟩) 64 64)).run Tryd.prog W = .ok (.pointer (some ⟨g, 0, none⟩)) W := by kernel_rfl
theorem loadT {W : World} {g : Nat} {L : List Int} (hg : W.heap[g]? = some (.cells (L.map (Value.int .i64)).toArray 2 (0, 0))) (hl : L.length = 64) : (loadVar 52 ⟨g, 0, none⟩).run Tryd.prog W = .ok (.agg (L.map (Value.int .i64)).toArray) W :=
  run_loadVar_row (P := Tryd.prog) W g 2 52 _ (0, 0) _ hg Tryd.underlying52 rfl (by
    have h : (Tryd.prog.info? 52).map (·.size) = some 64 := by kernel_rfl
    rw [h]
    simp [hl])
theorem loadT2 {W : World} {g : Nat} {L : List Int} (hg : W.heap[g]? = some (.cells (L.map (Value.int .i64)).toArray 2 (0, 0))) (hl : L.length = 64) : (Instr.loadAt 52 (.pointer (some ⟨g, 0, none⟩))).run Tryd.prog W = .ok (.agg (L.map (Value.int .i64)).toArray) W := by
  simp only [Instr.loadAt, Instr.sureAddr, Sem.run_bind, Sem.run_pure, Result.andThen]
  exact loadT hg hl

theorem tcells_one (n : Int) (L : List Int) : (tcells n L).toArray.all (·.oneCell') = true := by
  rw [Array.all_eq_true_iff_forall_mem]
  intro v hv
  unfold tcells at hv
  simp at hv
  rcases hv with rfl | ⟨x, _, rfl⟩ <;> rfl
theorem fold_sets : ∀ (l : List Value) (k : Nat) (Z : Array Value) (i : Nat), ((l.zipIdx k).foldl (fun cs x => cs.setIfInBounds (1 + x.2) x.1) Z)[i]? = if 1 + k ≤ i ∧ i < 1 + k + l.length ∧ i < Z.size then l[i - 1 - k]? else Z[i]?
  | [], k, Z, i => by simp; intro h1 h2; omega
  | v :: l, k, Z, i => by
    rw [List.zipIdx_cons, List.foldl_cons, fold_sets l (k + 1) _ i, Array.size_setIfInBounds]
    simp only [List.length_cons]
    by_cases h : i = 1 + k
    · subst h
      rw [if_neg (by omega)]
      by_cases hz : 1 + k < Z.size
      · rw [Array.getElem?_setIfInBounds_self_of_lt hz, if_pos (by omega), show 1 + k - 1 - k = 0 by omega]
        rfl
      · rw [if_neg (by omega), Array.getElem?_eq_none (by simp; omega), Array.getElem?_eq_none (by omega)]
    · rw [Array.getElem?_setIfInBounds_ne (fun e => h e.symm)]
      by_cases h2 : 1 + (k + 1) ≤ i ∧ i < 1 + (k + 1) + l.length ∧ i < Z.size
      · rw [if_pos h2, if_pos (by omega), show i - 1 - k = (i - 1 - (k + 1)) + 1 by omega, List.getElem?_cons_succ]
      · rw [if_neg h2, if_neg (by omega)]
theorem built_tree {Z : Array Value} {L : List Int} (n : Int) (hZ : Z.size = 65) (hL : L.length = 64) : Array.foldl (fun cs (x : Value × Nat) => cs.setIfInBounds (1 + x.snd) x.fst) (Z.setIfInBounds 0 (Value.int .i64 n)) (L.map (Value.int .i64)).toArray.zipIdx 0 (L.map (Value.int .i64)).toArray.size = (tcells n L).toArray := by
  have e : Array.foldl (fun cs (x : Value × Nat) => cs.setIfInBounds (1 + x.snd) x.fst) (Z.setIfInBounds 0 (Value.int .i64 n)) (L.map (Value.int .i64)).toArray.zipIdx 0 (L.map (Value.int .i64)).toArray.size = ((L.map (Value.int .i64)).zipIdx 0).foldl (fun cs x => cs.setIfInBounds (1 + x.2) x.1) (Z.setIfInBounds 0 (Value.int .i64 n)) := by
    simp
  rw [e]
  apply Array.ext_getElem?
  intro i
  rw [fold_sets]
  unfold tcells
  simp only [List.length_map, Array.size_setIfInBounds, hZ, hL, List.getElem?_toArray]
  by_cases h0 : i = 0
  · subst h0
    rw [if_neg (by omega)]
    simp [hZ]
  · by_cases h1 : i < 65
    · obtain ⟨j, rfl⟩ : ∃ j, i = j + 1 := ⟨i - 1, by omega⟩
      rw [if_pos (by omega)]
      simp
    · rw [if_neg (by omega), Array.getElem?_eq_none (by simp; omega), List.getElem?_eq_none (by simp [hL]; omega)]

/-- What mustBeTree ends with. -/
def endT (c : Bool) (A : Array Value) (u : TypeId) (pv : Value) : Ending := if c then .returned (.agg A) else .panicked [{ v := .iface u pv, recovered := false }]

set_option maxRecDepth 100000 in
set_option maxHeartbeats 4000000 in
theorem mustT_any (n : Nat) (a : Option Addr) (cap : Nat) (T : List Int) (w : World) (u : TypeId) (pv : Value) (hx : SlI w w.heap.size a T) (hl : T.length ≤ 1048576) (h1 : 1 ≤ n) (h6 : n ≤ 6)
    (hG : w.cell? ⟨2, 0, none⟩ = some (.iface u pv)) :
    Calls Tryd.prog 90 #[.int .i64 (n : Int), .slice a T.length cap] w fun e w' => e = endT (isTB n T) (tcells n (padL T)).toArray u pv ∧ Below w.heap.size w w' := by
  obtain ⟨Z, hZs, _, hz, hi⟩ := zero_tree
  have h64 := pow_le64 h6
  have hp1 : 1 ≤ 2 ^ n := Nat.one_le_two_pow
  have hav : allV (n : Int) = ((2 ^ n - 1 : Nat) : Int) := by
    have e : ((2 ^ n : Nat) : Int) = (2 : Int) ^ n := by simp
    have h : allV (n : Int) = (2 : Int) ^ n - 1 := by unfold allV; simp
    omega
  have HAV := hid (fun W => av_any (n : Int) W (by omega) (by omega))
  rw [hav] at HAV
  have HTl : Hid (IsT n T → isTB n T = true) := hid isTB_true
  have HFl : Hid (¬ IsT n T → isTB n T = false) := hid isTB_false
  obtain ⟨R, hR⟩ : ∃ R, R = isTB n T := ⟨_, rfl⟩
  rw [← hR] at HTl HFl ⊢
  obtain ⟨P, hP⟩ : ∃ P, P = 2 ^ n := ⟨_, rfl⟩
  have HP := hid hP
  rw [← hP] at h64 hp1 HAV
  have Hx := hid hx
  have HG := hid hG
  have HGl := hid (World.block_lt_of_cell? w _ hG)
  clear hav hR hP hx hG
  by_cases hlen : T.length = P - 1
  · have hd : ((T.length : Int) != ((P - 1 : Nat) : Int)) = false := by simp; omega
    obtain ⟨b, off, hb, rfl, hc⟩ : ∃ b off, b < w.heap.size ∧ a = some ⟨b, off, none⟩ ∧ ∀ i, i < T.length → w.cell? ⟨b, off + i, none⟩ = some (.int .i64 (T[i]?.getD 0)) := by
      rcases Hx.out with h | h
      · have h2 : 2 ^ 1 ≤ 2 ^ n := Nat.pow_le_pow_right (by decide) h1
        have := HP.out
        rw [h] at hlen
        simp at hlen
        omega
      · exact h
    have h63 : T.length ≤ 63 := by omega
    have Hlen := hid hlen
    have Hc := hid hc
    clear hlen hc
    go_enter Tryd.func90, Tryd.ntmps90
    go_wp2_with fail
    refine (HAV.out _).mono ?_
    rintro e w1 ⟨rfl, rfl⟩
    have har := arr_at (w.heap.size + 1)
    have hBa : Below w.heap.size w (w.alloc (.cells Z 54)) := (Below.refl _ w).alloc (Nat.le_refl _) _
    go_upto_region 5 with (refine make_int (n := 64) rfl rfl rfl rfl (by omega) ?_; intro w1 hown1 hg1 hB1; have hh1 := tree_heap hown1; rw [World.size_alloc] at hh1; have hcp1 := fun ty => copyT (b := b) (off := off) (dCap := 63) (sCap := cap) (T := T) ty hh1 h63 (fun j hj => by rw [Addr.add_lit]; exact ((hBa.trans (hB1.mono (by simp))).cell (p := ⟨b, off + j, none⟩) hb).trans (Hc.out j hj)); have hst := setRow_heap w1 (w.heap.size + 1) ((List.replicate 64 (0 : Int)).map (Value.int .i64)).toArray ((padL T).map (Value.int .i64)).toArray 2 (0, 0) hh1; have hgr := setRow_grown2 w1 (w.heap.size + 1) ((padL T).map (Value.int .i64)).toArray)
    have hB2 : Below w.heap.size w (w1.setRow (w.heap.size + 1) ((padL T).map (Value.int .i64)).toArray) := (hBa.trans (hB1.mono (by simp))).grown hgr (Nat.le_trans (by simp) hB1.size) (fun k e => by cases e; omega)
    obtain ⟨W2, hW2⟩ : ∃ W2, W2 = w1.setRow (w.heap.size + 1) ((padL T).map (Value.int .i64)).toArray := ⟨_, rfl⟩
    have hBz : Below (w.alloc (.cells Z 54)).heap.size (w.alloc (.cells Z 54)) (w1.setRow (w.heap.size + 1) ((padL T).map (Value.int .i64)).toArray) := hB1.grown hgr hB1.size (fun k e => by cases e; simp)
    have hzb := (hBz.block w.heap.size (by simp)).trans (heap_alloc_new w _)
    rw [← hW2] at hst hB2 hzb ⊢
    have hi64 : (Tryd.prog.info? 52).map (·.size) = some ((padL T).map (Value.int .i64)).toArray.size := by
      have h : (Tryd.prog.info? 52).map (·.size) = some 64 := by kernel_rfl
      rw [h]
      simp [padL_len h63]
    have hfo := built_tree (n : Int) hZs (padL_len h63)
    obtain ⟨C, hC⟩ : ∃ C, C = ((padL T).map (Value.int .i64)).toArray := ⟨_, rfl⟩
    rw [← hC] at hst hi64 hfo
    have hAs : (tcells (n : Int) (padL T)).toArray.size = 65 := by simp [tcells, padL_len h63]
    have hA1 : (tcells (n : Int) (padL T)).toArray.all (·.oneCell') = true := tcells_one _ _
    obtain ⟨A, hA⟩ : ∃ A, A = (tcells (n : Int) (padL T)).toArray := ⟨_, rfl⟩
    rw [← hA] at hfo hAs hA1
    have hsc := run_storeCells_new (P := Tryd.prog) W2 54 Z A (by rw [hi, hAs]) (by rw [hZs, hAs]) hA1
    have HA := hid hA
    have hZ0 : ¬ Z = #[] := by rintro rfl; simp at hZs
    have hCs : C.size = 64 := by rw [hC]; simp [padL_len h63]
    have hfo2 := hfo
    rw [hCs] at hfo2
    have hzb3 := (Below.heap_alloc W2 (.cells A 54) _ (lt_get hzb)).trans hzb
    have Hzb := hid hzb3
    have HB3 := hid (hB2.alloc hB2.size (.cells A 54))
    have hAb := heap_alloc_new W2 (.cells A 54)
    have HAb := hid hAb
    have hne : w.heap.size ≠ W2.heap.size := by have := lt_get hzb; omega
    have Hne := hid hne
    have HCan := hid (fun W k (h : k < T.length) => by
      have h9 := can_any (n : Int) (padL T) (k + 1) W (padL_len h63) (by omega) (by omega)
      rw [← hA] at h9
      exact h9)
    have HB2 := hid hB2
    have HC := hid hC
    clear hW2 hh1 hcp1 hgr hB1 hBa hown1 hg1 hB2 hC hA hBz hzb hzb3 hAb hne
    go_wp2_with (first
      | (refine wpList_load_row rfl 52 _ rfl (w.heap.size + 1) rfl 2 C (0, 0) _ hst Tryd.underlying52 rfl hi64 ?_)
      | fail)
    clear hst hsc hfo hfo2 hCs hi64 har
    obtain ⟨W3, hW3⟩ : ∃ W3, W3 = W2.alloc (.cells A 54) := ⟨_, rfl⟩
    have HB3 : Hid (Below w.heap.size w W3) := hid (by rw [hW3]; exact HB3.out)
    have Hzb : Hid (W3.heap[w.heap.size]? = some (.cells Z 54 (0, 0))) := hid (by rw [hW3]; exact Hzb.out)
    have HAb : Hid (W3.heap[W2.heap.size]? = some (.cells A 54 (0, 0))) := hid (by rw [hW3]; exact HAb.out)
    rw [← hW3]
    clear hW3
    have hi66 : (Tryd.prog.info? 54).map (·.size) = some A.size := by rw [hi, hAs]
    have Hi66 := hid hi66
    clear hi hi66 hz
    go_loopw [26] (fun iv wx => ∃ k : Nat, k ≤ T.length ∧ iv = .int .i64 (k : Int) ∧ Hid (∀ q, 1 ≤ q → q ≤ k → okP n T q) ∧ Hid (Below W3.heap.size W3 wx)) (fun iv _ => T.length - (intOf iv).toNat)
    case atStart => exact ⟨0, Nat.zero_le _, rfl, hid (fun q h1 h2 => by omega), hid (Below.refl _ _)⟩
    case round =>
      obtain ⟨k, hk, rfl, HK, HB⟩ := hrel
      have hbA := (HB.out.block _ (lt_get HAb.out)).trans HAb.out
      have hbZ := (HB.out.block _ (lt_get Hzb.out)).trans Hzb.out
      have HBw := hid (HB3.out.trans (HB.out.mono HB3.out.size))
      have hi66 := Hi66.out
      by_cases hlt : k < T.length
      · have HC1 := hid (HCan.out wr k hlt)
        have hok := can_ok (n := n) (T := T) (p := k + 1) h63 (by omega) (by omega)
        have e : ((k + 1 : Nat) : Int) = (k : Int) + 1 := by omega
        rw [e] at HC1
        have hk1 : (k : Int) < (T.length : Int) := by omega
        cases hcb : canB (n : Int) (padL T) (k + 1)
        · have He : Hid (R = false) := hid (HFl.out (fun h => by
            have := canB_true (hok.2 (h.ok (k + 1) (by omega) (by omega)))
            rw [hcb] at this
            exact absurd this (by decide)))
          rw [hcb] at HC1
          clear hcb hok e
          go_wp2_with (first
            | (refine wpList_load_row rfl 54 _ rfl W2.heap.size rfl 54 A (0, 0) _ hbA Tryd.underlying54 rfl hi66 ?_)
            | fail)
          refine HC1.out.mono ?_
          rintro e w5 ⟨rfl, hB5⟩
          have HB5 := hid (HBw.out.trans (hB5.mono HBw.out.size))
          have hGr := (HB5.out.cell (p := ⟨2, 0, none⟩) HGl.out).trans HG.out
          clear hB5
          go_wp2_with fail
          refine ⟨rfl, ?_, HB5.out⟩
          rw [He.out]
          rfl
        · have hp := hok.1 (canB_iff.1 hcb)
          have HK2 : Hid (∀ q, 1 ≤ q → q ≤ k + 1 → okP n T q) := hid (fun q h1 h2 => by
            by_cases e : q = k + 1
            · subst e; exact hp
            · exact HK.out q h1 (by omega))
          rw [hcb] at HC1
          clear hcb hok e hp
          go_wp2_with (first
            | (refine wpList_load_row rfl 54 _ rfl W2.heap.size rfl 54 A (0, 0) _ hbA Tryd.underlying54 rfl hi66 ?_)
            | fail)
          refine HC1.out.mono ?_
          rintro e w5 ⟨rfl, hB5⟩
          have HB5 := hid (HB.out.trans (hB5.mono HB.out.size))
          clear hB5
          go_wp2_with fail
          go_roundw
          case rel => exact ⟨k + 1, by omega, by go_num, HK2, HB5⟩
          case measure => simp [intOf]; omega
      · obtain rfl : k = T.length := by omega
        have He : Hid (R = true) := hid (HTl.out ⟨by rw [Hlen.out, HP.out], fun q h1 h2 => HK.out q h1 h2⟩)
        have hZA : Z.size = A.size := by rw [hZs, hAs]
        go_wp2_with (first
          | (refine wpList_load_row rfl 54 _ rfl W2.heap.size rfl 54 A (0, 0) _ hbA Tryd.underlying54 rfl hi66 ?_)
          | (refine wpList_store_row rfl 54 _ _ rfl w.heap.size A rfl rfl 54 Z hbZ hi66 hZA hA1 ?_)
          | fail)
        have hrow := setRow_heap wr w.heap.size Z A 54 (0, 0) hbZ
        refine bodyPost_ret (v := .agg A) (results_cell_row (p := 4) (ty := 54) (by kernel_rfl) _ _ w.heap.size 54 A (0, 0) _ rfl hrow Tryd.underlying54 rfl hi66) rfl ⟨?_, HBw.out.grown (setRow_grown2 wr w.heap.size A) HBw.out.size (fun k e => by cases e; exact Nat.le_refl _)⟩
        rw [He.out, ← HA.out]
        rfl
  · have hd : ((T.length : Int) != ((P - 1 : Nat) : Int)) = true := by simp; omega
    have He : Hid (R = false) := hid (HFl.out (fun h => hlen (by rw [h.len, HP.out])))
    have hGa : ∀ o, (w.alloc o).cell? ⟨2, 0, none⟩ = some (.iface u pv) := fun o => (World.cell?_alloc_some w _ o (show (w.cell? _).isSome = true by rw [HG.out]; rfl)).trans HG.out
    clear hlen
    go_enter Tryd.func90, Tryd.ntmps90
    go_wp2_with fail
    refine (HAV.out _).mono ?_
    rintro e w1 ⟨rfl, rfl⟩
    go_wp2_with fail
    refine ⟨rfl, ?_, (Below.refl _ w).alloc (Nat.le_refl _) _⟩
    rw [He.out]
    rfl

end Go.Proofs.YtppnahgiekjbnaaDoor

/-! How many faces a complex has at most. -/
namespace Go.Proofs.YtppnahgiekjbnaaDoor

theorem asc_len : ∀ (fs : List Int) (lo : Int), fs.Pairwise (· < ·) → (∀ x ∈ fs, lo ≤ x ∧ x ≤ 63) → fs.length ≤ (64 - lo).toNat
  | [], lo, _, _ => by simp
  | x :: fs, lo, hp, hr => by
    have h1 := hr x (by simp)
    have h2 := asc_len fs (x + 1) (List.pairwise_cons.1 hp).2 (fun y hy => ⟨by have := (List.pairwise_cons.1 hp).1 y hy; omega, (hr y (by simp [hy])).2⟩)
    rw [List.length_cons]
    omega

theorem IsC.len63 {V : Int} {fs : List Int} (h : IsC V fs) : fs.length ≤ 63 := by
  have := asc_len fs 1 h.asc h.range63
  omega

end Go.Proofs.YtppnahgiekjbnaaDoor
