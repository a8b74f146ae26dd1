import Derived.Deep.RegionHeld3
import Derived.Deep.AppendLies
import Derived.Deep.RegionLaw
import Derived.Laws.ResultCell
import Derived.Lib.QuietBelow
import Derived.Defers
import Derived.Recover
import Derived.Laws.Pointers
import Derived.Test.YtgnahadlcihneaaDoorCB1
/-! 'out.Faces = append(out.Faces, x)' in the model's loops. -/
namespace Go.Proofs.YtgnahadlcihneaaDoor
open Go.RowKit

theorem cell_alloc_drew {W : World} {p : Addr} {v : Value} (h : W.cell? p = some v) (n : Nat) (o : Obj) : ((W.drewN n).alloc o).cell? p = some v :=
  (World.cell?_alloc_some (W.drewN n) p o (show (W.cell? p).isSome = true by rw [h]; rfl)).trans h

theorem step_append_int {w : World} {ops : Array Oper} {o : Oper} {a : Act} {K : Act → World → Prop} {Q : Exit → Act → World → Prop} {E : Prop} (hgd : o.guard = none) {s y : Operand}
    (ho : o.op = .call { callee := .builtin .append, args := #[s, y], argTypes := #[22, 22] })
    {base : Nat} {v : Value} {xs : List Int} {x : Int} {ad : Addr} (hown : w.ownsRow base 2 1 v xs.length (xs.map (Value.int .i64))) (hbase : base ≤ w.heap.size) (hl : xs.length ≤ 1099511627776)
    (hs : a.eval s = v) (hy : a.eval y = .slice (some ad) 1 1) (hc : w.cell? (ad.add 0) = some (.int .i64 x))
    (hK : ∀ g cap w', w'.ownsRow base 2 1 (.slice (some ⟨g, 0, none⟩) (xs ++ [x]).length cap) (xs ++ [x]).length ((xs ++ [x]).map (Value.int .i64)) → w.grownBy w' v.ownBlock →
      K (a.put o.dst (.slice (some ⟨g, 0, none⟩) (xs ++ [x]).length cap)) w') :
    if Region.wanted o (yielded ops a.tmps) = true then Oper.wp Tryd.prog o a w K Q else E := by
  obtain ⟨i0, hi, hz0, hz1, hz2⟩ := info_parts info_i64
  refine step_append_lies w hgd s y 22 ho base 2 i0 (.int .i64 0) 1 8 Tryd.underlying22 hi hz0 hz1 hz2 rfl (by decide) v _ _ hs hown ad 1 1 [.int .i64 x] hy rfl ?_ (by simp [Value.oneCell']) (by decide) (by unfold maxLen; omega) (by omega) hbase _ rfl ?_
  · intro j u hu
    match j, hu with
    | 0, hu => simp at hu; subst hu; exact hc
  · intro g cap w1 hown1 hg _ _
    have e : (xs ++ [x]).length = xs.length + 1 := by simp
    have h := hK g cap w1 (by rw [e]; simpa using hown1) hg
    rw [e] at h
    exact h

/-- What the model's loops keep of the world while they build a complex in block Bo: B is the heap's size when the call began. -/
structure OutW (w W : World) (V : Int) (sl : Value) (Bo : Nat) (xs : List Int) (a : Option Addr) (c : Nat) : Prop where
  below : Below w.heap.size w W
  kbox : W.heap[w.heap.size]? = some (.cells #[.int .i64 V, sl] 28 (0, 0))
  res : W.heap[w.heap.size + 1]? = some (.cells #[.int .i64 0, .slice none 0 0] 28 (0, 0))
  out : W.heap[Bo]? = some (.cells #[.int .i64 V, .slice a xs.length c] 28 (0, 0))
  own : W.ownsRow w.heap.size 2 1 (.slice a xs.length c) xs.length (xs.map (Value.int .i64))
  bo : w.heap.size + 1 < Bo

/-- A block of another type is none of an owned row's. -/
theorem row_ne {W : World} {base e t : Nat} {v : Value} {n : Nat} {xs : List Value} {b : Nat} {cs : Array Value} {fz : Nat × Nat} (h : W.ownsRow base e 1 v n xs) (hb : W.heap[b]? = some (.cells cs t fz)) (hne : e ≠ t) : some b ≠ v.ownBlock := by
  intro he
  rcases h.2 with ⟨rfl, _⟩ | ⟨g, cap, cur, rfl, _, hg, _⟩
  · simp [Value.ownBlock] at he
  · simp [Value.ownBlock] at he
    subst he
    rw [hb] at hg
    simp at hg
    exact hne hg.2.1.symm

theorem lt_get {W : World} {b : Nat} {o : Obj} (h : W.heap[b]? = some o) : b < W.heap.size := (Array.getElem?_eq_some_iff.1 h).1

/-- Draws alone. -/
theorem OutW.drew {w W : World} {V : Int} {sl : Value} {Bo : Nat} {xs : List Int} {a : Option Addr} {c : Nat} (h : OutW w W V sl Bo xs a c) : OutW w W.drew V sl Bo xs a c :=
  ⟨⟨h.below.os, h.below.tape, h.below.output, h.below.size, h.below.block⟩, h.kbox, h.res, h.out, h.own, h.bo⟩

theorem OutW.drewN {w W : World} {V : Int} {sl : Value} {Bo : Nat} {xs : List Int} {a : Option Addr} {c : Nat} (h : OutW w W V sl Bo xs a c) (n : Nat) : OutW w (W.drewN n) V sl Bo xs a c :=
  ⟨⟨h.below.os, h.below.tape, h.below.output, h.below.size, h.below.block⟩, h.kbox, h.res, h.out, h.own, h.bo⟩

/-- Whatever keeps all that lay. -/
theorem OutW.later {w W W' : World} {V : Int} {sl : Value} {Bo : Nat} {xs : List Int} {a : Option Addr} {c : Nat} (h : OutW w W V sl Bo xs a c) (hb : Below W.heap.size W W') : OutW w W' V sl Bo xs a c where
  below := h.below.trans (hb.mono h.below.size)
  kbox := (hb.block _ (lt_get h.kbox)).trans h.kbox
  res := (hb.block _ (lt_get h.res)).trans h.res
  out := (hb.block _ (lt_get h.out)).trans h.out
  own := ownsRow_below h.own hb (fun g hg => (h.own.lt g hg).2)
  bo := h.bo

/-- A face more. -/
theorem OutW.step {w W w2 : World} {V : Int} {sl : Value} {Bo : Nat} {xs : List Int} {a : Option Addr} {c : Nat} (h : OutW w W V sl Bo xs a c) {x : Int} {g cap : Nat} {o : Obj}
    (hown : w2.ownsRow w.heap.size 2 1 (.slice (some ⟨g, 0, none⟩) (xs ++ [x]).length cap) (xs ++ [x]).length ((xs ++ [x]).map (Value.int .i64))) (hg : (W.alloc o).grownBy w2 (Value.ownBlock (.slice a xs.length c))) :
    OutW w (w2.setCell ⟨Bo, 1, none⟩ (.slice (some ⟨g, 0, none⟩) (xs ++ [x]).length cap)) V sl Bo (xs ++ [x]) (some ⟨g, 0, none⟩) cap := by
  have hgr : W.grownBy w2 (Value.ownBlock (.slice a xs.length c)) := (World.grownBy_alloc W o _).trans hg
  have hbo := h.bo
  have k2 := (hgr.block _ (lt_get h.kbox) (row_ne h.own h.kbox (by decide))).trans h.kbox
  have r2 := (hgr.block _ (lt_get h.res) (row_ne h.own h.res (by decide))).trans h.res
  have o2 := (hgr.block _ (lt_get h.out) (row_ne h.own h.out (by decide))).trans h.out
  refine ⟨?_, ?_, ?_, ?_, ?_, h.bo⟩
  · exact (h.below.grown hgr h.below.size (fun k hk => (h.own.lt k hk).1)).setCell (p := ⟨Bo, 1, none⟩) (by simp only; omega) _
  · exact (Below.heap_setCell _ _ _ _ (by simp only; omega)).trans k2
  · exact (Below.heap_setCell _ _ _ _ (by simp only; omega)).trans r2
  · simp only [World.setCell, Array.getElem?_modify, o2]
    simp
  · exact ownsRow_set hown (by
      have := row_ne hown o2 (by decide)
      exact fun e => this e.symm) _

theorem outW_start {w W : World} {V : Int} {sl : Value} (hB : Below w.heap.size w W) (hk : W.heap[w.heap.size]? = some (.cells #[.int .i64 V, sl] 28 (0, 0)))
    (hr : W.heap[w.heap.size + 1]? = some (.cells #[.int .i64 0, .slice none 0 0] 28 (0, 0))) :
    OutW w ((W.alloc (.cells #[] 2)).alloc (.cells #[.int .i64 V, .slice (some ⟨W.heap.size, 0, none⟩) 0 0] 28)) V sl (W.heap.size + 1) [] (some ⟨W.heap.size, 0, none⟩) 0 where
  below := (hB.alloc hB.size _).alloc (by have := hB.size; simp; omega) _
  kbox := (Below.heap_alloc _ _ _ (by have := lt_get hk; simp; omega)).trans ((Below.heap_alloc _ _ _ (lt_get hk)).trans hk)
  res := (Below.heap_alloc _ _ _ (by have := lt_get hr; simp; omega)).trans ((Below.heap_alloc _ _ _ (lt_get hr)).trans hr)
  out := by have := heap_alloc_new (W.alloc (.cells #[] 2)) (.cells #[.int .i64 V, .slice (some ⟨W.heap.size, 0, none⟩) 0 0] 28); rwa [World.size_alloc] at this
  own := by
    have h := World.ownsRow_made (base := w.heap.size) (e := 2) (size := 1) W #[] 0 hB.size (by simp [maxLen]) rfl
    exact h.alloc _
  bo := by have := lt_get hr; omega

/-- The model's loops hand back what they have built. -/
theorem OutW.done {w W : World} {V : Int} {sl : Value} {Bo : Nat} {xs : List Int} {a : Option Addr} {c : Nat} (h : OutW w W V sl Bo xs a c) (u v : Value) :
    Res w ((W.setCell ⟨w.heap.size + 1, 0, none⟩ u).setCell ⟨w.heap.size + 1, 1, none⟩ v) (.slice a xs.length c) xs := by
  have hn := row_ne h.own h.res (by decide)
  exact ⟨ownsRow_set (ownsRow_set h.own (fun e => hn e.symm) _) (fun e => hn e.symm) _, (h.below.setCell (p := ⟨w.heap.size + 1, 0, none⟩) (by simp) _).setCell (p := ⟨w.heap.size + 1, 1, none⟩) (by simp) _⟩

/-- .. where the new element has just been laid. -/
theorem step_append_new {W : World} {H : Nat} {ops : Array Oper} {o : Oper} {a : Act} {K : Act → World → Prop} {Q : Exit → Act → World → Prop} {E : Prop} (hgd : o.guard = none) {s y : Operand}
    (ho : o.op = .call { callee := .builtin .append, args := #[s, y], argTypes := #[22, 22] })
    {base : Nat} {v : Value} {xs : List Int} {x : Int} (hown : W.ownsRow base 2 1 v xs.length (xs.map (Value.int .i64))) (hH : W.heap.size = H) (hbase : base ≤ H) (hl : xs.length ≤ 1099511627776)
    (hs : a.eval s = v) (hy : a.eval y = .slice (some ⟨H, 0, none⟩) 1 1)
    (hK : ∀ g cap w', w'.ownsRow base 2 1 (.slice (some ⟨g, 0, none⟩) (xs ++ [x]).length cap) (xs ++ [x]).length ((xs ++ [x]).map (Value.int .i64)) → (W.alloc (.cells #[.int .i64 x] 2)).grownBy w' v.ownBlock →
      K (a.put o.dst (.slice (some ⟨g, 0, none⟩) (xs ++ [x]).length cap)) w') :
    if Region.wanted o (yielded ops a.tmps) = true then Oper.wp Tryd.prog o a (W.alloc (.cells #[.int .i64 x] 2)) K Q else E := by
  subst hH
  exact step_append_int hgd ho (hown.alloc _) (by simp; omega) hl hs hy (by simp [go_sem, Addr.add]) hK

theorem OutW.stepN {w W w2 : World} {V : Int} {sl : Value} {Bo : Nat} {xs : List Int} {a : Option Addr} {c : Nat} (h : OutW w W V sl Bo xs a c) {x : Int} {g cap : Nat} {o : Obj} {n : Nat}
    (hown : w2.ownsRow w.heap.size 2 1 (.slice (some ⟨g, 0, none⟩) (xs ++ [x]).length cap) (xs ++ [x]).length ((xs ++ [x]).map (Value.int .i64))) (hg : ((W.drewN n).alloc o).grownBy w2 (Value.ownBlock (.slice a xs.length c))) :
    OutW w (w2.setCell ⟨Bo, 1, none⟩ (.slice (some ⟨g, 0, none⟩) (xs ++ [x]).length cap)) V sl Bo (xs ++ [x]) (some ⟨g, 0, none⟩) cap := (h.drewN n).step hown hg

/-- The out block behind an append. -/
theorem OutW.mid {w W w2 : World} {V : Int} {sl : Value} {Bo : Nat} {xs : List Int} {a : Option Addr} {c : Nat} (h : OutW w W V sl Bo xs a c) {n : Nat} {o : Obj} (hg : ((W.drewN n).alloc o).grownBy w2 (Value.ownBlock (.slice a xs.length c))) :
    w2.cell? ⟨Bo, 1, none⟩ = some (.slice a xs.length c) ∧ w2.frozen? ⟨Bo, 1, none⟩ = false := by
  have hgr : (W.drewN n).grownBy w2 (Value.ownBlock (.slice a xs.length c)) := (World.grownBy_alloc _ o _).trans hg
  have o2 := (hgr.block _ (lt_get (h.drewN n).out) (row_ne (h.drewN n).own (h.drewN n).out (by decide))).trans (h.drewN n).out
  constructor <;> simp [World.cell?, World.frozen?, o2]

/-- The given complex's box behind an append. -/
theorem OutW.midK {w W w2 : World} {V : Int} {sl : Value} {Bo : Nat} {xs : List Int} {a : Option Addr} {c : Nat} (h : OutW w W V sl Bo xs a c) {n : Nat} {o : Obj} (hg : ((W.drewN n).alloc o).grownBy w2 (Value.ownBlock (.slice a xs.length c))) :
    w2.cell? ⟨w.heap.size, 1, none⟩ = some sl := by
  have hgr : (W.drewN n).grownBy w2 (Value.ownBlock (.slice a xs.length c)) := (World.grownBy_alloc _ o _).trans hg
  have o2 := (hgr.block _ (lt_get (h.drewN n).kbox) (row_ne (h.drewN n).own (h.drewN n).kbox (by decide))).trans (h.drewN n).kbox
  simp [World.cell?, o2]

/-- What lay before the call, behind an append. -/
theorem OutW.midX {w W w2 : World} {V : Int} {sl : Value} {Bo : Nat} {xs : List Int} {a : Option Addr} {c : Nat} (h : OutW w W V sl Bo xs a c) {n : Nat} {o : Obj} (hg : ((W.drewN n).alloc o).grownBy w2 (Value.ownBlock (.slice a xs.length c))) {p : Addr} (hp : p.block < w.heap.size) :
    w2.cell? p = W.cell? p := by
  have hgr : (W.drewN n).grownBy w2 (Value.ownBlock (.slice a xs.length c)) := (World.grownBy_alloc _ o _).trans hg
  have hlt : p.block < (W.drewN n).heap.size := Nat.lt_of_lt_of_le hp h.below.size
  have h2 : w2.heap[p.block]? = W.heap[p.block]? := hgr.block _ hlt (by
    intro he
    have := (h.own.lt _ he.symm).1
    omega)
  simp only [World.cell?, h2]

end Go.Proofs.YtgnahadlcihneaaDoor

/-! Complexes that are handed back: the ends of bodies with a result in a block, and the program's complexWith. -/
namespace Go.Proofs.YtgnahadlcihneaaDoor
open Go.RowKit

theorem cell_alloc_drew1 {W : World} {p : Addr} {v : Value} (h : W.cell? p = some v) (o : Obj) : (W.alloc o).cell? p = some v := cell_alloc_drew h 0 o

theorem two_of {W : World} {b : Nat} {x y : Value} {t : Nat} (h : W.heap[b]? = some (.cells #[x, y] t (0, 0))) : W.cell? ⟨b, 0, none⟩ = some x ∧ W.cell? ⟨b, 1, none⟩ = some y ∧ W.frozen? ⟨b, 0, none⟩ = false ∧ W.frozen? ⟨b, 1, none⟩ = false := by
  refine ⟨?_, ?_, ?_, ?_⟩ <;> simp [World.cell?, World.frozen?, h]

theorem two_set {W : World} {b : Nat} {x y : Value} {t : Nat} (h : W.heap[b]? = some (.cells #[x, y] t (0, 0))) (u v : Value) : ((W.setCell ⟨b, 0, none⟩ u).setCell ⟨b, 1, none⟩ v).heap[b]? = some (.cells #[u, v] t (0, 0)) := by
  simp only [World.setCell, Array.getElem?_modify, h]
  simp

/-- A result stays where a block of another type is written. -/
theorem Res.set2 {w W : World} {sv : Value} {xs : List Int} (h : Res w W sv xs) {b : Nat} {cs : Array Value} {t : Nat} {fz : Nat × Nat} (hb : W.heap[b]? = some (.cells cs t fz)) (hne : 2 ≠ t) (hw : w.heap.size ≤ b) (u v : Value) :
    Res w ((W.setCell ⟨b, 0, none⟩ u).setCell ⟨b, 1, none⟩ v) sv xs := by
  have hn := row_ne h.1 hb hne
  exact ⟨ownsRow_set (ownsRow_set h.1 (fun e => hn e.symm) _) (fun e => hn e.symm) _, (h.2.setCell (p := ⟨b, 0, none⟩) hw _).setCell (p := ⟨b, 1, none⟩) hw _⟩

theorem new2 (w : World) (A B : Obj) : ((w.alloc A).alloc B).heap[w.heap.size + 1]? = some B := by
  have := heap_alloc_new (w.alloc A) B
  rwa [World.size_alloc] at this

theorem new3 (w : World) (A B C : Obj) : (((w.alloc A).alloc B).alloc C).heap[w.heap.size + 1 + 1]? = some C := by
  have := new2 (w.alloc A) B C
  rwa [World.size_alloc] at this

set_option maxRecDepth 100000 in
theorem load_cx {w : World} {b o : Nat} {x y : Value} (h0 : w.cell? ⟨b, o, none⟩ = some x) (h1 : w.cell? ⟨b, o + 1, none⟩ = some y) :
    (loadVar 28 ⟨b, o, none⟩).run Tryd.prog w = .ok (.agg #[x, y]) w := by
  go_simp

set_option maxRecDepth 100000 in
theorem done_cx {fn : Func} {R : Ending → World → Prop} {a : Act} {w : World} {p u : Tmp} (hr : fn.results = #[.cell p 28, .tmp u]) (hd : a.defers = []) {b o : Nat} {x y c : Value}
    (hp : a.tmps.getD p undef = .pointer (some ⟨b, o, none⟩)) (h0 : w.cell? ⟨b, o, none⟩ = some x) (h1 : w.cell? ⟨b, o + 1, none⟩ = some y) (hu : a.tmps.getD u undef = c) (hR : R (.returned (.tuple #[.agg #[x, y], c])) w) : bodyPost Tryd.prog fn R .ret a w := by
  refine bodyPost_ret (v := .tuple #[.agg #[x, y], c]) ?_ hd hR
  rw [results_cell_tmp hr, hp, hu]
  show ((loadVar 28 ⟨b, o, none⟩).run Tryd.prog w).andThen _ = _
  rw [load_cx h0 h1]
  rfl

set_option maxRecDepth 100000 in
theorem done_cx1 {fn : Func} {R : Ending → World → Prop} {a : Act} {w : World} {p : Tmp} (hr : fn.results = #[.cell p 28]) (hd : a.defers = []) {b o : Nat} {x y : Value}
    (hp : a.tmps.getD p undef = .pointer (some ⟨b, o, none⟩)) (h0 : w.cell? ⟨b, o, none⟩ = some x) (h1 : w.cell? ⟨b, o + 1, none⟩ = some y) (hR : R (.returned (.agg #[x, y])) w) : bodyPost Tryd.prog fn R .ret a w := by
  refine bodyPost_ret (v := .agg #[x, y]) ?_ hd hR
  have hp' : a.tmps[p]?.getD undef = .pointer (some ⟨b, o, none⟩) := by simpa using hp
  simp [results, hr, hp', asAddr, load_cx h0 h1]

theorem cx_mono {P : Program} {f : FuncId} {args : Array Value} {w : World} {r : Int × List Int × Int} {U : Int} {xs : List Int} {c : Int} (hr : r = (U, xs, c))
    (h : Calls P f args w fun e w' => ∃ v, e = .returned (.tuple #[.agg #[.int .i64 U, v], .int .i64 c]) ∧ Res w w' v xs) : Calls P f args w fun e w' => ∃ v, e = .returned (.tuple #[.agg #[.int .i64 r.1, v], .int .i64 r.2.2]) ∧ Res w w' v r.2.1 := by
  subst hr; exact h


end Go.Proofs.YtgnahadlcihneaaDoor

/-! The faces as keys of a map: the program's facesHaving. -/
namespace Go.Proofs.YtgnahadlcihneaaDoor
open Go.RowKit

theorem wf_face {x : Int} (h0 : 1 ≤ x) (h1 : x ≤ 63) : (Lit.int .i64 x).wf = true := WalkArith.wf_i64 (by omega)

/-- The map of faces. -/
def MapW (w' : World) (b n : Nat) (fs : List Int) : Prop := w'.ownsMap Tryd.prog 2 (plainElem (H := Unit) Tryd.prog 4) b n (knownD fs)

theorem MapW.later {w w' : World} {b n : Nat} {fs : List Int} (h : MapW w b n fs) (hB : Below w.heap.size w w') : MapW w' b n fs :=
  World.ownsMap.kept h (row := none) ⟨hB.os, hB.tape, hB.output, hB.size, fun k hk _ => hB.block k hk⟩ (by simp)

theorem MapW.lt {w : World} {b n : Nat} {fs : List Int} (h : MapW w b n fs) : b < w.heap.size := World.ownsMap.lt h


/-! The model's test of a face. -/

end Go.Proofs.YtgnahadlcihneaaDoor

/-! How many faces a complex has at most. -/
namespace Go.Proofs.YtgnahadlcihneaaDoor

theorem asc_len : ∀ (fs : List Int) (lo : Int), fs.Pairwise (· < ·) → (∀ x ∈ fs, lo ≤ x ∧ x ≤ 63) → fs.length ≤ (64 - lo).toNat
  | [], lo, _, _ => by simp
  | x :: fs, lo, hp, hr => by
    have h1 := hr x (by simp)
    have h2 := asc_len fs (x + 1) (List.pairwise_cons.1 hp).2 (fun y hy => ⟨by have := (List.pairwise_cons.1 hp).1 y hy; omega, (hr y (by simp [hy])).2⟩)
    rw [List.length_cons]
    omega

theorem IsC.len63 {V : Int} {fs : List Int} (h : IsC V fs) : fs.length ≤ 63 := by
  have := asc_len fs 1 h.asc h.range63
  omega

end Go.Proofs.YtgnahadlcihneaaDoor

/-! Is a list a chain? The model's two tests. -/
namespace Go.Proofs.YtgnahadlcihneaaDoor
open Go.RowKit Go.Sort

/-- Element i of a list is a face with as many vertices as the first one, and greater than the one ahead of it. -/
def linkB (fs ch : List Int) (i : Nat) : Bool :=
  decide (ch[i]?.getD 0 ∈ fs) && decide (ones (ch[i]?.getD 0).toNat = ones (ch[0]?.getD 0).toNat) && (decide (i = 0) || decide (ch[i - 1]?.getD 0 < ch[i]?.getD 0))
def linksTo (fs ch : List Int) (k : Nat) : Prop := ∀ i, i < k → linkB fs ch i = true
def chainB (fs ch : List Int) : Bool := (List.range ch.length).all (linkB fs ch)
/-- The code of a complex and a list. -/
noncomputable def chnR (V : Int) (fs ch : List Int) : Int := if isCB V fs then (if chainB fs ch then 0 else 2) else 1

theorem chain_yes {fs ch : List Int} (h : linksTo fs ch ch.length) : chainB fs ch = true := by
  unfold chainB
  rw [List.all_eq_true]
  intro i hi
  exact h i (by simpa using hi)
theorem chain_no {fs ch : List Int} {k : Nat} (hk : k < ch.length) (h : linkB fs ch k = false) : chainB fs ch = false := by
  unfold chainB
  rw [List.all_eq_false]
  exact ⟨k, by simpa using hk, by simp [h]⟩
theorem links_succ {fs ch : List Int} {k : Nat} (h : linksTo fs ch k) (h1 : linkB fs ch k = true) : linksTo fs ch (k + 1) := by
  intro i hi
  by_cases e : i = k
  · subst e; exact h1
  · exact h i (by omega)
theorem links_mem {fs ch : List Int} (h : chainB fs ch = true) : ∀ x ∈ ch, x ∈ fs := by
  intro x hx
  obtain ⟨i, hi, rfl⟩ := List.getElem_of_mem hx
  unfold chainB at h
  rw [List.all_eq_true] at h
  have h2 := h i (by simpa using hi)
  unfold linkB at h2
  simp only [Bool.and_eq_true, decide_eq_true_eq] at h2
  have h3 := h2.1.1
  rw [List.getElem?_eq_getElem hi] at h3
  simpa using h3
theorem chain_len {fs ch : List Int} {V : Int} (hC : IsC V fs) (h : chainB fs ch = true) : (∀ x ∈ ch, 1 ≤ x ∧ x ≤ 63) := fun x hx => hC.range63 x (links_mem h x hx)
theorem link_no_mem {fs ch : List Int} {k : Nat} (h : ch[k]?.getD 0 ∉ fs) : linkB fs ch k = false := by unfold linkB; simp [h]
theorem link_no_ord {fs ch : List Int} {k : Nat} (hk : 0 < k) (h : ch[k]?.getD 0 ≤ ch[k - 1]?.getD 0) : linkB fs ch k = false := by
  unfold linkB
  rw [decide_eq_false (show ¬ k = 0 by omega), decide_eq_false (show ¬ ch[k - 1]?.getD 0 < ch[k]?.getD 0 by omega)]
  simp
theorem link_first {fs ch : List Int} (h : ch[0]?.getD 0 ∈ fs) : linkB fs ch 0 = true := by unfold linkB; simp [h]
theorem link_eq {fs ch : List Int} {k : Nat} (h : ch[k]?.getD 0 ∈ fs) (ho : 0 < k → ch[k - 1]?.getD 0 < ch[k]?.getD 0) : linkB fs ch k = decide (ones (ch[k]?.getD 0).toNat = ones (ch[0]?.getD 0).toNat) := by
  unfold linkB
  rw [decide_eq_true h]
  by_cases hk : k = 0
  · subst hk; simp
  · rw [decide_eq_true (ho (by omega))]; simp
theorem link_head {fs ch : List Int} {k : Nat} (hk : 0 < k) (h : linksTo fs ch k) : ch[0]?.getD 0 ∈ fs := by
  have h2 := h 0 hk
  unfold linkB at h2
  simp only [Bool.and_eq_true, decide_eq_true_eq] at h2
  exact h2.1.1

theorem chn_bad {V : Int} {fs ch : List Int} (h : isCB V fs = false) : chnR V fs ch = 1 := by unfold chnR; rw [h]; rfl
theorem chn_no {V : Int} {fs ch : List Int} (h : isCB V fs = true) (h2 : chainB fs ch = false) : chnR V fs ch = 2 := by unfold chnR; rw [h, h2]; rfl
theorem chn_yes {V : Int} {fs ch : List Int} (h : isCB V fs = true) (h2 : chainB fs ch = true) : chnR V fs ch = 0 := by unfold chnR; rw [h, h2]; rfl

set_option maxRecDepth 100000 in
set_option maxHeartbeats 8000000 in
theorem chain3_any (V : Int) (a0 : Option Addr) (cap : Nat) (fs : List Int) (a1 : Option Addr) (cap1 : Nat) (ch : List Int) (w : World) (hx : SlI w w.heap.size a0 fs) (hx1 : SlI w w.heap.size a1 ch) (hl : fs.length ≤ 1048576) (hg : ch.length ≤ 1048576) :
    Calls Tryd.prog 76 #[.agg #[.int .i64 V, .slice a0 fs.length cap], .slice a1 ch.length cap1] w fun e w' => e = .returned (.int .i64 (chnR V fs ch)) ∧ Below w.heap.size w w' := by
  obtain ⟨W0, hW0⟩ : ∃ W0, W0 = w.alloc (.cells #[.int .i64 V, .slice a0 fs.length cap] 28) := ⟨_, rfl⟩
  have hB0 : Below w.heap.size w W0 := by rw [hW0]; exact (Below.refl _ w).alloc (Nat.le_refl _) _
  have Hk : Hid (W0.heap[w.heap.size]? = some (.cells #[.int .i64 V, .slice a0 fs.length cap] 28 (0, 0))) := hid (by rw [hW0]; exact heap_alloc_new _ _)
  have Hx := hid hx
  have Hy := hid hx1
  have HB0 := hid hB0
  have HI := hid (is_all V a0 cap fs W0 (hx.later hB0 hB0.size) hl)
  rw [hW0] at HI
  clear hx hx1 hB0
  cases hc : isCB V fs
  · have HR : Hid (chnR V fs ch = 1) := hid (chn_bad hc)
    rw [hc] at HI
    clear hc
    go_enter Tryd.func76, Tryd.ntmps76
    go_wp2_with fail
    refine HI.out.mono ?_
    rintro e w1 ⟨rfl, hB1⟩
    rw [← hW0] at hB1
    go_wp2_with fail
    go_ret
    exact ⟨ret_int HR.out.symm, HB0.out.trans (hB1.mono HB0.out.size)⟩
  · have hC := isCB_iff.1 hc
    have HC := hid hC
    have HY : Hid (chainB fs ch = true → chnR V fs ch = 0) := hid (chn_yes hc)
    have HN : Hid (chainB fs ch = false → chnR V fs ch = 2) := hid (chn_no hc)
    rw [hc] at HI
    clear hc hC
    obtain ⟨R, hR⟩ : ∃ R, R = chnR V fs ch := ⟨_, rfl⟩
    rw [← hR] at HY HN ⊢
    clear hR
    go_enter Tryd.func76, Tryd.ntmps76
    go_wp2_with fail
    refine HI.out.mono ?_
    rintro e w1 ⟨rfl, hB1⟩
    rw [← hW0] at hB1
    have Hk1 := hid ((hB1.block _ (lt_get Hk.out)).trans Hk.out)
    have HB1 := hid (HB0.out.trans (hB1.mono HB0.out.size))
    clear hB1
    go_wp2_with fail
    go_loopw [5] (fun iv wx => ∃ k : Nat, k ≤ ch.length ∧ iv = .int .i64 k ∧ Hid (linksTo fs ch k) ∧ Hid (Below w1.heap.size w1 wx)) (fun iv _ => ch.length - (RowKit.intOf iv).toNat)
    case atStart => exact ⟨0, Nat.zero_le _, rfl, hid (by intro i h; omega), hid (Below.refl _ _)⟩
    case round =>
      obtain ⟨k, hk, rfl, HK, HB⟩ := hrel
      have hBw := HB1.out.trans (HB.out.mono HB1.out.size)
      have HBw := hid hBw
      have Hkr := hid ((HB.out.block _ (lt_get Hk1.out)).trans Hk1.out)
      by_cases hlt : k < ch.length
      · obtain ⟨b, off, hb, rfl, hcl⟩ : ∃ b off, b < w.heap.size ∧ a1 = some ⟨b, off, none⟩ ∧ ∀ i, i < ch.length → w.cell? ⟨b, off + i, none⟩ = some (.int .i64 (ch[i]?.getD 0)) := by
          rcases Hy.out with h | h
          · rw [h] at hlt; simp at hlt
          · exact h
        obtain ⟨x, hxe⟩ : ∃ x, x = ch[k]?.getD 0 := ⟨_, rfl⟩
        have c0 := cell_regrown ((hBw.cell (p := ⟨b, off + k, none⟩) hb).trans (hcl k hlt))
        rw [← hxe] at c0
        obtain ⟨k0, k1, _, _⟩ := two_of Hkr.out
        have r0 := cell_regrown k0
        have r1 := cell_regrown k1
        have CH := hid (fun d os => Calls.regrown_of (has_any V x a0 cap fs (grow (redrawn wr d) os) (Hx.out.later (hBw.trans ((below_regrown wr d os).mono hBw.size)) (hBw.trans ((below_regrown wr d os).mono hBw.size)).size) hl))
        have hi0 : (0 : Int) ≤ (k : Int) := by omega
        have hi1 : (k : Int) < (ch.length : Int) := by omega
        clear k0 k1 hBw
        by_cases hm : x ∈ fs
        · rw [decide_eq_true hm] at CH
          have hxr := HC.out.range63 _ hm
          by_cases hk0 : 0 < k
          · have hd0 : decide (0 < k) = true := decide_eq_true hk0
            have hsub : IntKind.i64.wrap ((k : Int) - 1) = ((k - 1 : Nat) : Int) := by rw [IntKind.wrap_i64]; omega
            have hj0 : (0 : Int) ≤ ((k - 1 : Nat) : Int) := by omega
            have hj1 : ((k - 1 : Nat) : Int) < (ch.length : Int) := by omega
            obtain ⟨y, hye⟩ : ∃ y, y = ch[k - 1]?.getD 0 := ⟨_, rfl⟩
            have c1 := cell_regrown ((HBw.out.cell (p := ⟨b, off + (k - 1), none⟩) hb).trans (hcl (k - 1) (by omega)))
            rw [← hye] at c1
            by_cases hle : x ≤ y
            · have hd1 : decide (x ≤ y) = true := decide_eq_true hle
              have He := hid (HN.out (chain_no hlt (link_no_ord hk0 (by rw [← hxe, ← hye]; exact hle))))
              clear hle hcl hxe hye hk0
              go_wp2_with fail
              refine wp_region_quiet_below (by kernel_rfl) (by kernel_rfl) ?_
              iterate 5 (with_reducible refine wpQuiet_step (fun K hK => ?_); have HK := hid hK; clear hK; go_simp; (first | with_reducible refine HK.out _ ?_ | (rw [if_neg (by decide)]; with_reducible refine HK.out _ ?_)); clear HK K)
              (with_reducible refine wpQuiet_step (fun K hK => ?_); have HK := hid hK; clear hK; go_simp; apply Exists.intro; with_reducible refine ⟨fun _ => ?_, HK.out _ ?_⟩; exact CH.out _ _; clear HK K)
              iterate 29 (with_reducible refine wpQuiet_step (fun K hK => ?_); have HK := hid hK; clear hK; go_simp; (first | with_reducible refine HK.out _ ?_ | (rw [if_neg (by decide)]; with_reducible refine HK.out _ ?_)); clear HK K)
              with_reducible refine wpQuiet_nil ?_
              intro _ hw'
              obtain ⟨⟨dq, osq⟩, hw''⟩ := hw'
              subst hw''
              go_wp2_with fail
              go_ret
              exact ⟨ret_int He.out.symm, HBw.out.trans ((below_regrown wr dq osq).mono HBw.out.size)⟩
            · have hd1 : decide (x ≤ y) = false := decide_eq_false hle
              obtain ⟨z, hze⟩ : ∃ z, z = ch[0]?.getD 0 := ⟨_, rfl⟩
              have c2 := cell_regrown ((HBw.out.cell (p := ⟨b, off, none⟩) hb).trans (hcl 0 (by omega)))
              rw [← hze] at c2
              have hzr := HC.out.range63 _ (show z ∈ fs by rw [hze]; exact link_head hk0 HK.out)
              have He := hid (link_eq (fs := fs) (ch := ch) (k := k) (by rw [← hxe]; exact hm) (fun _ => by rw [← hxe, ← hye]; omega))
              have hl0 : 0 < ch.length := by omega
              rw [← hxe, ← hze] at He
              obtain ⟨x, rfl⟩ : ∃ n : Nat, x = n := ⟨x.toNat, by omega⟩
              obtain ⟨z, rfl⟩ : ∃ n : Nat, z = n := ⟨z.toNat, by omega⟩
              have hx64 : x < 64 := by omega
              have hz64 : z < 64 := by omega
              have cO : ∀ (f : Nat), f < 64 → ∀ d os, Calls Tryd.prog 74 #[.int .i64 (f : Int)] (grow (redrawn wr d) os) fun e w'' => e = .returned (.int .i64 (ones f : Int)) ∧ ∃ p : Regrown, w'' = grow (redrawn wr p.d) p.os := fun f hf d os => Calls.regrown_of ((ones_any f _ hf).mono fun _ _ ⟨he, hw⟩ => ⟨he, by rw [← hw]; exact Below.refl _ _⟩)
              have COx := hid (cO x hx64)
              have COz := hid (cO z hz64)
              simp only [Int.toNat_natCast] at He
              clear hcl hxe hye hze cO hm hxr hzr hle hx64 hz64
              by_cases ho : ones x = ones z
              · have hd2 : (((ones x : Nat) : Int) != ((ones z : Nat) : Int)) = false := by simp [ho]
                have HS := hid (links_succ HK.out (He.out.trans (decide_eq_true ho)))
                clear ho hk0
                go_wp2_with fail
                refine wp_region_quiet_below (by kernel_rfl) (by kernel_rfl) ?_
                iterate 5 (with_reducible refine wpQuiet_step (fun K hK => ?_); have HK := hid hK; clear hK; go_simp; (first | with_reducible refine HK.out _ ?_ | (rw [if_neg (by decide)]; with_reducible refine HK.out _ ?_)); clear HK K)
                (with_reducible refine wpQuiet_step (fun K hK => ?_); have HK := hid hK; clear hK; go_simp; apply Exists.intro; with_reducible refine ⟨fun _ => ?_, HK.out _ ?_⟩; exact CH.out _ _; clear HK K)
                iterate 20 (with_reducible refine wpQuiet_step (fun K hK => ?_); have HK := hid hK; clear hK; go_simp; (first | with_reducible refine HK.out _ ?_ | (rw [if_neg (by decide)]; with_reducible refine HK.out _ ?_)); clear HK K)
                (with_reducible refine wpQuiet_step (fun K hK => ?_); have HK := hid hK; clear hK; go_simp; apply Exists.intro; with_reducible refine ⟨fun _ => ?_, HK.out _ ?_⟩; exact COx.out _ _; clear HK K)
                iterate 3 (with_reducible refine wpQuiet_step (fun K hK => ?_); have HK := hid hK; clear hK; go_simp; (first | with_reducible refine HK.out _ ?_ | (rw [if_neg (by decide)]; with_reducible refine HK.out _ ?_)); clear HK K)
                (with_reducible refine wpQuiet_step (fun K hK => ?_); have HK := hid hK; clear hK; go_simp; apply Exists.intro; with_reducible refine ⟨fun _ => ?_, HK.out _ ?_⟩; exact COz.out _ _; clear HK K)
                iterate 4 (with_reducible refine wpQuiet_step (fun K hK => ?_); have HK := hid hK; clear hK; go_simp; (first | with_reducible refine HK.out _ ?_ | (rw [if_neg (by decide)]; with_reducible refine HK.out _ ?_)); clear HK K)
                with_reducible refine wpQuiet_nil ?_
                intro _ hw'
                obtain ⟨⟨dq, osq⟩, hw''⟩ := hw'
                subst hw''
                go_wp2_with fail
                go_roundw
                case rel => exact ⟨k + 1, by omega, by go_num, HS, hid (HB.out.trans ((below_regrown wr dq osq).mono HB.out.size))⟩
                case measure => simp [RowKit.intOf]; omega
              · have hd2 : (((ones x : Nat) : Int) != ((ones z : Nat) : Int)) = true := by simp; omega
                have HE2 := hid (HN.out (chain_no hlt (He.out.trans (decide_eq_false ho))))
                clear ho hk0
                go_wp2_with fail
                refine wp_region_quiet_below (by kernel_rfl) (by kernel_rfl) ?_
                iterate 5 (with_reducible refine wpQuiet_step (fun K hK => ?_); have HK := hid hK; clear hK; go_simp; (first | with_reducible refine HK.out _ ?_ | (rw [if_neg (by decide)]; with_reducible refine HK.out _ ?_)); clear HK K)
                (with_reducible refine wpQuiet_step (fun K hK => ?_); have HK := hid hK; clear hK; go_simp; apply Exists.intro; with_reducible refine ⟨fun _ => ?_, HK.out _ ?_⟩; exact CH.out _ _; clear HK K)
                iterate 20 (with_reducible refine wpQuiet_step (fun K hK => ?_); have HK := hid hK; clear hK; go_simp; (first | with_reducible refine HK.out _ ?_ | (rw [if_neg (by decide)]; with_reducible refine HK.out _ ?_)); clear HK K)
                (with_reducible refine wpQuiet_step (fun K hK => ?_); have HK := hid hK; clear hK; go_simp; apply Exists.intro; with_reducible refine ⟨fun _ => ?_, HK.out _ ?_⟩; exact COx.out _ _; clear HK K)
                iterate 3 (with_reducible refine wpQuiet_step (fun K hK => ?_); have HK := hid hK; clear hK; go_simp; (first | with_reducible refine HK.out _ ?_ | (rw [if_neg (by decide)]; with_reducible refine HK.out _ ?_)); clear HK K)
                (with_reducible refine wpQuiet_step (fun K hK => ?_); have HK := hid hK; clear hK; go_simp; apply Exists.intro; with_reducible refine ⟨fun _ => ?_, HK.out _ ?_⟩; exact COz.out _ _; clear HK K)
                iterate 4 (with_reducible refine wpQuiet_step (fun K hK => ?_); have HK := hid hK; clear hK; go_simp; (first | with_reducible refine HK.out _ ?_ | (rw [if_neg (by decide)]; with_reducible refine HK.out _ ?_)); clear HK K)
                with_reducible refine wpQuiet_nil ?_
                intro _ hw'
                obtain ⟨⟨dq, osq⟩, hw''⟩ := hw'
                subst hw''
                go_wp2_with fail
                go_ret
                exact ⟨ret_int HE2.out.symm, HBw.out.trans ((below_regrown wr dq osq).mono HBw.out.size)⟩
          · obtain rfl : k = 0 := by omega
            have hd0 : decide (0 < 0) = false := rfl
            have c00 : ∀ d os, (grow (redrawn wr d) os).cell? ⟨b, off, none⟩ = some (.int .i64 x) := fun d os => by simpa using c0 d os
            have HS := hid (links_succ HK.out (link_first (by rw [← hxe]; exact hm)))
            clear hcl hxe hk0 hm
            go_wp2_with fail
            refine wp_region_quiet_below (by kernel_rfl) (by kernel_rfl) ?_
            iterate 5 (with_reducible refine wpQuiet_step (fun K hK => ?_); have HK := hid hK; clear hK; go_simp; (first | with_reducible refine HK.out _ ?_ | (rw [if_neg (by decide)]; with_reducible refine HK.out _ ?_)); clear HK K)
            (with_reducible refine wpQuiet_step (fun K hK => ?_); have HK := hid hK; clear hK; go_simp; apply Exists.intro; with_reducible refine ⟨fun _ => ?_, HK.out _ ?_⟩; exact CH.out _ _; clear HK K)
            iterate 29 (with_reducible refine wpQuiet_step (fun K hK => ?_); have HK := hid hK; clear hK; go_simp; (first | with_reducible refine HK.out _ ?_ | (rw [if_neg (by decide)]; with_reducible refine HK.out _ ?_)); clear HK K)
            with_reducible refine wpQuiet_nil ?_
            intro _ hw'
            obtain ⟨⟨dq, osq⟩, hw''⟩ := hw'
            subst hw''
            go_wp2_with fail
            go_roundw
            case rel => exact ⟨1, by omega, by go_num, HS, hid (HB.out.trans ((below_regrown wr dq osq).mono HB.out.size))⟩
            case measure => simp [RowKit.intOf]; omega
        · rw [decide_eq_false hm] at CH
          have He := hid (HN.out (chain_no hlt (link_no_mem (by rw [← hxe]; exact hm))))
          clear hm hcl hxe
          go_wp2_with fail
          refine wp_region_quiet_below (by kernel_rfl) (by kernel_rfl) ?_
          iterate 5 (with_reducible refine wpQuiet_step (fun K hK => ?_); have HK := hid hK; clear hK; go_simp; (first | with_reducible refine HK.out _ ?_ | (rw [if_neg (by decide)]; with_reducible refine HK.out _ ?_)); clear HK K)
          (with_reducible refine wpQuiet_step (fun K hK => ?_); have HK := hid hK; clear hK; go_simp; apply Exists.intro; with_reducible refine ⟨fun _ => ?_, HK.out _ ?_⟩; exact CH.out _ _; clear HK K)
          iterate 29 (with_reducible refine wpQuiet_step (fun K hK => ?_); have HK := hid hK; clear hK; go_simp; (first | with_reducible refine HK.out _ ?_ | (rw [if_neg (by decide)]; with_reducible refine HK.out _ ?_)); clear HK K)
          with_reducible refine wpQuiet_nil ?_
          intro _ hw'
          obtain ⟨⟨dq, osq⟩, hw''⟩ := hw'
          subst hw''
          go_wp2_with fail
          go_ret
          exact ⟨ret_int He.out.symm, HBw.out.trans ((below_regrown wr dq osq).mono HBw.out.size)⟩
      · obtain rfl : k = ch.length := by omega
        have He := hid (HY.out (chain_yes HK.out))
        go_wp2_with fail
        go_ret
        exact ⟨ret_int He.out.symm, HBw.out⟩

end Go.Proofs.YtgnahadlcihneaaDoor

/-! slices.Contains on a list of int64. -/
namespace Go.Proofs.YtgnahadlcihneaaDoor
open Go.RowKit

set_option maxRecDepth 100000 in
set_option maxHeartbeats 1000000 in
theorem index_any (a : Option Addr) (cap : Nat) (xs : List Int) (x : Int) (w : World) (hx : SlI w w.heap.size a xs) (hl : xs.length ≤ 1048576) :
    Calls Tryd.prog 128 #[.slice a xs.length cap, .int .i64 x] w fun e w' => ∃ i : Int, e = .returned (.int .i64 i) ∧ -1 ≤ i ∧ (0 ≤ i ↔ x ∈ xs) ∧ w = w' := by
  rcases hx with rfl | ⟨b, off, hb, rfl, hc⟩
  · go_enter Tryd.func128, Tryd.ntmps128
    go_wp2
    refine wp_loop_rounds 1 ?_; rw [rounds_succ]
    go_wp2
    go_ret
    exact ⟨-1, rfl, by decide, by simp, rfl⟩
  · have Hc := hid hc
    clear hc
    go_enter Tryd.func128, Tryd.ntmps128
    go_wp2
    go_loop [8] (fun i => ∃ k : Nat, k ≤ xs.length ∧ i = .int .i64 k ∧ Hid (x ∉ xs.take k)) (fun i => xs.length - (intOf i).toNat)
    case atStart => exact ⟨0, Nat.zero_le _, rfl, hid (by simp)⟩
    case round =>
      obtain ⟨k, hk, rfl, Hk⟩ := hrel
      by_cases hlt : k < xs.length
      · obtain ⟨y, hy⟩ : ∃ y, y = xs[k]?.getD 0 := ⟨_, rfl⟩
        have hck : w.cell? ⟨b, off + k, none⟩ = some (.int .i64 y) := by rw [hy]; exact Hc.out k hlt
        have Hy := hid hy
        have hi0 : (0 : Int) ≤ (k : Int) := by omega
        have hi1 : (k : Int) < (xs.length : Int) := by omega
        clear hy
        by_cases hxy : x = y
        · have hd : (x == y) = true := by simp [hxy]
          have He : Hid (x ∈ xs) := hid (by rw [hxy, Hy.out]; exact getD_mem hlt)
          clear hxy
          go_wp2
          go_ret
          exact ⟨k, rfl, by omega, ⟨fun _ => He.out, fun _ => by omega⟩, rfl⟩
        · have hd : (x == y) = false := by simp [hxy]
          have He : Hid (x ∉ xs.take (k + 1)) := hid (by
            rw [take_snoc hlt, ← Hy.out]
            intro h
            rcases List.mem_append.1 h with h | h
            · exact Hk.out h
            · simp at h; exact hxy h)
          clear hxy
          go_wp2
          go_round
          case rel => exact ⟨k + 1, by omega, by go_num, He.out⟩
          case measure => simp [intOf]; omega
      · have He : Hid (x ∉ xs) := hid (by have := Hk.out; rwa [List.take_of_length_le (by omega)] at this)
        go_wp2
        go_ret
        exact ⟨-1, rfl, by decide, ⟨fun h => absurd h (by decide), fun h => absurd h He.out⟩, rfl⟩

set_option maxRecDepth 100000 in
set_option maxHeartbeats 1000000 in
theorem contains_any (a : Option Addr) (cap : Nat) (xs : List Int) (x : Int) (w : World) (hx : SlI w w.heap.size a xs) (hl : xs.length ≤ 1048576) :
    Calls Tryd.prog 120 #[.slice a xs.length cap, .int .i64 x] w fun e w' => e = .returned (.bool (decide (x ∈ xs))) ∧ w = w' := by
  have HI := hid (index_any a cap xs x w hx hl)
  obtain ⟨c, hc⟩ : ∃ c, c = decide (x ∈ xs) := ⟨_, rfl⟩
  have Hc := hid hc
  rw [← hc]
  clear hc hx
  go_enter Tryd.func120, Tryd.ntmps120
  go_wp2_with fail
  refine HI.out.mono ?_
  rintro e w' ⟨i, rfl, h1, h2, rfl⟩
  have Hi := hid h2
  have H1 := hid h1
  clear h1 h2
  by_cases h0 : 0 ≤ i
  · have He : Hid (c = true) := hid (by rw [Hc.out]; exact decide_eq_true (Hi.out.1 h0))
    go_wp2_with fail
    go_ret
    exact ⟨ret_bool (by rw [He.out]), rfl⟩
  · have He : Hid (c = false) := hid (by rw [Hc.out]; exact decide_eq_false (fun h => h0 (Hi.out.2 h)))
    have hlt : i < 0 := by omega
    go_wp2_with fail
    go_ret
    exact ⟨ret_bool (by rw [He.out]; simp [hlt]), rfl⟩

end Go.Proofs.YtgnahadlcihneaaDoor

/-! Is a list a chain? The program's test, which panics, and the deferred recover. -/
namespace Go.Proofs.YtgnahadlcihneaaDoor
open Go.RowKit

theorem below_dn (w : World) (n : Nat) : Below w.heap.size w (w.drewN n) := ⟨rfl, rfl, rfl, Nat.le_refl _, fun _ _ => rfl⟩
theorem link_no_ones {fs ch : List Int} {k : Nat} (h : ¬ ones (ch[k]?.getD 0).toNat = ones (ch[0]?.getD 0).toNat) : linkB fs ch k = false := by unfold linkB; simp [h]

/-- What a call ends with that returns nothing, or panics with a value. -/
def endOf (c : Bool) (u : TypeId) (pv : Value) : Ending := if c then .returned (.tuple #[]) else .panicked [{ v := .iface u pv, recovered := false }]

set_option maxRecDepth 100000 in
set_option maxHeartbeats 8000000 in
theorem must_any (V : Int) (a0 : Option Addr) (cap : Nat) (fs : List Int) (a1 : Option Addr) (cap1 : Nat) (ch : List Int) (w : World) (u : TypeId) (pv : Value) (hx : SlI w w.heap.size a0 fs) (hx1 : SlI w w.heap.size a1 ch) (hl : fs.length ≤ 1048576) (hg : ch.length ≤ 1048576)
    (hC : IsC V fs) (hG : w.cell? ⟨2, 0, none⟩ = some (.iface u pv)) :
    Calls Tryd.prog 99 #[.agg #[.int .i64 V, .slice a0 fs.length cap], .slice a1 ch.length cap1] w fun e w' => e = endOf (chainB fs ch) u pv ∧ Below w.heap.size w w' := by
  obtain ⟨W0, hW0⟩ : ∃ W0, W0 = w.alloc (.cells #[.int .i64 V, .slice a0 fs.length cap] 28) := ⟨_, rfl⟩
  have hB0 : Below w.heap.size w W0 := by rw [hW0]; exact (Below.refl _ w).alloc (Nat.le_refl _) _
  have Hk : Hid (W0.heap[w.heap.size]? = some (.cells #[.int .i64 V, .slice a0 fs.length cap] 28 (0, 0))) := hid (by rw [hW0]; exact heap_alloc_new _ _)
  have Hx := hid hx
  have Hy := hid hx1
  have HB0 := hid hB0
  have HC := hid hC
  have HG := hid hG
  have HGl := hid (World.block_lt_of_cell? w _ hG)
  obtain ⟨c, hcc⟩ : ∃ c, c = chainB fs ch := ⟨_, rfl⟩
  rw [← hcc]
  have Hc := hid hcc
  clear hx hx1 hB0 hC hG hcc
  go_enter Tryd.func99, Tryd.ntmps99
  go_wp2_with fail
  rw [← hW0]
  clear hW0
  go_loopw [8] (fun iv wx => ∃ k : Nat, k ≤ ch.length ∧ iv = .int .i64 k ∧ Hid (linksTo fs ch k) ∧ Hid (Below w.heap.size w wx) ∧ Hid (wx.heap[w.heap.size]? = some (.cells #[.int .i64 V, .slice a0 fs.length cap] 28 (0, 0)))) (fun iv _ => ch.length - (RowKit.intOf iv).toNat)
  case atStart => exact ⟨0, Nat.zero_le _, rfl, hid (by intro i h; omega), HB0, Hk⟩
  case round =>
    obtain ⟨k, hk, rfl, HK, HB, Hkr⟩ := hrel
    have hBw := HB.out
    have Hq : Hid (∀ n, Below w.heap.size w (wr.drewN n)) := hid (fun n => HB.out.trans ((below_dn wr n).mono HB.out.size))
    by_cases hlt : k < ch.length
    · obtain ⟨b, off, hb, rfl, hcl⟩ : ∃ b off, b < w.heap.size ∧ a1 = some ⟨b, off, none⟩ ∧ ∀ i, i < ch.length → w.cell? ⟨b, off + i, none⟩ = some (.int .i64 (ch[i]?.getD 0)) := by
        rcases Hy.out with h | h
        · rw [h] at hlt; simp at hlt
        · exact h
      obtain ⟨x, hxe⟩ : ∃ x, x = ch[k]?.getD 0 := ⟨_, rfl⟩
      have c0 := (hBw.cell (p := ⟨b, off + k, none⟩) hb).trans (hcl k hlt)
      rw [← hxe] at c0
      obtain ⟨k0, k1, _, _⟩ := two_of Hkr.out
      have hGr := (hBw.cell (p := ⟨2, 0, none⟩) HGl.out).trans HG.out
      have CH := hid (fun n => contains_any a0 cap fs x (wr.drewN n) (Hx.out.later (Hq.out n) (Hq.out n).size) hl)
      have hi0 : (0 : Int) ≤ (k : Int) := by omega
      have hi1 : (k : Int) < (ch.length : Int) := by omega
      clear hBw
      by_cases hm : x ∈ fs
      · rw [decide_eq_true hm] at CH
        have hxr := HC.out.range63 _ hm
        obtain ⟨z, hze⟩ : ∃ z, z = ch[0]?.getD 0 := ⟨_, rfl⟩
        have c2 := (HB.out.cell (p := ⟨b, off, none⟩) hb).trans (hcl 0 (by omega))
        rw [← hze] at c2
        have hzr := HC.out.range63 _ (show z ∈ fs by
          by_cases hk0 : k = 0
          · subst hk0; rw [hze, ← hxe]; exact hm
          · rw [hze]; exact link_head (by omega) HK.out)
        have hl0 : (0 : Int) < (ch.length : Int) := by omega
        have HZ : Hid (k = 0 → z = x) := hid (fun h => by rw [hze, hxe, h])
        have HLn : Hid (¬ ones x.toNat = ones z.toNat → c = false) := hid (fun h => Hc.out.trans (chain_no hlt (link_no_ones (by rw [← hxe, ← hze]; exact h))))
        have HLo : Hid (0 < k → x ≤ ch[k - 1]?.getD 0 → c = false) := hid (fun h0 h => Hc.out.trans (chain_no hlt (link_no_ord h0 (by rw [← hxe]; exact h))))
        have HLy : Hid (ones x.toNat = ones z.toNat → (0 < k → ch[k - 1]?.getD 0 < x) → linksTo fs ch (k + 1)) := hid (fun ho h => links_succ HK.out ((link_eq (by rw [← hxe]; exact hm) (fun h0 => by rw [← hxe]; exact h h0)).trans (by rw [← hxe, ← hze]; exact decide_eq_true ho)))
        obtain ⟨x, rfl⟩ : ∃ n : Nat, x = n := ⟨x.toNat, by omega⟩
        obtain ⟨z, rfl⟩ : ∃ n : Nat, z = n := ⟨z.toNat, by omega⟩
        have hx64 : x < 64 := by omega
        have hz64 : z < 64 := by omega
        have CX := hid (fun n => dim_any x (wr.drewN n) hx64)
        have CZ := hid (fun n => dim_any z (wr.drewN n) hz64)
        simp only [Int.toNat_natCast] at HLn HLy
        clear hxe hze hxr hzr hm hx64 hz64
        by_cases ho : ones x = ones z
        · have hd2 : (((ones x : Nat) : Int) - 1 != ((ones z : Nat) : Int) - 1) = false := by simp [ho]
          rw [ho] at CX hd2
          by_cases hk0 : 0 < k
          · have hd0 : decide (0 < k) = true := decide_eq_true hk0
            have hsub : IntKind.i64.wrap ((k : Int) - 1) = ((k - 1 : Nat) : Int) := by rw [IntKind.wrap_i64]; omega
            have hsub2 : wrap64 ((k : Int) - 1) = ((k - 1 : Nat) : Int) := by rw [wrap64]; omega
            have hj0 : (0 : Int) ≤ ((k - 1 : Nat) : Int) := by omega
            have hj1 : ((k - 1 : Nat) : Int) < (ch.length : Int) := by omega
            have c1 := (HB.out.cell (p := ⟨b, off + (k - 1), none⟩) hb).trans (hcl (k - 1) (by omega))
            obtain ⟨y, hye⟩ : ∃ y, y = ch[k - 1]?.getD 0 := ⟨_, rfl⟩
            rw [← hye] at c1 HLo HLy
            clear hcl hye
            by_cases hle : (x : Int) ≤ y
            · have hd1 : decide ((x : Int) ≤ y) = true := decide_eq_true hle
              have He := hid (HLo.out hk0 hle)
              clear hle ho hk0
              go_wp2_with fail
              go_quiet (first
          | (go_at_call 120; exact quiet_of_eq (CH.out _))
          | (go_at_call 121; first | exact quiet_of_eq (CX.out _) | exact quiet_of_eq (CZ.out _)))
              go_wp2_with fail
              refine ⟨rfl, ?_, Hq.out _⟩
              rw [He.out]
              rfl
            · have hd1 : decide ((x : Int) ≤ y) = false := decide_eq_false hle
              have HS := hid (HLy.out ho (fun _ => by omega))
              clear hle ho hk0
              go_wp2_with fail
              go_quiet (first
          | (go_at_call 120; exact quiet_of_eq (CH.out _))
          | (go_at_call 121; first | exact quiet_of_eq (CX.out _) | exact quiet_of_eq (CZ.out _)))
              go_wp2_with fail
              go_roundw
              case rel => exact ⟨k + 1, by omega, by go_num, HS, hid (Hq.out _), hid (by exact Hkr.out)⟩
              case measure => simp [RowKit.intOf]; omega
          · obtain rfl : k = 0 := by omega
            have hd0 : decide (0 < 0) = false := rfl
            have HS := hid (HLy.out ho (fun h => absurd h (by omega)))
            obtain rfl : z = x := by have := HZ.out rfl; omega
            clear ho hk0 hcl c0
            go_wp2_with fail
            go_quiet (first
          | (go_at_call 120; exact quiet_of_eq (CH.out _))
          | (go_at_call 121; first | exact quiet_of_eq (CX.out _) | exact quiet_of_eq (CZ.out _)))
            go_wp2_with fail
            go_roundw
            case rel => exact ⟨1, by omega, by go_num, HS, hid (Hq.out _), hid (by exact Hkr.out)⟩
            case measure => simp [RowKit.intOf]; omega
        · have hd2 : (((ones x : Nat) : Int) - 1 != ((ones z : Nat) : Int) - 1) = true := by simp; omega
          have He := hid (HLn.out ho)
          clear ho hcl
          go_wp2_with fail
          go_quiet (first
          | (go_at_call 120; exact quiet_of_eq (CH.out _))
          | (go_at_call 121; first | exact quiet_of_eq (CX.out _) | exact quiet_of_eq (CZ.out _)))
          go_wp2_with fail
          refine ⟨rfl, ?_, Hq.out _⟩
          rw [He.out]
          rfl
      · rw [decide_eq_false hm] at CH
        have He := hid (Hc.out.trans (chain_no hlt (link_no_mem (by rw [← hxe]; exact hm))))
        clear hm hcl hxe
        go_wp2_with fail
        go_quiet (first
          | (go_at_call 120; exact quiet_of_eq (CH.out _)))
        go_wp2_with fail
        refine ⟨rfl, ?_, Hq.out _⟩
        rw [He.out]
        rfl
    · obtain rfl : k = ch.length := by omega
      have He : Hid (c = true) := hid (Hc.out.trans (chain_yes HK.out))
      go_wp2_with fail
      go_end0
      exact ⟨by rw [He.out]; rfl, HB.out⟩

end Go.Proofs.YtgnahadlcihneaaDoor

/-! chainCode: a deferred recover turns the panic into a code. -/
namespace Go.Proofs.YtgnahadlcihneaaDoor
open Go.RowKit

theorem assert_err (pv : Value) (w : World) : (Instr.typeAssert (.iface 143 pv) 20 100 true).run Tryd.prog w = .ok (.tuple #[.iface 143 pv, .bool true]) w := by kernel_rfl
theorem assert_nil (w : World) : (Instr.typeAssert .nilIface 20 100 true).run Tryd.prog w = .ok (.tuple #[.nilIface, .bool false]) w := by kernel_rfl

set_option maxHeartbeats 1000000 in
theorem catch_panic (p : Addr) (x : Int) (pv : Value) (older : List PanicEntry) (w : World) (hc : w.cell? p = some (.int .i64 x)) (hz : w.frozen? p = false) :
    CallsD Tryd.prog 98 #[.pointer (some p)] (.panicking ({ v := .iface 143 pv, recovered := false } :: older)) w fun e u' w' =>
      e = .returned (.tuple #[]) ∧ u' = .panicking ({ v := .iface 143 pv, recovered := true } :: older) ∧ w' = w.setCell p (.int .i64 2) := by
  have ha := assert_err
  refine callsD_of_wpS Tryd.func98 rfl fun c₀ cs hu => ?_
  apply wpS_seq
  apply wpS_region
  simp [wpOpsS, go_sem, recoverD, hu, ha, Tryd.ntmps98, Exit.thenS]
  apply wpS_seq
  apply wpS_region
  simp [wpOpsS, go_sem, Exit.thenS]
  refine wpS_cond (t := true) (by simp [Act.eval, Array.replicate]) ?_
  simp only [if_true]
  apply wpS_region
  simp [wpOpsS, go_sem, hc, hz, bodyPostS, results, Tryd.results98]

theorem catch_idle (p : Addr) (w : World) :
    CallsD Tryd.prog 98 #[.pointer (some p)] .returning w fun e u' w' => e = .returned (.tuple #[]) ∧ u' = .returning ∧ w' = w := by
  have ha := assert_nil
  refine callsD_of_wpS Tryd.func98 rfl fun c₀ cs hu => ?_
  apply wpS_seq
  apply wpS_region
  simp [wpOpsS, go_sem, recoverD, hu, ha, Tryd.ntmps98, Exit.thenS]
  apply wpS_seq
  apply wpS_region
  simp [wpOpsS, go_sem, Exit.thenS]
  refine wpS_cond (t := false) (by simp [Act.eval, Array.replicate]) ?_
  simp only [Bool.false_eq_true, if_false]
  refine wpS_of_wp (wp_skip ?_)
  cases c₀
  simp_all [bodyPostS, results, Tryd.results98]

/-- The code of a complex and some lists. -/
noncomputable def chnsR (V : Int) (fs : List Int) (chs : List (List Int)) : Int := if isCB V fs then (if chs.all (chainB fs) then 0 else 2) else 1
/-- Some lists that lie one behind the other, as slices, in block bl. -/
def Lists (w : World) (B bl : Nat) (ls : List (Option Addr × Nat × List Int)) : Prop :=
  ∀ i a cap ch, ls[i]? = some (a, cap, ch) → w.cell? ⟨bl, i, none⟩ = some (.slice a ch.length cap) ∧ SlI w B a ch ∧ ch.length ≤ 1048576

theorem all_take {α : Type} {p : α → Bool} {ls : List α} {k : Nat} (h : ∀ i x, i < k → ls[i]? = some x → p x = true) (hk : ls.length ≤ k) : ls.all p = true := by
  rw [List.all_eq_true]
  intro x hx
  obtain ⟨i, hi, rfl⟩ := List.getElem_of_mem hx
  exact h i _ (by omega) (List.getElem?_eq_getElem hi)
theorem all_not {α : Type} {p : α → Bool} {ls : List α} {k : Nat} {x : α} (hk : ls[k]? = some x) (h : p x = false) : ls.all p = false := by
  rw [List.all_eq_false]
  exact ⟨x, List.mem_of_getElem? hk, by simp [h]⟩

theorem set_one {W : World} {b : Nat} {v u : Value} (h : W.cell? ⟨b, 0, none⟩ = some v) : (W.setCell ⟨b, 0, none⟩ u).cell? ⟨b, 0, none⟩ = some u := by simp [go_sem, h]
theorem leave_code {tmps : Array Value} {R : Ending → World → Prop} {W : World} {b : Nat} {x : Int} (hp : tmps.getD 4 undef = .pointer (some ⟨b, 0, none⟩)) (hc : W.cell? ⟨b, 0, none⟩ = some (.int .i64 x)) (hR : R (.returned (.int .i64 x)) W) :
    Leaves Tryd.prog Tryd.f78 tmps R [] .returning W := by
  have hp' : tmps[4]?.getD undef = .pointer (some ⟨b, 0, none⟩) := by simpa using hp
  refine ⟨.int .i64 x, ?_, hR⟩
  simp [results, Tryd.results78, hp', asAddr, go_sem, hc]

set_option maxRecDepth 100000 in
set_option maxHeartbeats 4000000 in
theorem code_any (V : Int) (a0 : Option Addr) (cap : Nat) (fs : List Int) (bl cl : Nat) (ls : List (Option Addr × Nat × List Int)) (w : World) (pv : Value) (hx : SlI w w.heap.size a0 fs) (hl : fs.length ≤ 1048576)
    (hb : bl < w.heap.size) (hL : Lists w w.heap.size bl ls) (hn : ls.length ≤ 1048576) (hG : w.cell? ⟨2, 0, none⟩ = some (.iface 143 pv)) :
    Calls Tryd.prog 78 #[.agg #[.int .i64 V, .slice a0 fs.length cap], .slice (some ⟨bl, 0, none⟩) ls.length cl] w fun e w' => e = .returned (.int .i64 (chnsR V fs (ls.map (·.2.2)))) ∧ Below w.heap.size w w' := by
  have hmf : ∀ (fn : Fn) (first cap : Array Value) (w : World), (Instr.makeFunc fn first cap).run Tryd.prog w = .ok (.func fn first cap) w := fun _ _ _ _ => rfl
  obtain ⟨W0, hW0⟩ : ∃ W0, W0 = (w.alloc (.cells #[.int .i64 V, .slice a0 fs.length cap] 28)).alloc (.cells #[.int .i64 0] 2) := ⟨_, rfl⟩
  have hB0 : Below w.heap.size w W0 := by rw [hW0]; exact ((Below.refl _ w).alloc (Nat.le_refl _) _).alloc (by simp) _
  have Hk : Hid (W0.heap[w.heap.size]? = some (.cells #[.int .i64 V, .slice a0 fs.length cap] 28 (0, 0))) := hid (by rw [hW0]; exact (Below.heap_alloc _ _ _ (by simp)).trans (heap_alloc_new _ _))
  have Hr : Hid (W0.heap[w.heap.size + 1]? = some (.cells #[.int .i64 0] 2 (0, 0))) := hid (by rw [hW0]; exact new2 _ _ _)
  have Hx := hid hx
  have HB0 := hid hB0
  have HL := hid hL
  have HG := hid hG
  have HGl := hid (World.block_lt_of_cell? w _ hG)
  have HI := hid (implIsComplex V a0 cap fs W0 (hx.later hB0 hB0.size) hl)
  rw [hW0] at HI
  clear hx hB0 hL hG
  cases hc : isCB V fs
  · have HR : Hid (chnsR V fs (ls.map (·.2.2)) = 1) := hid (by unfold chnsR; rw [hc]; rfl)
    rw [hc] at HI
    clear hc
    go_enter_defers Tryd.func78, Tryd.ntmps78
    go_wp2_with fail
    refine HI.out.mono ?_
    rintro e w1 ⟨rfl, hB1⟩
    rw [← hW0] at hB1
    have hr1 := (hB1.block _ (lt_get Hr.out)).trans Hr.out
    obtain ⟨r0, g0⟩ := box_cell hr1
    have Hr1 := hid hr1
    have HB1 := hid (HB0.out.trans (hB1.mono HB0.out.size))
    clear hB1 hr1
    go_wp2_with fail
    simp only [bodyPostD]
    refine leave_code (b := w.heap.size + 1) rfl (set_one r0) ⟨by rw [HR.out], ?_⟩
    exact HB1.out.setCell (Nat.le_succ _) _
  · have hC := isCB_iff.1 hc
    have HC := hid hC
    have HY : Hid (ls.all (fun x => chainB fs x.2.2) = true → chnsR V fs (ls.map (·.2.2)) = 0) := hid (fun h => by unfold chnsR; rw [hc, if_pos rfl, List.all_map]; exact if_pos h)
    have HN : Hid (ls.all (fun x => chainB fs x.2.2) = false → chnsR V fs (ls.map (·.2.2)) = 2) := hid (fun h => by unfold chnsR; rw [hc, if_pos rfl, List.all_map]; exact if_neg (by simpa using h))
    rw [hc] at HI
    clear hc hC
    obtain ⟨R, hR⟩ : ∃ R, R = chnsR V fs (ls.map (·.2.2)) := ⟨_, rfl⟩
    rw [← hR] at HY HN ⊢
    clear hR
    go_enter_defers Tryd.func78, Tryd.ntmps78
    go_wp2_with fail
    refine HI.out.mono ?_
    rintro e w1 ⟨rfl, hB1⟩
    rw [← hW0] at hB1
    have Hk1 := hid ((hB1.block _ (lt_get Hk.out)).trans Hk.out)
    have Hr1 := hid ((hB1.block _ (lt_get Hr.out)).trans Hr.out)
    have HB1 := hid (HB0.out.trans (hB1.mono HB0.out.size))
    clear hB1
    go_wp2_with fail
    clear hmf
    go_loopw [13] (fun iv wx => ∃ k : Nat, k ≤ ls.length ∧ iv = .int .i64 k ∧ Hid (∀ i x, i < k → ls[i]? = some x → chainB fs x.2.2 = true) ∧ Hid (Below w1.heap.size w1 wx)) (fun iv _ => ls.length - (RowKit.intOf iv).toNat)
    case atStart => exact ⟨0, Nat.zero_le _, rfl, hid (by intro i x h; omega), hid (Below.refl _ _)⟩
    case round =>
      obtain ⟨k, hk, rfl, HK, HB⟩ := hrel
      have HBw := hid (HB1.out.trans (HB.out.mono HB1.out.size))
      have Hkr := hid ((HB.out.block _ (lt_get Hk1.out)).trans Hk1.out)
      have Hrr := hid ((HB.out.block _ (lt_get Hr1.out)).trans Hr1.out)
      by_cases hlt : k < ls.length
      · obtain ⟨⟨a, c2, ch⟩, hx⟩ : ∃ x, ls[k]? = some x := ⟨_, List.getElem?_eq_getElem hlt⟩
        obtain ⟨hcl, hsl, hcn⟩ := HL.out k a c2 ch hx
        have hck := (HBw.out.cell (p := ⟨bl, k, none⟩) hb).trans hcl
        obtain ⟨k0, k1, _, _⟩ := two_of Hkr.out
        have HM := hid (must_any V a0 cap fs a c2 ch wr 143 pv (Hx.out.later HBw.out HBw.out.size) (hsl.later HBw.out HBw.out.size) hl hcn HC.out ((HBw.out.cell (p := ⟨2, 0, none⟩) HGl.out).trans HG.out))
        have hi0 : (0 : Int) ≤ (k : Int) := by omega
        have hi1 : (k : Int) < (ls.length : Int) := by omega
        have Hxk := hid hx
        clear hcl hsl hcn hx
        obtain ⟨c, hcc⟩ : ∃ c, c = chainB fs ch := ⟨_, rfl⟩
        rw [← hcc] at HM
        have Hcc := hid hcc
        clear hcc
        go_wp2_with fail
        refine HM.out.mono ?_
        rintro e w2 ⟨rfl, hB2⟩
        have HB2 := hid hB2
        clear hB2 k0 k1
        cases c
        · have He := hid (HN.out (all_not Hxk.out Hcc.out.symm))
          have hr2 := (HB2.out.block _ (lt_get Hrr.out)).trans Hrr.out
          obtain ⟨r0, g0⟩ := box_cell hr2
          simp only [endOf]
          refine leaves_cons (f := 98) (args := #[.pointer (some ⟨w.heap.size + 1, 0, none⟩)]) (by simp) (by simp [go_sem]) ?_
          refine (catch_panic ⟨w.heap.size + 1, 0, none⟩ 0 pv [] _ r0 g0).mono ?_
          rintro e u' w3 ⟨rfl, rfl, rfl⟩
          refine leave_code (b := w.heap.size + 1) rfl (set_one r0) ⟨by rw [He.out], ?_⟩
          exact (HBw.out.trans (HB2.out.mono HBw.out.size)).setCell (Nat.le_succ _) _
        · have HS : Hid (∀ i x, i < k + 1 → ls[i]? = some x → chainB fs x.2.2 = true) := hid (fun i x hi h => by
            by_cases e : i = k
            · subst e
              rw [Hxk.out] at h
              cases h
              exact Hcc.out.symm
            · exact HK.out i x (by omega) h)
          simp only [endOf]
          go_wp2_with fail
          go_roundw
          case rel => exact ⟨k + 1, by omega, by go_num, HS, hid (HB.out.trans (HB2.out.mono HB.out.size))⟩
          case measure => simp [RowKit.intOf]; omega
      · obtain rfl : k = ls.length := by omega
        have He := hid (HY.out (all_take HK.out (Nat.le_refl _)))
        obtain ⟨r0, g0⟩ := box_cell Hrr.out
        go_wp2_with fail
        refine leaves_cons (f := 98) (args := #[.pointer (some ⟨w.heap.size + 1, 0, none⟩)]) (by simp) (by simp [go_sem]) ?_
        refine (catch_idle ⟨w.heap.size + 1, 0, none⟩ _).mono ?_
        rintro e u' w3 ⟨rfl, rfl, rfl⟩
        refine leave_code (b := w.heap.size + 1) rfl (set_one r0) ⟨by rw [He.out], ?_⟩
        exact HBw.out.setCell (Nat.le_succ _) _

end Go.Proofs.YtgnahadlcihneaaDoor

/-! The sides of a face, one after the other: an iterator. -/
namespace Go.Proofs.YtgnahadlcihneaaDoor
open Go.RowKit Go.Shelf

attribute [local go_sem] Oper.semAt_some

/-- A face without a vertex (the face itself if the vertex is not in it). -/
def sideN (f v : Nat) : Nat := f - (f &&& 2 ^ v)
def sideO (f v : Nat) : Option (Fin 64) := if h : sideN f v < 64 then (if sideN f v ≠ f ∧ sideN f v ≠ 0 then some ⟨sideN f v, h⟩ else none) else none
/-- The sides that lack one of the first k vertices. -/
def sidesTo (f k : Nat) : List (Fin 64) := (List.range k).filterMap (sideO f)
def sidesF (f : Nat) : List (Fin 64) := sidesTo f 6

theorem side_lt {f : Nat} (hf : f < 64) (v : Nat) : sideN f v < 64 := by unfold sideN; omega
theorem side_bits : ∀ f : Fin 64, ∀ v : Fin 6, bits BinOp.andNot IntKind.i64 (f.val : Int) (wrap64 (2 ^ v.val)) = (sideN f.val v.val : Int) := by decide +kernel
theorem sidesTo_some {f k : Nat} (hf : f < 64) (h1 : sideN f k ≠ f) (h0 : sideN f k ≠ 0) : sidesTo f (k + 1) = sidesTo f k ++ [⟨sideN f k, side_lt hf k⟩] := by
  unfold sidesTo
  rw [List.range_succ, List.filterMap_append]
  have : sideO f k = some ⟨sideN f k, side_lt hf k⟩ := by unfold sideO; rw [dif_pos (side_lt hf k), if_pos ⟨h1, h0⟩]
  simp [this]
theorem sidesTo_none {f k : Nat} (h : ¬ (sideN f k ≠ f ∧ sideN f k ≠ 0)) : sidesTo f (k + 1) = sidesTo f k := by
  unfold sidesTo
  rw [List.range_succ, List.filterMap_append]
  have : sideO f k = none := by
    unfold sideO
    by_cases hh : sideN f k < 64
    · rw [dif_pos hh, if_neg h]
    · rw [dif_neg hh]
  simp [this]
theorem sidesTo_prefix (f : Nat) : ∀ m k, sidesTo f k <+: sidesTo f (k + m)
  | 0, k => List.prefix_refl _
  | m + 1, k => by
    refine (sidesTo_prefix f m k).trans ?_
    unfold sidesTo
    rw [← Nat.add_assoc, List.range_succ, List.filterMap_append]
    exact List.prefix_append _ _
theorem sides_len (f k : Nat) : (sidesTo f k).length ≤ k := by
  unfold sidesTo
  exact Nat.le_trans (List.length_filterMap_le _ _) (by simp)

set_option maxRecDepth 100000 in
set_option maxHeartbeats 2000000 in
/-- The iterator over the sides of f: whatever the loop's body, as long as it keeps the block of f. -/
theorem sides1_in (n : Nat) (hn : 1 ≤ n) (l B0 f : Nat) (hf : f < 64) (J Jx : List (Fin 64) → World → Prop)
    (hY : ∀ pre x W, J pre W → pre ++ [x] <+: sidesF f → YieldAt Fence.wide (n - 1) Tryd.prog l #[.int .i64 (x.val : Int)] W fun e W' =>
      (e = .returned (.bool true) ∧ J (pre ++ [x]) W' ∧ KeepB B0 W W') ∨ (e = .returned (.bool false) ∧ Jx (pre ++ [x]) W'))
    (hJd : ∀ pre W m, J pre W → J pre (W.drewN m))
    (W : World) (hB0 : W.heap[B0]? = some (.cells #[.int .i64 (f : Int)] 2 (0, 0))) (h0 : J [] W) :
    CallsIn Fence.wide n Tryd.prog 122 #[.func (.yield l) #[] #[], .pointer (some ⟨B0, 0, none⟩)] W fun e W' => (∃ v, e = .returned v) ∧
      ((∃ ys, ys = sidesF f ∧ J ys W') ∨ (∃ pre, pre <+: sidesF f ∧ Jx pre W')) := by
  have c0 := (box_cell hB0).1
  refine callsIn_of_wp Tryd.func122 rfl trivial ?_ rfl
  simp only [Tryd.ntmps122, List.size_toArray, List.length_cons, List.length_nil, Nat.reduceAdd, Nat.reduceSub, Array.replicate_succ, Array.replicate_zero, List.push_toArray, List.append_toArray, List.nil_append, List.cons_append]
  gi_wp2
  gi_loopw [5] (fun p wr => ∃ (k : Nat), p = .int .i64 (k : Int) ∧ k ≤ 6 ∧ J (sidesTo f k) wr ∧ wr.heap[B0]? = some (.cells #[.int .i64 (f : Int)] 2 (0, 0)))
    (fun p _ => 6 - (intOf p).toNat)
  case atStart =>
    exact ⟨0, rfl, by omega, h0, hB0⟩
  case round =>
    obtain ⟨k, rfl, hk, hJs, hBr⟩ := hrel
    by_cases hk6 : k < 6
    · have hki : (k : Int) < 6 := by omega
      have hk0 : (0 : Int) ≤ (k : Int) := by omega
      have c0r := (box_cell hBr).1
      have hb : bits BinOp.andNot IntKind.i64 (f : Int) (wrap64 (2 ^ k)) = (sideN f k : Int) := side_bits ⟨f, hf⟩ ⟨k, hk6⟩
      obtain ⟨s, hs⟩ : ∃ s, s = sideN f k := ⟨_, rfl⟩
      rw [← hs] at hb
      have hs64 : s < 64 := by rw [hs]; exact side_lt hf k
      have HJ := hid hJs
      have HB := hid hBr
      clear hJs hBr
      by_cases h1 : s = f
      · have hd : ((s : Int) != (f : Int)) = false := by simp [h1]
        have Hst := hid (sidesTo_none (f := f) (k := k) (fun h => h.1 (by rw [← hs]; exact h1)))
        clear h1 hs
        gi_wp2
        gi_quiet (fail)
        gi_wp2
        refine ⟨fun _ h => (by cases h), ?_⟩
        gi_wp2
        go_roundw
        case rel => exact ⟨k + 1, by go_num, by omega, by rw [Hst.out]; exact hJd _ _ _ HJ.out, HB.out⟩
        case measure => simp [intOf]; omega
      · have hd : ((s : Int) != (f : Int)) = true := by simp; omega
        by_cases h2 : s = 0
        · have hd2 : ((s : Int) != 0) = false := by simp [h2]
          have Hst := hid (sidesTo_none (f := f) (k := k) (fun h => h.2 (by rw [← hs]; exact h2)))
          clear h1 h2 hs
          gi_wp2
          gi_quiet (fail)
          gi_wp2
          refine ⟨fun _ h => (by cases h), ?_⟩
          gi_wp2
          go_roundw
          case rel => exact ⟨k + 1, by go_num, by omega, by rw [Hst.out]; exact hJd _ _ _ HJ.out, HB.out⟩
          case measure => simp [intOf]; omega
        · have hd2 : ((s : Int) != 0) = true := by simp; omega
          have Hst := hid (sidesTo_some hf (k := k) (by rw [← hs]; exact h1) (by rw [← hs]; exact h2))
          have Hpre : Hid (sidesTo f k ++ [⟨s, hs64⟩] <+: sidesF f) := hid (by
            have e : sidesTo f (k + 1) = sidesTo f k ++ [⟨s, hs64⟩] := by rw [Hst.out]; simp [hs]
            rw [← e]
            have := sidesTo_prefix f (6 - (k + 1)) (k + 1)
            rwa [show k + 1 + (6 - (k + 1)) = 6 by omega] at this)
          have Hst' : Hid (sidesTo f (k + 1) = sidesTo f k ++ [⟨s, hs64⟩]) := hid (by rw [Hst.out]; simp [hs])
          have HY : Hid (∀ W', J (sidesTo f k) W' → YieldAt Fence.wide (n - 1) Tryd.prog l #[.int .i64 (s : Int)] W' fun e W'' =>
              (e = .returned (.bool true) ∧ J (sidesTo f k ++ [⟨s, hs64⟩]) W'' ∧ KeepB B0 W' W'') ∨ (e = .returned (.bool false) ∧ Jx (sidesTo f k ++ [⟨s, hs64⟩]) W'')) := hid (fun W' hj => hY _ ⟨s, hs64⟩ W' hj Hpre.out)
          clear h1 h2 hs Hst
          gi_wp2
          gi_quiet (fail)
          obtain ⟨fn, tmps, assign, body, hy, hR⟩ := HY.out _ (hJd _ _ nq HJ.out)
          gi_wp2
          refine hR.mono ?_
          rintro e W3 (⟨rfl, hJ3, hk3⟩ | ⟨rfl, hJx3⟩)
          · have hBr3 : W3.heap[B0]? = some (.cells #[.int .i64 (f : Int)] 2 (0, 0)) := Eq.trans hk3 HB.out
            have c03 := (box_cell hBr3).1
            gi_wp2
            go_roundw
            case rel => exact ⟨k + 1, by go_num, by omega, by rw [Hst'.out]; exact hJ3, hBr3⟩
            case measure => simp [intOf]; omega
          · gi_wp2
            refine bodyPost_ret (results_none rfl _ _ _) rfl ?_
            exact ⟨⟨_, rfl⟩, .inr ⟨_, Hpre.out, hJx3⟩⟩
    · obtain rfl : k = 6 := by omega
      gi_wp2
      go_end0
      exact ⟨⟨_, rfl⟩, .inl ⟨_, rfl, hJs⟩⟩

set_option maxHeartbeats 1000000 in
/-- sidesOf: its argument is boxed; the function value captures the box. -/
theorem sides_in (n : Nat) (x : Int) (w : World) :
    CallsIn Fence.wide n Tryd.prog 100 #[.int .i64 x] w fun e w' => e = .returned (.func (.func 122) #[] #[.pointer (some ⟨w.heap.size, 0, none⟩)]) ∧ w' = w.alloc (.cells #[.int .i64 x] 2) := by
  refine callsIn_of_wp Tryd.func100 rfl trivial ?_ rfl
  simp only [Tryd.ntmps100, List.size_toArray, List.length_cons, List.length_nil, Nat.reduceAdd, Nat.reduceSub, Array.replicate_succ, Array.replicate_zero, List.push_toArray, List.append_toArray, List.nil_append, List.cons_append]
  gi_wp2
  go_ret
  exact ⟨rfl, rfl⟩

theorem grown_drewN (W : World) (m : Nat) : W.grownBy (W.drewN m) none := ⟨rfl, rfl, rfl, Nat.le_refl _, fun _ _ _ => rfl⟩

theorem sides_stops (n : Nat) (hn : 1 ≤ n) (B0 f : Nat) (hf : f < 64) (w : World) (hB : B0 < w.heap.size)
    (hc : w.heap[B0]? = some (.cells #[.int .i64 (f : Int)] 2 (0, 0))) :
    SeqStopsK Fence.wide n Tryd.prog 122 #[.pointer (some ⟨B0, 0, none⟩)] (fun x : Fin 64 => #[Value.int .i64 (x.val : Int)]) (KeepB B0) (fun ys => ys = sidesF f) (fun pre => pre <+: sidesF f) 64 w :=
  fun l J Jx W hW hA _ hY h0 => sides1_in n hn l B0 f hf J Jx (fun pre x W1 hj hp => hY pre x W1 hj (by have h1 := hp.length_le; have h2 := sides_len f 6; unfold sidesF at h1; simp only [List.length_append, List.length_cons, List.length_nil] at h1; omega)) (fun pre W m h => hA pre W _ none h (grown_drewN W m) (fun r e => by cases e)) W ((hW.block B0 hB).trans hc) h0

end Go.Proofs.YtgnahadlcihneaaDoor

/-! Boundaries modulo 2: parities. -/
namespace Go.Proofs.YtgnahadlcihneaaDoor
open Go.RowKit Go.Shelf

/-- The number of places at which p stands is odd. -/
def par (p : Int) (L : List Int) : Bool := decide (L.count p % 2 = 1)
/-- All sides of some faces, one after the other. -/
def sidesI (_f : Nat) (pre : List (Fin 64)) : List Int := pre.map fun p => ((p.val : Nat) : Int)
def sidesAll (ch : List Int) : List Int := ch.flatMap fun x => sidesI x.toNat (sidesF x.toNat)
theorem sidesAll_snoc (ch : List Int) (x : Int) : sidesAll (ch ++ [x]) = sidesAll ch ++ sidesI x.toNat (sidesF x.toNat) := by simp [sidesAll]
theorem sidesI_len (f : Nat) (pre : List (Fin 64)) : (sidesI f pre).length = pre.length := by simp [sidesI]
theorem sidesI_snoc (f : Nat) (pre : List (Fin 64)) (p : Fin 64) : sidesI f (pre ++ [p]) = sidesI f pre ++ [((p.val : Nat) : Int)] := by simp [sidesI]
theorem sidesAll_len : ∀ ch : List Int, (sidesAll ch).length ≤ 6 * ch.length
  | [] => by simp [sidesAll]
  | x :: ch => by
    have h1 := sidesAll_len ch
    have h2 : (sidesF x.toNat).length ≤ 6 := sides_len x.toNat 6
    unfold sidesAll at h1 ⊢
    rw [List.flatMap_cons, List.length_append, sidesI_len, List.length_cons]
    omega

/-- The map of parities; the last number met comes first. -/
def togR : List Int → DataW Unit
  | [] => .map []
  | x :: L => (togR L).put (.int .i64 x) (.lit (.bool (!par x L)))
def togD (L : List Int) : DataW Unit := togR L.reverse

theorem par_rev (p : Int) (L : List Int) : par p L.reverse = par p L := by unfold par; rw [List.count_reverse]
theorem togD_snoc (L : List Int) (x : Int) : togD (L ++ [x]) = (togD L).put (.int .i64 x) (.lit (.bool (!par x L))) := by
  unfold togD
  rw [List.reverse_append]
  show togR (x :: L.reverse) = _
  unfold togR
  rw [par_rev]
  cases L.reverse <;> rfl
theorem togR_map : ∀ L : List Int, Maps.IsMap (togR L)
  | [] => Maps.isMap_empty
  | _ :: L => (togR_map L).put _ _
theorem par_cons_self (x : Int) (L : List Int) : par x (x :: L) = !par x L := by
  unfold par
  rw [List.count_cons_self]
  rcases Nat.mod_two_eq_zero_or_one (L.count x) with h | h
  · have : (L.count x + 1) % 2 = 1 := by omega
    simp [h, this]
  · have : ¬ (L.count x + 1) % 2 = 1 := by omega
    simp [h, this]
theorem par_cons_ne {p x : Int} (h : ¬ p = x) (L : List Int) : par p (x :: L) = par p L := by
  unfold par
  rw [List.count_cons_of_ne (fun e => h e.symm)]
theorem togR_at (p : Int) : ∀ L : List Int, (togR L).atKey (.int .i64 p) (.lit (.bool false)) = .lit (.bool (par p L))
  | [] => by simp [togR, par]; rfl
  | x :: L => by
    have ih := togR_at p L
    show ((togR L).put (.int .i64 x) (.lit (.bool (!par x L)))).atKey _ _ = _
    by_cases h : p = x
    · subst h
      rw [Maps.atKey_put_same (togR_map L) (show WideAt.IsKeyLit (.int .i64 p) from trivial), par_cons_self]
    · rw [Maps.atKey_put_other (by simpa using h), ih, par_cons_ne h]
theorem togD_at (p : Int) (L : List Int) : (togD L).atKey (.int .i64 p) (.lit (.bool false)) = .lit (.bool (par p L)) := by
  unfold togD; rw [togR_at, par_rev]

theorem lookup_tog {w : World} {b n : Nat} {L : List Int} (hown : w.ownsMap Tryd.prog 2 (plainElem (H := Unit) Tryd.prog 4) b n (togD L)) {p : Int} (hp : (Lit.int .i64 p).wf = true) :
    (Instr.lookup 93 (.map (some b)) (.int .i64 p) false).run Tryd.prog w = .ok (.bool (par p L)) w := by
  obtain ⟨v, ps, hrun, hv⟩ := hown.lookup (Maps.int_keyed Tryd.underlying2) Tryd.underlying93 (zero_bool w) (plainElem_bool Tryd.underlying4 false) (Maps.keyOf_int_mk Tryd.underlying2 hp)
  rw [togD_at] at hv
  rw [bool_inv hv] at hrun
  exact hrun

/-- 'odd[p]', at the operation. -/
theorem at_tog {F : Fence} {nF : Nat} {w : World} {ops : Array Oper} {rest : List Oper} {o : Oper} {a : Act} {Q : Exit → Act → World → Prop} (hg : o.guard = none) {m x : Operand} (hop : o.op = Op.lookup 93 m x false)
    {b n : Nat} {L : List Int} (hown : w.ownsMap Tryd.prog 2 (plainElem (H := Unit) Tryd.prog 4) b n (togD L)) {p : Int} (hp : (Lit.int .i64 p).wf = true)
    (hm : a.eval m = .map (some b)) (hx : a.eval x = .int .i64 p) (hK : wpListIn F nF Tryd.prog ops Q rest (a.put o.dst (.bool (par p L))) w) :
    wpListIn F nF Tryd.prog ops Q (o :: rest) a w := by
  refine wpListIn_plain hg fun K' hK' => ?_
  have hrun := lookup_tog hown hp
  unfold Oper.wpIn
  refine ⟨by simp [Oper.about, hop], ?_⟩
  rw [Oper.semAt_plain F _ _ (by rw [hop]; intro c hc'; cases hc')]
  simp [execOp, hop, hm, hx, hrun, Result.andThen]
  exact hK' _ _ hK

/-- The boundary of a chain: the faces with an odd number of places among the sides. -/
def bdL (fs ch : List Int) : List Int := fs.filter fun p => par p (sidesAll ch)

end Go.Proofs.YtgnahadlcihneaaDoor

/-! Boundaries modulo 2: sums of ascending lists. -/
namespace Go.Proofs.YtgnahadlcihneaaDoor
open Go.RowKit

/-- What stands in just one of two ascending lists. -/
def sumL : List Int → List Int → List Int
  | [], ys => ys
  | a :: xs, [] => a :: xs
  | a :: xs, b :: ys => if a < b then a :: sumL xs (b :: ys) else if b < a then b :: sumL (a :: xs) ys else sumL xs ys
termination_by x y => x.length + y.length

theorem sumL_nil (ys : List Int) : sumL [] ys = ys := by unfold sumL; rfl
theorem sumL_nil' (xs : List Int) : sumL xs [] = xs := by cases xs <;> (unfold sumL; rfl)
theorem sumL_lt {a b : Int} (xs ys : List Int) (h : a < b) : sumL (a :: xs) (b :: ys) = a :: sumL xs (b :: ys) := by rw [sumL, if_pos h]
theorem sumL_gt {a b : Int} (xs ys : List Int) (h : b < a) : sumL (a :: xs) (b :: ys) = b :: sumL (a :: xs) ys := by rw [sumL, if_neg (by omega), if_pos h]
theorem sumL_eq (a : Int) (xs ys : List Int) : sumL (a :: xs) (a :: ys) = sumL xs ys := by rw [sumL, if_neg (by omega), if_neg (by omega)]

theorem sumL_len (n : Nat) : ∀ xs ys : List Int, xs.length + ys.length ≤ n → (sumL xs ys).length ≤ xs.length + ys.length := by
  induction n with
  | zero => intro xs ys h; obtain rfl : xs = [] := List.length_eq_zero_iff.1 (by omega); rw [sumL_nil]; simp
  | succ n ih =>
    intro xs ys h
    cases xs with
    | nil => rw [sumL_nil]; simp
    | cons a xs =>
      cases ys with
      | nil => rw [sumL_nil']; simp
      | cons b ys =>
        simp only [List.length_cons] at h
        rcases Int.lt_trichotomy a b with h1 | h1 | h1
        · rw [sumL_lt _ _ h1]; have := ih xs (b :: ys) (by simp; omega); simp only [List.length_cons] at *; omega
        · subst h1; rw [sumL_eq]; have := ih xs ys (by omega); simp only [List.length_cons]; omega
        · rw [sumL_gt _ _ h1]; have := ih (a :: xs) ys (by simp; omega); simp only [List.length_cons] at *; omega

theorem sumL_spec (n : Nat) : ∀ xs ys : List Int, xs.length + ys.length ≤ n → xs.Pairwise (· < ·) → ys.Pairwise (· < ·) →
    (∀ x, x ∈ sumL xs ys ↔ ((x ∈ xs ∧ x ∉ ys) ∨ (x ∉ xs ∧ x ∈ ys))) ∧ (sumL xs ys).Pairwise (· < ·) := by
  induction n with
  | zero =>
    intro xs ys h ha hb
    obtain rfl : xs = [] := List.length_eq_zero_iff.1 (by omega)
    rw [sumL_nil]; exact ⟨fun x => by simp, hb⟩
  | succ n ih =>
    intro xs ys h ha hb
    cases xs with
    | nil => rw [sumL_nil]; exact ⟨fun x => by simp, hb⟩
    | cons a xs =>
      cases ys with
      | nil => rw [sumL_nil']; exact ⟨fun x => by simp, ha⟩
      | cons b ys =>
        simp only [List.length_cons] at h
        obtain ⟨ha1, ha2⟩ := List.pairwise_cons.1 ha
        obtain ⟨hb1, hb2⟩ := List.pairwise_cons.1 hb
        rcases Int.lt_trichotomy a b with h1 | h1 | h1
        · rw [sumL_lt _ _ h1]
          obtain ⟨i1, i2⟩ := ih xs (b :: ys) (by simp; omega) ha2 hb
          have hab : a ∉ b :: ys := fun hm => by
            rcases List.mem_cons.1 hm with rfl | hm
            · omega
            · have := hb1 _ hm; omega
          have haa : a ∉ xs := fun hm => by have := ha1 _ hm; omega
          refine ⟨fun x => ?_, List.pairwise_cons.2 ⟨fun y hy => ?_, i2⟩⟩
          · rw [List.mem_cons, i1]
            by_cases hx : x = a
            · subst hx; simp only [true_or, true_iff]; exact .inl ⟨by simp, hab⟩
            · simp only [hx, false_or, List.mem_cons (a := x) (b := a)]
          · rcases (i1 y).1 hy with ⟨hy, _⟩ | ⟨_, hy⟩
            · exact ha1 _ hy
            · rcases List.mem_cons.1 hy with rfl | hy
              · exact h1
              · have := hb1 _ hy; omega
        · subst h1
          rw [sumL_eq]
          obtain ⟨i1, i2⟩ := ih xs ys (by omega) ha2 hb2
          refine ⟨fun x => ?_, i2⟩
          rw [i1]
          by_cases hx : x = a
          · subst hx
            have haa : x ∉ xs := fun hm => by have := ha1 _ hm; omega
            have hbb : x ∉ ys := fun hm => by have := hb1 _ hm; omega
            simp [haa, hbb]
          · simp only [List.mem_cons, hx, false_or]
        · rw [sumL_gt _ _ h1]
          obtain ⟨i1, i2⟩ := ih (a :: xs) ys (by simp; omega) ha hb2
          have hba : b ∉ a :: xs := fun hm => by
            rcases List.mem_cons.1 hm with rfl | hm
            · omega
            · have := ha1 _ hm; omega
          have hbb : b ∉ ys := fun hm => by have := hb1 _ hm; omega
          refine ⟨fun x => ?_, List.pairwise_cons.2 ⟨fun y hy => ?_, i2⟩⟩
          · rw [List.mem_cons, i1]
            by_cases hx : x = b
            · subst hx; simp only [true_or, true_iff]; exact .inr ⟨hba, by simp⟩
            · simp only [hx, false_or, List.mem_cons (a := x) (b := b)]
          · rcases (i1 y).1 hy with ⟨hy, _⟩ | ⟨_, hy⟩
            · rcases List.mem_cons.1 hy with rfl | hy
              · exact h1
              · have := ha1 _ hy; omega
            · exact hb1 _ hy

theorem asc_ext : ∀ {a b : List Int}, a.Pairwise (· < ·) → b.Pairwise (· < ·) → (∀ x, x ∈ a ↔ x ∈ b) → a = b
  | [], [], _, _, _ => rfl
  | [], y :: b, _, _, h => by have := (h y).2 (by simp); simp at this
  | x :: a, [], _, _, h => by have := (h x).1 (by simp); simp at this
  | x :: a, y :: b, ha, hb, h => by
    obtain ⟨ha1, ha2⟩ := List.pairwise_cons.1 ha
    obtain ⟨hb1, hb2⟩ := List.pairwise_cons.1 hb
    have hxy : x = y := by
      rcases List.mem_cons.1 ((h x).1 (by simp)) with e | hx
      · exact e
      · rcases List.mem_cons.1 ((h y).2 (by simp)) with e | hy
        · exact e.symm
        · have h1 := hb1 _ hx; have h2 := ha1 _ hy; omega
    subst hxy
    have : a = b := asc_ext ha2 hb2 (fun z => by
      have hz := h z
      simp only [List.mem_cons] at hz
      constructor
      · intro hm
        rcases hz.1 (.inr hm) with e | hm'
        · subst e; have := ha1 _ hm; omega
        · exact hm'
      · intro hm
        rcases hz.2 (.inr hm) with e | hm'
        · subst e; have := hb1 _ hm; omega
        · exact hm')
    rw [this]

theorem below_sides : ∀ f : Fin 64, belowR f.val 63 = ((sidesF f.val).map fun p => ((p.val : Nat) : Int)).reverse := by decide +kernel
theorem below_asc : ∀ f : Fin 64, (belowR f.val 63).Pairwise (· < ·) := by decide +kernel
theorem sides_nodup : ∀ f : Fin 64, ((sidesF f.val).map fun p => ((p.val : Nat) : Int)).Nodup := by decide +kernel
theorem sides_sub : ∀ f : Fin 64, ∀ p ∈ sidesF f.val, p.val ≠ 0 ∧ p.val &&& f.val = p.val := by decide +kernel

/-- The boundary of a chain, xs the model sums it up. -/
def bdS (ch : List Int) : List Int := ch.foldl (fun o x => sumL o (belowR x.toNat 63)) []
theorem bdS_snoc (ch : List Int) (x : Int) : bdS (ch ++ [x]) = sumL (bdS ch) (belowR x.toNat 63) := by simp [bdS]

theorem par_add {p : Int} (L : List Int) (f : Nat) (hf : f < 64) : par p (L ++ sidesI f (sidesF f)) = (par p L != decide (p ∈ belowR f 63)) := by
  have hb := below_sides ⟨f, hf⟩
  simp only at hb
  have hn := sides_nodup ⟨f, hf⟩
  simp only at hn
  have e : sidesI f (sidesF f) = (sidesF f).map fun p => ((p.val : Nat) : Int) := rfl
  rw [hb, e]
  generalize (sidesF f).map (fun p => ((p.val : Nat) : Int)) = M at *
  unfold par
  rw [List.count_append]
  by_cases hm : p ∈ M
  · have h1 : M.count p = 1 := by rw [List.Nodup.count hn, if_pos hm]
    rw [h1]
    rcases Nat.mod_two_eq_zero_or_one (L.count p) with h | h
    · have : (L.count p + 1) % 2 = 1 := by omega
      simp [h, this, hm]
    · have : ¬ (L.count p + 1) % 2 = 1 := by omega
      simp [h, this, hm]
  · have h0 : M.count p = 0 := List.count_eq_zero.2 hm
    rw [h0]
    simp [hm]

theorem fold_spec : ∀ (ch o L : List Int), (∀ x ∈ ch, 1 ≤ x ∧ x ≤ 63) → (∀ p, p ∈ o ↔ par p L = true) → o.Pairwise (· < ·) →
    (∀ p, p ∈ ch.foldl (fun o x => sumL o (belowR x.toNat 63)) o ↔ par p (L ++ sidesAll ch) = true) ∧ (ch.foldl (fun o x => sumL o (belowR x.toNat 63)) o).Pairwise (· < ·)
  | [], o, L, _, h1, h2 => ⟨fun p => by simpa [sidesAll] using h1 p, h2⟩
  | x :: ch, o, L, h, i1, i2 => by
    have hx := h x (by simp)
    have hf : x.toNat < 64 := by omega
    have ha := below_asc ⟨x.toNat, hf⟩
    simp only at ha
    obtain ⟨s1, s2⟩ := sumL_spec _ o (belowR x.toNat 63) (Nat.le_refl _) i2 ha
    have e : L ++ sidesAll (x :: ch) = (L ++ sidesI x.toNat (sidesF x.toNat)) ++ sidesAll ch := by simp [sidesAll]
    rw [List.foldl_cons, e]
    refine fold_spec ch _ _ (fun y hy => h y (by simp [hy])) (fun p => ?_) s2
    rw [s1, i1, par_add _ _ hf]
    cases par p L <;> by_cases hm : p ∈ belowR x.toNat 63 <;> simp [hm]

theorem bdS_spec (ch : List Int) (h : ∀ x ∈ ch, 1 ≤ x ∧ x ≤ 63) : (∀ p, p ∈ bdS ch ↔ par p (sidesAll ch) = true) ∧ (bdS ch).Pairwise (· < ·) := by
  have := fold_spec ch [] [] h (fun p => by simp [par]) (by simp)
  simpa [bdS] using this

theorem bdS_bdL {V : Int} {fs : List Int} (hC : IsC V fs) {ch : List Int} (hs : ∀ x ∈ ch, x ∈ fs) : bdS ch = bdL fs ch := by
  obtain ⟨h1, h2⟩ := bdS_spec ch (fun x hx => hC.range63 x (hs x hx))
  refine asc_ext h2 (List.Pairwise.sublist List.filter_sublist hC.asc) (fun p => ?_)
  unfold bdL
  rw [h1, List.mem_filter]
  refine ⟨fun hp => ⟨?_, hp⟩, fun hp => hp.2⟩
  have hm : p ∈ sidesAll ch := by
    unfold par at hp
    have := of_decide_eq_true hp
    exact List.count_pos_iff.1 (by omega)
  unfold sidesAll at hm
  obtain ⟨x, hx, hm⟩ := List.mem_flatMap.1 hm
  have hxr := hC.range63 x (hs x hx)
  obtain ⟨q, hq, rfl⟩ := List.mem_map.1 hm
  have := sides_sub ⟨x.toNat, by omega⟩ q hq
  exact hC.closed x (hs x hx) q.val this.1 this.2

end Go.Proofs.YtgnahadlcihneaaDoor

/-! The boundary of a chain, the program's. -/
namespace Go.Proofs.YtgnahadlcihneaaDoor
open Go.RowKit Go.Shelf

attribute [local go_sem] Oper.semAt_some

/-- What the walk keeps of the world. -/
structure FbW (w W : World) (V : Int) (sl : Value) (L : List Int) (Ds : List Nat) : Prop where
  below : Below w.heap.size w W
  kbox : W.heap[w.heap.size]? = some (.cells #[.int .i64 V, sl] 28 (0, 0))
  own : W.ownsMap Tryd.prog 2 (plainElem (H := Unit) Tryd.prog 4) (w.heap.size + 1) L.length (togD L)
  mbox : W.heap[w.heap.size + 2]? = some (.cells #[.map (some (w.heap.size + 1))] 93 (0, 0))
  nodup : Ds.Nodup
  marks : ∀ D ∈ Ds, w.heap.size + 3 ≤ D ∧ W.heap[D]? = some (.deferred (some []))

theorem FbW.size {w W : World} {V : Int} {sl : Value} {L : List Int} {Ds : List Nat} (h : FbW w W V sl L Ds) : w.heap.size + 3 ≤ W.heap.size := by
  have := lt_of_get h.mbox; omega

theorem FbW.turn {w W W' : World} {V : Int} {sl : Value} {L : List Int} {Ds : List Nat} (h : FbW w W V sl L Ds) {row : Option Nat} (hg : W.grownBy W' row)
    (hr : ∀ r, row = some r → w.heap.size + 3 ≤ r ∧ r ∉ Ds) : FbW w W' V sl L Ds where
  below := h.below.grown hg h.below.size (fun k e => by have := (hr k e).1; omega)
  kbox := (hg.block _ (lt_of_get h.kbox) (fun e => by have := (hr _ e.symm).1; omega)).trans h.kbox
  own := h.own.kept hg (fun e => by have := (hr _ e.symm).1; omega)
  mbox := (hg.block _ (lt_of_get h.mbox) (fun e => by have := (hr _ e.symm).1; omega)).trans h.mbox
  nodup := h.nodup
  marks := fun D hD => ⟨(h.marks D hD).1, (hg.block _ (lt_of_get (h.marks D hD).2) (fun e => (hr _ e.symm).2 hD)).trans (h.marks D hD).2⟩

theorem fbw_own {w : World} {V : Int} {sl : Value} {g : List (Fin 64) → List Int} {Ds : List Nat} {B : Nat} (hB : w.heap.size + 3 ≤ B) (hD : ∀ D ∈ Ds, D < B) : OwnFrom B (fun (pre : List (Fin 64)) W => FbW w W V sl (g pre) Ds) :=
  fun _ _ _ _ hs hg hr => hs.turn hg (fun r e => ⟨by have := (hr r e).1; omega, fun hm => by have := hD r hm; have := (hr r e).1; omega⟩)

theorem box_ownB {β : Type} {B fb : Nat} {o : Obj} (hB : fb < B) : OwnFrom B (fun (_ : β) (W : World) => W.heap[fb]? = some o) :=
  fun _ _ _ _ hs hg hr => (hg.block _ (lt_of_get hs) (fun e => by have := (hr _ e.symm).1; omega)).trans hs

/-- A further mark. -/
theorem FbW.mark {w W : World} {V : Int} {sl : Value} {L : List Int} {Ds : List Nat} (h : FbW w W V sl L Ds) {D : Nat} (hD : W.heap[D]? = some (.deferred (some []))) (hb : w.heap.size + 3 ≤ D) (hn : D ∉ Ds) : FbW w W V sl L (D :: Ds) where
  below := h.below
  kbox := h.kbox
  own := h.own
  mbox := h.mbox
  nodup := List.nodup_cons.2 ⟨hn, h.nodup⟩
  marks := fun E hE => by
    rcases List.mem_cons.1 hE with rfl | hE
    · exact ⟨hb, hD⟩
    · exact h.marks E hE

/-- A side more in the map. -/
theorem FbW.put {w W w1 : World} {V : Int} {sl : Value} {L : List Int} {Ds : List Nat} (h : FbW w W V sl L Ds) {x : Int}
    (hown : w1.ownsMap Tryd.prog 2 (plainElem (H := Unit) Tryd.prog 4) (w.heap.size + 1) (L.length + 1) ((togD L).put (.int .i64 x) (.lit (.bool (!par x L))))) (hg : W.grownBy w1 (some (w.heap.size + 1))) : FbW w w1 V sl (L ++ [x]) Ds where
  below := h.below.grown hg h.below.size (fun k e => by cases e; omega)
  kbox := (hg.block _ (lt_of_get h.kbox) (fun e => by simp at e)).trans h.kbox
  own := by rw [togD_snoc]; simpa using hown
  mbox := (hg.block _ (lt_of_get h.mbox) (fun e => by simp at e)).trans h.mbox
  nodup := h.nodup
  marks := fun D hD => ⟨(h.marks D hD).1, (hg.block _ (lt_of_get (h.marks D hD).2) (fun e => by have := (h.marks D hD).1; simp at e; omega)).trans (h.marks D hD).2⟩

theorem oddWanted (L : List Int) (bm b n : Nat) (x : Int) (w : World) (hx0 : 1 ≤ x) (hx1 : x ≤ 63) (hm : w.cell? ⟨bm, 0, none⟩ = some (.map (some b))) (hM : w.ownsMap Tryd.prog 2 (plainElem (H := Unit) Tryd.prog 4) b n (togD L)) :
    Calls Tryd.prog 102 #[.int .i64 x, .pointer (some ⟨bm, 0, none⟩)] w fun e w' => e = .returned (.bool (par x L)) ∧ Below w.heap.size w w' := by
  have hlook := lookup_tog hM (p := x) (WalkArith.wf_i64 (by omega))
  clear hM
  obtain ⟨c, hc⟩ : ∃ c, c = par x L := ⟨_, rfl⟩
  rw [← hc] at hlook ⊢
  clear hc
  go_enter Tryd.func102, Tryd.ntmps102
  go_wp2_with fail
  go_ret
  exact ⟨rfl, Below.refl _ _⟩

set_option maxRecDepth 100000 in
set_option maxHeartbeats 4000000 in
theorem bd_in (V : Int) (a0 : Option Addr) (cap : Nat) (fs : List Int) (b off c2 : Nat) (ch : List Int) (w : World) (hx : SlI w w.heap.size a0 fs) (hl : fs.length ≤ 1048576) (hf : ∀ x ∈ fs, 1 ≤ x ∧ x ≤ 63) (hb : b < w.heap.size)
    (hc : ∀ i, i < ch.length → w.cell? ⟨b, off + i, none⟩ = some (.int .i64 (ch[i]?.getD 0))) (hch : ∀ x ∈ ch, 1 ≤ x ∧ x ≤ 63) (hcl : ch.length ≤ 1048576) :
    CallsIn Fence.wide 10 Tryd.prog 79 #[.agg #[.int .i64 V, .slice a0 fs.length cap], .slice (some ⟨b, off, none⟩) ch.length c2] w fun e w' => ∃ v, e = .returned v ∧ Res w w' v (bdL fs ch) := by
  have hmm := @run_makeMap Tryd.prog
  have Hx0 := hid hx
  have Hf := hid hf
  have Hc := hid hc
  have Hch := hid hch
  clear hx hc hf hch
  have hF0 : FbW w (((w.alloc (.cells #[.int .i64 V, .slice a0 fs.length cap] 28)).alloc (.map #[] 0)).alloc (.cells #[.map (some (w.heap.size + 1))] 93)) V (.slice a0 fs.length cap) [] [] := by
    have e3 := heap_alloc_new ((w.alloc (.cells #[.int .i64 V, .slice a0 fs.length cap] 28)).alloc (.map #[] 0)) (.cells #[.map (some (w.heap.size + 1))] 93)
    rw [World.size_alloc, World.size_alloc] at e3
    have e2 := World.ownsMap_made (w.alloc (.cells #[.int .i64 V, .slice a0 fs.length cap] 28)) Tryd.prog 2 (plainElem (H := Unit) Tryd.prog 4)
    rw [World.size_alloc] at e2
    exact {
      below := (((Below.refl _ w).alloc (Nat.le_refl _) _).alloc (by simp) _).alloc (by simp <;> omega) _
      kbox := (Below.heap_alloc _ _ _ (by simp <;> omega)).trans ((Below.heap_alloc _ _ _ (by simp)).trans (heap_alloc_new _ _))
      own := e2.alloc _
      mbox := e3
      nodup := by simp
      marks := by simp }
  have HF0 := hid hF0
  clear hF0
  refine callsIn_of_wp_marks Tryd.func79 rfl trivial ?_ rfl
  simp only [Tryd.ntmps79, List.size_toArray, List.length_cons, List.length_nil, Nat.reduceAdd, Nat.reduceSub, Array.replicate_succ, Array.replicate_zero, List.push_toArray, List.append_toArray, List.nil_append, List.cons_append]
  gi_wp2
  clear hmm
  refine wpIn_loop (fun a' W => ∃ (k : Nat) (c7 c8 c13 c14 c15 c16 c17 c18 c19 c20 c21 c22 c23 c24 c25 : Value) (Ds : List Nat),
      a' = { tmps := #[.agg #[.int .i64 V, .slice a0 fs.length cap], .slice (some ⟨b, off, none⟩) ch.length c2, .pointer (some ⟨w.heap.size, 0, none⟩), undef, .slice none 0 0, .pointer (some ⟨w.heap.size + 2, 0, none⟩), undef, c7, c8, .map (some (w.heap.size + 1)), .slice (some ⟨b, off, none⟩) ch.length c2, .int .i64 ch.length, .int .i64 k, c13, c14, c15, c16, c17, c18, c19, c20, c21, c22, c23, c24, c25, undef, undef, undef], defers := marks Ds } ∧
      k ≤ ch.length ∧ FbW w W V (.slice a0 fs.length cap) (sidesAll (ch.take k)) Ds)
    (fun a' _ => ch.length - (intOf (a'.tmps.getD 12 undef)).toNat) ?start ?round
  case start => exact ⟨0, _, _, _, _, _, _, _, _, _, _, _, _, _, _, _, [], rfl, Nat.zero_le _, by simpa [sidesAll] using HF0.out⟩
  case round =>
    rintro a W ⟨k, c7, c8, c13, c14, c15, c16, c17, c18, c19, c20, c21, c22, c23, c24, c25, Ds, rfl, hk, hW⟩
    have hsz := hW.size
    have k0 : W.cell? ⟨w.heap.size, 0, none⟩ = some (.int .i64 V) := by simp [World.cell?, hW.kbox]
    have k1 : W.cell? ⟨w.heap.size, 1, none⟩ = some (.slice a0 fs.length cap) := by simp [World.cell?, hW.kbox]
    have HW := hid hW
    clear hW
    by_cases hlt : k < ch.length
    · obtain ⟨x, hx⟩ : ∃ x, x = ch[k]?.getD 0 := ⟨_, rfl⟩
      have hck : W.cell? ⟨b, off + k, none⟩ = some (.int .i64 x) := by rw [hx]; exact (HW.out.below.cell (p := ⟨b, off + k, none⟩) hb).trans (Hc.out k hlt)
      have hxr := Hch.out _ (getD_mem hlt)
      rw [← hx] at hxr
      have Hx1 := hid hx
      have hi0 : (0 : Int) ≤ (k : Int) := by omega
      have hi1 : (k : Int) < (ch.length : Int) := by omega
      obtain ⟨f, rfl⟩ : ∃ f : Nat, x = f := ⟨x.toNat, by omega⟩
      have hf : f < 64 := by omega
      clear hx
      gi_wp2_with (first
        | (refine ⟨trivial, ?_⟩; gi_at_call 100; refine (sides_in _ _ _).mono ?_; rintro e w' ⟨rfl, rfl⟩))
      have hW2 : FbW w (W.alloc (.cells #[.int .i64 (f : Int)] 2)) V (.slice a0 fs.length cap) (sidesAll (ch.take k)) Ds := HW.out.turn (World.grownBy_alloc W _ none) (fun r e => by cases e)
      have hsb : (W.alloc (.cells #[.int .i64 (f : Int)] 2)).heap[W.heap.size]? = some (.cells #[.int .i64 (f : Int)] 2 (0, 0)) := heap_alloc_new _ _
      have hDlt : ∀ D ∈ Ds, D < (W.alloc (.cells #[.int .i64 (f : Int)] 2)).heap.size := fun D hD => lt_of_get (hW2.marks D hD).2
      have hLl := sidesAll_len (ch.take k)
      have hkl : (ch.take k).length ≤ 1048576 := by simp; omega
      obtain ⟨L0, hL0⟩ : ∃ L0, L0 = sidesAll (ch.take k) := ⟨_, rfl⟩
      have HL0 := hid hL0
      rw [← hL0] at hW2 hLl HW
      clear hL0
      refine wpIn_rangeFunc_ownG rfl (by decide) (gf := 122) (lb := #[.pointer (some ⟨W.heap.size, 0, none⟩)]) rfl trivial (enters_of Tryd.func122 (by kernel_rfl) rfl)
        (sides_stops 9 (by decide) W.heap.size f hf _ (by simp) hsb) keepB_t (keepB_b (by simp)) (Below.refl _ _) (fun _ => rfl)
        (fun pre W' => FbW w W' V (.slice a0 fs.length cap) (L0 ++ sidesI f pre) Ds ∧ W'.heap[W.heap.size]? = some (.cells #[.int .i64 (f : Int)] 2 (0, 0)))
        (fun _ _ _ => False)
        (OwnFrom.and (fbw_own (by simp; omega) hDlt) (box_ownB (by simp <;> omega))) (fun _ => ownFrom_pure _ _)
        ⟨by simpa [sidesI] using hW2, hsb⟩
        (fun x => { tmps := #[.agg #[.int .i64 V, .slice a0 fs.length cap], .slice (some ⟨b, off, none⟩) ch.length c2, .pointer (some ⟨w.heap.size, 0, none⟩), undef, .slice none 0 0, .pointer (some ⟨w.heap.size + 2, 0, none⟩), undef, .int .i64 f, .int .i64 (x.val : Int), .map (some (w.heap.size + 1)), .slice (some ⟨b, off, none⟩) ch.length c2, .int .i64 ch.length, .int .i64 k, .bool true, .pointer (some ⟨b, off + k, none⟩), .int .i64 f, .int .i64 f, .func (.func 122) #[] #[.pointer (some ⟨W.heap.size, 0, none⟩)], .int .i64 (x.val : Int), c19, c20, c21, c22, c23, c24, c25, undef, undef, undef], defers := [] }) ?assign ?body ?done ?stop
      case assign =>
        intro l x W3 K hK
        gi_wp2
        exact hK
      case body =>
        rintro l pre x W3 ⟨hW3, hsb3⟩ hpl
        have m3 : W3.cell? ⟨w.heap.size + 2, 0, none⟩ = some (.map (some (w.heap.size + 1))) := (box_cell hW3.mbox).1
        have hxl := x.isLt
        have hwx : (Lit.int .i64 (x.val : Int)).wf = true := WalkArith.wf_i64 (by omega)
        have hlook := lookup_tog hW3.own hwx
        have HW3 := hid hW3
        have Hsb3 := hid hsb3
        have hpre := sidesI_len f pre
        have Hs := hid (sidesI_snoc f pre x)
        have hkm : (L0 ++ sidesI f pre).length < maxLen := by unfold maxLen; rw [List.length_append, hpre]; omega
        clear hW3 hsb3
        gi_wp2_with (first
          | (gi_at_lookup; refine at_tog rfl rfl HW3.out.own hwx rfl rfl ?_)
          | (gi_at_mapUpdate; refine wpListIn_mapUpdate_own _ rfl _ _ _ 93 rfl 2 4 (Maps.int_keyed Tryd.underlying2) Tryd.underlying93 _ (w.heap.size + 1) _ _ rfl HW3.out.own hkm _ _ _ rfl rfl (Maps.keyOf_int_mk Tryd.underlying2 hwx) _ [] (plainElem_bool Tryd.underlying4 _) ?_; intro w4 hown4 hgrow4))
        refine ⟨KeepsFrom.of_grownBy hgrow4 (fun j e => by cases e; first | omega | (simp; omega)), (hgrow4.block _ (lt_of_get Hsb3.out) (fun e => by simp at e; omega)), ?_, (hgrow4.block _ (lt_of_get Hsb3.out) (fun e => by simp at e; omega)).trans Hsb3.out⟩
        rw [Hs.out, ← List.append_assoc]
        exact HW3.out.put hown4 hgrow4
      case done =>
        rintro D ys W3 hD rfl ⟨hW3, _⟩ hK
        have hDb : w.heap.size + 3 ≤ D := by simp at hD; omega
        have hDn : D ∉ Ds := fun hm => by have := hDlt D hm; omega
        have HW4 := hid (hW3.mark hK hDb hDn)
        have htk : sidesAll (ch.take (k + 1)) = L0 ++ sidesI f (sidesF f) := by rw [take_snoc hlt, sidesAll_snoc, ← Hx1.out, HL0.out, Int.toNat_natCast]
        have Htk := hid htk
        clear hW3 htk
        gi_wp2
        refine ⟨⟨k + 1, ?_⟩, ?_⟩
        · (repeat apply Exists.intro)
          refine ⟨?e, ?_⟩
          case e =>
            rw [show ((k + 1 : Nat) : Int) = (k : Int) + 1 by omega, show ({ target := .collected D, args := #[] } :: marks Ds : List Deferred) = marks (D :: Ds) from rfl]
          exact ⟨by omega, by rw [Htk.out]; exact HW4.out⟩
        · simp [intOf]; omega
      case stop =>
        rintro D c pre W3 hD hpre hF hK
        exact hF.elim
    · obtain rfl : k = ch.length := by omega
      rw [List.take_of_length_le (Nat.le_refl _)] at HW
      have hxW := Hx0.out.later HW.out.below HW.out.below.size
      have HFW : Hid (Calls Tryd.prog 101 #[.agg #[.int .i64 V, .slice a0 fs.length cap], .func (.func 102) #[] #[.pointer (some ⟨w.heap.size + 2, 0, none⟩)]] W fun e w' => ∃ v, e = .returned v ∧ Res W w' v (bdL fs ch)) := hid (by
        unfold bdL
        refine fw_any V _ cap fs W 102 _ (fun x => par x (sidesAll ch)) hxW hl (enters_of Tryd.func102 (by kernel_rfl) rfl) ?_
        intro W' x hW' hxm
        have hr := Hf.out x hxm
        have hkeep : W.grownBy W' none := ⟨hW'.os, hW'.tape, hW'.output, hW'.size, fun k hk _ => hW'.block k hk⟩
        exact oddWanted (sidesAll ch) _ _ _ x W' hr.1 hr.2 ((hW'.cell (p := ⟨w.heap.size + 2, 0, none⟩) (lt_of_get HW.out.mbox)).trans (box_cell HW.out.mbox).1) (HW.out.own.kept hkeep (by simp)))
      clear hxW
      gi_wp2_with (refine ⟨trivial, ?_⟩; gi_at_call 101; refine (callsIn_wide.2 HFW.out).mono ?_; rintro e w2 ⟨v, rfl, hr⟩)
      have hB2 : Below W.heap.size W w2 := hr.2
      refine leaves_marks (by simp) Ds _ HW.out.nodup (fun D hD => (hB2.block _ (lt_of_get (HW.out.marks D hD).2)).trans (HW.out.marks D hD).2) (fun w' hw' => ?_)
      have hsh : Below w.heap.size w2 w' := hw'.below (fun D hD => by have := (HW.out.marks D hD).1; omega)
      have hown : w'.ownsRow W.heap.size 2 1 v (bdL fs ch).length ((bdL fs ch).map (Value.int .i64)) := by
        refine ⟨hr.1.1, ?_⟩
        rcases hr.1.2 with hn | ⟨g, cp, cur, rfl, hg, hh, rest⟩
        · exact .inl hn
        · exact .inr ⟨g, cp, cur, rfl, hg, (hw'.block g (fun hm => by have := lt_of_get (HW.out.marks g hm).2; omega)).trans hh, rest⟩
      refine ⟨v, ?_, v, rfl, ownsRow_base hown HW.out.below.size, (HW.out.below.trans (hB2.mono HW.out.below.size)).trans hsh⟩
      simp [results, Tryd.results79, go_sem]

end Go.Proofs.YtgnahadlcihneaaDoor

/-! FacesOf, the model's and the program's. -/
namespace Go.Proofs.YtgnahadlcihneaaDoor
open Go.RowKit

/-- The faces of a dimension. -/
def ofDim (fs : List Int) (d : Int) : List Int := fs.filter fun x => decide ((ones x.toNat : Int) = d + 1)

noncomputable def facesOfR (V : Int) (fs : List Int) (d : Int) : List Int × Int := if isCB V fs then (if 0 ≤ d ∧ d ≤ 5 then (ofDim fs d, 0) else ([], 2)) else ([], 1)

theorem facesOfR_len (V : Int) (fs : List Int) (d : Int) (h : fs.length ≤ 1048576) : (facesOfR V fs d).1.length ≤ 1048576 := by
  unfold facesOfR
  split
  · split
    · exact Nat.le_trans (List.length_filter_le _ _) h
    · simp
  · simp

theorem pair_mono {P : Program} {f : FuncId} {args : Array Value} {w : World} {r : List Int × Int} {xs : List Int} {c : Int} (hr : r = (xs, c))
    (h : Calls P f args w fun e w' => ∃ v, e = .returned (.tuple #[v, .int .i64 c]) ∧ Res w w' v xs) : Calls P f args w fun e w' => ∃ v, e = .returned (.tuple #[v, .int .i64 r.2]) ∧ Res w w' v r.1 := by
  subst hr; exact h



end Go.Proofs.YtgnahadlcihneaaDoor

/-! The dimension of a complex, the model's and the program's. -/
namespace Go.Proofs.YtgnahadlcihneaaDoor
open Go.RowKit

/-- The greater number, as the model has it. -/
def more (m y : Int) : Int := if m < y then y else m

/-- The dimension of a list of faces. -/
def top (fs : List Int) : Int := fs.foldl (fun m x => more m ((ones x.toNat : Int) - 1)) (-1)

theorem top_snoc (pre : List Int) (x : Int) : top (pre ++ [x]) = more (top pre) ((ones x.toNat : Int) - 1) := by simp [top]

theorem top_from (fs : List Int) : ∀ m : Int, -1 ≤ m → m ≤ 5 → -1 ≤ fs.foldl (fun m x => more m ((ones x.toNat : Int) - 1)) m ∧ fs.foldl (fun m x => more m ((ones x.toNat : Int) - 1)) m ≤ 5 ∧ m ≤ fs.foldl (fun m x => more m ((ones x.toNat : Int) - 1)) m ∧ ∀ x ∈ fs, (ones x.toNat : Int) - 1 ≤ fs.foldl (fun m x => more m ((ones x.toNat : Int) - 1)) m := by
  induction fs with
  | nil => intro m h0 h1; exact ⟨h0, h1, Int.le_refl _, by simp⟩
  | cons x fs ih =>
    intro m h0 h1
    have ho := ones_le x.toNat
    have hm : -1 ≤ more m ((ones x.toNat : Int) - 1) ∧ more m ((ones x.toNat : Int) - 1) ≤ 5 ∧ m ≤ more m ((ones x.toNat : Int) - 1) ∧ (ones x.toNat : Int) - 1 ≤ more m ((ones x.toNat : Int) - 1) := by
      unfold more
      split <;> omega
    obtain ⟨a1, a2, a3, a4⟩ := ih _ hm.1 hm.2.1
    simp only [List.foldl_cons]
    refine ⟨a1, a2, by omega, ?_⟩
    intro y hy
    rcases List.mem_cons.1 hy with rfl | hy
    · omega
    · exact a4 y hy

theorem top_lo (fs : List Int) : -1 ≤ top fs := (top_from fs (-1) (by omega) (by omega)).1
theorem top_hi (fs : List Int) : top fs ≤ 5 := (top_from fs (-1) (by omega) (by omega)).2.1
theorem top_ge (fs : List Int) {x : Int} (hx : x ∈ fs) : (ones x.toNat : Int) - 1 ≤ top fs := (top_from fs (-1) (by omega) (by omega)).2.2.2 x hx

theorem cell_alloc0 {W : World} {p : Addr} {v : Value} (h : W.cell? p = some v) (o : Obj) : (W.alloc o).cell? p = some v :=
  (World.cell?_alloc_some W p o (show (W.cell? p).isSome = true by rw [h]; rfl)).trans h



end Go.Proofs.YtgnahadlcihneaaDoor

/-! CountFaces, the model's and the program's. -/
namespace Go.Proofs.YtgnahadlcihneaaDoor
open Go.RowKit

/-- The numbers of faces of the first n dimensions. -/
def countL (fs : List Int) (n : Nat) : List Int := (List.range n).map fun d : Nat => ((ofDim fs (d : Int)).length : Int)

theorem countL_len (fs : List Int) (n : Nat) : (countL fs n).length = n := by simp [countL]

theorem countL_snoc (fs : List Int) (n : Nat) : countL fs (n + 1) = countL fs n ++ [((ofDim fs (n : Int)).length : Int)] := by
  simp [countL, List.range_succ]

theorem countL_face (pre : List Int) (x : Nat) (n e : Nat) (he : ones x = e + 1) : countL (pre ++ [(x : Int)]) n = (countL pre n).set e (((ofDim pre (e : Int)).length : Int) + 1) := by
  apply List.ext_getElem?
  intro i
  by_cases hi : i < n
  · by_cases hie : e = i
    · subst hie
      rw [List.getElem?_set_self (by rw [countL_len]; exact hi)]
      simp [countL, hi, ofDim, List.filter_append, he]
    · rw [List.getElem?_set_ne hie]
      have : ¬ ((ones x : Int) = (i : Int) + 1) := by omega
      simp [countL, hi, ofDim, List.filter_append, this]
  · rw [List.getElem?_eq_none (by rw [countL_len]; omega), List.getElem?_eq_none (by rw [List.length_set, countL_len]; omega)]

theorem countL_at (pre : List Int) (n e : Nat) (hn : e < n) : (countL pre n)[e]?.getD 0 = ((ofDim pre (e : Int)).length : Int) := by
  simp [countL, hn]

/-- What CountFaces hands back. -/
noncomputable def countFacesR (V : Int) (fs : List Int) : List Int × Int := if isCB V fs then (countL fs (top fs + 1).toNat, 0) else ([], 1)

theorem countFacesR_len (V : Int) (fs : List Int) (_h : fs.length ≤ 1048576) : (countFacesR V fs).1.length ≤ 1048576 := by
  unfold countFacesR
  have := top_hi fs
  split
  · rw [countL_len]; omega
  · simp


end Go.Proofs.YtgnahadlcihneaaDoor

/-! CountFaces, the program's. -/
namespace Go.Proofs.YtgnahadlcihneaaDoor
open Go.RowKit

theorem dimE (f e : Nat) (w : World) (hf : f < 64) (he : ones f = e + 1) :
    Calls Tryd.prog 121 #[.int .i64 (f : Int)] w fun r w' => r = .returned (.int .i64 (e : Int)) ∧ w = w' :=
  (dim_any f w hf).mono fun _ _ ⟨h, hw⟩ => ⟨by rw [h, he]; congr 2; omega, hw⟩


theorem countL_nil (n : Nat) : countL [] n = List.replicate n 0 := by
  apply List.ext_getElem?
  intro i
  by_cases hi : i < n
  · simp [countL, hi, ofDim]
  · rw [List.getElem?_eq_none (by rw [countL_len]; omega), List.getElem?_eq_none (by simp; omega)]


end Go.Proofs.YtgnahadlcihneaaDoor

/-! The faces of a dimension: the program's facesOfDimension. -/
namespace Go.Proofs.YtgnahadlcihneaaDoor
open Go.RowKit


end Go.Proofs.YtgnahadlcihneaaDoor

/-! FundamentalChain, the program's. -/
namespace Go.Proofs.YtgnahadlcihneaaDoor
open Go.RowKit Go.Shelf

theorem bdL_nil (fs : List Int) : bdL fs [] = [] := by unfold bdL; simp [par, sidesAll]

set_option maxRecDepth 100000 in
set_option maxHeartbeats 1000000 in
theorem bd_nil (V : Int) (a : Option Addr) (cap : Nat) (fs : List Int) (a1 : Option Addr) (c2 : Nat) (w : World) (hx : SlI w w.heap.size a fs) (hl : fs.length ≤ 1048576) (hf : ∀ x ∈ fs, 1 ≤ x ∧ x ≤ 63) :
    CallsIn Fence.wide 10 Tryd.prog 79 #[.agg #[.int .i64 V, .slice a fs.length cap], .slice a1 0 c2] w fun e w' => ∃ v, e = .returned v ∧ Res w w' v [] := by
  have hmm := @run_makeMap Tryd.prog
  have hB0 : Below w.heap.size w (((w.alloc (.cells #[.int .i64 V, .slice a fs.length cap] 28)).alloc (.map #[] 0)).alloc (.cells #[.map (some (w.heap.size + 1))] 93)) := (((Below.refl _ w).alloc (Nat.le_refl _) _).alloc (by simp) _).alloc (by simp <;> omega) _
  have e3 := heap_alloc_new ((w.alloc (.cells #[.int .i64 V, .slice a fs.length cap] 28)).alloc (.map #[] 0)) (.cells #[.map (some (w.heap.size + 1))] 93)
  rw [World.size_alloc, World.size_alloc] at e3
  have e2 := (World.ownsMap_made (H := Unit) (w.alloc (.cells #[.int .i64 V, .slice a fs.length cap] 28)) Tryd.prog 2 (plainElem (H := Unit) Tryd.prog 4)).alloc (.cells #[.map (some (w.heap.size + 1))] 93)
  rw [World.size_alloc] at e2
  obtain ⟨W, hW⟩ : ∃ W, W = (((w.alloc (.cells #[.int .i64 V, .slice a fs.length cap] 28)).alloc (.map #[] 0)).alloc (.cells #[.map (some (w.heap.size + 1))] 93)) := ⟨_, rfl⟩
  have q0 : W.heap[w.heap.size]? = some (.cells #[.int .i64 V, .slice a fs.length cap] 28 (0, 0)) := by
    rw [hW]; exact (Below.heap_alloc _ _ _ (by simp <;> omega)).trans ((Below.heap_alloc _ _ _ (by simp)).trans (heap_alloc_new _ _))
  obtain ⟨k0, k1, _, _⟩ := two_of q0
  rw [← hW] at e2 e3 hB0
  have HFW : Hid (Calls Tryd.prog 101 #[.agg #[.int .i64 V, .slice a fs.length cap], .func (.func 102) #[] #[.pointer (some ⟨w.heap.size + 1 + 1, 0, none⟩)]] W fun e w' => ∃ v, e = .returned v ∧ Res W w' v []) := hid (by
    have h := fw_any V a cap fs W 102 (.pointer (some ⟨w.heap.size + 1 + 1, 0, none⟩)) (fun x => par x []) (hx.later hB0 hB0.size) hl (enters_of Tryd.func102 (by kernel_rfl) rfl) (fun W' x hW' hxm => by
      have hr := hf x hxm
      have hkeep : W.grownBy W' none := ⟨hW'.os, hW'.tape, hW'.output, hW'.size, fun k hk _ => hW'.block k hk⟩
      exact oddWanted [] _ _ _ x W' hr.1 hr.2 ((hW'.cell (p := ⟨w.heap.size + 1 + 1, 0, none⟩) (lt_of_get e3)).trans (box_cell e3).1) (World.ownsMap.kept e2 hkeep (by simp)))
    have e : (fs.filter fun x => par x []) = [] := by simp [par]
    rwa [e] at h)
  have HW := hid hW
  have HB0 := hid hB0
  clear hx hf hB0 e2 e3 hW q0
  refine callsIn_of_wp_marks Tryd.func79 rfl trivial ?_ rfl
  simp only [Tryd.ntmps79, List.size_toArray, List.length_cons, List.length_nil, Nat.reduceAdd, Nat.reduceSub, Array.replicate_succ, Array.replicate_zero, List.push_toArray, List.append_toArray, List.nil_append, List.cons_append]
  gi_wp2
  clear hmm
  rw [← HW.out]
  refine wpIn_loop_rounds 1 ?_
  rw [roundsIn_succ]
  gi_wp2_with (refine ⟨trivial, ?_⟩; gi_at_call 101; refine (callsIn_wide.2 HFW.out).mono ?_; rintro e w2 ⟨v, rfl, hr⟩)
  refine ⟨v, ?_, v, rfl, hr.later HB0.out⟩
  simp [results, Tryd.results79, go_sem]

theorem bd_any (V : Int) (a0 : Option Addr) (cap : Nat) (fs : List Int) (a1 : Option Addr) (c2 : Nat) (ch : List Int) (w : World) (hx : SlI w w.heap.size a0 fs) (hx1 : SlI w w.heap.size a1 ch) (hl : fs.length ≤ 1048576) (hf : ∀ x ∈ fs, 1 ≤ x ∧ x ≤ 63) (hch : ∀ x ∈ ch, 1 ≤ x ∧ x ≤ 63) (hcl : ch.length ≤ 1048576) :
    Calls Tryd.prog 79 #[.agg #[.int .i64 V, .slice a0 fs.length cap], .slice a1 ch.length c2] w fun e w' => ∃ v, e = .returned v ∧ Res w w' v (bdL fs ch) := by
  rcases hx1 with rfl | ⟨b, off, hb, rfl, hc⟩
  · rw [bdL_nil]
    exact callsIn_wide.1 (bd_nil V a0 cap fs a1 c2 w hx hl hf)
  · exact callsIn_wide.1 (bd_in V a0 cap fs b off c2 ch w hx hl hf hb hc hch hcl)


/-- What FundamentalChain hands back. -/
noncomputable def fundR (V : Int) (fs : List Int) : List Int × Int := if isCB V fs then (if (ofDim fs (top fs)).length = 0 ∨ (bdL fs (ofDim fs (top fs))).length ≠ 0 then ([], 5) else (ofDim fs (top fs), 0)) else ([], 1)

theorem fundR_len (V : Int) (fs : List Int) (h : fs.length ≤ 1048576) : (fundR V fs).1.length ≤ 1048576 := by
  unfold fundR
  split
  · split
    · simp
    · exact Nat.le_trans (List.length_filter_le _ _) h
  · simp

theorem res_monoF {P : Program} {f : FuncId} {args : Array Value} {w : World} {r : List Int × Int} {xs : List Int} {c : Int} (hr : r = (xs, c))
    (h : Calls P f args w fun e w' => ∃ v, e = .returned (.tuple #[v, .int .i64 c]) ∧ Res w w' v xs) : Calls P f args w fun e w' => ∃ v, e = .returned (.tuple #[v, .int .i64 r.2]) ∧ Res w w' v r.1 := by
  subst hr; exact h

theorem ofDim_sub {fs : List Int} {d x : Int} (h : x ∈ ofDim fs d) : x ∈ fs := (List.mem_filter.1 h).1


end Go.Proofs.YtgnahadlcihneaaDoor
