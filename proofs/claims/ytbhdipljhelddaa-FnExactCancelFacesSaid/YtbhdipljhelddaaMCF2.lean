import Derived.Deep.RegionHeld3
import Derived.Deep.AppendLies
import Derived.Deep.RegionLaw
import Derived.Laws.ResultCell
import Derived.Deep.CutRange
import Derived.WalkSmall
import Derived.Test.YtbhdipljhelddaaMCF1
/-! 'out.Faces = append(out.Faces, x)' in the model's loops. -/
namespace Go.Proofs.Ytbhdipljhelddaa
open Go.RowKit

theorem cell_alloc_drew {W : World} {p : Addr} {v : Value} (h : W.cell? p = some v) (n : Nat) (o : Obj) : ((W.drewN n).alloc o).cell? p = some v :=
  (World.cell?_alloc_some (W.drewN n) p o (show (W.cell? p).isSome = true by rw [h]; rfl)).trans h

theorem step_append_int {w : World} {ops : Array Oper} {o : Oper} {a : Act} {K : Act → World → Prop} {Q : Exit → Act → World → Prop} {E : Prop} (hgd : o.guard = none) {s y : Operand}
    (ho : o.op = .call { callee := .builtin .append, args := #[s, y], argTypes := #[22, 22] })
    {base : Nat} {v : Value} {xs : List Int} {x : Int} {ad : Addr} (hown : w.ownsRow base 2 1 v xs.length (xs.map (Value.int .i64))) (hbase : base ≤ w.heap.size) (hl : xs.length ≤ 1099511627776)
    (hs : a.eval s = v) (hy : a.eval y = .slice (some ad) 1 1) (hc : w.cell? (ad.add 0) = some (.int .i64 x))
    (hK : ∀ g cap w', w'.ownsRow base 2 1 (.slice (some ⟨g, 0, none⟩) (xs ++ [x]).length cap) (xs ++ [x]).length ((xs ++ [x]).map (Value.int .i64)) → w.grownBy w' v.ownBlock →
      K (a.put o.dst (.slice (some ⟨g, 0, none⟩) (xs ++ [x]).length cap)) w') :
    if Region.wanted o (yielded ops a.tmps) = true then Oper.wp Try.prog o a w K Q else E := by
  obtain ⟨i0, hi, hz0, hz1, hz2⟩ := info_parts info_i64
  refine step_append_lies w hgd s y 22 ho base 2 i0 (.int .i64 0) 1 8 Try.underlying22 hi hz0 hz1 hz2 rfl (by decide) v _ _ hs hown ad 1 1 [.int .i64 x] hy rfl ?_ (by simp [Value.oneCell']) (by decide) (by unfold maxLen; omega) (by omega) hbase _ rfl ?_
  · intro j u hu
    match j, hu with
    | 0, hu => simp at hu; subst hu; exact hc
  · intro g cap w1 hown1 hg _ _
    have e : (xs ++ [x]).length = xs.length + 1 := by simp
    have h := hK g cap w1 (by rw [e]; simpa using hown1) hg
    rw [e] at h
    exact h

/-- What the model's loops keep of the world while they build a complex in block Bo: B is the heap's size when the call began. -/
structure OutW (w W : World) (V : Int) (sl : Value) (Bo : Nat) (xs : List Int) (a : Option Addr) (c : Nat) : Prop where
  below : Below w.heap.size w W
  kbox : W.heap[w.heap.size]? = some (.cells #[.int .i64 V, sl] 28 (0, 0))
  res : W.heap[w.heap.size + 1]? = some (.cells #[.int .i64 0, .slice none 0 0] 28 (0, 0))
  out : W.heap[Bo]? = some (.cells #[.int .i64 V, .slice a xs.length c] 28 (0, 0))
  own : W.ownsRow w.heap.size 2 1 (.slice a xs.length c) xs.length (xs.map (Value.int .i64))
  bo : w.heap.size + 1 < Bo

/-- A block of another type is none of an owned row's. -/
theorem row_ne {W : World} {base e t : Nat} {v : Value} {n : Nat} {xs : List Value} {b : Nat} {cs : Array Value} {fz : Nat × Nat} (h : W.ownsRow base e 1 v n xs) (hb : W.heap[b]? = some (.cells cs t fz)) (hne : e ≠ t) : some b ≠ v.ownBlock := by
  intro he
  rcases h.2 with ⟨rfl, _⟩ | ⟨g, cap, cur, rfl, _, hg, _⟩
  · simp [Value.ownBlock] at he
  · simp [Value.ownBlock] at he
    subst he
    rw [hb] at hg
    simp at hg
    exact hne hg.2.1.symm

theorem lt_get {W : World} {b : Nat} {o : Obj} (h : W.heap[b]? = some o) : b < W.heap.size := (Array.getElem?_eq_some_iff.1 h).1

/-- Draws alone. -/
theorem OutW.drew {w W : World} {V : Int} {sl : Value} {Bo : Nat} {xs : List Int} {a : Option Addr} {c : Nat} (h : OutW w W V sl Bo xs a c) : OutW w W.drew V sl Bo xs a c :=
  ⟨⟨h.below.os, h.below.tape, h.below.output, h.below.size, h.below.block⟩, h.kbox, h.res, h.out, h.own, h.bo⟩

theorem OutW.drewN {w W : World} {V : Int} {sl : Value} {Bo : Nat} {xs : List Int} {a : Option Addr} {c : Nat} (h : OutW w W V sl Bo xs a c) (n : Nat) : OutW w (W.drewN n) V sl Bo xs a c :=
  ⟨⟨h.below.os, h.below.tape, h.below.output, h.below.size, h.below.block⟩, h.kbox, h.res, h.out, h.own, h.bo⟩

/-- Whatever keeps all that lay. -/
theorem OutW.later {w W W' : World} {V : Int} {sl : Value} {Bo : Nat} {xs : List Int} {a : Option Addr} {c : Nat} (h : OutW w W V sl Bo xs a c) (hb : Below W.heap.size W W') : OutW w W' V sl Bo xs a c where
  below := h.below.trans (hb.mono h.below.size)
  kbox := (hb.block _ (lt_get h.kbox)).trans h.kbox
  res := (hb.block _ (lt_get h.res)).trans h.res
  out := (hb.block _ (lt_get h.out)).trans h.out
  own := ownsRow_below h.own hb (fun g hg => (h.own.lt g hg).2)
  bo := h.bo

/-- A face more. -/
theorem OutW.step {w W w2 : World} {V : Int} {sl : Value} {Bo : Nat} {xs : List Int} {a : Option Addr} {c : Nat} (h : OutW w W V sl Bo xs a c) {x : Int} {g cap : Nat} {o : Obj}
    (hown : w2.ownsRow w.heap.size 2 1 (.slice (some ⟨g, 0, none⟩) (xs ++ [x]).length cap) (xs ++ [x]).length ((xs ++ [x]).map (Value.int .i64))) (hg : (W.alloc o).grownBy w2 (Value.ownBlock (.slice a xs.length c))) :
    OutW w (w2.setCell ⟨Bo, 1, none⟩ (.slice (some ⟨g, 0, none⟩) (xs ++ [x]).length cap)) V sl Bo (xs ++ [x]) (some ⟨g, 0, none⟩) cap := by
  have hgr : W.grownBy w2 (Value.ownBlock (.slice a xs.length c)) := (World.grownBy_alloc W o _).trans hg
  have hbo := h.bo
  have k2 := (hgr.block _ (lt_get h.kbox) (row_ne h.own h.kbox (by decide))).trans h.kbox
  have r2 := (hgr.block _ (lt_get h.res) (row_ne h.own h.res (by decide))).trans h.res
  have o2 := (hgr.block _ (lt_get h.out) (row_ne h.own h.out (by decide))).trans h.out
  refine ⟨?_, ?_, ?_, ?_, ?_, h.bo⟩
  · exact (h.below.grown hgr h.below.size (fun k hk => (h.own.lt k hk).1)).setCell (p := ⟨Bo, 1, none⟩) (by simp only; omega) _
  · exact (Below.heap_setCell _ _ _ _ (by simp only; omega)).trans k2
  · exact (Below.heap_setCell _ _ _ _ (by simp only; omega)).trans r2
  · simp only [World.setCell, Array.getElem?_modify, o2]
    simp
  · exact ownsRow_set hown (by
      have := row_ne hown o2 (by decide)
      exact fun e => this e.symm) _

theorem outW_start {w W : World} {V : Int} {sl : Value} (hB : Below w.heap.size w W) (hk : W.heap[w.heap.size]? = some (.cells #[.int .i64 V, sl] 28 (0, 0)))
    (hr : W.heap[w.heap.size + 1]? = some (.cells #[.int .i64 0, .slice none 0 0] 28 (0, 0))) :
    OutW w ((W.alloc (.cells #[] 2)).alloc (.cells #[.int .i64 V, .slice (some ⟨W.heap.size, 0, none⟩) 0 0] 28)) V sl (W.heap.size + 1) [] (some ⟨W.heap.size, 0, none⟩) 0 where
  below := (hB.alloc hB.size _).alloc (by have := hB.size; simp; omega) _
  kbox := (Below.heap_alloc _ _ _ (by have := lt_get hk; simp; omega)).trans ((Below.heap_alloc _ _ _ (lt_get hk)).trans hk)
  res := (Below.heap_alloc _ _ _ (by have := lt_get hr; simp; omega)).trans ((Below.heap_alloc _ _ _ (lt_get hr)).trans hr)
  out := by have := heap_alloc_new (W.alloc (.cells #[] 2)) (.cells #[.int .i64 V, .slice (some ⟨W.heap.size, 0, none⟩) 0 0] 28); rwa [World.size_alloc] at this
  own := by
    have h := World.ownsRow_made (base := w.heap.size) (e := 2) (size := 1) W #[] 0 hB.size (by simp [maxLen]) rfl
    exact h.alloc _
  bo := by have := lt_get hr; omega

/-- The model's loops hand back what they have built. -/
theorem OutW.done {w W : World} {V : Int} {sl : Value} {Bo : Nat} {xs : List Int} {a : Option Addr} {c : Nat} (h : OutW w W V sl Bo xs a c) (u v : Value) :
    Res w ((W.setCell ⟨w.heap.size + 1, 0, none⟩ u).setCell ⟨w.heap.size + 1, 1, none⟩ v) (.slice a xs.length c) xs := by
  have hn := row_ne h.own h.res (by decide)
  exact ⟨ownsRow_set (ownsRow_set h.own (fun e => hn e.symm) _) (fun e => hn e.symm) _, (h.below.setCell (p := ⟨w.heap.size + 1, 0, none⟩) (by simp) _).setCell (p := ⟨w.heap.size + 1, 1, none⟩) (by simp) _⟩

/-- .. where the new element has just been laid. -/
theorem step_append_new {W : World} {H : Nat} {ops : Array Oper} {o : Oper} {a : Act} {K : Act → World → Prop} {Q : Exit → Act → World → Prop} {E : Prop} (hgd : o.guard = none) {s y : Operand}
    (ho : o.op = .call { callee := .builtin .append, args := #[s, y], argTypes := #[22, 22] })
    {base : Nat} {v : Value} {xs : List Int} {x : Int} (hown : W.ownsRow base 2 1 v xs.length (xs.map (Value.int .i64))) (hH : W.heap.size = H) (hbase : base ≤ H) (hl : xs.length ≤ 1099511627776)
    (hs : a.eval s = v) (hy : a.eval y = .slice (some ⟨H, 0, none⟩) 1 1)
    (hK : ∀ g cap w', w'.ownsRow base 2 1 (.slice (some ⟨g, 0, none⟩) (xs ++ [x]).length cap) (xs ++ [x]).length ((xs ++ [x]).map (Value.int .i64)) → (W.alloc (.cells #[.int .i64 x] 2)).grownBy w' v.ownBlock →
      K (a.put o.dst (.slice (some ⟨g, 0, none⟩) (xs ++ [x]).length cap)) w') :
    if Region.wanted o (yielded ops a.tmps) = true then Oper.wp Try.prog o a (W.alloc (.cells #[.int .i64 x] 2)) K Q else E := by
  subst hH
  exact step_append_int hgd ho (hown.alloc _) (by simp; omega) hl hs hy (by simp [go_sem, Addr.add]) hK

theorem OutW.stepN {w W w2 : World} {V : Int} {sl : Value} {Bo : Nat} {xs : List Int} {a : Option Addr} {c : Nat} (h : OutW w W V sl Bo xs a c) {x : Int} {g cap : Nat} {o : Obj} {n : Nat}
    (hown : w2.ownsRow w.heap.size 2 1 (.slice (some ⟨g, 0, none⟩) (xs ++ [x]).length cap) (xs ++ [x]).length ((xs ++ [x]).map (Value.int .i64))) (hg : ((W.drewN n).alloc o).grownBy w2 (Value.ownBlock (.slice a xs.length c))) :
    OutW w (w2.setCell ⟨Bo, 1, none⟩ (.slice (some ⟨g, 0, none⟩) (xs ++ [x]).length cap)) V sl Bo (xs ++ [x]) (some ⟨g, 0, none⟩) cap := (h.drewN n).step hown hg

/-- The out block behind an append. -/
theorem OutW.mid {w W w2 : World} {V : Int} {sl : Value} {Bo : Nat} {xs : List Int} {a : Option Addr} {c : Nat} (h : OutW w W V sl Bo xs a c) {n : Nat} {o : Obj} (hg : ((W.drewN n).alloc o).grownBy w2 (Value.ownBlock (.slice a xs.length c))) :
    w2.cell? ⟨Bo, 1, none⟩ = some (.slice a xs.length c) ∧ w2.frozen? ⟨Bo, 1, none⟩ = false := by
  have hgr : (W.drewN n).grownBy w2 (Value.ownBlock (.slice a xs.length c)) := (World.grownBy_alloc _ o _).trans hg
  have o2 := (hgr.block _ (lt_get (h.drewN n).out) (row_ne (h.drewN n).own (h.drewN n).out (by decide))).trans (h.drewN n).out
  constructor <;> simp [World.cell?, World.frozen?, o2]

/-- The given complex's box behind an append. -/
theorem OutW.midK {w W w2 : World} {V : Int} {sl : Value} {Bo : Nat} {xs : List Int} {a : Option Addr} {c : Nat} (h : OutW w W V sl Bo xs a c) {n : Nat} {o : Obj} (hg : ((W.drewN n).alloc o).grownBy w2 (Value.ownBlock (.slice a xs.length c))) :
    w2.cell? ⟨w.heap.size, 1, none⟩ = some sl := by
  have hgr : (W.drewN n).grownBy w2 (Value.ownBlock (.slice a xs.length c)) := (World.grownBy_alloc _ o _).trans hg
  have o2 := (hgr.block _ (lt_get (h.drewN n).kbox) (row_ne (h.drewN n).own (h.drewN n).kbox (by decide))).trans (h.drewN n).kbox
  simp [World.cell?, o2]

/-- What lay before the call, behind an append. -/
theorem OutW.midX {w W w2 : World} {V : Int} {sl : Value} {Bo : Nat} {xs : List Int} {a : Option Addr} {c : Nat} (h : OutW w W V sl Bo xs a c) {n : Nat} {o : Obj} (hg : ((W.drewN n).alloc o).grownBy w2 (Value.ownBlock (.slice a xs.length c))) {p : Addr} (hp : p.block < w.heap.size) :
    w2.cell? p = W.cell? p := by
  have hgr : (W.drewN n).grownBy w2 (Value.ownBlock (.slice a xs.length c)) := (World.grownBy_alloc _ o _).trans hg
  have hlt : p.block < (W.drewN n).heap.size := Nat.lt_of_lt_of_le hp h.below.size
  have h2 : w2.heap[p.block]? = W.heap[p.block]? := hgr.block _ hlt (by
    intro he
    have := (h.own.lt _ he.symm).1
    omega)
  simp only [World.cell?, h2]

end Go.Proofs.Ytbhdipljhelddaa

/-! Complexes that are handed back: the ends of bodies with a result in a block, and the program's complexWith. -/
namespace Go.Proofs.Ytbhdipljhelddaa
open Go.RowKit

theorem cell_alloc_drew1 {W : World} {p : Addr} {v : Value} (h : W.cell? p = some v) (o : Obj) : (W.alloc o).cell? p = some v := cell_alloc_drew h 0 o

theorem two_of {W : World} {b : Nat} {x y : Value} {t : Nat} (h : W.heap[b]? = some (.cells #[x, y] t (0, 0))) : W.cell? ⟨b, 0, none⟩ = some x ∧ W.cell? ⟨b, 1, none⟩ = some y ∧ W.frozen? ⟨b, 0, none⟩ = false ∧ W.frozen? ⟨b, 1, none⟩ = false := by
  refine ⟨?_, ?_, ?_, ?_⟩ <;> simp [World.cell?, World.frozen?, h]

theorem two_set {W : World} {b : Nat} {x y : Value} {t : Nat} (h : W.heap[b]? = some (.cells #[x, y] t (0, 0))) (u v : Value) : ((W.setCell ⟨b, 0, none⟩ u).setCell ⟨b, 1, none⟩ v).heap[b]? = some (.cells #[u, v] t (0, 0)) := by
  simp only [World.setCell, Array.getElem?_modify, h]
  simp

/-- A result stays where a block of another type is written. -/
theorem Res.set2 {w W : World} {sv : Value} {xs : List Int} (h : Res w W sv xs) {b : Nat} {cs : Array Value} {t : Nat} {fz : Nat × Nat} (hb : W.heap[b]? = some (.cells cs t fz)) (hne : 2 ≠ t) (hw : w.heap.size ≤ b) (u v : Value) :
    Res w ((W.setCell ⟨b, 0, none⟩ u).setCell ⟨b, 1, none⟩ v) sv xs := by
  have hn := row_ne h.1 hb hne
  exact ⟨ownsRow_set (ownsRow_set h.1 (fun e => hn e.symm) _) (fun e => hn e.symm) _, (h.2.setCell (p := ⟨b, 0, none⟩) hw _).setCell (p := ⟨b, 1, none⟩) hw _⟩

theorem new2 (w : World) (A B : Obj) : ((w.alloc A).alloc B).heap[w.heap.size + 1]? = some B := by
  have := heap_alloc_new (w.alloc A) B
  rwa [World.size_alloc] at this

theorem new3 (w : World) (A B C : Obj) : (((w.alloc A).alloc B).alloc C).heap[w.heap.size + 1 + 1]? = some C := by
  have := new2 (w.alloc A) B C
  rwa [World.size_alloc] at this

set_option maxRecDepth 100000 in
theorem load_cx {w : World} {b o : Nat} {x y : Value} (h0 : w.cell? ⟨b, o, none⟩ = some x) (h1 : w.cell? ⟨b, o + 1, none⟩ = some y) :
    (loadVar 28 ⟨b, o, none⟩).run Try.prog w = .ok (.agg #[x, y]) w := by
  go_simp

set_option maxRecDepth 100000 in
theorem done_cx {fn : Func} {R : Ending → World → Prop} {a : Act} {w : World} {p u : Tmp} (hr : fn.results = #[.cell p 28, .tmp u]) (hd : a.defers = []) {b o : Nat} {x y c : Value}
    (hp : a.tmps.getD p undef = .pointer (some ⟨b, o, none⟩)) (h0 : w.cell? ⟨b, o, none⟩ = some x) (h1 : w.cell? ⟨b, o + 1, none⟩ = some y) (hu : a.tmps.getD u undef = c) (hR : R (.returned (.tuple #[.agg #[x, y], c])) w) : bodyPost Try.prog fn R .ret a w := by
  refine bodyPost_ret (v := .tuple #[.agg #[x, y], c]) ?_ hd hR
  rw [results_cell_tmp hr, hp, hu]
  show ((loadVar 28 ⟨b, o, none⟩).run Try.prog w).andThen _ = _
  rw [load_cx h0 h1]
  rfl

set_option maxRecDepth 100000 in
theorem done_cx1 {fn : Func} {R : Ending → World → Prop} {a : Act} {w : World} {p : Tmp} (hr : fn.results = #[.cell p 28]) (hd : a.defers = []) {b o : Nat} {x y : Value}
    (hp : a.tmps.getD p undef = .pointer (some ⟨b, o, none⟩)) (h0 : w.cell? ⟨b, o, none⟩ = some x) (h1 : w.cell? ⟨b, o + 1, none⟩ = some y) (hR : R (.returned (.agg #[x, y])) w) : bodyPost Try.prog fn R .ret a w := by
  refine bodyPost_ret (v := .agg #[x, y]) ?_ hd hR
  have hp' : a.tmps[p]?.getD undef = .pointer (some ⟨b, o, none⟩) := by simpa using hp
  simp [results, hr, hp', asAddr, load_cx h0 h1]

theorem cx_mono {P : Program} {f : FuncId} {args : Array Value} {w : World} {r : Int × List Int × Int} {U : Int} {xs : List Int} {c : Int} (hr : r = (U, xs, c))
    (h : Calls P f args w fun e w' => ∃ v, e = .returned (.tuple #[.agg #[.int .i64 U, v], .int .i64 c]) ∧ Res w w' v xs) : Calls P f args w fun e w' => ∃ v, e = .returned (.tuple #[.agg #[.int .i64 r.1, v], .int .i64 r.2.2]) ∧ Res w w' v r.2.1 := by
  subst hr; exact h


end Go.Proofs.Ytbhdipljhelddaa

/-! Pairs compared. -/
namespace Go.Proofs.Ytbhdipljhelddaa
open Go.RowKit

/-- A pair comes ahead of another one. -/
def lessP (x y x' y' : Int) : Bool := decide (x < x') || (decide (x = x') && decide (y < y'))

set_option maxRecDepth 100000 in
set_option maxHeartbeats 1000000 in
theorem less_any (x y x' y' : Int) (w : World) :
    Calls Try.prog 114 #[.agg #[.int .i64 x, .int .i64 y], .agg #[.int .i64 x', .int .i64 y']] w fun e w' => e = .returned (.bool (lessP x y x' y')) ∧ Below w.heap.size w w' := by
  have HB : Hid (Below w.heap.size w ((w.alloc (.cells #[.int .i64 x, .int .i64 y] 65)).alloc (.cells #[.int .i64 x', .int .i64 y'] 65))) := hid (((Below.refl _ w).alloc (Nat.le_refl _) _).alloc (by simp) _)
  by_cases h1 : x < x'
  · have hd : decide (x < x') = true := decide_eq_true h1
    have He : Hid (lessP x y x' y' = true) := hid (by unfold lessP; simp [h1])
    clear h1
    go_enter Try.func114, Try.ntmps114
    go_wp2
    go_ret
    exact ⟨ret_bool He.out.symm, HB.out⟩
  · have hd : decide (x < x') = false := decide_eq_false h1
    by_cases h2 : x = x'
    · have hd2 : (x == x') = true := by simp [h2]
      have He : Hid (lessP x y x' y' = decide (y < y')) := hid (by unfold lessP; simp [h2])
      clear h1 h2
      go_enter Try.func114, Try.ntmps114
      go_wp2
      go_ret
      exact ⟨ret_bool He.out.symm, HB.out⟩
    · have hd2 : (x == x') = false := by simp [h2]
      have He : Hid (lessP x y x' y' = false) := hid (by unfold lessP; simp [h1, h2])
      clear h1 h2
      go_enter Try.func114, Try.ntmps114
      go_wp2
      go_ret
      exact ⟨ret_bool He.out.symm, HB.out⟩

/-- -1, 0 or 1. -/
def cmpI (x y : Int) : Int := if x < y then -1 else if y < x then 1 else 0

set_option maxRecDepth 100000 in
set_option maxHeartbeats 1000000 in
theorem nan_any (x : Int) (w : World) : Calls Try.prog 180 #[.int .i64 x] w fun e w' => e = .returned (.bool false) ∧ w = w' := by
  have hne : (x != x) = false := by simp
  go_enter Try.func180, Try.ntmps180
  go_wp2
  go_ret
  exact ⟨rfl, rfl⟩

set_option maxRecDepth 100000 in
set_option maxHeartbeats 1000000 in
theorem cmp_any (x y : Int) (w : World) : Calls Try.prog 123 #[.int .i64 x, .int .i64 y] w fun e w' => e = .returned (.int .i64 (cmpI x y)) ∧ w = w' := by
  by_cases h1 : x < y
  · have hd : decide (x < y) = true := decide_eq_true h1
    have He : Hid (cmpI x y = -1) := hid (by unfold cmpI; simp [h1])
    clear h1
    go_enter Try.func123, Try.ntmps123
    go_wp2_with (go_at_call 180; refine (nan_any _ _).mono ?_; rintro e w' ⟨rfl, rfl⟩)
    go_ret
    exact ⟨ret_int He.out.symm, rfl⟩
  · have hd : decide (x < y) = false := decide_eq_false h1
    by_cases h2 : y < x
    · have hd2 : decide (y < x) = true := decide_eq_true h2
      have He : Hid (cmpI x y = 1) := hid (by unfold cmpI; simp [h1, h2])
      clear h1 h2
      go_enter Try.func123, Try.ntmps123
      go_wp2_with (go_at_call 180; refine (nan_any _ _).mono ?_; rintro e w' ⟨rfl, rfl⟩)
      go_ret
      exact ⟨ret_int He.out.symm, rfl⟩
    · have hd2 : decide (y < x) = false := decide_eq_false h2
      have He : Hid (cmpI x y = 0) := hid (by unfold cmpI; simp [h1, h2])
      clear h1 h2
      go_enter Try.func123, Try.ntmps123
      go_wp2_with (go_at_call 180; refine (nan_any _ _).mono ?_; rintro e w' ⟨rfl, rfl⟩)
      go_ret
      exact ⟨ret_int He.out.symm, rfl⟩

/-- The first of two that is not 0. -/
def orI (u v : Int) : Int := if u = 0 then v else u

theorem two_new (W : World) (H : Nat) (hH : W.heap.size = H) (u v : Value) (t : Nat) : (W.alloc (.cells #[u, v] t)).cell? ⟨H, 0, none⟩ = some u ∧ (W.alloc (.cells #[u, v] t)).cell? ⟨H, 1, none⟩ = some v := by
  subst hH
  constructor <;> simp [go_sem]

theorem two_new_d (W : World) (H : Nat) (hH : W.heap.size = H) (u v : Value) (t : Nat) : (W.alloc (.cells #[u, v] t)).drew.cell? ⟨H, 0, none⟩ = some u ∧ (W.alloc (.cells #[u, v] t)).drew.cell? ⟨H, 1, none⟩ = some v := two_new W H hH u v t

set_option maxRecDepth 100000 in
set_option maxHeartbeats 1000000 in
theorem or_any (u v : Int) (b : Nat) (w : World) (h0 : w.cell? ⟨b, 0, none⟩ = some (.int .i64 u)) (h1 : w.cell? ⟨b, 1, none⟩ = some (.int .i64 v)) :
    Calls Try.prog 122 #[.slice (some ⟨b, 0, none⟩) 2 2] w fun e w' => e = .returned (.int .i64 (orI u v)) ∧ w = w' := by
  by_cases hu : u = 0
  · have hd : (u != 0) = false := by simp [hu]
    by_cases hv : v = 0
    · have hd2 : (v != 0) = false := by simp [hv]
      have He : Hid (orI u v = 0) := hid (by unfold orI; rw [if_pos hu, hv])
      clear hu hv
      go_enter Try.func122, Try.ntmps122
      go_wp2
      refine wp_loop_rounds 3 ?_; rw [rounds_succ]
      go_wp2
      rw [rounds_succ]
      go_wp2
      rw [rounds_succ]
      go_wp2
      go_ret
      exact ⟨ret_int He.out.symm, rfl⟩
    · have hd2 : (v != 0) = true := by simp [hv]
      have He : Hid (orI u v = v) := hid (by unfold orI; rw [if_pos hu])
      clear hu hv
      go_enter Try.func122, Try.ntmps122
      go_wp2
      refine wp_loop_rounds 3 ?_; rw [rounds_succ]
      go_wp2
      rw [rounds_succ]
      go_wp2
      go_ret
      exact ⟨ret_int He.out.symm, rfl⟩
  · have hd : (u != 0) = true := by simp [hu]
    have He : Hid (orI u v = u) := hid (by unfold orI; rw [if_neg hu])
    clear hu
    go_enter Try.func122, Try.ntmps122
    go_wp2
    refine wp_loop_rounds 3 ?_; rw [rounds_succ]
    go_wp2
    go_ret
    exact ⟨ret_int He.out.symm, rfl⟩

/-- What comparePairs hands back. -/
def cmpP (x y x' y' : Int) : Int := orI (cmpI x x') (cmpI y y')

theorem cmpP_neg (x y x' y' : Int) : cmpP x y x' y' < 0 ↔ lessP x y x' y' = true := by
  unfold cmpP orI cmpI lessP
  simp only [Bool.or_eq_true, Bool.and_eq_true, decide_eq_true_eq]
  repeat' split
  all_goals omega

set_option maxRecDepth 100000 in
set_option maxHeartbeats 1000000 in
theorem cp_any (x y x' y' : Int) (w : World) :
    Calls Try.prog 59 #[.agg #[.int .i64 x, .int .i64 y], .agg #[.int .i64 x', .int .i64 y']] w fun e w' => e = .returned (.int .i64 (cmpP x y x' y')) ∧ Below w.heap.size w w' := by
  go_enter Try.func59, Try.ntmps59
  go_wp2
  have q0 : ((w.alloc (.cells #[.int .i64 x, .int .i64 y] 65)).alloc (.cells #[.int .i64 x', .int .i64 y'] 65)).cell? ⟨w.heap.size, 0, none⟩ = some (.int .i64 x) := by simp [go_sem]
  have q1 : ((w.alloc (.cells #[.int .i64 x, .int .i64 y] 65)).alloc (.cells #[.int .i64 x', .int .i64 y'] 65)).cell? ⟨w.heap.size, 1, none⟩ = some (.int .i64 y) := by simp [go_sem]
  have q2 : ((w.alloc (.cells #[.int .i64 x, .int .i64 y] 65)).alloc (.cells #[.int .i64 x', .int .i64 y'] 65)).cell? ⟨w.heap.size + 1, 0, none⟩ = some (.int .i64 x') := by simp [go_sem]
  have q3 : ((w.alloc (.cells #[.int .i64 x, .int .i64 y] 65)).alloc (.cells #[.int .i64 x', .int .i64 y'] 65)).cell? ⟨w.heap.size + 1, 1, none⟩ = some (.int .i64 y') := by simp [go_sem]
  have hsz : ((w.alloc (.cells #[.int .i64 x, .int .i64 y] 65)).alloc (.cells #[.int .i64 x', .int .i64 y'] 65)).heap.size = w.heap.size + 1 + 1 := by simp
  have HB : Hid (Below w.heap.size w ((w.alloc (.cells #[.int .i64 x, .int .i64 y] 65)).alloc (.cells #[.int .i64 x', .int .i64 y'] 65))) := hid (((Below.refl _ w).alloc (Nat.le_refl _) _).alloc (by simp) _)
  obtain ⟨W, hW⟩ : ∃ W, W = (w.alloc (.cells #[.int .i64 x, .int .i64 y] 65)).alloc (.cells #[.int .i64 x', .int .i64 y'] 65) := ⟨_, rfl⟩
  rw [← hW] at q0 q1 q2 q3 hsz HB ⊢
  clear hW
  go_region_held3 (fun w' => w'.cell? ⟨w.heap.size, 0, none⟩ = some (.int .i64 x) ∧ w'.cell? ⟨w.heap.size, 1, none⟩ = some (.int .i64 y) ∧ w'.cell? ⟨w.heap.size + 1, 0, none⟩ = some (.int .i64 x') ∧ w'.cell? ⟨w.heap.size + 1, 1, none⟩ = some (.int .i64 y')) (go_keep) (first
    | (go_at_call 123; refine (cmp_any _ _ _).mono ?_; rintro e w' ⟨rfl, rfl⟩)
    | (go_at_call 122; refine (or_any (cmpI x x') (cmpI y y') _ _ (two_new_d W _ hsz _ _ _).1 (two_new_d W _ hsz _ _ _).2).mono ?_; rintro e w' ⟨rfl, rfl⟩))
  all_goals
    go_wp2_with fail
    go_ret
    exact ⟨rfl, HB.out.trans (Below.mono (w := W) (((Below.refl _ W).alloc (Nat.le_refl _) _).drew) HB.out.size)⟩

end Go.Proofs.Ytbhdipljhelddaa

/-! slices.IsSortedFunc on a list of pairs. -/
namespace Go.Proofs.Ytbhdipljhelddaa
open Go.RowKit

/-- The number at a place. -/
def at0 (ps : List Int) (i : Nat) : Int := ps[i]?.getD 0

/-- No pair comes ahead of the one before it, from place k on. -/
def NoDrop (ps : List Int) (n k : Nat) : Prop := ∀ j, k ≤ j → 1 ≤ j → j < n → lessP (at0 ps (j * 2)) (at0 ps (j * 2 + 1)) (at0 ps ((j - 1) * 2)) (at0 ps ((j - 1) * 2 + 1)) = false

noncomputable def noDropB (ps : List Int) (n : Nat) : Bool := @decide (NoDrop ps n 1) (Classical.propDecidable _)
theorem noDropB_true {ps : List Int} {n : Nat} (h : NoDrop ps n 1) : noDropB ps n = true := by unfold noDropB; exact @decide_eq_true _ (Classical.propDecidable _) h
theorem noDropB_false {ps : List Int} {n : Nat} (h : ¬ NoDrop ps n 1) : noDropB ps n = false := by unfold noDropB; exact @decide_eq_false _ (Classical.propDecidable _) h

set_option maxRecDepth 100000 in
set_option maxHeartbeats 2000000 in
theorem sorted_any (a : Option Addr) (n cap : Nat) (ps : List Int) (w : World) (hx : SlI w w.heap.size a ps) (hp : ps.length = 2 * n) (hl : n ≤ 1048576) :
    Calls Try.prog 221 #[.slice a n cap, .func (.func 59) #[] #[]] w fun e w' => e = .returned (.bool (noDropB ps n)) ∧ Below w.heap.size w w' := by
  have hent : ∀ args w, (callFunc 59 args).run Try.prog w = .ok (.enter 59 args) w := enters_of Try.func59 (by kernel_rfl) rfl
  by_cases hn : n ≤ 1
  · have He : Hid (noDropB ps n = true) := hid (noDropB_true (fun j h1 h2 h3 => by omega))
    clear hx hp
    have h0 : n = 0 ∨ n = 1 := by omega
    rcases h0 with rfl | rfl
    · go_enter Try.func221, Try.ntmps221
      go_wp2
      refine wp_loop_rounds 1 ?_; rw [rounds_succ]
      go_wp2
      go_ret
      exact ⟨ret_bool He.out.symm, Below.refl _ _⟩
    · go_enter Try.func221, Try.ntmps221
      go_wp2
      refine wp_loop_rounds 1 ?_; rw [rounds_succ]
      go_wp2
      go_ret
      exact ⟨ret_bool He.out.symm, Below.refl _ _⟩
  · obtain ⟨b, off, hb, rfl, hc⟩ : ∃ b off, b < w.heap.size ∧ a = some ⟨b, off, none⟩ ∧ ∀ i, i < ps.length → w.cell? ⟨b, off + i, none⟩ = some (.int .i64 (ps[i]?.getD 0)) := by
      rcases hx with rfl | h
      · simp at hp; omega
      · exact h
    have Hc := hid hc
    have Hp := hid hp
    clear hc hx hp
    go_enter Try.func221, Try.ntmps221
    go_wp2
    go_loopw [5] (fun i wr => ∃ k : Nat, k < n ∧ i = .int .i64 k ∧ Hid (NoDrop ps n (k + 1)) ∧ Below w.heap.size w wr) (fun i _ => (intOf i).toNat)
    case atStart => exact ⟨n - 1, by omega, by go_num, hid (fun j h1 h2 h3 => by omega), Below.refl _ _⟩
    case round =>
      obtain ⟨k, hk, rfl, Hk, hB⟩ := hrel
      by_cases hlt : 0 < k
      · obtain ⟨m, rfl⟩ : ∃ m : Nat, k = m + 1 := ⟨k - 1, by omega⟩
        have c0 : wr.cell? ⟨b, off + (m + 1) * 2, none⟩ = some (.int .i64 (at0 ps ((m + 1) * 2))) := (hB.cell (p := ⟨b, off + (m + 1) * 2, none⟩) hb).trans (Hc.out _ (by have := Hp.out; omega))
        have c1 : wr.cell? ⟨b, off + (m + 1) * 2 + 1, none⟩ = some (.int .i64 (at0 ps ((m + 1) * 2 + 1))) := (hB.cell (p := ⟨b, off + ((m + 1) * 2 + 1), none⟩) hb).trans (Hc.out _ (by have := Hp.out; omega))
        have d0 : wr.cell? ⟨b, off + m * 2, none⟩ = some (.int .i64 (at0 ps (m * 2))) := (hB.cell (p := ⟨b, off + m * 2, none⟩) hb).trans (Hc.out _ (by have := Hp.out; omega))
        have d1 : wr.cell? ⟨b, off + m * 2 + 1, none⟩ = some (.int .i64 (at0 ps (m * 2 + 1))) := (hB.cell (p := ⟨b, off + (m * 2 + 1), none⟩) hb).trans (Hc.out _ (by have := Hp.out; omega))
        obtain ⟨x, hx⟩ : ∃ x, x = at0 ps ((m + 1) * 2) := ⟨_, rfl⟩
        obtain ⟨y, hy⟩ : ∃ y, y = at0 ps ((m + 1) * 2 + 1) := ⟨_, rfl⟩
        obtain ⟨x', hx'⟩ : ∃ x, x = at0 ps (m * 2) := ⟨_, rfl⟩
        obtain ⟨y', hy'⟩ : ∃ y, y = at0 ps (m * 2 + 1) := ⟨_, rfl⟩
        rw [← hx] at c0
        rw [← hy] at c1
        rw [← hx'] at d0
        rw [← hy'] at d1
        have Hstep : Hid (∀ c, lessP x y x' y' = c → (c = false → NoDrop ps n (m + 1)) ∧ (c = true → ¬ NoDrop ps n 1)) := hid (fun c hc => by
          refine ⟨fun h0 j h1 h2 h3 => ?_, fun h0 hno => ?_⟩
          · by_cases hj : j = m + 1
            · subst hj
              rw [Nat.add_sub_cancel, ← hx, ← hy, ← hx', ← hy', hc, h0]
            · exact Hk.out j (by omega) h2 h3
          · have := hno (m + 1) (by omega) (by omega) hk
            rw [Nat.add_sub_cancel, ← hx, ← hy, ← hx', ← hy', hc, h0] at this
            cases this)
        have Hneg := hid (cmpP_neg x y x' y')
        obtain ⟨q, hq⟩ : ∃ q, q = cmpP x y x' y' := ⟨_, rfl⟩
        have Hq := hid hq
        rw [← hq] at Hneg
        have hi0 : (0 : Int) ≤ (m : Int) := by omega
        have hi1 : (m : Int) < (n : Int) := by omega
        have hi2 : (m : Int) + 1 < (n : Int) := by omega
        have hi3 : (0 : Int) ≤ (m : Int) + 1 := by omega
        have hw1 : IntKind.i64.wrap (m : Int) = m := by rw [IntKind.wrap_i64]; omega
        have hw2 : IntKind.i64.wrap ((m : Int) + 1 - 1) = m := by rw [show (m : Int) + 1 - 1 = m by omega]; exact hw1
        have hw3 : wrap64 (m : Int) = m := IntWalk.wrap64_in _ ⟨by omega, by omega⟩
        have HB := hid hB
        clear hx hy hx' hy' hq hB Hk
        go_wp2_with fail
        go_region_with (go_at_call 59; refine (cp_any x y x' y' _).mono ?_; rintro e w2 ⟨rfl, hB2⟩; rw [← Hq.out])
        all_goals
          have HB2 := hid (HB.out.trans (Below.mono (w := wr) ⟨hB2.os, hB2.tape, hB2.output, hB2.size, hB2.block⟩ HB.out.size))
          clear hB2
          by_cases hql : q < 0
          · have He : Hid (noDropB ps n = false) := hid (noDropB_false ((Hstep.out true (Hneg.out.1 hql)).2 rfl))
            go_wp2_with fail
            go_ret
            exact ⟨ret_bool He.out.symm, HB2.out⟩
          · have hq0 : 0 ≤ q := by omega
            have He : Hid (NoDrop ps n (m + 1)) := hid ((Hstep.out false (by
              cases hc : lessP x y x' y'
              · rfl
              · exact absurd (Hneg.out.2 hc) hql)).1 rfl)
            clear hql
            go_wp2_with fail
            go_roundw
            case rel => exact ⟨m, by omega, by go_num, He.out, HB2.out⟩
            case measure => simp [intOf] <;> omega
      · obtain rfl : k = 0 := by omega
        have He : Hid (noDropB ps n = true) := hid (noDropB_true (fun j h1 h2 h3 => Hk.out j (by omega) h2 h3))
        go_wp2
        go_ret
        exact ⟨ret_bool He.out.symm, hB⟩

end Go.Proofs.Ytbhdipljhelddaa

/-! How many faces a complex has at most. -/
namespace Go.Proofs.Ytbhdipljhelddaa

theorem asc_len : ∀ (fs : List Int) (lo : Int), fs.Pairwise (· < ·) → (∀ x ∈ fs, lo ≤ x ∧ x ≤ 63) → fs.length ≤ (64 - lo).toNat
  | [], lo, _, _ => by simp
  | x :: fs, lo, hp, hr => by
    have h1 := hr x (by simp)
    have h2 := asc_len fs (x + 1) (List.pairwise_cons.1 hp).2 (fun y hy => ⟨by have := (List.pairwise_cons.1 hp).1 y hy; omega, (hr y (by simp [hy])).2⟩)
    rw [List.length_cons]
    omega

theorem IsC.len63 {V : Int} {fs : List Int} (h : IsC V fs) : fs.length ≤ 63 := by
  have := asc_len fs 1 h.asc h.range63
  omega

end Go.Proofs.Ytbhdipljhelddaa

/-! l02High, l02Next: the steps from a face. -/
namespace Go.Proofs.Ytbhdipljhelddaa
open Go.RowKit

/-- The high face of the first pair with a low face; 0: there is none. -/
def highOf (ps : List Int) (n : Nat) (a : Int) : Int := match (List.range n).find? (fun i => decide (at0 ps (i * 2) = a)) with
  | some i => at0 ps (i * 2 + 1)
  | none => 0
theorem highOf_some {ps : List Int} {n i : Nat} {a : Int} (hi : i < n) (ha : at0 ps (i * 2) = a) (h : ∀ j, j < i → at0 ps (j * 2) ≠ a) : highOf ps n a = at0 ps (i * 2 + 1) := by
  have : (List.range n).find? (fun i => decide (at0 ps (i * 2) = a)) = some i := by
    rw [List.find?_range_eq_some]
    exact ⟨by simp [ha], by simpa using hi, fun j hj => by simpa using h j hj⟩
  unfold highOf
  rw [this]
theorem highOf_none {ps : List Int} {n : Nat} {a : Int} (h : ∀ j, j < n → at0 ps (j * 2) ≠ a) : highOf ps n a = 0 := by
  have : (List.range n).find? (fun i => decide (at0 ps (i * 2) = a)) = none := by
    rw [List.find?_eq_none]
    intro i hi
    simpa using h i (by simpa using hi)
  unfold highOf
  rw [this]
/-- The faces to which steps lead. -/
def nextL (ps : List Int) (n : Nat) (a : Int) : List Int := if highOf ps n a = 0 then [] else (belowR (highOf ps n a).toNat 63).filter fun y => decide (y ≠ a)
theorem nextL_len (ps : List Int) (n : Nat) (a : Int) : (nextL ps n a).length ≤ 63 := by
  unfold nextL
  split
  · simp
  · exact Nat.le_trans (List.length_filter_le _ _) (belowR_len _ _)

/-- 'append' of a number; where the row lies afterwards. -/
theorem append_int_at {w : World} {ops : Array Oper} {rest : List Oper} {o : Oper} {a : Act} {Q : Exit → Act → World → Prop} (hgd : o.guard = none) {s y : Operand}
    (ho : o.op = .call { callee := .builtin .append, args := #[s, y], argTypes := #[22, 22] })
    {base : Nat} {v : Value} {xs : List Int} {x : Int} (hown : w.ownsRow base 2 1 v xs.length (xs.map (Value.int .i64))) (hbase : base ≤ w.heap.size) (hl : xs.length ≤ 1099511627776)
    (hs : a.eval s = v) (hy : a.eval y = .slice (some ⟨w.heap.size, 0, none⟩) 1 1)
    (hK : ∀ v' w', w'.ownsRow base 2 1 v' (xs ++ [x]).length ((xs ++ [x]).map (Value.int .i64)) → w.grownBy w' v.ownBlock → (v'.ownBlock = v.ownBlock ∨ v'.ownBlock = some (w.heap.size + 1)) → Below base w w' → wpList Try.prog ops Q rest (a.put o.dst v') w') :
    wpList Try.prog ops Q (o :: rest) a (w.alloc (.cells #[.int .i64 x] 2)) := by
  obtain ⟨i0, hi, hz0, hz1, hz2⟩ := info_parts info_i64
  refine wpList_append_own_at _ hgd s y 22 ho base 2 i0 (.int .i64 0) 1 8 Try.underlying22 hi hz0 hz1 hz2 rfl (by decide) v _ _ hs (hown.alloc _) ⟨w.heap.size, 0, none⟩ 1 1 [.int .i64 x] hy rfl (cell_one_new _ _ _) (by simp [Value.oneCell']) (by unfold maxLen; omega) (by omega) (by simp; omega) ?_
  intro v' w1 hown1 hgrow1 _ hat
  have hg : w.grownBy w1 v.ownBlock := (World.grownBy_alloc w _ _).trans hgrow1
  exact hK v' w1 (by simpa using hown1) hg (by simpa using hat) ((Below.refl base w).grown hg hbase (fun k hk => (hown.lt k hk).1))

set_option maxRecDepth 100000 in
set_option maxHeartbeats 2000000 in
theorem high_any (a1 : Option Addr) (n cap : Nat) (ps : List Int) (a : Int) (w : World) (hx : SlI w w.heap.size a1 ps) (hp : ps.length = 2 * n) (hl : n ≤ 1048576) :
    Calls Try.prog 53 #[.slice a1 n cap, .int .i64 a] w fun e w' => e = .returned (.int .i64 (highOf ps n a)) ∧ w = w' := by
  obtain ⟨E, hE⟩ : ∃ E, E = highOf ps n a := ⟨_, rfl⟩
  have HE := hid hE
  rw [← hE]
  clear hE
  have Hx := hid hx
  have Hp := hid hp
  clear hx hp
  go_enter Try.func53, Try.ntmps53
  go_wp2
  go_loop [5] (fun i => ∃ k : Nat, k ≤ n ∧ i = .int .i64 k ∧ Hid (∀ j, j < k → at0 ps (j * 2) ≠ a)) (fun i => n - (intOf i).toNat)
  case atStart => exact ⟨0, Nat.zero_le _, rfl, hid (fun j hj => absurd hj (Nat.not_lt_zero _))⟩
  case round =>
    obtain ⟨k, hk, rfl, Hk⟩ := hrel
    by_cases hlt : k < n
    · obtain ⟨b, off, hb, rfl, hc⟩ : ∃ b off, b < w.heap.size ∧ a1 = some ⟨b, off, none⟩ ∧ ∀ i, i < ps.length → w.cell? ⟨b, off + i, none⟩ = some (.int .i64 (ps[i]?.getD 0)) := by
        rcases Hx.out with h | h
        · have := Hp.out; rw [h] at this; simp at this; omega
        · exact h
      have c0 : w.cell? ⟨b, off + k * 2, none⟩ = some (.int .i64 (at0 ps (k * 2))) := hc _ (by have := Hp.out; omega)
      have c1 : w.cell? ⟨b, off + k * 2 + 1, none⟩ = some (.int .i64 (at0 ps (k * 2 + 1))) := hc (k * 2 + 1) (by have := Hp.out; omega)
      obtain ⟨x, hx⟩ : ∃ x, x = at0 ps (k * 2) := ⟨_, rfl⟩
      obtain ⟨y, hy⟩ : ∃ y, y = at0 ps (k * 2 + 1) := ⟨_, rfl⟩
      rw [← hx] at c0
      rw [← hy] at c1
      have hi0 : (0 : Int) ≤ (k : Int) := by omega
      have hi1 : (k : Int) < (n : Int) := by omega
      clear hc
      by_cases hxa : x = a
      · have hd : (x == a) = true := by simp [hxa]
        have He : Hid (E = y) := hid (by rw [HE.out, hy]; exact highOf_some hlt (by rw [← hx, hxa]) Hk.out)
        clear hxa hx hy
        go_wp2
        go_ret
        exact ⟨ret_int (by rw [He.out]), rfl⟩
      · have hd : (x == a) = false := by simp [hxa]
        have He : Hid (∀ j, j < k + 1 → at0 ps (j * 2) ≠ a) := hid (fun j hj => by
          by_cases h : j = k
          · rw [h, ← hx]; exact hxa
          · exact Hk.out j (by omega))
        clear hxa hx hy
        go_wp2
        go_round
        case rel => exact ⟨k + 1, by omega, by go_num, He.out⟩
        case measure => simp [intOf]; omega
    · have He : Hid (E = 0) := hid (by rw [HE.out]; exact highOf_none (fun j hj => Hk.out j (by omega)))
      go_wp2
      go_ret
      exact ⟨ret_int (by rw [He.out]), rfl⟩

theorem owned_some {w : World} {base e size n : Nat} {v : Value} {xs : List Value} (h : w.ownsRow base e size v n xs) (hn : v.ownBlock ≠ none) : ∃ g cap, v = .slice (some ⟨g, 0, none⟩) n cap ∧ n ≤ cap := by
  rcases h.2 with ⟨rfl, _⟩ | ⟨g, cap, cur, rfl, _, _, h1, _⟩
  · exact absurd rfl hn
  · exact ⟨g, cap, rfl, h1⟩

set_option maxRecDepth 100000 in
set_option maxHeartbeats 2000000 in
theorem next_any (a1 : Option Addr) (n cap : Nat) (ps : List Int) (a : Int) (w : World) (hx : SlI w w.heap.size a1 ps) (hp : ps.length = 2 * n) (hl : n ≤ 1048576) (hh : 0 ≤ highOf ps n a ∧ highOf ps n a < 64) :
    Calls Try.prog 113 #[.slice a1 n cap, .int .i64 a] w fun e w' => ∃ g c, e = .returned (.slice (some ⟨g, 0, none⟩) (nextL ps n a).length c) ∧ Res w w' (.slice (some ⟨g, 0, none⟩) (nextL ps n a).length c) (nextL ps n a) := by
  have HI := hid (high_any a1 n cap ps a w hx hp hl)
  obtain ⟨f, hf⟩ : ∃ f : Nat, highOf ps n a = f := ⟨(highOf ps n a).toNat, by omega⟩
  have hN : nextL ps n a = if f = 0 then [] else (belowR f 63).filter fun y => decide (y ≠ a) := by
    unfold nextL
    rw [hf, Int.toNat_natCast]
    by_cases h : f = 0
    · rw [if_pos h, if_pos (by omega)]
    · rw [if_neg h, if_neg (by omega)]
  have hf64 : f < 64 := by omega
  rw [hf] at HI
  rw [hN]
  clear hx hp hh hN hf
  have Hown0 := hid (World.ownsRow_made (base := w.heap.size) (e := 2) (size := 1) w #[] 0 (Nat.le_refl _) (by simp [maxLen]) rfl)
  by_cases h0 : f = 0
  · subst h0
    rw [if_pos rfl]
    go_enter Try.func113, Try.ntmps113
    go_wp2_with (go_at_call 53; refine HI.out.mono ?_; rintro e w' ⟨rfl, rfl⟩)
    go_ret
    exact ⟨w.heap.size, 0, rfl, Hown0.out, (Below.refl _ w).alloc (Nat.le_refl _) _⟩
  · rw [if_neg h0]
    have hne : ((f : Int) == 0) = false := by simp; omega
    obtain ⟨ys, hys⟩ : ∃ ys, ys = belowR f 63 := ⟨_, rfl⟩
    have HB := hid (fun w => below_any f w hf64)
    have hyl : ys.length ≤ 63 := by rw [hys]; exact belowR_len _ _
    rw [← hys] at HB ⊢
    clear hys h0
    go_enter Try.func113, Try.ntmps113
    go_wp2_with (go_at_call 53; refine HI.out.mono ?_; rintro e w' ⟨rfl, rfl⟩)
    refine (HB.out _).mono ?_
    rintro e w2 ⟨v, rfl, hown2, hB2⟩
    obtain ⟨_, av, cv, rfl, hs⟩ := ownsRow_slI hown2
    have hown1 := ownsRow_below Hown0.out hB2 (fun g hg => (Hown0.out.lt g hg).2)
    have hB12 : Below w.heap.size w w2 := ((Below.refl _ w).alloc (Nat.le_refl _) _).trans (hB2.mono (by simp))
    have hb0 : ∀ b off, av = some ⟨b, off, none⟩ → w.heap.size + 1 ≤ b := fun b off h => by
      have := (hown2.lt b (by rw [h]; rfl)).1
      simpa using this
    have Hown1 := hid hown1
    have HB12 := hid hB12
    clear hown1 hB12 hown2 hB2
    rcases hs with rfl | ⟨b, off, hb, rfl, hc⟩
    · go_wp2_with fail
      refine wp_loop_rounds 1 ?_; rw [rounds_succ]
      go_wp2
      go_ret
      exact ⟨w.heap.size, 0, rfl, Hown1.out, HB12.out⟩
    · have hbw := hb0 b off rfl
      have Hc := hid hc
      clear hc hb0
      go_wp2_with fail
      go_loopw [6, 8] (fun v i wr => ∃ k : Nat, k ≤ ys.length ∧ i = .int .i64 k ∧ wr.ownsRow w.heap.size 2 1 v ((ys.take k).filter fun y => decide (y ≠ a)).length (((ys.take k).filter fun y => decide (y ≠ a)).map (Value.int .i64)) ∧ v.ownBlock ≠ none ∧ v.ownBlock ≠ some b ∧ Hid (b < wr.heap.size ∧ ∀ i, i < ys.length → wr.cell? ⟨b, off + i, none⟩ = some (.int .i64 (ys[i]?.getD 0))) ∧ Below w.heap.size w wr) (fun _ i _ => ys.length - (intOf i).toNat)
      case atStart => exact ⟨0, Nat.zero_le _, rfl, Hown1.out, by simp [Value.ownBlock], by simp [Value.ownBlock]; omega, hid ⟨hb, Hc.out⟩, HB12.out⟩
      case round =>
        obtain ⟨k, hk, rfl, hown, hnn, hne', HC, hB⟩ := hrel
        by_cases hlt : k < ys.length
        · obtain ⟨y, hy⟩ : ∃ y, y = ys[k]?.getD 0 := ⟨_, rfl⟩
          have hck : wr.cell? ⟨b, off + k, none⟩ = some (.int .i64 y) := by rw [hy]; exact HC.out.2 k hlt
          have Htk : Hid (ys.take (k + 1) = ys.take k ++ [y]) := hid (by rw [take_snoc hlt, hy])
          have hi0 : (0 : Int) ≤ (k : Int) := by omega
          have hi1 : (k : Int) < (ys.length : Int) := by omega
          have hfl : ((ys.take k).filter fun y => decide (y ≠ a)).length ≤ 1048576 := Nat.le_trans (List.length_filter_le _ _) (by simp; omega)
          have hsz := hB.size
          have HB' := hid hB
          have Hown := hid hown
          clear hy hown hB
          by_cases hya : y = a
          · have hd : (y != a) = false := by simp [hya]
            have He : Hid ((ys.take (k + 1)).filter (fun y => decide (y ≠ a)) = (ys.take k).filter (fun y => decide (y ≠ a))) := hid (by rw [Htk.out, List.filter_append]; simp [hya])
            clear hya
            go_wp2_with fail
            go_roundw
            case rel => exact ⟨k + 1, by omega, by go_num, by rw [He.out]; exact Hown.out, hnn, hne', HC, HB'.out⟩
            case measure => simp [intOf]; omega
          · have hd : (y != a) = true := by simp [hya]
            have He : Hid ((ys.take (k + 1)).filter (fun y => decide (y ≠ a)) = (ys.take k).filter (fun y => decide (y ≠ a)) ++ [y]) := hid (by rw [Htk.out, List.filter_append]; simp [hya])
            clear hya
            go_wp2_with (at_builtin; refine append_int_at rfl rfl Hown.out hsz (by omega) rfl rfl ?_; intro v' w4 hown4 hgrow4 hat4 hB4)
            go_roundw
            case rel =>
              have hbn := HC.out.1
              refine ⟨k + 1, by omega, by go_num, by rw [He.out]; exact hown4, ?_, ?_, hid ⟨Nat.lt_of_lt_of_le hbn hB4.size, fun i hi => ?_⟩, HB'.out.trans hB4⟩
              · rcases hat4 with h | h
                · rw [h]; exact hnn
                · rw [h]; intro e; cases e
              · rcases hat4 with h | h
                · rw [h]; exact hne'
                · rw [h]; intro e; injection e with e; omega
              · rw [hgrow4.cell_far _ hbn (fun e => hne' e.symm)]; exact HC.out.2 i hi
            case measure => simp [intOf]; omega
        · obtain rfl : k = ys.length := by omega
          rw [List.take_length] at hown
          have HB' := hid hB
          have Hown := hid hown
          clear hB hown
          go_wp2_with fail
          obtain ⟨g, c, rfl, _⟩ := owned_some Hown.out hnn
          go_ret
          exact ⟨g, c, rfl, Hown.out, HB'.out⟩

end Go.Proofs.Ytbhdipljhelddaa

/-! Gradient ways, the mathematics: what a search over the steps finds. -/
namespace Go.Proofs.Ytbhdipljhelddaa
open Go.RowKit

/-- A gradient way with at least one step. -/
inductive Way (ps : List Int) (n : Nat) (a : Int) : Int → Prop
  | one {y : Int} : y ∈ nextL ps n a → Way ps n a y
  | more {x y : Int} : Way ps n a x → y ∈ nextL ps n x → Way ps n a y

/-- All high faces are numbers below 64. -/
def HighsB (ps : List Int) (n : Nat) : Prop := ∀ a, 0 ≤ highOf ps n a ∧ highOf ps n a < 64
theorem next_range {ps : List Int} {n : Nat} (h : HighsB ps n) {a y : Int} (hy : y ∈ nextL ps n a) : 0 ≤ y ∧ y < 64 := by
  unfold nextL at hy
  split at hy
  · simp at hy
  · have hm := (List.mem_filter.1 hy).1
    obtain ⟨v, h1, _, h3, h4, h5⟩ := (mem_belowR 63 (Nat.le_refl _)).1 hm
    have h6 : 2 ^ v ≤ (highOf ps n a).toNat := by
      unfold bitN at h3
      simp at h3
      exact Classical.byContradiction fun hn => by
        rw [Nat.div_eq_of_lt (by omega)] at h3
        simp at h3
    have := h a
    have e : ((2 ^ v : Nat) : Int) = (2 : Int) ^ v := by simp
    have hp : 0 < 2 ^ v := Nat.two_pow_pos v
    omega

def metAt (met : List Bool) (y : Int) : Bool := met[y.toNat]?.getD false
/-- A search under way: what has been met, and what waits. -/
structure Srch (ps : List Int) (n : Nat) (a : Int) (met : List Bool) (st : List Int) : Prop where
  len : met.length = 64
  good : ∀ i : Nat, i < 64 → met[i]?.getD false = true → Way ps n a i
  way : ∀ x ∈ st, Way ps n a x
  rng : ∀ x ∈ st, 0 ≤ x ∧ x < 64
  c0 : ∀ y ∈ nextL ps n a, y ∈ st ∨ metAt met y = true
  c1 : ∀ i : Nat, i < 64 → met[i]?.getD false = true → ∀ y ∈ nextL ps n i, y ∈ st ∨ metAt met y = true
  small : st.length + 64 * met.countP (fun b => !b) ≤ 5000

theorem Srch.start {ps : List Int} {n : Nat} (h : HighsB ps n) (a : Int) : Srch ps n a (List.replicate 64 false) (nextL ps n a) := by
  have hz : ∀ i : Nat, (List.replicate 64 false)[i]?.getD false = false := fun i => by
    rw [List.getElem?_replicate]
    split <;> rfl
  refine ⟨by simp, fun i _ hi => ?_, fun x hx => .one hx, fun x hx => next_range h hx, fun y hy => .inl hy, fun i _ hi => ?_, ?_⟩
  · rw [hz] at hi; cases hi
  · rw [hz] at hi; cases hi
  · have := nextL_len ps n a
    have e : (List.replicate 64 false).countP (fun b => !b) = 64 := by decide
    rw [e]; omega
theorem Srch.skip {ps : List Int} {n : Nat} {a x : Int} {met : List Bool} {st : List Int} (h : Srch ps n a met (st ++ [x])) (hx : metAt met x = true) : Srch ps n a met st := by
  have hk : ∀ y, (y ∈ st ++ [x] ∨ metAt met y = true) → (y ∈ st ∨ metAt met y = true) := fun y hy => by
    rcases hy with h1 | h1
    · rcases List.mem_append.1 h1 with h2 | h2
      · exact .inl h2
      · simp at h2; subst h2; exact .inr hx
    · exact .inr h1
  refine ⟨h.len, h.good, fun y hy => h.way y (List.mem_append_left _ hy), fun y hy => h.rng y (List.mem_append_left _ hy), fun y hy => hk y (h.c0 y hy), fun i h1 h2 y hy => hk y (h.c1 i h1 h2 y hy), ?_⟩
  have := h.small
  simp at this
  omega
theorem metAt_set {met : List Bool} {x y : Int} (hl : met.length = 64) (hx : 0 ≤ x ∧ x < 64) (hy : metAt met y = true ∨ y = x) : metAt (met.set x.toNat true) y = true := by
  unfold metAt at *
  by_cases e : x.toNat = y.toNat
  · rw [← e, List.getElem?_set_self (by omega)]; rfl
  · rw [List.getElem?_set_ne e]
    rcases hy with h | h
    · exact h
    · exact absurd (by rw [h]) e
theorem Srch.step {ps : List Int} {n : Nat} (hh : HighsB ps n) {a x : Int} {met : List Bool} {st : List Int} (h : Srch ps n a met (st ++ [x])) (hx : metAt met x = false) : Srch ps n a (met.set x.toNat true) (st ++ nextL ps n x) := by
  have hr := h.rng x (by simp)
  have hw := h.way x (by simp)
  have hxe : ((x.toNat : Nat) : Int) = x := by omega
  have hk : ∀ y, (y ∈ st ++ [x] ∨ metAt met y = true) → (y ∈ st ++ nextL ps n x ∨ metAt (met.set x.toNat true) y = true) := fun y hy => by
    rcases hy with h1 | h1
    · rcases List.mem_append.1 h1 with h2 | h2
      · exact .inl (List.mem_append_left _ h2)
      · simp at h2; exact .inr (metAt_set h.len hr (.inr h2))
    · exact .inr (metAt_set h.len hr (.inl h1))
  have hg : ∀ i : Nat, (met.set x.toNat true)[i]?.getD false = true → i = x.toNat ∨ met[i]?.getD false = true := fun i hi => by
    by_cases e : x.toNat = i
    · exact .inl e.symm
    · rw [List.getElem?_set_ne e] at hi; exact .inr hi
  refine ⟨by simp [h.len], fun i hi hm => ?_, fun y hy => ?_, fun y hy => ?_, fun y hy => hk y (h.c0 y hy), fun i hi hm y hy => ?_, ?_⟩
  · rcases hg i hm with e | e
    · rw [e, hxe]; exact hw
    · exact h.good i hi e
  · rcases List.mem_append.1 hy with h1 | h1
    · exact h.way y (List.mem_append_left _ h1)
    · exact .more hw h1
  · rcases List.mem_append.1 hy with h1 | h1
    · exact h.rng y (List.mem_append_left _ h1)
    · exact next_range hh h1
  · rcases hg i hm with e | e
    · rw [e, hxe] at hy; exact .inl (List.mem_append_right _ hy)
    · exact hk y (h.c1 i hi e y hy)
  · have hs := h.small
    have hn := nextL_len ps n x
    have hxl : x.toNat < met.length := by rw [h.len]; omega
    have hf : met[x.toNat] = false := by
      unfold metAt at hx
      rw [List.getElem?_eq_getElem hxl] at hx
      simpa using hx
    have hc := List.countP_set (p := fun b : Bool => !b) (a := true) hxl
    rw [hf] at hc
    simp at hc
    have hp : 0 < met.countP (fun b => !b) := List.countP_pos_iff.2 ⟨_, List.getElem_mem hxl, by simp [hf]⟩
    simp at hs ⊢
    omega
/-- The measure falls. -/
theorem Srch.less {ps : List Int} {n : Nat} {a x : Int} {met : List Bool} {st : List Int} (h : Srch ps n a met (st ++ [x])) (hx : metAt met x = false) :
    (st ++ nextL ps n x).length + 64 * (met.set x.toNat true).countP (fun b => !b) < (st ++ [x]).length + 64 * met.countP (fun b => !b) := by
  have hr := h.rng x (by simp)
  have hn := nextL_len ps n x
  have hxl : x.toNat < met.length := by rw [h.len]; omega
  have hf : met[x.toNat] = false := by
    unfold metAt at hx
    rw [List.getElem?_eq_getElem hxl] at hx
    simpa using hx
  have hc := List.countP_set (p := fun b : Bool => !b) (a := true) hxl
  rw [hf] at hc
  simp at hc
  have hp : 0 < met.countP (fun b => !b) := List.countP_pos_iff.2 ⟨_, List.getElem_mem hxl, by simp [hf]⟩
  simp
  omega
theorem Srch.done {ps : List Int} {n : Nat} (hh : HighsB ps n) {a : Int} {met : List Bool} (h : Srch ps n a met []) {y : Int} (hy : Way ps n a y) : metAt met y = true := by
  induction hy with
  | one h1 => exact (h.c0 _ h1).resolve_left (by simp)
  | @more x y h1 h2 ih =>
    have hr : 0 ≤ x ∧ x < 64 := by
      cases h1 with
      | one h3 => exact next_range hh h3
      | more _ h3 => exact next_range hh h3
    have hxe : ((x.toNat : Nat) : Int) = x := by omega
    exact (h.c1 x.toNat (by omega) ih y (by rw [hxe]; exact h2)).resolve_left (by simp)

end Go.Proofs.Ytbhdipljhelddaa

/-! l02Reached: the model's search. -/
namespace Go.Proofs.Ytbhdipljhelddaa
open Go.RowKit

theorem info_boolR : (Try.prog.info? 4).map (fun i => (i.zero, i.size, i.bytes)) = some (some (.bool false), 1, 1) := by kernel_rfl
/-- 'make([]bool, n)'. -/
theorem make_runB (w : World) (n : Nat) (hn : n ≤ 1099511627776) : ∃ w', (Instr.makeSlice 78 (.int .i64 (n : Int)) (.int .i64 (n : Int))).run Try.prog w = .ok (.slice (some ⟨w.heap.size, 0, none⟩) n n) w' ∧
    w'.ownsRow w.heap.size 4 1 (.slice (some ⟨w.heap.size, 0, none⟩) n n) n ((List.replicate n false).map Value.bool) ∧ w.grownBy w' none ∧ Below w.heap.size w w' := by
  obtain ⟨i0, hi, hz0, hz1, hz2⟩ := info_parts info_boolR
  obtain ⟨w', hrun, hown, hg⟩ := run_make_full (P := Try.prog) w w.heap.size 78 4 i0 (.bool false) 1 Try.underlying78 hi hz0 hz1 .i64 .i64 n (by rw [hz2]; omega) (by unfold maxLen; omega) (Nat.le_refl _)
  have e : (madeCells (Value.bool false).cells (n * 1)).toList = (List.replicate n false).map Value.bool := by
    rw [Nat.mul_one]
    exact (toList_madeCells_one _ _).trans (by simp)
  rw [e] at hown
  exact ⟨w', hrun, hown, hg, (Below.refl _ w).grown hg (Nat.le_refl _) (fun k hk => by cases hk)⟩

theorem make_run64 (w : World) : ∃ w', (Instr.makeSlice 78 (.int .i64 64) (.int .i64 64)).run Try.prog w = .ok (.slice (some ⟨w.heap.size, 0, none⟩) 64 64) w' ∧
    w'.ownsRow w.heap.size 4 1 (.slice (some ⟨w.heap.size, 0, none⟩) 64 64) 64 ((List.replicate 64 false).map Value.bool) ∧ w.grownBy w' none ∧ Below w.heap.size w w' := make_runB w 64 (by omega)

/-- 'append(a, b...)' of numbers; where the row lies afterwards. -/
theorem append_ints_at {w : World} {ops : Array Oper} {rest : List Oper} {o : Oper} {a : Act} {Q : Exit → Act → World → Prop} (hgd : o.guard = none) {s y : Operand}
    (ho : o.op = .call { callee := .builtin .append, args := #[s, y], argTypes := #[22, 22] })
    {base : Nat} {v : Value} {xs ys : List Int} {g c : Nat} (hown : w.ownsRow base 2 1 v xs.length (xs.map (Value.int .i64))) (hbase : base ≤ w.heap.size) (hl : xs.length ≤ 1048576) (hly : ys.length ≤ 1048576)
    (hs : a.eval s = v) (hy : a.eval y = .slice (some ⟨g, 0, none⟩) ys.length c) (hc : ∀ i, i < ys.length → w.cell? ⟨g, i, none⟩ = some (.int .i64 (ys[i]?.getD 0)))
    (hK : ∀ v' w', w'.ownsRow base 2 1 v' (xs ++ ys).length ((xs ++ ys).map (Value.int .i64)) → w.grownBy w' v.ownBlock → (v'.ownBlock = v.ownBlock ∨ v'.ownBlock = some w.heap.size) → Below base w w' → wpList Try.prog ops Q rest (a.put o.dst v') w') :
    wpList Try.prog ops Q (o :: rest) a w := by
  obtain ⟨i0, hi, hz0, hz1, hz2⟩ := info_parts info_i64
  refine wpList_append_own_at w hgd s y 22 ho base 2 i0 (.int .i64 0) 1 8 Try.underlying22 hi hz0 hz1 hz2 rfl (by decide) v _ _ hs hown ⟨g, 0, none⟩ ys.length c (ys.map (Value.int .i64)) hy (by simp) (fun j u hj => ?_) (fun u hu => ?_) (by unfold maxLen; omega) (by omega) hbase ?_
  · have hjl : j < ys.length := by
      have := (List.getElem?_eq_some_iff.1 hj).1
      simpa using this
    have := hc j hjl
    rw [List.getElem?_map, List.getElem?_eq_getElem hjl] at hj
    rw [List.getElem?_eq_getElem hjl] at this
    simp at hj this
    have hadd : (⟨g, 0, none⟩ : Addr).add j = ⟨g, j, none⟩ := by unfold Addr.add; split <;> simp_all
    rw [hadd, this, hj]
  · obtain ⟨x, _, rfl⟩ := List.mem_map.1 hu
    rfl
  · intro v' w1 hown1 hgrow1 _ hat
    exact hK v' w1 (by simpa using hown1) hgrow1 hat ((Below.refl base w).grown hgrow1 hbase (fun k hk => (hown.lt k hk).1))

/-- The search's world: what has been met lies in block bo, what waits in v's. -/
structure RchW (w wr : World) (ps : List Int) (n : Nat) (a : Int) (bo : Nat) (met : List Bool) (st : List Int) (v : Value) : Prop where
  om : wr.ownsRow w.heap.size 4 1 (.slice (some ⟨bo, 0, none⟩) 64 64) 64 (met.map Value.bool)
  os : wr.ownsRow w.heap.size 2 1 v st.length (st.map (Value.int .i64))
  nn : v.ownBlock ≠ none
  ne : v.ownBlock ≠ some bo
  srch : Srch ps n a met st
  below : Below w.heap.size w wr

theorem snoc_of {st : List Int} (h : st ≠ []) : ∃ st' x, st = st' ++ [x] := by
  rcases List.eq_nil_or_concat st with h1 | ⟨st', x, h1⟩
  · exact absurd h1 h
  · exact ⟨st', x, by rw [h1, List.concat_eq_append]⟩
theorem RchW.pop {w wr : World} {ps : List Int} {n : Nat} {a : Int} {bo g c : Nat} {met : List Bool} {st : List Int} {x : Int} (h : RchW w wr ps n a bo met (st ++ [x]) (.slice (some ⟨g, 0, none⟩) (st.length + 1) c)) :
    wr.ownsRow w.heap.size 2 1 (.slice (some ⟨g, 0, none⟩) st.length c) st.length (st.map (Value.int .i64)) := by
  have h1 := h.os
  have e : (st ++ [x]).length = st.length + 1 := by simp
  rw [e] at h1
  exact ownsRow_pop (n := st.length) (xs := st.map (Value.int .i64)) (last := [.int .i64 x]) (by simp) (by simpa using h1)
theorem RchW.skip {w wr : World} {ps : List Int} {n : Nat} {a : Int} {bo g c : Nat} {met : List Bool} {st : List Int} {x : Int} (h : RchW w wr ps n a bo met (st ++ [x]) (.slice (some ⟨g, 0, none⟩) (st.length + 1) c)) (hx : metAt met x = true) :
    RchW w wr ps n a bo met st (.slice (some ⟨g, 0, none⟩) st.length c) :=
  ⟨h.om, h.pop, by simp [Value.ownBlock], h.ne, h.srch.skip hx, h.below⟩
theorem RchW.push {w wr w2 w3 : World} {ps : List Int} {n : Nat} {a : Int} {bo g c q : Nat} {met : List Bool} {st : List Int} (hh : HighsB ps n) (h : RchW w wr ps n a bo met (st ++ [(q : Int)]) (.slice (some ⟨g, 0, none⟩) (st.length + 1) c))
    (hx : metAt met (q : Int) = false) (hb : Below (wr.setCell ⟨bo, q, none⟩ (.bool true)).heap.size (wr.setCell ⟨bo, q, none⟩ (.bool true)) w2) {v' : Value}
    (hown : w3.ownsRow w.heap.size 2 1 v' (st ++ nextL ps n q).length ((st ++ nextL ps n q).map (Value.int .i64))) (hg : w2.grownBy w3 (some g)) (hat : v'.ownBlock = some g ∨ v'.ownBlock = some w2.heap.size) :
    RchW w w3 ps n a bo (met.set q true) (st ++ nextL ps n q) v' := by
  have hq : q < 64 := by have := h.srch.rng (q : Int) (by simp); omega
  have hst := h.om.stored q (.bool true)
  have hgb : g ≠ bo := fun e => h.ne (by rw [e]; rfl)
  have hbo := h.om.lt bo rfl
  have hgl := h.os.lt g rfl
  have hsz : (wr.setCell ⟨bo, q, none⟩ (.bool true)).heap.size = wr.heap.size := by simp [World.setCell]
  have hs2 := hb.size
  rw [hsz] at hs2
  have hm1 : (wr.setCell ⟨bo, q, none⟩ (.bool true)).ownsRow w.heap.size 4 1 (.slice (some ⟨bo, 0, none⟩) 64 64) 64 ((met.set q true).map Value.bool) := by rw [List.map_set]; exact hst.1
  have hm2 := ownsRow_below hm1 hb (fun k hk => (hm1.lt k hk).2)
  have hm3 := hm2.kept hg (.inr (by simp [Value.ownBlock]; exact fun e => hgb e.symm))
  have hbw : Below w.heap.size w (wr.setCell ⟨bo, q, none⟩ (.bool true)) := h.below.grown hst.2 h.below.size (fun r e => by cases e; exact hbo.1)
  refine ⟨hm3, hown, ?_, ?_, ?_, ?_⟩
  · rcases hat with e | e <;> rw [e] <;> simp
  · rcases hat with e | e
    · rw [e]; simpa using hgb
    · rw [e]; intro e'; injection e' with e'; omega
  · have := h.srch.step hh hx
    rwa [Int.toNat_natCast] at this
  · exact (hbw.trans (hb.mono hbw.size)).grown hg (hbw.trans (hb.mono hbw.size)).size (fun r e => by cases e; exact hgl.1)

set_option maxRecDepth 1000000 in
set_option maxHeartbeats 4000000 in
theorem reached_any (a1 : Option Addr) (n cap : Nat) (ps : List Int) (a : Int) (w : World) (hx : SlI w w.heap.size a1 ps) (hp : ps.length = 2 * n) (hl : n ≤ 1048576) (hh : HighsB ps n) :
    Calls Try.prog 169 #[.slice a1 n cap, .int .i64 a] w fun e w' => ∃ g met, e = .returned (.slice (some ⟨g, 0, none⟩) 64 64) ∧ w'.ownsRow w.heap.size 4 1 (.slice (some ⟨g, 0, none⟩) 64 64) 64 (met.map Value.bool) ∧ Hid (Srch ps n a met []) ∧ Below w.heap.size w w' := by
  have HH := hid hh
  have HN := hid (fun x w' (h : Below w.heap.size w w') => next_any a1 n cap ps x w' (hx.later h h.size) hp hl (hh x))
  have Hl := hid (fun x => nextL_len ps n x)
  clear hx hp hh
  obtain ⟨wm, hmk, hownm, hgm, hBm⟩ := make_run64 w.drew
  have hdr : Below w.heap.size w w.drew := below_drewN (Below.refl _ w) 1
  have HBw := hid hdr
  have HBwm : Hid (Below w.heap.size w wm) := hid (hdr.trans hBm)
  have HBm := hid hBm
  have Hownm := hid hownm
  clear hownm hgm hdr hBm
  go_enter Try.func169, Try.ntmps169
  go_wp2_with fail
  go_cut [5, 6] from 8 to 11 (fun p q wx => ∃ bo g c : Nat, p = .slice (some ⟨bo, 0, none⟩) 64 64 ∧ w.heap.size ≤ bo ∧ wx.ownsRow w.heap.size 4 1 (.slice (some ⟨bo, 0, none⟩) 64 64) 64 ((List.replicate 64 false).map Value.bool) ∧ q = .slice (some ⟨g, 0, none⟩) (nextL ps n a).length c ∧ wx.ownsRow w.heap.size 2 1 (.slice (some ⟨g, 0, none⟩) (nextL ps n a).length c) (nextL ps n a).length ((nextL ps n a).map (Value.int .i64)) ∧ g ≠ bo ∧ Below w.heap.size w wx)
  case first =>
    go_region_held3 (fun w' => True) (trivial) (first
      | (go_at_call 113; (with_reducible_and_instances refine (HN.out a wm HBwm.out).mono ?_); rintro e w2 ⟨g, c, rfl, hr⟩; have HR := hid hr; clear hr)
      | (go_at_call 113; (with_reducible_and_instances refine (HN.out a w.drew HBw.out).mono ?_); rintro e w2 ⟨g, c, rfl, hr⟩; obtain ⟨w3, hmk3, hown3, hg3, hB3⟩ := make_run64 w2; have HR := hid hr; have Hown3 := hid hown3; have HB3 := hid hB3; clear hr hown3 hg3 hB3)
      | (simp only [hmk3]))
    · go_wp2_with fail
      go_meet
      case rel =>
        have hlm := (Hownm.out.lt w.heap.size rfl).2
        refine ⟨w.heap.size, g, c, rfl, Nat.le_refl _, ownsRow_below Hownm.out HR.out.2 (fun g hg => (Hownm.out.lt g hg).2), rfl, ownsRow_base HR.out.1 HBwm.out.size, ?_, HBwm.out.trans (HR.out.2.mono HBwm.out.size)⟩
        have := (HR.out.1.lt g rfl).1
        omega
    · go_wp2_with fail
      go_meet
      case rel =>
        have hs2 : w.heap.size ≤ w2.heap.size := HR.out.2.size
        refine ⟨w2.heap.size, g, c, rfl, hs2, ownsRow_base Hown3.out hs2, rfl, ownsRow_base (ownsRow_below HR.out.1 HB3.out (fun g hg => (HR.out.1.lt g hg).2)) (Nat.le_refl _), ?_, (HBw.out.trans HR.out.2).trans (HB3.out.mono hs2)⟩
        have := (HR.out.1.lt g rfl).2
        omega
  case rest =>
    obtain ⟨bo, g, c, rfl, hbo, hmet, rfl, hst, hgb, hb⟩ := hcut
    have H0 : Hid (RchW w wc ps n a bo (List.replicate 64 false) (nextL ps n a) (.slice (some ⟨g, 0, none⟩) (nextL ps n a).length c)) := hid ⟨hmet, hst, by simp [Value.ownBlock], by simpa [Value.ownBlock] using hgb, Srch.start HH.out a, hb⟩
    clear hmet hst hgb hb HBw HBwm HBm Hownm hmk
    go_wp2_with fail
    go_loopg [6] 5000 (fun gg v wr => ∃ (met : List Bool) (st : List Int), Hid (RchW w wr ps n a bo met st v) ∧ st.length + 64 * met.countP (fun b => !b) ≤ gg)
    case atStart => exact ⟨_, _, H0, H0.out.srch.small⟩
    case round =>
      clear H0
      obtain ⟨met, st, HW, hgg⟩ := hrel
      by_cases hst : st = []
      · subst hst
        obtain ⟨g', c', rfl, _⟩ := owned_some HW.out.os HW.out.nn
        go_wp2_with fail
        go_ret
        exact ⟨bo, met, rfl, HW.out.om, hid HW.out.srch, HW.out.below⟩
      · obtain ⟨st', x, rfl⟩ := snoc_of hst
        obtain ⟨g', c', rfl, hcap⟩ := owned_some HW.out.os HW.out.nn
        have hxr := HW.out.srch.rng x (by simp)
        obtain ⟨q, rfl⟩ : ∃ q : Nat, x = q := ⟨x.toNat, by omega⟩
        obtain ⟨m, hm⟩ : ∃ m, m = st'.length := ⟨_, rfl⟩
        have el : (st' ++ [(q : Int)]).length = st'.length + 1 := by simp
        have hsm := HW.out.srch.small
        rw [el] at hcap HW hgg hsm ⊢
        have hcx : wr.cell? ⟨g', m, none⟩ = some (.int .i64 (q : Int)) := by
          have h := HW.out.os
          rw [el] at h
          rw [h.cellAt m (by omega), hm]
          simp
        have hml := HW.out.srch.len
        have hq64 : q < 64 := by omega
        obtain ⟨b, hb⟩ : ∃ b, b = metAt met (q : Int) := ⟨_, rfl⟩
        have hcm : wr.cell? ⟨bo, q, none⟩ = some (.bool b) := by
          rw [HW.out.om.cellAt q (by omega), hb]
          unfold metAt
          rw [Int.toNat_natCast, List.getElem?_eq_getElem (by omega : q < met.length)]
          simp [hml, hq64]
        have hfr := HW.out.om.frozenAt q
        have hi0 : (0 : Int) ≤ (q : Int) := by omega
        have hi1 : (q : Int) < 64 := by omega
        have hm0 : (0 : Int) ≤ (m : Int) := by omega
        have hm1 : (m : Int) < (m : Int) + 1 := by omega
        have hm2 : (m : Int) ≤ (c' : Int) := by omega
        have hw1 : IntKind.i64.wrap (m : Int) = m := by rw [IntKind.wrap_i64]; omega
        have hw2 : IntKind.i64.wrap ((m : Int) + 1 - 1) = m := by rw [show (m : Int) + 1 - 1 = m by omega]; exact hw1
        have hw3 : wrap64 (m : Int) = m := IntWalk.wrap64_in _ ⟨by omega, by omega⟩
        have hw4 : wrap64 ((m : Int) + 1 - 1) = m := by rw [show (m : Int) + 1 - 1 = m by omega]; exact hw3
        have HM := hid hm
        have Hb := hid hb
        rw [← hm] at HW ⊢
        clear hst el hsm hm hxr hcap hml hb
        cases b
        · have hst := HW.out.om.stored q (.bool true)
          have hbs : Below w.heap.size w (wr.setCell ⟨bo, q, none⟩ (.bool true)) := HW.out.below.grown hst.2 HW.out.below.size (fun r e => by cases e; exact hbo)
          have hW' := HW.out
          rw [HM.out] at hW'
          have hp : wr.ownsRow w.heap.size 2 1 (.slice (some ⟨g', 0, none⟩) m c') st'.length (st'.map (Value.int .i64)) := by rw [HM.out]; exact hW'.pop
          have HP := hid (ownsRow_set (a := ⟨bo, q, none⟩) hp HW.out.ne (.bool true))
          have HBs := hid hbs
          have hcq := HN.out (q : Int) _ hbs
          clear hst hbs hW' hp
          go_wp2_with fail
          refine hcq.mono ?_
          rintro e w2 ⟨g2, c2, rfl, hr⟩
          have hcs : ∀ i, i < (nextL ps n q).length → w2.cell? ⟨g2, i, none⟩ = some (.int .i64 ((nextL ps n q)[i]?.getD 0)) := fun i hi => by
            rcases owned_slI hr.1 with h | ⟨b, off, _, h1, h2⟩
            · rw [h] at hi; simp at hi
            · injection h1 with h1
              injection h1 with h1 h3
              subst h1
              subst h3
              have := h2 i hi
              rwa [Nat.zero_add] at this
          have hown2 := ownsRow_below HP.out hr.2 (fun k hk => (HP.out.lt k hk).2)
          have hsz2 : w.heap.size ≤ w2.heap.size := Nat.le_trans HBs.out.size hr.2.size
          have hly : (nextL ps n q).length ≤ 1048576 := by have := Hl.out (q : Int); omega
          have hlx : st'.length ≤ 1048576 := by have := HW.out.srch.small; simp at this; omega
          have HR := hid hr.2
          clear hr hcq
          go_wp2_with (at_builtin; refine append_ints_at rfl rfl hown2 hsz2 hlx hly rfl rfl hcs ?_; intro v' w3 hown3 hg3 hat3 hB3)
          go_roundg ((st' ++ nextL ps n q).length + 64 * (met.set q true).countP (fun b => !b))
          case measure =>
            have := HW.out.srch.less (x := (q : Int)) Hb.out.symm
            rw [Int.toNat_natCast] at this
            have e : (st' ++ [(q : Int)]).length = st'.length + 1 := by simp
            omega
          case rel =>
            have hW' := HW.out
            rw [HM.out] at hW'
            exact ⟨_, _, hid (hW'.push HH.out Hb.out.symm HR.out hown3 hg3 hat3), Nat.le_refl _⟩
        · go_wp2_with fail
          go_roundg (st'.length + 64 * met.countP (fun b => !b))
          case measure => omega
          case rel =>
            have hW' := HW.out
            rw [HM.out] at hW' ⊢
            exact ⟨_, _, hid (hW'.skip Hb.out.symm), Nat.le_refl _⟩

end Go.Proofs.Ytbhdipljhelddaa

/-! l02Acyclic: the model's word on cycles. -/
namespace Go.Proofs.Ytbhdipljhelddaa
open Go.RowKit

noncomputable def wayB (ps : List Int) (n : Nat) (a b : Int) : Bool := @decide (Way ps n a b) (Classical.propDecidable _)
theorem wayB_true {ps : List Int} {n : Nat} {a b : Int} (h : Way ps n a b) : wayB ps n a b = true := by unfold wayB; exact @decide_eq_true _ (Classical.propDecidable _) h
theorem wayB_false {ps : List Int} {n : Nat} {a b : Int} (h : ¬ Way ps n a b) : wayB ps n a b = false := by unfold wayB; exact @decide_eq_false _ (Classical.propDecidable _) h
theorem met_way {ps : List Int} {n : Nat} (hh : HighsB ps n) {a y : Int} {met : List Bool} (h : Srch ps n a met []) (hy : 0 ≤ y ∧ y < 64) : metAt met y = wayB ps n a y := by
  by_cases hw : Way ps n a y
  · rw [wayB_true hw]; exact h.done hh hw
  · rw [wayB_false hw]
    cases hm : metAt met y
    · rfl
    · have := h.good y.toNat (by omega) hm
      rw [show ((y.toNat : Nat) : Int) = y by omega] at this
      exact absurd this hw
/-- No low face of a pair lies on a cycle. -/
def NoCycle (ps : List Int) (n : Nat) : Prop := ∀ i, i < n → ¬ Way ps n (at0 ps (i * 2)) (at0 ps (i * 2))
noncomputable def acyB (ps : List Int) (n : Nat) : Bool := @decide (NoCycle ps n) (Classical.propDecidable _)
theorem acyB_true {ps : List Int} {n : Nat} (h : NoCycle ps n) : acyB ps n = true := by unfold acyB; exact @decide_eq_true _ (Classical.propDecidable _) h
theorem acyB_false {ps : List Int} {n : Nat} (h : ¬ NoCycle ps n) : acyB ps n = false := by unfold acyB; exact @decide_eq_false _ (Classical.propDecidable _) h

/-- What l02Reached says of a number. -/
theorem reached_at (a1 : Option Addr) (n cap : Nat) (ps : List Int) (a : Int) (y : Nat) (w : World) (hx : SlI w w.heap.size a1 ps) (hp : ps.length = 2 * n) (hl : n ≤ 1048576) (hh : HighsB ps n) (hy : y < 64) :
    Calls Try.prog 169 #[.slice a1 n cap, .int .i64 a] w fun e w' => ∃ g, e = .returned (.slice (some ⟨g, 0, none⟩) 64 64) ∧ w'.cell? ⟨g, y, none⟩ = some (.bool (wayB ps n a (y : Int))) ∧ Below w.heap.size w w' :=
  (reached_any a1 n cap ps a w hx hp hl hh).mono fun e w' ⟨g, met, he, hom, HS, hB⟩ => by
    refine ⟨g, he, ?_, hB⟩
    have hml := HS.out.len
    rw [hom.cellAt y (by omega), ← met_way hh HS.out (by omega)]
    unfold metAt
    rw [Int.toNat_natCast, List.getElem?_eq_getElem (by omega : y < met.length)]
    simp [hml, hy]

set_option maxRecDepth 1000000 in
set_option maxHeartbeats 4000000 in
theorem acyclicS_any (a1 : Option Addr) (n cap : Nat) (ps : List Int) (w : World) (hx : SlI w w.heap.size a1 ps) (hp : ps.length = 2 * n) (hl : n ≤ 1048576) (hh : HighsB ps n) (hlo : ∀ i, i < n → 0 ≤ at0 ps (i * 2) ∧ at0 ps (i * 2) < 64) :
    Calls Try.prog 112 #[.slice a1 n cap] w fun e w' => e = .returned (.bool (acyB ps n)) ∧ Below w.heap.size w w' := by
  obtain ⟨E, hE⟩ : ∃ E, E = acyB ps n := ⟨_, rfl⟩
  have HE := hid hE
  rw [← hE]
  clear hE
  have HR := hid (fun a y w' (h : Below w.heap.size w w') (hy : y < 64) => reached_at a1 n cap ps a y w' (hx.later h h.size) hp hl hh hy)
  have Hx := hid hx
  have Hp := hid hp
  have Hlo := hid hlo
  clear hx hp hh hlo
  go_enter Try.func112, Try.ntmps112
  go_wp2
  go_loopw [3] (fun i wr => ∃ k : Nat, k ≤ n ∧ i = .int .i64 k ∧ Hid (∀ j, j < k → ¬ Way ps n (at0 ps (j * 2)) (at0 ps (j * 2))) ∧ Below w.heap.size w wr) (fun i _ => n - (intOf i).toNat)
  case atStart => exact ⟨0, Nat.zero_le _, rfl, hid (fun j hj => absurd hj (Nat.not_lt_zero _)), Below.refl _ _⟩
  case round =>
    obtain ⟨k, hk, rfl, Hk, hB⟩ := hrel
    by_cases hlt : k < n
    · obtain ⟨b, off, hb, rfl, hc⟩ : ∃ b off, b < w.heap.size ∧ a1 = some ⟨b, off, none⟩ ∧ ∀ i, i < ps.length → w.cell? ⟨b, off + i, none⟩ = some (.int .i64 (ps[i]?.getD 0)) := by
        rcases Hx.out with h | h
        · have := Hp.out; rw [h] at this; simp at this; omega
        · exact h
      have hck : wr.cell? ⟨b, off + k * 2, none⟩ = some (.int .i64 (at0 ps (k * 2))) := (hB.cell (p := ⟨b, off + k * 2, none⟩) hb).trans (hc _ (by have := Hp.out; omega))
      have hxr := Hlo.out k hlt
      obtain ⟨x, hx⟩ : ∃ x : Nat, (x : Int) = at0 ps (k * 2) := ⟨(at0 ps (k * 2)).toNat, by omega⟩
      rw [← hx] at hck hxr
      have Hxx := hid hx
      have hx0 : (0 : Int) ≤ (x : Int) := by omega
      have hx64 : (x : Int) < 64 := by omega
      have hi0 : (0 : Int) ≤ (k : Int) := by omega
      have hi1 : (k : Int) < (n : Int) := by omega
      have HC := hid (HR.out (x : Int) x wr.drew (below_drewN hB 1) (by omega))
      have HB := hid hB
      have hbr : b < wr.heap.size := Nat.lt_of_lt_of_le hb hB.size
      obtain ⟨q, hq⟩ : ∃ q, q = wayB ps n (x : Int) (x : Int) := ⟨_, rfl⟩
      rw [← hq] at HC
      have Hq := hid hq
      clear hx hc hB hq hxr
      cases q
      · go_wp2_with fail
        go_region_with (first
          | (go_at_call 169; refine HC.out.mono ?_; rintro e w2 ⟨g, rfl, hcm, hB2⟩; have n0 := (hB2.cell (p := ⟨b, off + k * 2, none⟩) hbr).trans hck; have HB2 := hid hB2; clear hB2))
        all_goals
          have HB3 := hid ((below_drewN HB.out 1).trans (HB2.out.mono (below_drewN HB.out 1).size))
          have He : Hid (∀ j, j < k + 1 → ¬ Way ps n (at0 ps (j * 2)) (at0 ps (j * 2))) := hid (fun j hj hw => by
            by_cases e : j = k
            · subst e
              rw [← Hxx.out] at hw
              have := Hq.out
              rw [wayB_true hw] at this
              cases this
            · exact Hk.out j (by omega) hw)
          clear HB HB2 hcm n0 hck
          go_wp2_with fail
          go_roundw
          case rel => exact ⟨k + 1, by omega, by go_num, He, HB3.out⟩
          case measure => simp [intOf]; omega
      · go_wp2_with fail
        go_region_with (first
          | (go_at_call 169; refine HC.out.mono ?_; rintro e w2 ⟨g, rfl, hcm, hB2⟩; have n0 := (hB2.cell (p := ⟨b, off + k * 2, none⟩) hbr).trans hck; have HB2 := hid hB2; clear hB2))
        all_goals
          have HB3 := hid ((below_drewN HB.out 1).trans (HB2.out.mono (below_drewN HB.out 1).size))
          have He : Hid (E = false) := hid (by
            rw [HE.out]
            refine acyB_false (fun hno => ?_)
            have := Hq.out
            rw [wayB_false (by rw [Hxx.out]; exact hno k hlt)] at this
            cases this)
          clear HB HB2 hcm n0 hck
          go_wp2_with fail
          go_ret
          exact ⟨ret_bool (by rw [He.out]), HB3.out⟩
    · have He : Hid (E = true) := hid (by rw [HE.out]; exact acyB_true (fun i hi => Hk.out i (by omega)))
      go_wp2_with fail
      go_ret
      exact ⟨ret_bool (by rw [He.out]), hB⟩

end Go.Proofs.Ytbhdipljhelddaa

/-! The sides of a face, one after the other: an iterator. -/
namespace Go.Proofs.Ytbhdipljhelddaa
open Go.RowKit Go.Shelf

attribute [local go_sem] Oper.semAt_some

/-- A face without a vertex (the face itself if the vertex is not in it). -/
def sideN (f v : Nat) : Nat := f - (f &&& 2 ^ v)
def sideO (f v : Nat) : Option (Fin 64) := if h : sideN f v < 64 then (if sideN f v ≠ f ∧ sideN f v ≠ 0 then some ⟨sideN f v, h⟩ else none) else none
/-- The sides that lack one of the first k vertices. -/
def sidesTo (f k : Nat) : List (Fin 64) := (List.range k).filterMap (sideO f)
def sidesF (f : Nat) : List (Fin 64) := sidesTo f 6

theorem side_lt {f : Nat} (hf : f < 64) (v : Nat) : sideN f v < 64 := by unfold sideN; omega
theorem side_bits : ∀ f : Fin 64, ∀ v : Fin 6, bits BinOp.andNot IntKind.i64 (f.val : Int) (wrap64 (2 ^ v.val)) = (sideN f.val v.val : Int) := by decide +kernel
theorem sidesTo_some {f k : Nat} (hf : f < 64) (h1 : sideN f k ≠ f) (h0 : sideN f k ≠ 0) : sidesTo f (k + 1) = sidesTo f k ++ [⟨sideN f k, side_lt hf k⟩] := by
  unfold sidesTo
  rw [List.range_succ, List.filterMap_append]
  have : sideO f k = some ⟨sideN f k, side_lt hf k⟩ := by unfold sideO; rw [dif_pos (side_lt hf k), if_pos ⟨h1, h0⟩]
  simp [this]
theorem sidesTo_none {f k : Nat} (h : ¬ (sideN f k ≠ f ∧ sideN f k ≠ 0)) : sidesTo f (k + 1) = sidesTo f k := by
  unfold sidesTo
  rw [List.range_succ, List.filterMap_append]
  have : sideO f k = none := by
    unfold sideO
    by_cases hh : sideN f k < 64
    · rw [dif_pos hh, if_neg h]
    · rw [dif_neg hh]
  simp [this]
theorem sidesTo_prefix (f : Nat) : ∀ m k, sidesTo f k <+: sidesTo f (k + m)
  | 0, k => List.prefix_refl _
  | m + 1, k => by
    refine (sidesTo_prefix f m k).trans ?_
    unfold sidesTo
    rw [← Nat.add_assoc, List.range_succ, List.filterMap_append]
    exact List.prefix_append _ _
theorem sides_len (f k : Nat) : (sidesTo f k).length ≤ k := by
  unfold sidesTo
  exact Nat.le_trans (List.length_filterMap_le _ _) (by simp)

set_option maxRecDepth 100000 in
set_option maxHeartbeats 2000000 in
/-- The iterator over the sides of f: whatever the loop's body, as long as it keeps the block of f. -/
theorem sides1_in (n : Nat) (hn : 1 ≤ n) (l B0 f : Nat) (hf : f < 64) (J Jx : List (Fin 64) → World → Prop)
    (hY : ∀ pre x W, J pre W → pre ++ [x] <+: sidesF f → YieldAt Fence.wide (n - 1) Try.prog l #[.int .i64 (x.val : Int)] W fun e W' =>
      (e = .returned (.bool true) ∧ J (pre ++ [x]) W' ∧ KeepB B0 W W') ∨ (e = .returned (.bool false) ∧ Jx (pre ++ [x]) W'))
    (hJd : ∀ pre W m, J pre W → J pre (W.drewN m))
    (W : World) (hB0 : W.heap[B0]? = some (.cells #[.int .i64 (f : Int)] 2 (0, 0))) (h0 : J [] W) :
    CallsIn Fence.wide n Try.prog 207 #[.func (.yield l) #[] #[], .pointer (some ⟨B0, 0, none⟩)] W fun e W' => (∃ v, e = .returned v) ∧
      ((∃ ys, ys = sidesF f ∧ J ys W') ∨ (∃ pre, pre <+: sidesF f ∧ Jx pre W')) := by
  have c0 := (box_cell hB0).1
  refine callsIn_of_wp Try.func207 rfl trivial ?_ rfl
  simp only [Try.ntmps207, List.size_toArray, List.length_cons, List.length_nil, Nat.reduceAdd, Nat.reduceSub, Array.replicate_succ, Array.replicate_zero, List.push_toArray, List.append_toArray, List.nil_append, List.cons_append]
  gi_wp2
  gi_loopw [5] (fun p wr => ∃ (k : Nat), p = .int .i64 (k : Int) ∧ k ≤ 6 ∧ J (sidesTo f k) wr ∧ wr.heap[B0]? = some (.cells #[.int .i64 (f : Int)] 2 (0, 0)))
    (fun p _ => 6 - (intOf p).toNat)
  case atStart =>
    exact ⟨0, rfl, by omega, h0, hB0⟩
  case round =>
    obtain ⟨k, rfl, hk, hJs, hBr⟩ := hrel
    by_cases hk6 : k < 6
    · have hki : (k : Int) < 6 := by omega
      have hk0 : (0 : Int) ≤ (k : Int) := by omega
      have c0r := (box_cell hBr).1
      have hb : bits BinOp.andNot IntKind.i64 (f : Int) (wrap64 (2 ^ k)) = (sideN f k : Int) := side_bits ⟨f, hf⟩ ⟨k, hk6⟩
      obtain ⟨s, hs⟩ : ∃ s, s = sideN f k := ⟨_, rfl⟩
      rw [← hs] at hb
      have hs64 : s < 64 := by rw [hs]; exact side_lt hf k
      have HJ := hid hJs
      have HB := hid hBr
      clear hJs hBr
      by_cases h1 : s = f
      · have hd : ((s : Int) != (f : Int)) = false := by simp [h1]
        have Hst := hid (sidesTo_none (f := f) (k := k) (fun h => h.1 (by rw [← hs]; exact h1)))
        clear h1 hs
        gi_wp2
        gi_quiet (fail)
        gi_wp2
        refine ⟨fun _ h => (by cases h), ?_⟩
        gi_wp2
        go_roundw
        case rel => exact ⟨k + 1, by go_num, by omega, by rw [Hst.out]; exact hJd _ _ _ HJ.out, HB.out⟩
        case measure => simp [intOf]; omega
      · have hd : ((s : Int) != (f : Int)) = true := by simp; omega
        by_cases h2 : s = 0
        · have hd2 : ((s : Int) != 0) = false := by simp [h2]
          have Hst := hid (sidesTo_none (f := f) (k := k) (fun h => h.2 (by rw [← hs]; exact h2)))
          clear h1 h2 hs
          gi_wp2
          gi_quiet (fail)
          gi_wp2
          refine ⟨fun _ h => (by cases h), ?_⟩
          gi_wp2
          go_roundw
          case rel => exact ⟨k + 1, by go_num, by omega, by rw [Hst.out]; exact hJd _ _ _ HJ.out, HB.out⟩
          case measure => simp [intOf]; omega
        · have hd2 : ((s : Int) != 0) = true := by simp; omega
          have Hst := hid (sidesTo_some hf (k := k) (by rw [← hs]; exact h1) (by rw [← hs]; exact h2))
          have Hpre : Hid (sidesTo f k ++ [⟨s, hs64⟩] <+: sidesF f) := hid (by
            have e : sidesTo f (k + 1) = sidesTo f k ++ [⟨s, hs64⟩] := by rw [Hst.out]; simp [hs]
            rw [← e]
            have := sidesTo_prefix f (6 - (k + 1)) (k + 1)
            rwa [show k + 1 + (6 - (k + 1)) = 6 by omega] at this)
          have Hst' : Hid (sidesTo f (k + 1) = sidesTo f k ++ [⟨s, hs64⟩]) := hid (by rw [Hst.out]; simp [hs])
          have HY : Hid (∀ W', J (sidesTo f k) W' → YieldAt Fence.wide (n - 1) Try.prog l #[.int .i64 (s : Int)] W' fun e W'' =>
              (e = .returned (.bool true) ∧ J (sidesTo f k ++ [⟨s, hs64⟩]) W'' ∧ KeepB B0 W' W'') ∨ (e = .returned (.bool false) ∧ Jx (sidesTo f k ++ [⟨s, hs64⟩]) W'')) := hid (fun W' hj => hY _ ⟨s, hs64⟩ W' hj Hpre.out)
          clear h1 h2 hs Hst
          gi_wp2
          gi_quiet (fail)
          obtain ⟨fn, tmps, assign, body, hy, hR⟩ := HY.out _ (hJd _ _ nq HJ.out)
          gi_wp2
          refine hR.mono ?_
          rintro e W3 (⟨rfl, hJ3, hk3⟩ | ⟨rfl, hJx3⟩)
          · have hBr3 : W3.heap[B0]? = some (.cells #[.int .i64 (f : Int)] 2 (0, 0)) := Eq.trans hk3 HB.out
            have c03 := (box_cell hBr3).1
            gi_wp2
            go_roundw
            case rel => exact ⟨k + 1, by go_num, by omega, by rw [Hst'.out]; exact hJ3, hBr3⟩
            case measure => simp [intOf]; omega
          · gi_wp2
            refine bodyPost_ret (results_none rfl _ _ _) rfl ?_
            exact ⟨⟨_, rfl⟩, .inr ⟨_, Hpre.out, hJx3⟩⟩
    · obtain rfl : k = 6 := by omega
      gi_wp2
      go_end0
      exact ⟨⟨_, rfl⟩, .inl ⟨_, rfl, hJs⟩⟩

set_option maxHeartbeats 1000000 in
/-- sidesOf: its argument is boxed; the function value captures the box. -/
theorem sides_in (n : Nat) (x : Int) (w : World) :
    CallsIn Fence.wide n Try.prog 175 #[.int .i64 x] w fun e w' => e = .returned (.func (.func 207) #[] #[.pointer (some ⟨w.heap.size, 0, none⟩)]) ∧ w' = w.alloc (.cells #[.int .i64 x] 2) := by
  refine callsIn_of_wp Try.func175 rfl trivial ?_ rfl
  simp only [Try.ntmps175, List.size_toArray, List.length_cons, List.length_nil, Nat.reduceAdd, Nat.reduceSub, Array.replicate_succ, Array.replicate_zero, List.push_toArray, List.append_toArray, List.nil_append, List.cons_append]
  gi_wp2
  go_ret
  exact ⟨rfl, rfl⟩

theorem grown_drewN (W : World) (m : Nat) : W.grownBy (W.drewN m) none := ⟨rfl, rfl, rfl, Nat.le_refl _, fun _ _ _ => rfl⟩

theorem sides_stops (n : Nat) (hn : 1 ≤ n) (B0 f : Nat) (hf : f < 64) (w : World) (hB : B0 < w.heap.size)
    (hc : w.heap[B0]? = some (.cells #[.int .i64 (f : Int)] 2 (0, 0))) :
    SeqStopsK Fence.wide n Try.prog 207 #[.pointer (some ⟨B0, 0, none⟩)] (fun x : Fin 64 => #[Value.int .i64 (x.val : Int)]) (KeepB B0) (fun ys => ys = sidesF f) (fun pre => pre <+: sidesF f) 64 w :=
  fun l J Jx W hW hA _ hY h0 => sides1_in n hn l B0 f hf J Jx (fun pre x W1 hj hp => hY pre x W1 hj (by have h1 := hp.length_le; have h2 := sides_len f 6; unfold sidesF at h1; simp only [List.length_append, List.length_cons, List.length_nil] at h1; omega)) (fun pre W m h => hA pre W _ none h (grown_drewN W m) (fun r e => by cases e)) W ((hW.block B0 hB).trans hc) h0

end Go.Proofs.Ytbhdipljhelddaa

/-! Iterators that keep a state of their own in cells: what lies in the blocks that they lay themselves. -/
namespace Go.Proofs.Ytbhdipljhelddaa
open Go.RowKit Go.Shelf

attribute [local go_sem] Oper.semAt_some

/-- I abides new blocks, and the turn of one of the k blocks from lo on, or of one behind them that is no cells. -/
def OwnIn {β : Type} (lo k : Nat) (I : β → World → Prop) : Prop :=
  ∀ s W W' row, I s W → W.grownBy W' row → (∀ r, row = some r → lo ≤ r ∧ (r < lo + k ∨ ∃ o : Obj, W.heap[r]? = some o ∧ o.isCells = false)) → I s W'

/-- The blocks Bs and the k blocks from lo on lie as they lay; no block is lost. -/
structure KeepP (Bs : List Nat) (lo k : Nat) (W W' : World) : Prop where
  size : W.heap.size ≤ W'.heap.size
  same : ∀ r, (r ∈ Bs ∨ (lo ≤ r ∧ r < lo + k)) → W'.heap[r]? = W.heap[r]?

theorem KeepP.refl (Bs : List Nat) (lo k : Nat) (W : World) : KeepP Bs lo k W W := ⟨Nat.le_refl _, fun _ _ => rfl⟩
theorem KeepP.trans {Bs : List Nat} {lo k : Nat} {X Y Z : World} (h : KeepP Bs lo k X Y) (h' : KeepP Bs lo k Y Z) : KeepP Bs lo k X Z := ⟨Nat.le_trans h.size h'.size, fun r hr => (h'.same r hr).trans (h.same r hr)⟩
theorem KeepP.of_grownBy {Bs : List Nat} {lo k : Nat} {W W' : World} {row : Option Nat} (hg : W.grownBy W' row) (hB : ∀ b ∈ Bs, b < W.heap.size) (hlo : lo + k ≤ W.heap.size) (hrow : ∀ j, row = some j → j ∉ Bs ∧ (j < lo ∨ lo + k ≤ j)) : KeepP Bs lo k W W' :=
  ⟨hg.size, fun r hr => hg.block r (by rcases hr with h | h; exact hB r h; omega) (fun e => by have := hrow r e.symm; rcases hr with h | h; exact this.1 h; omega)⟩
theorem KeepP.of_below {Bs : List Nat} {lo k B : Nat} {W W' : World} (h : Below B W W') (hB : ∀ b ∈ Bs, b < B) (hlo : lo + k ≤ B) : KeepP Bs lo k W W' :=
  ⟨h.size, fun r hr => h.block r (by rcases hr with h | h; exact hB r h; omega)⟩
theorem KeepP.less {Bs Bs' : List Nat} {lo lo' k k' : Nat} {W W' : World} (h : KeepP Bs lo k W W') (hB : ∀ b ∈ Bs', b ∈ Bs ∨ (lo ≤ b ∧ b < lo + k)) (hlo : lo ≤ lo') (hk : lo' + k' ≤ lo + k) : KeepP Bs' lo' k' W W' :=
  ⟨h.size, fun r hr => h.same r (by rcases hr with h | h; exact hB r h; exact .inr (by omega))⟩
theorem KeepP.setCell {Bs : List Nat} {lo k : Nat} (W : World) (b : Nat) (o : Nat) (v : Value) (hb : b ∉ Bs ∧ (b < lo ∨ lo + k ≤ b)) : KeepP Bs lo k W (W.setCell ⟨b, o, none⟩ v) :=
  ⟨by simp [World.setCell], fun r hr => Below.heap_setCell _ _ _ _ (fun e => by simp only at e; subst e; rcases hr with h | h; exact hb.1 h; omega)⟩

theorem OwnIn.less {β : Type} {lo lo' k k' : Nat} {I : β → World → Prop} (h : OwnIn lo k I) (hlo : lo ≤ lo') (hk : lo' + k' ≤ lo + k) : OwnIn lo' k' I :=
  fun s W W' row hs hg hr => h s W W' row hs hg (fun r e => by
    obtain ⟨h1, h2⟩ := hr r e
    refine ⟨by omega, ?_⟩
    rcases h2 with h2 | h2
    · exact .inl (by omega)
    · exact .inr h2)
theorem OwnIn.and {β : Type} {lo k : Nat} {I I' : β → World → Prop} (h : OwnIn lo k I) (h' : OwnIn lo k I') : OwnIn lo k (fun s W => I s W ∧ I' s W) := fun s W W' row hs hg hr => ⟨h s W W' row hs.1 hg hr, h' s W W' row hs.2 hg hr⟩
theorem OwnIn.alloc {β : Type} {lo k : Nat} {I : β → World → Prop} (h : OwnIn lo k I) {s : β} {W : World} (o : Obj) (hs : I s W) : I s (W.alloc o) := h s W _ none hs (World.grownBy_alloc W o none) (fun r e => by cases e)
theorem OwnIn.drewN {β : Type} {lo k : Nat} {I : β → World → Prop} (h : OwnIn lo k I) {s : β} {W : World} (m : Nat) (hs : I s W) : I s (W.drewN m) := h s W _ none hs (grown_drewN W m) (fun r e => by cases e)
theorem OwnIn.putObj {β : Type} {lo k : Nat} {I : β → World → Prop} (h : OwnIn lo k I) {s : β} {W : World} {l : Nat} (o' : Obj) (hs : I s W) (h1 : lo ≤ l) (h2 : l < lo + k) : I s (W.putObj l o') :=
  h s W _ (some l) hs (grownBy_putObj' W l o') (fun r e => by cases e; exact ⟨h1, .inl h2⟩)
theorem OwnIn.map {β γ : Type} {lo k : Nat} {I : β → World → Prop} (h : OwnIn lo k I) (f : γ → β) : OwnIn lo k (fun s W => I (f s) W) := fun s W W' row hs hg hr => h (f s) W W' row hs hg hr
theorem ownIn_pure {β : Type} (lo k : Nat) (p : β → Prop) : OwnIn lo k (fun s (_ : World) => p s) := fun _ _ _ _ hs _ _ => hs
/-- What lies in a block of cells ahead of lo, or beyond the k blocks, stays. -/
theorem ownIn_block {β : Type} {lo k : Nat} {b : Nat} (f : β → Obj) (hb : b < lo) : OwnIn lo k (fun s (W : World) => W.heap[b]? = some (f s)) :=
  fun s W W' row hs hg hr => (hg.block b (Array.getElem?_eq_some_iff.1 hs).1 (fun e => by have := (hr b e.symm).1; omega)).trans hs
theorem ownIn_below {β : Type} {lo k n₀ : Nat} {w₀ : World} (h0 : n₀ ≤ lo) (hsz : n₀ ≤ w₀.heap.size) : OwnIn lo k (fun (_ : β) W => Below n₀ w₀ W) :=
  fun _ W W' row hs hg hr => hs.grown hg (Nat.le_trans hsz hs.size) (fun r e => by have := (hr r e).1; omega)

/-- An iterator's contract: it hands over the elements of L, one after the other, until a round says no more; it lays k blocks of its own when it begins, and reads the blocks Bs; every invariant that abides the turns of its own blocks is carried on. -/
def SeqStopsP {α : Type} (F : Fence) (n : Nat) (P : Program) (g : Nat) (lb : Array Value) (encs : α → Array Value) (Bs : List Nat) (k : Nat) (L : List α) (w0 : World) : Prop :=
  ∀ (l : Nat) (J Jx : List α → World → Prop) (W : World), Below w0.heap.size w0 W → OwnIn W.heap.size k J → OwnIn W.heap.size k Jx →
    (∀ pre x W1, pre ++ [x] <+: L → W.heap.size + k ≤ W1.heap.size → J pre W1 → YieldAt F (n - 1) P l (encs x) W1 fun e W' => KeepP Bs W.heap.size k W1 W' ∧ ((e = .returned (.bool true) ∧ J (pre ++ [x]) W') ∨ (e = .returned (.bool false) ∧ Jx (pre ++ [x]) W'))) →
    J [] W →
    CallsIn F n P g (#[.func (.yield l) #[] #[]] ++ lb) W fun e W' => (∃ v, e = .returned v) ∧ (J L W' ∨ ∃ pre, pre <+: L ∧ Jx pre W')

/-- How a round may be left. -/
def postP {α : Type} (Bs : List Nat) (lo k : Nat) (I : List α → World → Prop) (Ix : Code → List α → World → Prop) (xs : List α) (W : World) : Exit → Act → World → Prop
  | .normal, _, W' => KeepP Bs lo k W W' ∧ I xs W'
  | .ret, _, W' => KeepP Bs lo k W W' ∧ Ix .ret xs W'
  | .exit id, _, W' => KeepP Bs lo k W W' ∧ Ix (.exit id) xs W'
  | .goto t, _, W' => KeepP Bs lo k W W' ∧ Ix (.goto t) xs W'
  | .panic _, _, _ => False
  | .outgrown, _, _ => False

/-- A loop over such an iterator. -/
theorem wpIn_rangeFunc_P {α : Type} {F : Fence} {n : Nat} {P : Program} {w : World} {g : Operand} {ps : Array Tmp} {assign body : Code} {Q : Exit → Act → World → Prop} {a : Act}
    (hro : F.round = none) (h1 : 1 ≤ n) {gf : Nat} {lb : Array Value} (hg : a.eval g = .func (.func gf) #[] lb) (hFg : F.fn gf) (eg : ∀ args w, (callFunc gf args).run P w = .ok (.enter gf args) w)
    {encs : α → Array Value} {Bs : List Nat} {k : Nat} {L : List α} {w0 : World} (hseq : SeqStopsP F (n - 1) P gf lb encs Bs k L w0) (hBs : ∀ b ∈ Bs, b < w.heap.size)
    (hb0 : Below w0.heap.size w0 w) (hps : ∀ x, (encs x).size = ps.size)
    (I : List α → World → Prop) (Ix : Code → List α → World → Prop) (hI : OwnIn w.heap.size (2 + k) I) (hIx : ∀ c, OwnIn w.heap.size (2 + k) (Ix c)) (h0 : I [] w) (a₁ : α → Act)
    (hassign : ∀ (l : Nat) (x : α) (W : World) (K : Act → World → Prop), K (a₁ x) W →
      assign.wpIn (F.inRound l) (n - 1 - 1) P (Exit.then K (fun _ _ _ => False)) { tmps := (ps.zip (encs x)).foldl (fun t (p, v) => t.setIfInBounds p v) a.tmps, defers := [] } W)
    (hbody : ∀ (l : Nat) (pre : List α) (x : α) (W : World), pre ++ [x] <+: L → w.heap.size + (2 + k) ≤ W.heap.size → I pre W → body.wpIn (F.inRound l) (n - 1 - 1) P (postP Bs w.heap.size (2 + k) I Ix (pre ++ [x]) W) (a₁ x) W)
    (hdone : ∀ (W : World), I L W → W.heap[w.heap.size]? = some (.deferred (some [])) → Q .normal { a with defers := { target := .collected w.heap.size, args := #[] } :: a.defers } W)
    (hstop : ∀ (c : Code) (pre : List α) (W : World), pre <+: L → Ix c pre W → W.heap[w.heap.size]? = some (.deferred (some [])) → c.wpIn F n P Q { a with defers := { target := .collected w.heap.size, args := #[] } :: a.defers } W) :
    (Code.rangeFunc g ps assign body).wpIn F n P Q a w := by
  refine wpIn_rangeFunc ?_
  intro fn hfn
  rw [hro]
  let rec_ : LoopState → Option Code → Loop := fun st pe => { state := st, pending := pe, fn, tmps := a.tmps, params := ps, assign, body, defers := w.heap.size }
  obtain ⟨rec, hrec⟩ : ∃ rec, rec = rec_ := ⟨_, rfl⟩
  obtain ⟨W1, hW1⟩ : ∃ W1, (w.alloc (.deferred (some []))).alloc (.loop (rec .ready none)) = W1 := ⟨_, rfl⟩
  have hs1 : W1.heap.size = w.heap.size + 2 := by rw [← hW1]; simp
  have hL1 : W1.heap[w.heap.size + 1]? = some (.loop (rec .ready none)) := by
    rw [← hW1]; have := World.alloc_heap_new (w.alloc (.deferred (some []))) (.loop (rec .ready none)); rwa [World.size_alloc] at this
  have hK1 : W1.heap[w.heap.size]? = some (.deferred (some [])) := by
    rw [← hW1]; exact (Below.heap_alloc _ _ _ (by simp)).trans (World.alloc_heap_new w _)
  have hI1 : I [] W1 := by rw [← hW1]; exact hI.alloc _ (hI.alloc _ h0)
  have hb1 : Below w0.heap.size w0 W1 := by
    rw [← hW1]; exact hb0.trans ((((Below.refl _ w).alloc (Nat.le_refl _) _).alloc (by simp) _).mono hb0.size)
  have hIk : ∀ {I' : List α → World → Prop}, OwnIn w.heap.size (2 + k) I' → OwnIn W1.heap.size k I' := fun h => h.less (by omega) (by omega)
  refine ⟨w.heap.size + 1, [{ target := .collected w.heap.size, args := #[] }], W1, { target := .fn (.func gf) lb, args := #[.func (.yield (w.heap.size + 1)) #[] #[]] }, W1, gf,
    #[.func (.yield (w.heap.size + 1)) #[] #[]] ++ lb, W1, ?_, ?_, ?_, ?_, fun _ => h1, ?_⟩
  · rw [← hW1, hrec]; exact run_enterLoop_outer _ _ _ _ _
  · simp only [resolve, hg]
    simp [go_sem]
  · intro f' hf'; simp [Target.leads] at hf'; subst hf'; exact hFg
  · simp [invoke, go_sem, eg]
  · have hrow : ∀ {A B : World} {row : Option Nat} {b : Nat} {o : Obj}, A.grownBy B row → (∀ r, row = some r → W1.heap.size ≤ r ∧ (r < W1.heap.size + k ∨ ∃ o : Obj, A.heap[r]? = some o ∧ o.isCells = false)) → b < W1.heap.size → A.heap[b]? = some o → B.heap[b]? = some o :=
      fun hg' hr hb ho => (hg'.block _ (Array.getElem?_eq_some_iff.1 ho).1 (fun e => by have := (hr _ e.symm).1; omega)).trans ho
    refine (hseq (w.heap.size + 1)
      (fun pre W => I pre W ∧ W.heap[w.heap.size + 1]? = some (.loop (rec .ready none)) ∧ W.heap[w.heap.size]? = some (.deferred (some [])))
      (fun pre W => ∃ c, Ix c pre W ∧ W.heap[w.heap.size + 1]? = some (.loop (rec .done (some c))) ∧ W.heap[w.heap.size]? = some (.deferred (some [])))
      W1 hb1
      (fun s A B row hs hg' hr => ⟨hIk hI s A B row hs.1 hg' hr, hrow hg' hr (by omega) hs.2.1, hrow hg' hr (by omega) hs.2.2⟩)
      (fun s A B row hs hg' hr => by
        obtain ⟨c, hc, hl, hk⟩ := hs
        exact ⟨c, hIk (hIx c) s A B row hc hg' hr, hrow hg' hr (by omega) hl, hrow hg' hr (by omega) hk⟩)
      ?_ ⟨hI1, hL1, hK1⟩).mono ?_
    · rintro pre x W hpre hsk ⟨hi, hl, hk⟩
      have hlt : w.heap.size + 1 < W.heap.size := (Array.getElem?_eq_some_iff.1 hl).1
      have hy := run_yield (P := P) (args := encs x) hl (by rw [hrec]; exact hps x)
      rw [hrec] at hy
      refine ⟨fn, _, assign, body, hy, roundIn_of_wpIn hfn (hassign _ x W _ ?_)⟩
      clear hy
      refine ⟨_, run_beginRound hl (by rw [hrec]), ?_⟩
      obtain ⟨W2, hW2⟩ : ∃ W2, W2 = W.putObj (w.heap.size + 1) (.loop { rec .ready none with state := .busy }) := ⟨_, rfl⟩
      have hl2 : W2.heap[w.heap.size + 1]? = some (.loop { rec .ready none with state := .busy }) := by rw [hW2]; exact World.putObj_heap_same hlt
      have hk2 : W2.heap[w.heap.size]? = some (.deferred (some [])) := by rw [hW2]; exact (World.putObj_heap_other (by omega)).trans hk
      have hi2 : I pre W2 := by rw [hW2]; exact hI.putObj _ hi (by omega) (by omega)
      have hkp : ∀ {X Y : World} {o : Obj}, X = Y.putObj (w.heap.size + 1) o → KeepP Bs W1.heap.size k Y X := fun e => ⟨by rw [e, World.putObj_size]; exact Nat.le_refl _, fun r hr => by
        rw [e]
        refine World.putObj_heap_other ?_
        rcases hr with h | h
        · have := hBs r h; omega
        · omega⟩
      refine wpIn_mono (hbody _ pre x _ hpre (by rw [World.putObj_size]; omega) (by rw [← hW2]; exact hi2)) ?_
      rw [← hW2]
      have fin : ∀ (jump : Option Code) (W3 : World), KeepP Bs w.heap.size (2 + k) W2 W3 →
          (Instr.endRound (w.heap.size + 1) jump).run P W3 = .ok (.bool jump.isNone) (W3.putObj (w.heap.size + 1) (.loop (rec (if jump.isNone then .ready else .done) jump))) ∧
          (W3.putObj (w.heap.size + 1) (.loop (rec (if jump.isNone then .ready else .done) jump))).heap[w.heap.size + 1]? = some (.loop (rec (if jump.isNone then .ready else .done) jump)) ∧
          (W3.putObj (w.heap.size + 1) (.loop (rec (if jump.isNone then .ready else .done) jump))).heap[w.heap.size]? = some (.deferred (some [])) ∧
          KeepP Bs W1.heap.size k W (W3.putObj (w.heap.size + 1) (.loop (rec (if jump.isNone then .ready else .done) jump))) := fun jump W3 hk3 => by
        have hl3 := (hk3.same (w.heap.size + 1) (.inr ⟨by omega, by omega⟩)).trans hl2
        have hd3 := (hk3.same w.heap.size (.inr ⟨by omega, by omega⟩)).trans hk2
        have := run_endRound (P := P) jump hl3
        rw [hrec] at this ⊢
        exact ⟨this, World.putObj_heap_same (Array.getElem?_eq_some_iff.1 hl3).1, (World.putObj_heap_other (by omega)).trans hd3,
          (hkp hW2).trans ((hk3.less (fun b hb => .inl hb) (by omega) (by omega)).trans (hkp rfl))⟩
      rintro e a3 W3 hp
      cases e with
      | normal =>
        obtain ⟨hr, hl4, hk4, hkk⟩ := fin none W3 hp.1
        exact ⟨_, _, hr, hkk, .inl ⟨rfl, hI.putObj _ hp.2 (by omega) (by omega), hl4, hk4⟩⟩
      | ret =>
        obtain ⟨hr, hl4, hk4, hkk⟩ := fin (some .ret) W3 hp.1
        exact ⟨_, _, hr, hkk, .inr ⟨rfl, .ret, (hIx _).putObj _ hp.2 (by omega) (by omega), hl4, hk4⟩⟩
      | exit id =>
        obtain ⟨hr, hl4, hk4, hkk⟩ := fin (some (.exit id)) W3 hp.1
        exact ⟨_, _, hr, hkk, .inr ⟨rfl, .exit id, (hIx _).putObj _ hp.2 (by omega) (by omega), hl4, hk4⟩⟩
      | goto t =>
        obtain ⟨hr, hl4, hk4, hkk⟩ := fin (some (.goto t)) W3 hp.1
        exact ⟨_, _, hr, hkk, .inr ⟨rfl, .goto t, (hIx _).putObj _ hp.2 (by omega) (by omega), hl4, hk4⟩⟩
      | panic ch => exact hp.elim
      | outgrown => exact hp.elim
    · rintro e W2 ⟨⟨v, rfl⟩, (⟨hi, hl, hk⟩ | ⟨pre, hSp, c, hi, hl, hk⟩)⟩
      · exact ⟨none, _, by have := run_endLoop (P := P) hl (by rw [hrec]; simp [rec_]); rw [hrec] at this; exact this, hdone _ (hI.putObj _ hi (by omega) (by omega)) ((World.putObj_heap_other (by omega)).trans hk)⟩
      · exact ⟨some c, _, by have := run_endLoop (P := P) hl (by rw [hrec]; simp [rec_]); rw [hrec] at this; exact this, hstop c pre _ hSp ((hIx c).putObj _ hi (by omega) (by omega)) ((World.putObj_heap_other (by omega)).trans hk)⟩

end Go.Proofs.Ytbhdipljhelddaa

/-! The faces as keys of a map: the program's facesHaving. -/
namespace Go.Proofs.Ytbhdipljhelddaa
open Go.RowKit

theorem wf_face {x : Int} (h0 : 1 ≤ x) (h1 : x ≤ 63) : (Lit.int .i64 x).wf = true := WalkArith.wf_i64 (by omega)

/-- The map of faces. -/
def MapW (w' : World) (b n : Nat) (fs : List Int) : Prop := w'.ownsMap Try.prog 2 (plainElem (H := Unit) Try.prog 4) b n (knownD fs)

theorem MapW.later {w w' : World} {b n : Nat} {fs : List Int} (h : MapW w b n fs) (hB : Below w.heap.size w w') : MapW w' b n fs :=
  World.ownsMap.kept h (row := none) ⟨hB.os, hB.tape, hB.output, hB.size, fun k hk _ => hB.block k hk⟩ (by simp)

theorem MapW.lt {w : World} {b n : Nat} {fs : List Int} (h : MapW w b n fs) : b < w.heap.size := World.ownsMap.lt h


/-! The model's test of a face. -/

end Go.Proofs.Ytbhdipljhelddaa

/-! The signs of the sides of a face, the model's. -/
namespace Go.Proofs.Ytbhdipljhelddaa
open Go.RowKit

/-- The first j signs of a face with n + 1 vertices. -/
def sgTo (n j : Nat) : List Int := (List.range j).map fun i => 1 - 2 * (((n - i) % 2 : Nat) : Int)
def signL (f : Nat) : List Int := if ones f = 1 then [] else sgTo (ones f - 1) (ones f)
theorem sgTo_succ (n j : Nat) : sgTo n (j + 1) = sgTo n j ++ [1 - 2 * (((n - j) % 2 : Nat) : Int)] := by simp [sgTo, List.range_succ]
theorem sgTo_len (n j : Nat) : (sgTo n j).length = j := by simp [sgTo]

set_option maxRecDepth 100000 in
set_option maxHeartbeats 1000000 in
theorem signs_any (f : Nat) (w : World) (hf : f < 64) (h0 : f ≠ 0) :
    Calls Try.prog 161 #[.int .i64 (f : Int)] w fun e w' => ∃ v, e = .returned v ∧ Res w w' v (signL f) := by
  have hown0 := World.ownsRow_made (base := w.heap.size) (e := 2) (size := 1) w #[] 0 (by simp) (by simp [maxLen]) rfl
  have Hown0 := hid hown0
  have hop := ones_pos ⟨f, hf⟩ h0
  have ho := ones_le f
  obtain ⟨n, hn⟩ : ∃ n, ones f = n + 1 := ⟨ones f - 1, by have : 0 < ones f := hop; omega⟩
  have HO : Hid (∀ w, Calls Try.prog 95 #[.int .i64 (f : Int)] w fun e w' => e = .returned (.int .i64 ((n : Int) + 1)) ∧ w = w') := hid (fun w => (ones_any f w hf).mono fun _ _ ⟨he, hw⟩ => ⟨by rw [he, hn]; rfl, hw⟩)
  have hn5 : n ≤ 5 := by omega
  have hsg : signL f = if n = 0 then [] else sgTo n (n + 1) := by unfold signL; rw [hn]; simp
  rw [hsg]
  clear hown0 hop ho hn hsg
  by_cases hz : n = 0
  · subst hz
    go_enter Try.func161, Try.ntmps161
    go_wp2_with (go_at_call 95; refine (HO.out _).mono ?_; rintro e w' ⟨rfl, rfl⟩)
    go_ret
    exact ⟨_, rfl, by simpa using Hown0.out, (Below.refl _ w).alloc (Nat.le_refl _) _⟩
  · rw [if_neg hz]
    have hd : ((n : Int) == 0) = false := beq_eq_false_iff_ne.2 (by omega)
    clear hz
    go_enter Try.func161, Try.ntmps161
    go_wp2_with (go_at_call 95; refine (HO.out _).mono ?_; rintro e w' ⟨rfl, rfl⟩)
    go_loopw [3, 4] (fun v p wr => ∃ j : Nat, j ≤ n + 1 ∧ p = .int .i64 ((n : Int) - j) ∧ wr.ownsRow w.heap.size 2 1 v (sgTo n j).length ((sgTo n j).map (Value.int .i64)) ∧ Below w.heap.size w wr) (fun _ p _ => (intOf p + 1).toNat)
    case atStart => exact ⟨0, Nat.zero_le _, by simp, by simpa [sgTo] using Hown0.out, (Below.refl _ w).alloc (Nat.le_refl _) _⟩
    case round =>
      obtain ⟨j, hj, rfl, hown, hB⟩ := hrel
      have HB := hid hB
      have Hown := hid hown
      have Hsz := hid hB.size
      have hle := sgTo_len n j
      by_cases hjn : j = n + 1
      · subst hjn
        have e : (n : Int) - ((n + 1 : Nat) : Int) = -1 := by omega
        rw [e]
        clear e hown hB
        go_wp2
        go_ret
        exact ⟨_, rfl, Hown.out, HB.out⟩
      · obtain ⟨q, hq⟩ : ∃ q : Nat, n = q + j := ⟨n - j, by omega⟩
        have e : (n : Int) - (j : Int) = (q : Int) := by omega
        have He : Hid (((n : Int) - ((j + 1 : Nat) : Int)) = (q : Int) - 1) := hid (by omega)
        have hs := sgTo_succ n j
        rw [show n - j = q by omega] at hs
        rw [e]
        have hq0 : (0 : Int) ≤ (q : Int) := by omega
        have hqw : IntKind.i64.wrap ((q : Int) - 1) = (q : Int) - 1 := by rw [IntKind.wrap_i64]; omega
        have hmod : (q : Int).tmod 2 = ((q % 2 : Nat) : Int) := by rw [Int.tmod_eq_emod_of_nonneg (by omega)]; omega
        rcases Nat.mod_two_eq_zero_or_one q with h2 | h2
        · rw [h2] at hmod hs
          have Hs := hid hs
          clear e hown hB hs h2 hq
          have hmod' : (q : Int).tmod 2 = 0 := hmod
          clear hmod
          · skip
            go_wp2_with (at_builtin; refine append_int rfl rfl Hown.out Hsz.out (by omega) rfl rfl ?_; intro v' w2 hown2 hgrow2 hB2)
            go_roundw
            case rel => exact ⟨j + 1, by omega, by rw [He.out], by rw [Hs.out]; exact hown2, HB.out.trans hB2⟩
            case measure => simp [intOf] <;> omega
        · rw [h2] at hmod hs
          have Hs := hid hs
          clear e hown hB hs h2 hq
          have hmod' : (q : Int).tmod 2 = 1 := hmod
          clear hmod
          · skip
            go_wp2_with (at_builtin; refine append_int rfl rfl Hown.out Hsz.out (by omega) rfl rfl ?_; intro v' w2 hown2 hgrow2 hB2)
            go_roundw
            case rel => exact ⟨j + 1, by omega, by rw [He.out], by rw [Hs.out]; exact hown2, HB.out.trans hB2⟩
            case measure => simp [intOf] <;> omega

/-- What SignsOf hands back. -/
noncomputable def signsOfR (V : Int) (fs : List Int) (f : Int) : List Int × Int := if isCB V fs then (if f ∈ fs then (signL f.toNat, 0) else ([], 2)) else ([], 1)

theorem signsOfR_len (V : Int) (fs : List Int) (f : Int) (_h : fs.length ≤ 1048576) : (signsOfR V fs f).1.length ≤ 1048576 := by
  unfold signsOfR
  have := ones_le f.toNat
  split
  · split
    · unfold signL
      split
      · simp
      · simp only [sgTo_len]; omega
    · simp
  · simp

theorem sign_mono {P : Program} {fn : FuncId} {args : Array Value} {w : World} {r : List Int × Int} {xs : List Int} {c : Int} (hr : r = (xs, c))
    (h : Calls P fn args w fun e w' => ∃ v, e = .returned (.tuple #[v, .int .i64 c]) ∧ Res w w' v xs) : Calls P fn args w fun e w' => ∃ v, e = .returned (.tuple #[v, .int .i64 r.2]) ∧ Res w w' v r.1 := by
  subst hr; exact h

end Go.Proofs.Ytbhdipljhelddaa
