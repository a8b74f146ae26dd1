import Derived.Deep.RegionHeld3
import Derived.Deep.AppendLies
import Derived.Deep.RegionLaw
import Derived.Laws.ResultCell
import Derived.Lib.QuietBelow
import Derived.WideKeyPair
import Derived.Test.YtplcbiconfpmlaaMB1
/-! 'out.Faces = append(out.Faces, x)' in the model's loops. -/
namespace Go.Proofs.Ytplcbiconfpmlaa
open Go.RowKit

theorem cell_alloc_drew {W : World} {p : Addr} {v : Value} (h : W.cell? p = some v) (n : Nat) (o : Obj) : ((W.drewN n).alloc o).cell? p = some v :=
  (World.cell?_alloc_some (W.drewN n) p o (show (W.cell? p).isSome = true by rw [h]; rfl)).trans h

theorem step_append_int {w : World} {ops : Array Oper} {o : Oper} {a : Act} {K : Act → World → Prop} {Q : Exit → Act → World → Prop} {E : Prop} (hgd : o.guard = none) {s y : Operand}
    (ho : o.op = .call { callee := .builtin .append, args := #[s, y], argTypes := #[22, 22] })
    {base : Nat} {v : Value} {xs : List Int} {x : Int} {ad : Addr} (hown : w.ownsRow base 2 1 v xs.length (xs.map (Value.int .i64))) (hbase : base ≤ w.heap.size) (hl : xs.length ≤ 1099511627776)
    (hs : a.eval s = v) (hy : a.eval y = .slice (some ad) 1 1) (hc : w.cell? (ad.add 0) = some (.int .i64 x))
    (hK : ∀ g cap w', w'.ownsRow base 2 1 (.slice (some ⟨g, 0, none⟩) (xs ++ [x]).length cap) (xs ++ [x]).length ((xs ++ [x]).map (Value.int .i64)) → w.grownBy w' v.ownBlock →
      K (a.put o.dst (.slice (some ⟨g, 0, none⟩) (xs ++ [x]).length cap)) w') :
    if Region.wanted o (yielded ops a.tmps) = true then Oper.wp Try.prog o a w K Q else E := by
  obtain ⟨i0, hi, hz0, hz1, hz2⟩ := info_parts info_i64
  refine step_append_lies w hgd s y 22 ho base 2 i0 (.int .i64 0) 1 8 Try.underlying22 hi hz0 hz1 hz2 rfl (by decide) v _ _ hs hown ad 1 1 [.int .i64 x] hy rfl ?_ (by simp [Value.oneCell']) (by decide) (by unfold maxLen; omega) (by omega) hbase _ rfl ?_
  · intro j u hu
    match j, hu with
    | 0, hu => simp at hu; subst hu; exact hc
  · intro g cap w1 hown1 hg _ _
    have e : (xs ++ [x]).length = xs.length + 1 := by simp
    have h := hK g cap w1 (by rw [e]; simpa using hown1) hg
    rw [e] at h
    exact h

/-- What the model's loops keep of the world while they build a complex in block Bo: B is the heap's size when the call began. -/
structure OutW (w W : World) (V : Int) (sl : Value) (Bo : Nat) (xs : List Int) (a : Option Addr) (c : Nat) : Prop where
  below : Below w.heap.size w W
  kbox : W.heap[w.heap.size]? = some (.cells #[.int .i64 V, sl] 28 (0, 0))
  res : W.heap[w.heap.size + 1]? = some (.cells #[.int .i64 0, .slice none 0 0] 28 (0, 0))
  out : W.heap[Bo]? = some (.cells #[.int .i64 V, .slice a xs.length c] 28 (0, 0))
  own : W.ownsRow w.heap.size 2 1 (.slice a xs.length c) xs.length (xs.map (Value.int .i64))
  bo : w.heap.size + 1 < Bo

/-- A block of another type is none of an owned row's. -/
theorem row_ne {W : World} {base e t : Nat} {v : Value} {n : Nat} {xs : List Value} {b : Nat} {cs : Array Value} {fz : Nat × Nat} (h : W.ownsRow base e 1 v n xs) (hb : W.heap[b]? = some (.cells cs t fz)) (hne : e ≠ t) : some b ≠ v.ownBlock := by
  intro he
  rcases h.2 with ⟨rfl, _⟩ | ⟨g, cap, cur, rfl, _, hg, _⟩
  · simp [Value.ownBlock] at he
  · simp [Value.ownBlock] at he
    subst he
    rw [hb] at hg
    simp at hg
    exact hne hg.2.1.symm

theorem lt_get {W : World} {b : Nat} {o : Obj} (h : W.heap[b]? = some o) : b < W.heap.size := (Array.getElem?_eq_some_iff.1 h).1

/-- Draws alone. -/
theorem OutW.drew {w W : World} {V : Int} {sl : Value} {Bo : Nat} {xs : List Int} {a : Option Addr} {c : Nat} (h : OutW w W V sl Bo xs a c) : OutW w W.drew V sl Bo xs a c :=
  ⟨⟨h.below.os, h.below.tape, h.below.output, h.below.size, h.below.block⟩, h.kbox, h.res, h.out, h.own, h.bo⟩

theorem OutW.drewN {w W : World} {V : Int} {sl : Value} {Bo : Nat} {xs : List Int} {a : Option Addr} {c : Nat} (h : OutW w W V sl Bo xs a c) (n : Nat) : OutW w (W.drewN n) V sl Bo xs a c :=
  ⟨⟨h.below.os, h.below.tape, h.below.output, h.below.size, h.below.block⟩, h.kbox, h.res, h.out, h.own, h.bo⟩

/-- Whatever keeps all that lay. -/
theorem OutW.later {w W W' : World} {V : Int} {sl : Value} {Bo : Nat} {xs : List Int} {a : Option Addr} {c : Nat} (h : OutW w W V sl Bo xs a c) (hb : Below W.heap.size W W') : OutW w W' V sl Bo xs a c where
  below := h.below.trans (hb.mono h.below.size)
  kbox := (hb.block _ (lt_get h.kbox)).trans h.kbox
  res := (hb.block _ (lt_get h.res)).trans h.res
  out := (hb.block _ (lt_get h.out)).trans h.out
  own := ownsRow_below h.own hb (fun g hg => (h.own.lt g hg).2)
  bo := h.bo

/-- A face more. -/
theorem OutW.step {w W w2 : World} {V : Int} {sl : Value} {Bo : Nat} {xs : List Int} {a : Option Addr} {c : Nat} (h : OutW w W V sl Bo xs a c) {x : Int} {g cap : Nat} {o : Obj}
    (hown : w2.ownsRow w.heap.size 2 1 (.slice (some ⟨g, 0, none⟩) (xs ++ [x]).length cap) (xs ++ [x]).length ((xs ++ [x]).map (Value.int .i64))) (hg : (W.alloc o).grownBy w2 (Value.ownBlock (.slice a xs.length c))) :
    OutW w (w2.setCell ⟨Bo, 1, none⟩ (.slice (some ⟨g, 0, none⟩) (xs ++ [x]).length cap)) V sl Bo (xs ++ [x]) (some ⟨g, 0, none⟩) cap := by
  have hgr : W.grownBy w2 (Value.ownBlock (.slice a xs.length c)) := (World.grownBy_alloc W o _).trans hg
  have hbo := h.bo
  have k2 := (hgr.block _ (lt_get h.kbox) (row_ne h.own h.kbox (by decide))).trans h.kbox
  have r2 := (hgr.block _ (lt_get h.res) (row_ne h.own h.res (by decide))).trans h.res
  have o2 := (hgr.block _ (lt_get h.out) (row_ne h.own h.out (by decide))).trans h.out
  refine ⟨?_, ?_, ?_, ?_, ?_, h.bo⟩
  · exact (h.below.grown hgr h.below.size (fun k hk => (h.own.lt k hk).1)).setCell (p := ⟨Bo, 1, none⟩) (by simp only; omega) _
  · exact (Below.heap_setCell _ _ _ _ (by simp only; omega)).trans k2
  · exact (Below.heap_setCell _ _ _ _ (by simp only; omega)).trans r2
  · simp only [World.setCell, Array.getElem?_modify, o2]
    simp
  · exact ownsRow_set hown (by
      have := row_ne hown o2 (by decide)
      exact fun e => this e.symm) _

theorem outW_start {w W : World} {V : Int} {sl : Value} (hB : Below w.heap.size w W) (hk : W.heap[w.heap.size]? = some (.cells #[.int .i64 V, sl] 28 (0, 0)))
    (hr : W.heap[w.heap.size + 1]? = some (.cells #[.int .i64 0, .slice none 0 0] 28 (0, 0))) :
    OutW w ((W.alloc (.cells #[] 2)).alloc (.cells #[.int .i64 V, .slice (some ⟨W.heap.size, 0, none⟩) 0 0] 28)) V sl (W.heap.size + 1) [] (some ⟨W.heap.size, 0, none⟩) 0 where
  below := (hB.alloc hB.size _).alloc (by have := hB.size; simp; omega) _
  kbox := (Below.heap_alloc _ _ _ (by have := lt_get hk; simp; omega)).trans ((Below.heap_alloc _ _ _ (lt_get hk)).trans hk)
  res := (Below.heap_alloc _ _ _ (by have := lt_get hr; simp; omega)).trans ((Below.heap_alloc _ _ _ (lt_get hr)).trans hr)
  out := by have := heap_alloc_new (W.alloc (.cells #[] 2)) (.cells #[.int .i64 V, .slice (some ⟨W.heap.size, 0, none⟩) 0 0] 28); rwa [World.size_alloc] at this
  own := by
    have h := World.ownsRow_made (base := w.heap.size) (e := 2) (size := 1) W #[] 0 hB.size (by simp [maxLen]) rfl
    exact h.alloc _
  bo := by have := lt_get hr; omega

/-- The model's loops hand back what they have built. -/
theorem OutW.done {w W : World} {V : Int} {sl : Value} {Bo : Nat} {xs : List Int} {a : Option Addr} {c : Nat} (h : OutW w W V sl Bo xs a c) (u v : Value) :
    Res w ((W.setCell ⟨w.heap.size + 1, 0, none⟩ u).setCell ⟨w.heap.size + 1, 1, none⟩ v) (.slice a xs.length c) xs := by
  have hn := row_ne h.own h.res (by decide)
  exact ⟨ownsRow_set (ownsRow_set h.own (fun e => hn e.symm) _) (fun e => hn e.symm) _, (h.below.setCell (p := ⟨w.heap.size + 1, 0, none⟩) (by simp) _).setCell (p := ⟨w.heap.size + 1, 1, none⟩) (by simp) _⟩

/-- .. where the new element has just been laid. -/
theorem step_append_new {W : World} {H : Nat} {ops : Array Oper} {o : Oper} {a : Act} {K : Act → World → Prop} {Q : Exit → Act → World → Prop} {E : Prop} (hgd : o.guard = none) {s y : Operand}
    (ho : o.op = .call { callee := .builtin .append, args := #[s, y], argTypes := #[22, 22] })
    {base : Nat} {v : Value} {xs : List Int} {x : Int} (hown : W.ownsRow base 2 1 v xs.length (xs.map (Value.int .i64))) (hH : W.heap.size = H) (hbase : base ≤ H) (hl : xs.length ≤ 1099511627776)
    (hs : a.eval s = v) (hy : a.eval y = .slice (some ⟨H, 0, none⟩) 1 1)
    (hK : ∀ g cap w', w'.ownsRow base 2 1 (.slice (some ⟨g, 0, none⟩) (xs ++ [x]).length cap) (xs ++ [x]).length ((xs ++ [x]).map (Value.int .i64)) → (W.alloc (.cells #[.int .i64 x] 2)).grownBy w' v.ownBlock →
      K (a.put o.dst (.slice (some ⟨g, 0, none⟩) (xs ++ [x]).length cap)) w') :
    if Region.wanted o (yielded ops a.tmps) = true then Oper.wp Try.prog o a (W.alloc (.cells #[.int .i64 x] 2)) K Q else E := by
  subst hH
  exact step_append_int hgd ho (hown.alloc _) (by simp; omega) hl hs hy (by simp [go_sem, Addr.add]) hK

theorem OutW.stepN {w W w2 : World} {V : Int} {sl : Value} {Bo : Nat} {xs : List Int} {a : Option Addr} {c : Nat} (h : OutW w W V sl Bo xs a c) {x : Int} {g cap : Nat} {o : Obj} {n : Nat}
    (hown : w2.ownsRow w.heap.size 2 1 (.slice (some ⟨g, 0, none⟩) (xs ++ [x]).length cap) (xs ++ [x]).length ((xs ++ [x]).map (Value.int .i64))) (hg : ((W.drewN n).alloc o).grownBy w2 (Value.ownBlock (.slice a xs.length c))) :
    OutW w (w2.setCell ⟨Bo, 1, none⟩ (.slice (some ⟨g, 0, none⟩) (xs ++ [x]).length cap)) V sl Bo (xs ++ [x]) (some ⟨g, 0, none⟩) cap := (h.drewN n).step hown hg

/-- The out block behind an append. -/
theorem OutW.mid {w W w2 : World} {V : Int} {sl : Value} {Bo : Nat} {xs : List Int} {a : Option Addr} {c : Nat} (h : OutW w W V sl Bo xs a c) {n : Nat} {o : Obj} (hg : ((W.drewN n).alloc o).grownBy w2 (Value.ownBlock (.slice a xs.length c))) :
    w2.cell? ⟨Bo, 1, none⟩ = some (.slice a xs.length c) ∧ w2.frozen? ⟨Bo, 1, none⟩ = false := by
  have hgr : (W.drewN n).grownBy w2 (Value.ownBlock (.slice a xs.length c)) := (World.grownBy_alloc _ o _).trans hg
  have o2 := (hgr.block _ (lt_get (h.drewN n).out) (row_ne (h.drewN n).own (h.drewN n).out (by decide))).trans (h.drewN n).out
  constructor <;> simp [World.cell?, World.frozen?, o2]

/-- The given complex's box behind an append. -/
theorem OutW.midK {w W w2 : World} {V : Int} {sl : Value} {Bo : Nat} {xs : List Int} {a : Option Addr} {c : Nat} (h : OutW w W V sl Bo xs a c) {n : Nat} {o : Obj} (hg : ((W.drewN n).alloc o).grownBy w2 (Value.ownBlock (.slice a xs.length c))) :
    w2.cell? ⟨w.heap.size, 1, none⟩ = some sl := by
  have hgr : (W.drewN n).grownBy w2 (Value.ownBlock (.slice a xs.length c)) := (World.grownBy_alloc _ o _).trans hg
  have o2 := (hgr.block _ (lt_get (h.drewN n).kbox) (row_ne (h.drewN n).own (h.drewN n).kbox (by decide))).trans (h.drewN n).kbox
  simp [World.cell?, o2]

/-- What lay before the call, behind an append. -/
theorem OutW.midX {w W w2 : World} {V : Int} {sl : Value} {Bo : Nat} {xs : List Int} {a : Option Addr} {c : Nat} (h : OutW w W V sl Bo xs a c) {n : Nat} {o : Obj} (hg : ((W.drewN n).alloc o).grownBy w2 (Value.ownBlock (.slice a xs.length c))) {p : Addr} (hp : p.block < w.heap.size) :
    w2.cell? p = W.cell? p := by
  have hgr : (W.drewN n).grownBy w2 (Value.ownBlock (.slice a xs.length c)) := (World.grownBy_alloc _ o _).trans hg
  have hlt : p.block < (W.drewN n).heap.size := Nat.lt_of_lt_of_le hp h.below.size
  have h2 : w2.heap[p.block]? = W.heap[p.block]? := hgr.block _ hlt (by
    intro he
    have := (h.own.lt _ he.symm).1
    omega)
  simp only [World.cell?, h2]

end Go.Proofs.Ytplcbiconfpmlaa

/-! Complexes that are handed back: the ends of bodies with a result in a block, and the program's complexWith. -/
namespace Go.Proofs.Ytplcbiconfpmlaa
open Go.RowKit

theorem cell_alloc_drew1 {W : World} {p : Addr} {v : Value} (h : W.cell? p = some v) (o : Obj) : (W.alloc o).cell? p = some v := cell_alloc_drew h 0 o

theorem two_of {W : World} {b : Nat} {x y : Value} {t : Nat} (h : W.heap[b]? = some (.cells #[x, y] t (0, 0))) : W.cell? ⟨b, 0, none⟩ = some x ∧ W.cell? ⟨b, 1, none⟩ = some y ∧ W.frozen? ⟨b, 0, none⟩ = false ∧ W.frozen? ⟨b, 1, none⟩ = false := by
  refine ⟨?_, ?_, ?_, ?_⟩ <;> simp [World.cell?, World.frozen?, h]

theorem two_set {W : World} {b : Nat} {x y : Value} {t : Nat} (h : W.heap[b]? = some (.cells #[x, y] t (0, 0))) (u v : Value) : ((W.setCell ⟨b, 0, none⟩ u).setCell ⟨b, 1, none⟩ v).heap[b]? = some (.cells #[u, v] t (0, 0)) := by
  simp only [World.setCell, Array.getElem?_modify, h]
  simp

/-- A result stays where a block of another type is written. -/
theorem Res.set2 {w W : World} {sv : Value} {xs : List Int} (h : Res w W sv xs) {b : Nat} {cs : Array Value} {t : Nat} {fz : Nat × Nat} (hb : W.heap[b]? = some (.cells cs t fz)) (hne : 2 ≠ t) (hw : w.heap.size ≤ b) (u v : Value) :
    Res w ((W.setCell ⟨b, 0, none⟩ u).setCell ⟨b, 1, none⟩ v) sv xs := by
  have hn := row_ne h.1 hb hne
  exact ⟨ownsRow_set (ownsRow_set h.1 (fun e => hn e.symm) _) (fun e => hn e.symm) _, (h.2.setCell (p := ⟨b, 0, none⟩) hw _).setCell (p := ⟨b, 1, none⟩) hw _⟩

theorem new2 (w : World) (A B : Obj) : ((w.alloc A).alloc B).heap[w.heap.size + 1]? = some B := by
  have := heap_alloc_new (w.alloc A) B
  rwa [World.size_alloc] at this

theorem new3 (w : World) (A B C : Obj) : (((w.alloc A).alloc B).alloc C).heap[w.heap.size + 1 + 1]? = some C := by
  have := new2 (w.alloc A) B C
  rwa [World.size_alloc] at this

set_option maxRecDepth 100000 in
theorem load_cx {w : World} {b o : Nat} {x y : Value} (h0 : w.cell? ⟨b, o, none⟩ = some x) (h1 : w.cell? ⟨b, o + 1, none⟩ = some y) :
    (loadVar 28 ⟨b, o, none⟩).run Try.prog w = .ok (.agg #[x, y]) w := by
  go_simp

set_option maxRecDepth 100000 in
theorem done_cx {fn : Func} {R : Ending → World → Prop} {a : Act} {w : World} {p u : Tmp} (hr : fn.results = #[.cell p 28, .tmp u]) (hd : a.defers = []) {b o : Nat} {x y c : Value}
    (hp : a.tmps.getD p undef = .pointer (some ⟨b, o, none⟩)) (h0 : w.cell? ⟨b, o, none⟩ = some x) (h1 : w.cell? ⟨b, o + 1, none⟩ = some y) (hu : a.tmps.getD u undef = c) (hR : R (.returned (.tuple #[.agg #[x, y], c])) w) : bodyPost Try.prog fn R .ret a w := by
  refine bodyPost_ret (v := .tuple #[.agg #[x, y], c]) ?_ hd hR
  rw [results_cell_tmp hr, hp, hu]
  show ((loadVar 28 ⟨b, o, none⟩).run Try.prog w).andThen _ = _
  rw [load_cx h0 h1]
  rfl

set_option maxRecDepth 100000 in
theorem done_cx1 {fn : Func} {R : Ending → World → Prop} {a : Act} {w : World} {p : Tmp} (hr : fn.results = #[.cell p 28]) (hd : a.defers = []) {b o : Nat} {x y : Value}
    (hp : a.tmps.getD p undef = .pointer (some ⟨b, o, none⟩)) (h0 : w.cell? ⟨b, o, none⟩ = some x) (h1 : w.cell? ⟨b, o + 1, none⟩ = some y) (hR : R (.returned (.agg #[x, y])) w) : bodyPost Try.prog fn R .ret a w := by
  refine bodyPost_ret (v := .agg #[x, y]) ?_ hd hR
  have hp' : a.tmps[p]?.getD undef = .pointer (some ⟨b, o, none⟩) := by simpa using hp
  simp [results, hr, hp', asAddr, load_cx h0 h1]

theorem cx_mono {P : Program} {f : FuncId} {args : Array Value} {w : World} {r : Int × List Int × Int} {U : Int} {xs : List Int} {c : Int} (hr : r = (U, xs, c))
    (h : Calls P f args w fun e w' => ∃ v, e = .returned (.tuple #[.agg #[.int .i64 U, v], .int .i64 c]) ∧ Res w w' v xs) : Calls P f args w fun e w' => ∃ v, e = .returned (.tuple #[.agg #[.int .i64 r.1, v], .int .i64 r.2.2]) ∧ Res w w' v r.2.1 := by
  subst hr; exact h


end Go.Proofs.Ytplcbiconfpmlaa

/-! Pairs compared. -/
namespace Go.Proofs.Ytplcbiconfpmlaa
open Go.RowKit

/-- A pair comes ahead of another one. -/
def lessP (x y x' y' : Int) : Bool := decide (x < x') || (decide (x = x') && decide (y < y'))

set_option maxRecDepth 100000 in
set_option maxHeartbeats 1000000 in
theorem less_any (x y x' y' : Int) (w : World) :
    Calls Try.prog 131 #[.agg #[.int .i64 x, .int .i64 y], .agg #[.int .i64 x', .int .i64 y']] w fun e w' => e = .returned (.bool (lessP x y x' y')) ∧ Below w.heap.size w w' := by
  have HB : Hid (Below w.heap.size w ((w.alloc (.cells #[.int .i64 x, .int .i64 y] 49)).alloc (.cells #[.int .i64 x', .int .i64 y'] 49))) := hid (((Below.refl _ w).alloc (Nat.le_refl _) _).alloc (by simp) _)
  by_cases h1 : x < x'
  · have hd : decide (x < x') = true := decide_eq_true h1
    have He : Hid (lessP x y x' y' = true) := hid (by unfold lessP; simp [h1])
    clear h1
    go_enter Try.func131, Try.ntmps131
    go_wp2
    go_ret
    exact ⟨ret_bool He.out.symm, HB.out⟩
  · have hd : decide (x < x') = false := decide_eq_false h1
    by_cases h2 : x = x'
    · have hd2 : (x == x') = true := by simp [h2]
      have He : Hid (lessP x y x' y' = decide (y < y')) := hid (by unfold lessP; simp [h2])
      clear h1 h2
      go_enter Try.func131, Try.ntmps131
      go_wp2
      go_ret
      exact ⟨ret_bool He.out.symm, HB.out⟩
    · have hd2 : (x == x') = false := by simp [h2]
      have He : Hid (lessP x y x' y' = false) := hid (by unfold lessP; simp [h1, h2])
      clear h1 h2
      go_enter Try.func131, Try.ntmps131
      go_wp2
      go_ret
      exact ⟨ret_bool He.out.symm, HB.out⟩

/-- -1, 0 or 1. -/
def cmpI (x y : Int) : Int := if x < y then -1 else if y < x then 1 else 0

set_option maxRecDepth 100000 in
set_option maxHeartbeats 1000000 in
theorem nan_any (x : Int) (w : World) : Calls Try.prog 190 #[.int .i64 x] w fun e w' => e = .returned (.bool false) ∧ w = w' := by
  have hne : (x != x) = false := by simp
  go_enter Try.func190, Try.ntmps190
  go_wp2
  go_ret
  exact ⟨rfl, rfl⟩

set_option maxRecDepth 100000 in
set_option maxHeartbeats 1000000 in
theorem cmp_any (x y : Int) (w : World) : Calls Try.prog 144 #[.int .i64 x, .int .i64 y] w fun e w' => e = .returned (.int .i64 (cmpI x y)) ∧ w = w' := by
  by_cases h1 : x < y
  · have hd : decide (x < y) = true := decide_eq_true h1
    have He : Hid (cmpI x y = -1) := hid (by unfold cmpI; simp [h1])
    clear h1
    go_enter Try.func144, Try.ntmps144
    go_wp2_with (go_at_call 190; refine (nan_any _ _).mono ?_; rintro e w' ⟨rfl, rfl⟩)
    go_ret
    exact ⟨ret_int He.out.symm, rfl⟩
  · have hd : decide (x < y) = false := decide_eq_false h1
    by_cases h2 : y < x
    · have hd2 : decide (y < x) = true := decide_eq_true h2
      have He : Hid (cmpI x y = 1) := hid (by unfold cmpI; simp [h1, h2])
      clear h1 h2
      go_enter Try.func144, Try.ntmps144
      go_wp2_with (go_at_call 190; refine (nan_any _ _).mono ?_; rintro e w' ⟨rfl, rfl⟩)
      go_ret
      exact ⟨ret_int He.out.symm, rfl⟩
    · have hd2 : decide (y < x) = false := decide_eq_false h2
      have He : Hid (cmpI x y = 0) := hid (by unfold cmpI; simp [h1, h2])
      clear h1 h2
      go_enter Try.func144, Try.ntmps144
      go_wp2_with (go_at_call 190; refine (nan_any _ _).mono ?_; rintro e w' ⟨rfl, rfl⟩)
      go_ret
      exact ⟨ret_int He.out.symm, rfl⟩

/-- The first of two that is not 0. -/
def orI (u v : Int) : Int := if u = 0 then v else u

theorem two_new (W : World) (H : Nat) (hH : W.heap.size = H) (u v : Value) (t : Nat) : (W.alloc (.cells #[u, v] t)).cell? ⟨H, 0, none⟩ = some u ∧ (W.alloc (.cells #[u, v] t)).cell? ⟨H, 1, none⟩ = some v := by
  subst hH
  constructor <;> simp [go_sem]

theorem two_new_d (W : World) (H : Nat) (hH : W.heap.size = H) (u v : Value) (t : Nat) : (W.alloc (.cells #[u, v] t)).drew.cell? ⟨H, 0, none⟩ = some u ∧ (W.alloc (.cells #[u, v] t)).drew.cell? ⟨H, 1, none⟩ = some v := two_new W H hH u v t

set_option maxRecDepth 100000 in
set_option maxHeartbeats 1000000 in
theorem or_any (u v : Int) (b : Nat) (w : World) (h0 : w.cell? ⟨b, 0, none⟩ = some (.int .i64 u)) (h1 : w.cell? ⟨b, 1, none⟩ = some (.int .i64 v)) :
    Calls Try.prog 143 #[.slice (some ⟨b, 0, none⟩) 2 2] w fun e w' => e = .returned (.int .i64 (orI u v)) ∧ w = w' := by
  by_cases hu : u = 0
  · have hd : (u != 0) = false := by simp [hu]
    by_cases hv : v = 0
    · have hd2 : (v != 0) = false := by simp [hv]
      have He : Hid (orI u v = 0) := hid (by unfold orI; rw [if_pos hu, hv])
      clear hu hv
      go_enter Try.func143, Try.ntmps143
      go_wp2
      refine wp_loop_rounds 3 ?_; rw [rounds_succ]
      go_wp2
      rw [rounds_succ]
      go_wp2
      rw [rounds_succ]
      go_wp2
      go_ret
      exact ⟨ret_int He.out.symm, rfl⟩
    · have hd2 : (v != 0) = true := by simp [hv]
      have He : Hid (orI u v = v) := hid (by unfold orI; rw [if_pos hu])
      clear hu hv
      go_enter Try.func143, Try.ntmps143
      go_wp2
      refine wp_loop_rounds 3 ?_; rw [rounds_succ]
      go_wp2
      rw [rounds_succ]
      go_wp2
      go_ret
      exact ⟨ret_int He.out.symm, rfl⟩
  · have hd : (u != 0) = true := by simp [hu]
    have He : Hid (orI u v = u) := hid (by unfold orI; rw [if_neg hu])
    clear hu
    go_enter Try.func143, Try.ntmps143
    go_wp2
    refine wp_loop_rounds 3 ?_; rw [rounds_succ]
    go_wp2
    go_ret
    exact ⟨ret_int He.out.symm, rfl⟩

/-- What comparePairs hands back. -/
def cmpP (x y x' y' : Int) : Int := orI (cmpI x x') (cmpI y y')

theorem cmpP_neg (x y x' y' : Int) : cmpP x y x' y' < 0 ↔ lessP x y x' y' = true := by
  unfold cmpP orI cmpI lessP
  simp only [Bool.or_eq_true, Bool.and_eq_true, decide_eq_true_eq]
  repeat' split
  all_goals omega

set_option maxRecDepth 100000 in
set_option maxHeartbeats 1000000 in
theorem cp_any (x y x' y' : Int) (w : World) :
    Calls Try.prog 88 #[.agg #[.int .i64 x, .int .i64 y], .agg #[.int .i64 x', .int .i64 y']] w fun e w' => e = .returned (.int .i64 (cmpP x y x' y')) ∧ Below w.heap.size w w' := by
  go_enter Try.func88, Try.ntmps88
  go_wp2
  have q0 : ((w.alloc (.cells #[.int .i64 x, .int .i64 y] 49)).alloc (.cells #[.int .i64 x', .int .i64 y'] 49)).cell? ⟨w.heap.size, 0, none⟩ = some (.int .i64 x) := by simp [go_sem]
  have q1 : ((w.alloc (.cells #[.int .i64 x, .int .i64 y] 49)).alloc (.cells #[.int .i64 x', .int .i64 y'] 49)).cell? ⟨w.heap.size, 1, none⟩ = some (.int .i64 y) := by simp [go_sem]
  have q2 : ((w.alloc (.cells #[.int .i64 x, .int .i64 y] 49)).alloc (.cells #[.int .i64 x', .int .i64 y'] 49)).cell? ⟨w.heap.size + 1, 0, none⟩ = some (.int .i64 x') := by simp [go_sem]
  have q3 : ((w.alloc (.cells #[.int .i64 x, .int .i64 y] 49)).alloc (.cells #[.int .i64 x', .int .i64 y'] 49)).cell? ⟨w.heap.size + 1, 1, none⟩ = some (.int .i64 y') := by simp [go_sem]
  have hsz : ((w.alloc (.cells #[.int .i64 x, .int .i64 y] 49)).alloc (.cells #[.int .i64 x', .int .i64 y'] 49)).heap.size = w.heap.size + 1 + 1 := by simp
  have HB : Hid (Below w.heap.size w ((w.alloc (.cells #[.int .i64 x, .int .i64 y] 49)).alloc (.cells #[.int .i64 x', .int .i64 y'] 49))) := hid (((Below.refl _ w).alloc (Nat.le_refl _) _).alloc (by simp) _)
  obtain ⟨W, hW⟩ : ∃ W, W = (w.alloc (.cells #[.int .i64 x, .int .i64 y] 49)).alloc (.cells #[.int .i64 x', .int .i64 y'] 49) := ⟨_, rfl⟩
  rw [← hW] at q0 q1 q2 q3 hsz HB ⊢
  clear hW
  go_region_held3 (fun w' => w'.cell? ⟨w.heap.size, 0, none⟩ = some (.int .i64 x) ∧ w'.cell? ⟨w.heap.size, 1, none⟩ = some (.int .i64 y) ∧ w'.cell? ⟨w.heap.size + 1, 0, none⟩ = some (.int .i64 x') ∧ w'.cell? ⟨w.heap.size + 1, 1, none⟩ = some (.int .i64 y')) (go_keep) (first
    | (go_at_call 144; refine (cmp_any _ _ _).mono ?_; rintro e w' ⟨rfl, rfl⟩)
    | (go_at_call 143; refine (or_any (cmpI x x') (cmpI y y') _ _ (two_new_d W _ hsz _ _ _).1 (two_new_d W _ hsz _ _ _).2).mono ?_; rintro e w' ⟨rfl, rfl⟩))
  all_goals
    go_wp2_with fail
    go_ret
    exact ⟨rfl, HB.out.trans (Below.mono (w := W) (((Below.refl _ W).alloc (Nat.le_refl _) _).drew) HB.out.size)⟩

end Go.Proofs.Ytplcbiconfpmlaa

/-! The model's test of a pair of faces. -/
namespace Go.Proofs.Ytplcbiconfpmlaa
open Go.RowKit Go.Sort

/-- Two faces are a pair. -/
def pairB (fs : List Int) (x y : Int) : Bool := decide (x ∈ fs) && decide (y ∈ fs) && decide (x.toNat &&& y.toNat = x.toNat) && decide (ones y.toNat = ones x.toNat + 1)

set_option maxRecDepth 100000 in
set_option maxHeartbeats 4000000 in
theorem pair_any (V : Int) (a : Option Addr) (cap : Nat) (fs : List Int) (x y : Int) (w : World) (hx : SlI w w.heap.size a fs) (hl : fs.length ≤ 1048576) (hf : ∀ x ∈ fs, 1 ≤ x ∧ x ≤ 63) :
    Calls Try.prog 75 #[.agg #[.int .i64 V, .slice a fs.length cap], .agg #[.int .i64 x, .int .i64 y]] w fun e w' => e = .returned (.bool (pairB fs x y)) ∧ Below w.heap.size w w' := by
  obtain ⟨W, hW⟩ : ∃ W, W = (w.alloc (.cells #[.int .i64 V, .slice a fs.length cap] 28)).alloc (.cells #[.int .i64 x, .int .i64 y] 49) := ⟨_, rfl⟩
  have HB : Hid (Below w.heap.size w W) := hid (by rw [hW]; exact ((Below.refl _ w).alloc (Nat.le_refl _) _).alloc (by simp) _)
  have q0 : W.heap[w.heap.size]? = some (.cells #[.int .i64 V, .slice a fs.length cap] 28 (0, 0)) := by rw [hW]; exact (Below.heap_alloc _ _ _ (by simp)).trans (heap_alloc_new _ _)
  have q1 : W.heap[w.heap.size + 1]? = some (.cells #[.int .i64 x, .int .i64 y] 49 (0, 0)) := by rw [hW]; exact new2 _ _ _
  have HW := hid hW
  have Hx := hid (hx.later HB.out HB.out.size)
  obtain ⟨k0, k1, _, _⟩ := two_of q0
  obtain ⟨p0, p1, _, _⟩ := two_of q1
  clear hW q0 q1 hx
  have Hf := hid hf
  clear hf
  have cX : ∀ d os, Calls Try.prog 113 #[.agg #[.int .i64 V, .slice a fs.length cap], .int .i64 x] (grow (redrawn W d) os) fun e w'' => e = .returned (.bool (decide (x ∈ fs))) ∧ ∃ p : Regrown, w'' = grow (redrawn W p.d) p.os := fun d os => Calls.regrown_of (has_any V x a cap fs _ (Hx.out.later (below_regrown W d os) (below_regrown W d os).size) hl)
  have cY : ∀ d os, Calls Try.prog 113 #[.agg #[.int .i64 V, .slice a fs.length cap], .int .i64 y] (grow (redrawn W d) os) fun e w'' => e = .returned (.bool (decide (y ∈ fs))) ∧ ∃ p : Regrown, w'' = grow (redrawn W p.d) p.os := fun d os => Calls.regrown_of (has_any V y a cap fs _ (Hx.out.later (below_regrown W d os) (below_regrown W d os).size) hl)
  have CX := hid cX
  have CY := hid cY
  have r0 := cell_regrown k0
  have r1 := cell_regrown k1
  have r2 := cell_regrown p0
  have r3 := cell_regrown p1
  clear cX cY k0 k1 p0 p1 Hx
  by_cases hx1 : x ∈ fs
  · rw [decide_eq_true hx1] at CX
    by_cases hy1 : y ∈ fs
    · rw [decide_eq_true hy1] at CY
      have hxr := Hf.out x hx1
      have hyr := Hf.out y hy1
      have He : Hid (pairB fs x y = (decide (x.toNat &&& y.toNat = x.toNat) && decide (ones y.toNat = ones x.toNat + 1))) := hid (by unfold pairB; rw [decide_eq_true hx1, decide_eq_true hy1]; simp)
      clear hx1 hy1
      obtain ⟨x, rfl⟩ : ∃ n : Nat, x = n := ⟨x.toNat, by omega⟩
      obtain ⟨y, rfl⟩ : ∃ n : Nat, y = n := ⟨y.toNat, by omega⟩
      have hx64 : x < 64 := by omega
      have hy64 : y < 64 := by omega
      simp only [Int.toNat_natCast] at He
      have hbits : bits BinOp.and IntKind.i64 (x : Int) (y : Int) = ((x &&& y : Nat) : Int) := (bits_nat .i64 6 (by decide) (fun n h0 h1 => by rw [IntKind.wrap_i64]; omega) x y (by omega) (by omega)).1
      have ho := ones_le x
      have ho' := ones_le y
      have cO : ∀ (f : Nat), f < 64 → ∀ d os, Calls Try.prog 130 #[.int .i64 (f : Int)] (grow (redrawn W d) os) fun e w'' => e = .returned (.int .i64 (ones f : Int)) ∧ ∃ p : Regrown, w'' = grow (redrawn W p.d) p.os := fun f hf d os => Calls.regrown_of ((ones_any f _ hf).mono fun _ _ ⟨he, hw⟩ => ⟨he, by rw [← hw]; exact Below.refl _ _⟩)
      have COx := hid (cO x hx64)
      have COy := hid (cO y hy64)
      have hw : IntKind.i64.wrap (((ones x : Nat) : Int) + 1) = ((ones x : Nat) : Int) + 1 := by rw [IntKind.wrap_i64]; omega
      clear cO
      by_cases hb : x &&& y = x
      · have hd : (((x &&& y : Nat) : Int) == (x : Int)) = true := by simp; omega
        have He2 : Hid (pairB fs x y = decide (ones y = ones x + 1)) := hid (by rw [He.out, decide_eq_true hb]; simp)
        have Ho : Hid ((((ones y : Nat) : Int) == ((ones x : Nat) : Int) + 1) = decide (ones y = ones x + 1)) := hid (by rw [Bool.eq_iff_iff]; simp; omega)
        clear hb
        go_enter Try.func75, Try.ntmps75
        go_wp2_with fail
        rw [← HW.out]
        refine wp_region_quiet_below (by kernel_rfl) (by kernel_rfl) ?_
        iterate 3 (with_reducible refine wpQuiet_step (fun K hK => ?_); have HK := hid hK; clear hK; go_simp; with_reducible refine HK.out _ ?_; clear HK K)
        (with_reducible refine wpQuiet_step (fun K hK => ?_); have HK := hid hK; clear hK; go_simp; apply Exists.intro; with_reducible refine ⟨fun _ => ?_, HK.out _ ?_⟩; exact CX.out _ _; clear HK K)
        iterate 4 (with_reducible refine wpQuiet_step (fun K hK => ?_); have HK := hid hK; clear hK; go_simp; with_reducible refine HK.out _ ?_; clear HK K)
        (with_reducible refine wpQuiet_step (fun K hK => ?_); have HK := hid hK; clear hK; go_simp; apply Exists.intro; with_reducible refine ⟨fun _ => ?_, HK.out _ ?_⟩; exact CY.out _ _; clear HK K)
        iterate 14 (with_reducible refine wpQuiet_step (fun K hK => ?_); have HK := hid hK; clear hK; go_simp; with_reducible refine HK.out _ ?_; clear HK K)
        (with_reducible refine wpQuiet_step (fun K hK => ?_); have HK := hid hK; clear hK; go_simp; apply Exists.intro; with_reducible refine ⟨fun _ => ?_, HK.out _ ?_⟩; exact COy.out _ _; clear HK K)
        iterate 2 (with_reducible refine wpQuiet_step (fun K hK => ?_); have HK := hid hK; clear hK; go_simp; with_reducible refine HK.out _ ?_; clear HK K)
        (with_reducible refine wpQuiet_step (fun K hK => ?_); have HK := hid hK; clear hK; go_simp; apply Exists.intro; with_reducible refine ⟨fun _ => ?_, HK.out _ ?_⟩; exact COx.out _ _; clear HK K)
        iterate 4 (with_reducible refine wpQuiet_step (fun K hK => ?_); have HK := hid hK; clear hK; go_simp; with_reducible refine HK.out _ ?_; clear HK K)
        with_reducible refine wpQuiet_nil ?_
        intro _ hw'
        obtain ⟨⟨dq, osq⟩, hw''⟩ := hw'
        subst hw''
        go_wp2_with fail
        go_ret
        exact ⟨ret_bool (by rw [He2.out]; exact Ho.out), HB.out.trans ((below_regrown W dq osq).mono HB.out.size)⟩
      · have hd : (((x &&& y : Nat) : Int) == (x : Int)) = false := by simp; omega
        have He2 : Hid (pairB fs x y = false) := hid (by rw [He.out, decide_eq_false hb]; simp)
        clear hb
        go_enter Try.func75, Try.ntmps75
        go_wp2_with fail
        rw [← HW.out]
        refine wp_region_quiet_below (by kernel_rfl) (by kernel_rfl) ?_
        iterate 3 (with_reducible refine wpQuiet_step (fun K hK => ?_); have HK := hid hK; clear hK; go_simp; with_reducible refine HK.out _ ?_; clear HK K)
        (with_reducible refine wpQuiet_step (fun K hK => ?_); have HK := hid hK; clear hK; go_simp; apply Exists.intro; with_reducible refine ⟨fun _ => ?_, HK.out _ ?_⟩; exact CX.out _ _; clear HK K)
        iterate 4 (with_reducible refine wpQuiet_step (fun K hK => ?_); have HK := hid hK; clear hK; go_simp; with_reducible refine HK.out _ ?_; clear HK K)
        (with_reducible refine wpQuiet_step (fun K hK => ?_); have HK := hid hK; clear hK; go_simp; apply Exists.intro; with_reducible refine ⟨fun _ => ?_, HK.out _ ?_⟩; exact CY.out _ _; clear HK K)
        iterate 22 (with_reducible refine wpQuiet_step (fun K hK => ?_); have HK := hid hK; clear hK; go_simp; with_reducible refine HK.out _ ?_; clear HK K)
        with_reducible refine wpQuiet_nil ?_
        intro _ hw'
        obtain ⟨⟨dq, osq⟩, hw''⟩ := hw'
        subst hw''
        go_wp2_with fail
        go_ret
        exact ⟨ret_bool He2.out.symm, HB.out.trans ((below_regrown W dq osq).mono HB.out.size)⟩
    · rw [decide_eq_false hy1] at CY
      have He : Hid (pairB fs x y = false) := hid (by unfold pairB; rw [decide_eq_false hy1]; simp)
      clear hx1 hy1
      go_enter Try.func75, Try.ntmps75
      go_wp2_with fail
      rw [← HW.out]
      refine wp_region_quiet_below (by kernel_rfl) (by kernel_rfl) ?_
      iterate 3 (with_reducible refine wpQuiet_step (fun K hK => ?_); have HK := hid hK; clear hK; go_simp; with_reducible refine HK.out _ ?_; clear HK K)
      (with_reducible refine wpQuiet_step (fun K hK => ?_); have HK := hid hK; clear hK; go_simp; apply Exists.intro; with_reducible refine ⟨fun _ => ?_, HK.out _ ?_⟩; exact CX.out _ _; clear HK K)
      iterate 4 (with_reducible refine wpQuiet_step (fun K hK => ?_); have HK := hid hK; clear hK; go_simp; with_reducible refine HK.out _ ?_; clear HK K)
      (with_reducible refine wpQuiet_step (fun K hK => ?_); have HK := hid hK; clear hK; go_simp; apply Exists.intro; with_reducible refine ⟨fun _ => ?_, HK.out _ ?_⟩; exact CY.out _ _; clear HK K)
      iterate 22 (with_reducible refine wpQuiet_step (fun K hK => ?_); have HK := hid hK; clear hK; go_simp; with_reducible refine HK.out _ ?_; clear HK K)
      with_reducible refine wpQuiet_nil ?_
      intro _ hw'
      obtain ⟨⟨dq, osq⟩, hw''⟩ := hw'
      subst hw''
      go_wp2_with fail
      go_ret
      exact ⟨ret_bool He.out.symm, HB.out.trans ((below_regrown W dq osq).mono HB.out.size)⟩
  · rw [decide_eq_false hx1] at CX
    have He : Hid (pairB fs x y = false) := hid (by unfold pairB; rw [decide_eq_false hx1]; simp)
    clear hx1
    go_enter Try.func75, Try.ntmps75
    go_wp2_with fail
    rw [← HW.out]
    refine wp_region_quiet_below (by kernel_rfl) (by kernel_rfl) ?_
    iterate 3 (with_reducible refine wpQuiet_step (fun K hK => ?_); have HK := hid hK; clear hK; go_simp; with_reducible refine HK.out _ ?_; clear HK K)
    (with_reducible refine wpQuiet_step (fun K hK => ?_); have HK := hid hK; clear hK; go_simp; apply Exists.intro; with_reducible refine ⟨fun _ => ?_, HK.out _ ?_⟩; exact CX.out _ _; clear HK K)
    iterate 27 (with_reducible refine wpQuiet_step (fun K hK => ?_); have HK := hid hK; clear hK; go_simp; with_reducible refine HK.out _ ?_; clear HK K)
    with_reducible refine wpQuiet_nil ?_
    intro _ hw'
    obtain ⟨⟨dq, osq⟩, hw''⟩ := hw'
    subst hw''
    go_wp2_with fail
    go_ret
    exact ⟨ret_bool He.out.symm, HB.out.trans ((below_regrown W dq osq).mono HB.out.size)⟩

end Go.Proofs.Ytplcbiconfpmlaa

/-! slices.IsSortedFunc on a list of pairs. -/
namespace Go.Proofs.Ytplcbiconfpmlaa
open Go.RowKit

/-- The number at a place. -/
def at0 (ps : List Int) (i : Nat) : Int := ps[i]?.getD 0

/-- No pair comes ahead of the one before it, from place k on. -/
def NoDrop (ps : List Int) (n k : Nat) : Prop := ∀ j, k ≤ j → 1 ≤ j → j < n → lessP (at0 ps (j * 2)) (at0 ps (j * 2 + 1)) (at0 ps ((j - 1) * 2)) (at0 ps ((j - 1) * 2 + 1)) = false

noncomputable def noDropB (ps : List Int) (n : Nat) : Bool := @decide (NoDrop ps n 1) (Classical.propDecidable _)
theorem noDropB_true {ps : List Int} {n : Nat} (h : NoDrop ps n 1) : noDropB ps n = true := by unfold noDropB; exact @decide_eq_true _ (Classical.propDecidable _) h
theorem noDropB_false {ps : List Int} {n : Nat} (h : ¬ NoDrop ps n 1) : noDropB ps n = false := by unfold noDropB; exact @decide_eq_false _ (Classical.propDecidable _) h

set_option maxRecDepth 100000 in
set_option maxHeartbeats 2000000 in
theorem sorted_any (a : Option Addr) (n cap : Nat) (ps : List Int) (w : World) (hx : SlI w w.heap.size a ps) (hp : ps.length = 2 * n) (hl : n ≤ 1048576) :
    Calls Try.prog 182 #[.slice a n cap, .func (.func 88) #[] #[]] w fun e w' => e = .returned (.bool (noDropB ps n)) ∧ Below w.heap.size w w' := by
  have hent : ∀ args w, (callFunc 88 args).run Try.prog w = .ok (.enter 88 args) w := enters_of Try.func88 (by kernel_rfl) rfl
  by_cases hn : n ≤ 1
  · have He : Hid (noDropB ps n = true) := hid (noDropB_true (fun j h1 h2 h3 => by omega))
    clear hx hp
    have h0 : n = 0 ∨ n = 1 := by omega
    rcases h0 with rfl | rfl
    · go_enter Try.func182, Try.ntmps182
      go_wp2
      refine wp_loop_rounds 1 ?_; rw [rounds_succ]
      go_wp2
      go_ret
      exact ⟨ret_bool He.out.symm, Below.refl _ _⟩
    · go_enter Try.func182, Try.ntmps182
      go_wp2
      refine wp_loop_rounds 1 ?_; rw [rounds_succ]
      go_wp2
      go_ret
      exact ⟨ret_bool He.out.symm, Below.refl _ _⟩
  · obtain ⟨b, off, hb, rfl, hc⟩ : ∃ b off, b < w.heap.size ∧ a = some ⟨b, off, none⟩ ∧ ∀ i, i < ps.length → w.cell? ⟨b, off + i, none⟩ = some (.int .i64 (ps[i]?.getD 0)) := by
      rcases hx with rfl | h
      · simp at hp; omega
      · exact h
    have Hc := hid hc
    have Hp := hid hp
    clear hc hx hp
    go_enter Try.func182, Try.ntmps182
    go_wp2
    go_loopw [5] (fun i wr => ∃ k : Nat, k < n ∧ i = .int .i64 k ∧ Hid (NoDrop ps n (k + 1)) ∧ Below w.heap.size w wr) (fun i _ => (intOf i).toNat)
    case atStart => exact ⟨n - 1, by omega, by go_num, hid (fun j h1 h2 h3 => by omega), Below.refl _ _⟩
    case round =>
      obtain ⟨k, hk, rfl, Hk, hB⟩ := hrel
      by_cases hlt : 0 < k
      · obtain ⟨m, rfl⟩ : ∃ m : Nat, k = m + 1 := ⟨k - 1, by omega⟩
        have c0 : wr.cell? ⟨b, off + (m + 1) * 2, none⟩ = some (.int .i64 (at0 ps ((m + 1) * 2))) := (hB.cell (p := ⟨b, off + (m + 1) * 2, none⟩) hb).trans (Hc.out _ (by have := Hp.out; omega))
        have c1 : wr.cell? ⟨b, off + (m + 1) * 2 + 1, none⟩ = some (.int .i64 (at0 ps ((m + 1) * 2 + 1))) := (hB.cell (p := ⟨b, off + ((m + 1) * 2 + 1), none⟩) hb).trans (Hc.out _ (by have := Hp.out; omega))
        have d0 : wr.cell? ⟨b, off + m * 2, none⟩ = some (.int .i64 (at0 ps (m * 2))) := (hB.cell (p := ⟨b, off + m * 2, none⟩) hb).trans (Hc.out _ (by have := Hp.out; omega))
        have d1 : wr.cell? ⟨b, off + m * 2 + 1, none⟩ = some (.int .i64 (at0 ps (m * 2 + 1))) := (hB.cell (p := ⟨b, off + (m * 2 + 1), none⟩) hb).trans (Hc.out _ (by have := Hp.out; omega))
        obtain ⟨x, hx⟩ : ∃ x, x = at0 ps ((m + 1) * 2) := ⟨_, rfl⟩
        obtain ⟨y, hy⟩ : ∃ y, y = at0 ps ((m + 1) * 2 + 1) := ⟨_, rfl⟩
        obtain ⟨x', hx'⟩ : ∃ x, x = at0 ps (m * 2) := ⟨_, rfl⟩
        obtain ⟨y', hy'⟩ : ∃ y, y = at0 ps (m * 2 + 1) := ⟨_, rfl⟩
        rw [← hx] at c0
        rw [← hy] at c1
        rw [← hx'] at d0
        rw [← hy'] at d1
        have Hstep : Hid (∀ c, lessP x y x' y' = c → (c = false → NoDrop ps n (m + 1)) ∧ (c = true → ¬ NoDrop ps n 1)) := hid (fun c hc => by
          refine ⟨fun h0 j h1 h2 h3 => ?_, fun h0 hno => ?_⟩
          · by_cases hj : j = m + 1
            · subst hj
              rw [Nat.add_sub_cancel, ← hx, ← hy, ← hx', ← hy', hc, h0]
            · exact Hk.out j (by omega) h2 h3
          · have := hno (m + 1) (by omega) (by omega) hk
            rw [Nat.add_sub_cancel, ← hx, ← hy, ← hx', ← hy', hc, h0] at this
            cases this)
        have Hneg := hid (cmpP_neg x y x' y')
        obtain ⟨q, hq⟩ : ∃ q, q = cmpP x y x' y' := ⟨_, rfl⟩
        have Hq := hid hq
        rw [← hq] at Hneg
        have hi0 : (0 : Int) ≤ (m : Int) := by omega
        have hi1 : (m : Int) < (n : Int) := by omega
        have hi2 : (m : Int) + 1 < (n : Int) := by omega
        have hi3 : (0 : Int) ≤ (m : Int) + 1 := by omega
        have hw1 : IntKind.i64.wrap (m : Int) = m := by rw [IntKind.wrap_i64]; omega
        have hw2 : IntKind.i64.wrap ((m : Int) + 1 - 1) = m := by rw [show (m : Int) + 1 - 1 = m by omega]; exact hw1
        have hw3 : wrap64 (m : Int) = m := IntWalk.wrap64_in _ ⟨by omega, by omega⟩
        have HB := hid hB
        clear hx hy hx' hy' hq hB Hk
        go_wp2_with fail
        go_region_with (go_at_call 88; refine (cp_any x y x' y' _).mono ?_; rintro e w2 ⟨rfl, hB2⟩; rw [← Hq.out])
        all_goals
          have HB2 := hid (HB.out.trans (Below.mono (w := wr) ⟨hB2.os, hB2.tape, hB2.output, hB2.size, hB2.block⟩ HB.out.size))
          clear hB2
          by_cases hql : q < 0
          · have He : Hid (noDropB ps n = false) := hid (noDropB_false ((Hstep.out true (Hneg.out.1 hql)).2 rfl))
            go_wp2_with fail
            go_ret
            exact ⟨ret_bool He.out.symm, HB2.out⟩
          · have hq0 : 0 ≤ q := by omega
            have He : Hid (NoDrop ps n (m + 1)) := hid ((Hstep.out false (by
              cases hc : lessP x y x' y'
              · rfl
              · exact absurd (Hneg.out.2 hc) hql)).1 rfl)
            clear hql
            go_wp2_with fail
            go_roundw
            case rel => exact ⟨m, by omega, by go_num, He.out, HB2.out⟩
            case measure => simp [intOf] <;> omega
      · obtain rfl : k = 0 := by omega
        have He : Hid (noDropB ps n = true) := hid (noDropB_true (fun j h1 h2 h3 => Hk.out j (by omega) h2 h3))
        go_wp2
        go_ret
        exact ⟨ret_bool He.out.symm, hB⟩

end Go.Proofs.Ytplcbiconfpmlaa

/-! The model's test of a pairing. -/
namespace Go.Proofs.Ytplcbiconfpmlaa
open Go.RowKit Go.Sort

/-- Two pairs have a face in common. -/
def clashB (x y x' y' : Int) : Bool := decide (x = x') || decide (x = y') || decide (y = x') || decide (y = y')

/-- The first k pairs are pairs, in order, and the pair i has no face of an earlier one. -/
def OkTo (fs ps : List Int) (k : Nat) : Prop := ∀ i, i < k → pairB fs (at0 ps (i * 2)) (at0 ps (i * 2 + 1)) = true ∧ (1 ≤ i → lessP (at0 ps ((i - 1) * 2)) (at0 ps ((i - 1) * 2 + 1)) (at0 ps (i * 2)) (at0 ps (i * 2 + 1)) = true) ∧ ∀ j, j < i → clashB (at0 ps (i * 2)) (at0 ps (i * 2 + 1)) (at0 ps (j * 2)) (at0 ps (j * 2 + 1)) = false

noncomputable def pairingB (fs ps : List Int) (n : Nat) : Bool := @decide (OkTo fs ps n) (Classical.propDecidable _)
theorem pairingB_true {fs ps : List Int} {n : Nat} (h : OkTo fs ps n) : pairingB fs ps n = true := by unfold pairingB; exact @decide_eq_true _ (Classical.propDecidable _) h
theorem pairingB_false {fs ps : List Int} {n : Nat} (h : ¬ OkTo fs ps n) : pairingB fs ps n = false := by unfold pairingB; exact @decide_eq_false _ (Classical.propDecidable _) h

set_option maxRecDepth 100000 in
set_option maxHeartbeats 8000000 in
theorem pis_some (V : Int) (a : Option Addr) (cap : Nat) (fs : List Int) (b off n c2 : Nat) (ps : List Int) (w : World) (hx : SlI w w.heap.size a fs) (hl : fs.length ≤ 1048576) (hf : ∀ x ∈ fs, 1 ≤ x ∧ x ≤ 63)
    (hb : b < w.heap.size) (hc : ∀ i, i < ps.length → w.cell? ⟨b, off + i, none⟩ = some (.int .i64 (ps[i]?.getD 0))) (hp : ps.length = 2 * n) (hn : n ≤ 1048576) :
    Calls Try.prog 129 #[.agg #[.int .i64 V, .slice a fs.length cap], .slice (some ⟨b, off, none⟩) n c2] w fun e w' => e = .returned (.bool (pairingB fs ps n)) ∧ Below w.heap.size w w' := by
  obtain ⟨W0, hW0⟩ : ∃ W0, W0 = w.alloc (.cells #[.int .i64 V, .slice a fs.length cap] 28) := ⟨_, rfl⟩
  have HW0 : Hid (Below w.heap.size w W0) := hid (by rw [hW0]; exact (Below.refl _ w).alloc (Nat.le_refl _) _)
  have hs0 : W0.heap.size = w.heap.size + 1 := by rw [hW0]; simp
  have q0 : W0.heap[w.heap.size]? = some (.cells #[.int .i64 V, .slice a fs.length cap] 28 (0, 0)) := by rw [hW0]; exact heap_alloc_new _ _
  obtain ⟨k0, k1, _, _⟩ := two_of q0
  have K0 := hid k0
  have K1 := hid k1
  have Hs0 := hid hs0
  have Hx := hid hx
  have Hc := hid hc
  have Hp := hid hp
  have Hf := hid hf
  have HW := hid hW0
  clear hc hp hf hx q0 k0 k1 hs0
  go_enter Try.func129, Try.ntmps129
  go_wp2_with fail
  rw [← HW.out]
  clear hW0
  go_loopw [5] (fun i wr => ∃ k : Nat, k ≤ n ∧ i = .int .i64 k ∧ Hid (OkTo fs ps k) ∧ Below (w.heap.size + 1) W0 wr) (fun i _ => n - (intOf i).toNat)
  case atStart => exact ⟨0, Nat.zero_le _, rfl, hid (fun i hi => by omega), Below.refl _ _⟩
  case round =>
    obtain ⟨k, hk, rfl, Hk, hB⟩ := hrel
    have HB := hid hB
    clear hB
    by_cases hlt : k < n
    · have hc0 : wr.cell? ⟨w.heap.size, 0, none⟩ = some (.int .i64 V) := (HB.out.cell (p := ⟨w.heap.size, 0, none⟩) (by simp)).trans K0.out
      have hc1 : wr.cell? ⟨w.heap.size, 1, none⟩ = some (.slice a fs.length cap) := (HB.out.cell (p := ⟨w.heap.size, 1, none⟩) (by simp)).trans K1.out
      have HBw : Hid (Below w.heap.size w wr) := hid (HW0.out.trans (HB.out.mono (Nat.le_succ _)))
      have hc2 : wr.cell? ⟨b, off + k * 2, none⟩ = some (.int .i64 (at0 ps (k * 2))) := (HBw.out.cell (p := ⟨b, off + k * 2, none⟩) hb).trans (Hc.out _ (by have := Hp.out; omega))
      have hc3 : wr.cell? ⟨b, off + k * 2 + 1, none⟩ = some (.int .i64 (at0 ps (k * 2 + 1))) := (HBw.out.cell (p := ⟨b, off + (k * 2 + 1), none⟩) hb).trans (Hc.out _ (by have := Hp.out; omega))
      obtain ⟨x, hx⟩ : ∃ x, x = at0 ps (k * 2) := ⟨_, rfl⟩
      obtain ⟨y, hy⟩ : ∃ y, y = at0 ps (k * 2 + 1) := ⟨_, rfl⟩
      rw [← hx] at hc2
      rw [← hy] at hc3
      have HX := hid hx
      have HY := hid hy
      clear hx hy
      have hi0 : (0 : Int) ≤ (k : Int) := by omega
      have hi1 : (k : Int) < (n : Int) := by omega
      have r0 := cell_regrown hc0
      have r1 := cell_regrown hc1
      have r2 := cell_regrown hc2
      have r3 := cell_regrown hc3
      have cP : ∀ d os, Calls Try.prog 75 #[.agg #[.int .i64 V, .slice a fs.length cap], .agg #[.int .i64 x, .int .i64 y]] (grow (redrawn wr d) os) fun e w'' => e = .returned (.bool (pairB fs x y)) ∧ ∃ p : Regrown, w'' = grow (redrawn wr p.d) p.os := fun d os => Calls.regrown_of (pair_any V a cap fs x y _ ((Hx.out.later HBw.out HBw.out.size).later (below_regrown wr d os) (below_regrown wr d os).size) hl Hf.out)
      have CP := hid cP
      clear cP
      by_cases hq : pairB fs x y = true
      · rw [hq] at CP
        have Hq := hid hq
        clear hq hc0 hc1 hc2 hc3
        by_cases hk0 : 0 < k
        rotate_left
        · have hd : decide (0 < k) = false := decide_eq_false hk0
          have Hk0 := hid hk0
          clear hk0
          go_wp2_with fail
          refine wp_region_quiet_below (by kernel_rfl) (by kernel_rfl) ?_
          iterate 5 (with_reducible refine wpQuiet_step (fun K hK => ?_); have HK := hid hK; clear hK; go_simp; (first | with_reducible refine HK.out _ ?_ | (rw [if_neg (by decide)]; with_reducible refine HK.out _ ?_)); clear HK K)
          (with_reducible refine wpQuiet_step (fun K hK => ?_); have HK := hid hK; clear hK; go_simp; apply Exists.intro; with_reducible refine ⟨fun _ => ?_, HK.out _ ?_⟩; exact CP.out _ _; clear HK K)
          iterate 18 (with_reducible refine wpQuiet_step (fun K hK => ?_); have HK := hid hK; clear hK; go_simp; (first | with_reducible refine HK.out _ ?_ | (rw [if_neg (by decide)]; with_reducible refine HK.out _ ?_)); clear HK K)
          with_reducible refine wpQuiet_nil ?_
          intro _ hw'
          obtain ⟨⟨dq, osq⟩, hw''⟩ := hw'
          subst hw''
          go_wp2_with fail
          have HB' : Hid (Below (w.heap.size + 1) W0 (grow (redrawn wr dq) osq)) := hid (HB.out.trans ((below_regrown wr dq osq).mono (by rw [← Hs0.out]; exact HB.out.size)))
          refine wp_loop_rounds 1 ?_; rw [rounds_succ]
          go_wp2_with fail
          go_roundw
          case rel =>
            have hk0 := Hk0.out
            refine ⟨k + 1, by omega, by go_num, fun i hi => ?_, HB'.out⟩
            obtain rfl : i = k := by omega
            exact ⟨by rw [← HX.out, ← HY.out]; exact Hq.out, fun h => by omega, fun j hj => by omega⟩
          case measure => simp [intOf]; omega
        · obtain ⟨m, rfl⟩ : ∃ m : Nat, k = m + 1 := ⟨k - 1, by omega⟩
          clear hk0
          have hd2 : wr.cell? ⟨b, off + m * 2, none⟩ = some (.int .i64 (at0 ps (m * 2))) := (HBw.out.cell (p := ⟨b, off + m * 2, none⟩) hb).trans (Hc.out _ (by have := Hp.out; omega))
          have hd3 : wr.cell? ⟨b, off + m * 2 + 1, none⟩ = some (.int .i64 (at0 ps (m * 2 + 1))) := (HBw.out.cell (p := ⟨b, off + (m * 2 + 1), none⟩) hb).trans (Hc.out _ (by have := Hp.out; omega))
          obtain ⟨x', hx'⟩ : ∃ x, x = at0 ps (m * 2) := ⟨_, rfl⟩
          obtain ⟨y', hy'⟩ : ∃ y, y = at0 ps (m * 2 + 1) := ⟨_, rfl⟩
          rw [← hx'] at hd2
          rw [← hy'] at hd3
          have HX' := hid hx'
          have HY' := hid hy'
          clear hx' hy'
          have s2 := cell_regrown hd2
          have s3 := cell_regrown hd3
          clear hd2 hd3
          have hi2 : (0 : Int) ≤ (m : Int) := by omega
          have hi3 : (m : Int) < (n : Int) := by omega
          have hw1 : IntKind.i64.wrap (m : Int) = m := by rw [IntKind.wrap_i64]; omega
          have hw2 : IntKind.i64.wrap ((m : Int) + 1 - 1) = m := by rw [show (m : Int) + 1 - 1 = m by omega]; exact hw1
          have hw3 : wrap64 (m : Int) = m := IntWalk.wrap64_in _ ⟨by omega, by omega⟩
          have hj0 : (0 : Int) ≤ (m : Int) + 1 := by omega
          have hj1 : (m : Int) + 1 < (n : Int) := by omega
          have hgt : (0 : Int) < (m : Int) + 1 := by omega
          have CL : Hid (∀ d os, Calls Try.prog 131 #[.agg #[.int .i64 x', .int .i64 y'], .agg #[.int .i64 x, .int .i64 y]] (grow (redrawn wr d) os) fun e w'' => e = .returned (.bool (lessP x' y' x y)) ∧ ∃ p : Regrown, w'' = grow (redrawn wr p.d) p.os) := hid (fun d os => Calls.regrown_of (less_any x' y' x y _))
          by_cases hql : lessP x' y' x y = true
          · rw [hql] at CL
            have Hql := hid hql
            clear hql
            go_wp2_with fail
            refine wp_region_quiet_below (by kernel_rfl) (by kernel_rfl) ?_
            iterate 5 (with_reducible refine wpQuiet_step (fun K hK => ?_); have HK := hid hK; clear hK; go_simp; (first | with_reducible refine HK.out _ ?_ | (rw [if_neg (by decide)]; with_reducible refine HK.out _ ?_)); clear HK K)
            (with_reducible refine wpQuiet_step (fun K hK => ?_); have HK := hid hK; clear hK; go_simp; apply Exists.intro; with_reducible refine ⟨fun _ => ?_, HK.out _ ?_⟩; exact CP.out _ _; clear HK K)
            iterate 14 (with_reducible refine wpQuiet_step (fun K hK => ?_); have HK := hid hK; clear hK; go_simp; (first | with_reducible refine HK.out _ ?_ | (rw [if_neg (by decide)]; with_reducible refine HK.out _ ?_)); clear HK K)
            (with_reducible refine wpQuiet_step (fun K hK => ?_); have HK := hid hK; clear hK; go_simp; apply Exists.intro; with_reducible refine ⟨fun _ => ?_, HK.out _ ?_⟩; exact CL.out _ _; clear HK K)
            iterate 3 (with_reducible refine wpQuiet_step (fun K hK => ?_); have HK := hid hK; clear hK; go_simp; (first | with_reducible refine HK.out _ ?_ | (rw [if_neg (by decide)]; with_reducible refine HK.out _ ?_)); clear HK K)
            with_reducible refine wpQuiet_nil ?_
            intro _ hw'
            obtain ⟨⟨dq, osq⟩, hw''⟩ := hw'
            subst hw''
            go_wp2_with fail
            have HB' : Hid (Below (w.heap.size + 1) W0 (grow (redrawn wr dq) osq)) := hid (HB.out.trans ((below_regrown wr dq osq).mono (by rw [← Hs0.out]; exact HB.out.size)))
            clear HB r0 r1 r2 r3 s2 s3 CP CL HBw
            go_loopw [6] (fun j wx => ∃ i : Nat, i ≤ m + 1 ∧ j = .int .i64 i ∧ Hid (∀ t, t < i → clashB x y (at0 ps (t * 2)) (at0 ps (t * 2 + 1)) = false) ∧ Below (w.heap.size + 1) W0 wx) (fun j _ => m + 1 - (intOf j).toNat)
            case atStart => exact ⟨0, Nat.zero_le _, rfl, hid (fun t ht => by omega), HB'.out⟩
            case round =>
              obtain ⟨i, hi, rfl, Hcl, hBx⟩ := hrel
              have HBx := hid hBx
              clear hBx HB'
              by_cases hlt2 : i < m + 1
              · have HBv : Hid (Below w.heap.size w wr) := hid (HW0.out.trans (HBx.out.mono (Nat.le_succ _)))
                have hc2 : wr.cell? ⟨b, off + (m + 1) * 2, none⟩ = some (.int .i64 x) := ((HBv.out.cell (p := ⟨b, off + (m + 1) * 2, none⟩) hb).trans (Hc.out _ (by have := Hp.out; omega))).trans (by rw [HX.out]; rfl)
                have hc3 : wr.cell? ⟨b, off + (m + 1) * 2 + 1, none⟩ = some (.int .i64 y) := ((HBv.out.cell (p := ⟨b, off + ((m + 1) * 2 + 1), none⟩) hb).trans (Hc.out _ (by have := Hp.out; omega))).trans (by rw [HY.out]; rfl)
                have hd2 : wr.cell? ⟨b, off + i * 2, none⟩ = some (.int .i64 (at0 ps (i * 2))) := (HBv.out.cell (p := ⟨b, off + i * 2, none⟩) hb).trans (Hc.out _ (by have := Hp.out; omega))
                have hd3 : wr.cell? ⟨b, off + i * 2 + 1, none⟩ = some (.int .i64 (at0 ps (i * 2 + 1))) := (HBv.out.cell (p := ⟨b, off + (i * 2 + 1), none⟩) hb).trans (Hc.out _ (by have := Hp.out; omega))
                obtain ⟨u, hu⟩ : ∃ u, u = at0 ps (i * 2) := ⟨_, rfl⟩
                obtain ⟨v, hv⟩ : ∃ v, v = at0 ps (i * 2 + 1) := ⟨_, rfl⟩
                rw [← hu] at hd2
                rw [← hv] at hd3
                have HU := hid hu
                have HV := hid hv
                clear hu hv
                have hi4 : (0 : Int) ≤ (i : Int) := by omega
                have hi5 : (i : Int) < (n : Int) := by omega
                have hi6 : (i : Int) < (m : Int) + 1 := by omega
                have Hbad : Hid (clashB x y u v = true → pairingB fs ps n = false) := hid (fun h => pairingB_false (fun ho => by have := (ho (m + 1) hlt).2.2 i hlt2; rw [← HX.out, ← HY.out, ← HU.out, ← HV.out, h] at this; cases this))
                by_cases h0 : x = u
                · have g0 : (x == u) = true := by simp [h0]
                  have He : Hid (pairingB fs ps n = false) := hid (Hbad.out (by unfold clashB; simp [h0]))
                  clear h0
                  go_wp2_with fail
                  refine wp_region_quiet_lit (by kernel_rfl) (by kernel_rfl) ?_
                  iterate 50 (with_reducible refine wpQuiet_step (fun K hK => ?_); have HK := hid hK; clear hK; go_simp; (first | with_reducible refine HK.out _ ?_ | (rw [if_neg (by decide)]; with_reducible refine HK.out _ ?_)); clear HK K)
                  with_reducible refine wpQuiet_nil ?_
                  intro _ hw'
                  obtain ⟨nq, hw''⟩ := hw'
                  subst hw''
                  go_wp2_with fail
                  go_ret
                  exact ⟨ret_bool He.out.symm, HBv.out.trans ⟨rfl, rfl, rfl, Nat.le_refl _, fun _ _ => rfl⟩⟩
                · have g0 : (x == u) = false := by simp [h0]
                  by_cases h1 : x = v
                  · have g1 : (x == v) = true := by simp [h1]
                    have He : Hid (pairingB fs ps n = false) := hid (Hbad.out (by unfold clashB; simp [h1]))
                    clear h0 h1
                    go_wp2_with fail
                    refine wp_region_quiet_lit (by kernel_rfl) (by kernel_rfl) ?_
                    iterate 50 (with_reducible refine wpQuiet_step (fun K hK => ?_); have HK := hid hK; clear hK; go_simp; (first | with_reducible refine HK.out _ ?_ | (rw [if_neg (by decide)]; with_reducible refine HK.out _ ?_)); clear HK K)
                    with_reducible refine wpQuiet_nil ?_
                    intro _ hw'
                    obtain ⟨nq, hw''⟩ := hw'
                    subst hw''
                    go_wp2_with fail
                    go_ret
                    exact ⟨ret_bool He.out.symm, HBv.out.trans ⟨rfl, rfl, rfl, Nat.le_refl _, fun _ _ => rfl⟩⟩
                  · have g1 : (x == v) = false := by simp [h1]
                    by_cases h2 : y = u
                    · have g2 : (y == u) = true := by simp [h2]
                      have He : Hid (pairingB fs ps n = false) := hid (Hbad.out (by unfold clashB; simp [h2]))
                      clear h0 h1 h2
                      go_wp2_with fail
                      refine wp_region_quiet_lit (by kernel_rfl) (by kernel_rfl) ?_
                      iterate 50 (with_reducible refine wpQuiet_step (fun K hK => ?_); have HK := hid hK; clear hK; go_simp; (first | with_reducible refine HK.out _ ?_ | (rw [if_neg (by decide)]; with_reducible refine HK.out _ ?_)); clear HK K)
                      with_reducible refine wpQuiet_nil ?_
                      intro _ hw'
                      obtain ⟨nq, hw''⟩ := hw'
                      subst hw''
                      go_wp2_with fail
                      go_ret
                      exact ⟨ret_bool He.out.symm, HBv.out.trans ⟨rfl, rfl, rfl, Nat.le_refl _, fun _ _ => rfl⟩⟩
                    · have g2 : (y == u) = false := by simp [h2]
                      by_cases h3 : y = v
                      · have g3 : (y == v) = true := by simp [h3]
                        have He : Hid (pairingB fs ps n = false) := hid (Hbad.out (by unfold clashB; simp [h3]))
                        clear h0 h1 h2 h3
                        go_wp2_with fail
                        refine wp_region_quiet_lit (by kernel_rfl) (by kernel_rfl) ?_
                        iterate 50 (with_reducible refine wpQuiet_step (fun K hK => ?_); have HK := hid hK; clear hK; go_simp; (first | with_reducible refine HK.out _ ?_ | (rw [if_neg (by decide)]; with_reducible refine HK.out _ ?_)); clear HK K)
                        with_reducible refine wpQuiet_nil ?_
                        intro _ hw'
                        obtain ⟨nq, hw''⟩ := hw'
                        subst hw''
                        go_wp2_with fail
                        go_ret
                        exact ⟨ret_bool He.out.symm, HBv.out.trans ⟨rfl, rfl, rfl, Nat.le_refl _, fun _ _ => rfl⟩⟩
                      · have g3 : (y == v) = false := by simp [h3]
                        have He : Hid (∀ t, t < i + 1 → clashB x y (at0 ps (t * 2)) (at0 ps (t * 2 + 1)) = false) := hid (fun t ht => by
                          by_cases hti : t < i
                          · exact Hcl.out t hti
                          · obtain rfl : t = i := by omega
                            rw [← HU.out, ← HV.out]; unfold clashB; simp only [decide_eq_false h0, decide_eq_false h1, decide_eq_false h2, decide_eq_false h3]; rfl)
                        clear h0 h1 h2 h3
                        go_wp2_with fail
                        refine wp_region_quiet_lit (by kernel_rfl) (by kernel_rfl) ?_
                        iterate 50 (with_reducible refine wpQuiet_step (fun K hK => ?_); have HK := hid hK; clear hK; go_simp; (first | with_reducible refine HK.out _ ?_ | (rw [if_neg (by decide)]; with_reducible refine HK.out _ ?_)); clear HK K)
                        with_reducible refine wpQuiet_nil ?_
                        intro _ hw'
                        obtain ⟨nq, hw''⟩ := hw'
                        subst hw''
                        go_wp2_with fail
                        go_roundw
                        case rel => exact ⟨i + 1, by omega, by go_num, He.out, HBx.out.trans ⟨rfl, rfl, rfl, Nat.le_refl _, fun _ _ => rfl⟩⟩
                        case measure => simp [intOf]; omega
              · obtain rfl : i = m + 1 := by omega
                go_wp2_with fail
                go_roundw
                case rel =>
                  refine ⟨m + 1 + 1, by omega, by go_num, fun i hi => ?_, HBx.out⟩
                  by_cases him : i < m + 1
                  · exact Hk.out i him
                  · obtain rfl : i = m + 1 := by omega
                    refine ⟨by rw [← HX.out, ← HY.out]; exact Hq.out, fun _ => ?_, fun j hj => ?_⟩
                    · rw [Nat.add_sub_cancel, ← HX.out, ← HY.out, ← HX'.out, ← HY'.out]; exact Hql.out
                    · rw [← HX.out, ← HY.out]; exact Hcl.out j hj
                case measure => simp [intOf]; omega
          · have hql' : lessP x' y' x y = false := by simpa using hql
            rw [hql'] at CL
            have He : Hid (pairingB fs ps n = false) := hid (pairingB_false (fun h => by have := (h (m + 1) hlt).2.1 (by omega); rw [Nat.add_sub_cancel, ← HX.out, ← HY.out, ← HX'.out, ← HY'.out, hql'] at this; cases this))
            clear hql hql'
            go_wp2_with fail
            refine wp_region_quiet_below (by kernel_rfl) (by kernel_rfl) ?_
            iterate 5 (with_reducible refine wpQuiet_step (fun K hK => ?_); have HK := hid hK; clear hK; go_simp; (first | with_reducible refine HK.out _ ?_ | (rw [if_neg (by decide)]; with_reducible refine HK.out _ ?_)); clear HK K)
            (with_reducible refine wpQuiet_step (fun K hK => ?_); have HK := hid hK; clear hK; go_simp; apply Exists.intro; with_reducible refine ⟨fun _ => ?_, HK.out _ ?_⟩; exact CP.out _ _; clear HK K)
            iterate 14 (with_reducible refine wpQuiet_step (fun K hK => ?_); have HK := hid hK; clear hK; go_simp; (first | with_reducible refine HK.out _ ?_ | (rw [if_neg (by decide)]; with_reducible refine HK.out _ ?_)); clear HK K)
            (with_reducible refine wpQuiet_step (fun K hK => ?_); have HK := hid hK; clear hK; go_simp; apply Exists.intro; with_reducible refine ⟨fun _ => ?_, HK.out _ ?_⟩; exact CL.out _ _; clear HK K)
            iterate 3 (with_reducible refine wpQuiet_step (fun K hK => ?_); have HK := hid hK; clear hK; go_simp; (first | with_reducible refine HK.out _ ?_ | (rw [if_neg (by decide)]; with_reducible refine HK.out _ ?_)); clear HK K)
            with_reducible refine wpQuiet_nil ?_
            intro _ hw'
            obtain ⟨⟨dq, osq⟩, hw''⟩ := hw'
            subst hw''
            go_wp2_with fail
            go_ret
            exact ⟨ret_bool He.out.symm, HBw.out.trans ((below_regrown wr dq osq).mono HBw.out.size)⟩
      · have hq' : pairB fs x y = false := by simpa using hq
        have He : Hid (pairingB fs ps n = false) := hid (pairingB_false (fun h => by have := (h k hlt).1; rw [← HX.out, ← HY.out, hq'] at this; cases this))
        rw [hq'] at CP
        clear hq hq' hc0 hc1 hc2 hc3
        go_wp2_with fail
        refine wp_region_quiet_below (by kernel_rfl) (by kernel_rfl) ?_
        iterate 5 (with_reducible refine wpQuiet_step (fun K hK => ?_); have HK := hid hK; clear hK; go_simp; (first | with_reducible refine HK.out _ ?_ | (rw [if_neg (by decide)]; with_reducible refine HK.out _ ?_)); clear HK K)
        (with_reducible refine wpQuiet_step (fun K hK => ?_); have HK := hid hK; clear hK; go_simp; apply Exists.intro; with_reducible refine ⟨fun _ => ?_, HK.out _ ?_⟩; exact CP.out _ _; clear HK K)
        iterate 18 (with_reducible refine wpQuiet_step (fun K hK => ?_); have HK := hid hK; clear hK; go_simp; (first | with_reducible refine HK.out _ ?_ | (rw [if_neg (by decide)]; with_reducible refine HK.out _ ?_)); clear HK K)
        with_reducible refine wpQuiet_nil ?_
        intro _ hw'
        obtain ⟨⟨dq, osq⟩, hw''⟩ := hw'
        subst hw''
        go_wp2_with fail
        go_ret
        exact ⟨ret_bool He.out.symm, HBw.out.trans ((below_regrown wr dq osq).mono HBw.out.size)⟩
    · obtain rfl : k = n := by omega
      have He : Hid (pairingB fs ps k = true) := hid (pairingB_true Hk.out)
      go_wp2
      go_ret
      exact ⟨ret_bool He.out.symm, HW0.out.trans (HB.out.mono (Nat.le_succ _))⟩

end Go.Proofs.Ytplcbiconfpmlaa

/-! slices.Contains on a list of int64. -/
namespace Go.Proofs.Ytplcbiconfpmlaa
open Go.RowKit

set_option maxRecDepth 100000 in
set_option maxHeartbeats 1000000 in
theorem index_any (a : Option Addr) (cap : Nat) (xs : List Int) (x : Int) (w : World) (hx : SlI w w.heap.size a xs) (hl : xs.length ≤ 1048576) :
    Calls Try.prog 179 #[.slice a xs.length cap, .int .i64 x] w fun e w' => ∃ i : Int, e = .returned (.int .i64 i) ∧ -1 ≤ i ∧ (0 ≤ i ↔ x ∈ xs) ∧ w = w' := by
  rcases hx with rfl | ⟨b, off, hb, rfl, hc⟩
  · go_enter Try.func179, Try.ntmps179
    go_wp2
    refine wp_loop_rounds 1 ?_; rw [rounds_succ]
    go_wp2
    go_ret
    exact ⟨-1, rfl, by decide, by simp, rfl⟩
  · have Hc := hid hc
    clear hc
    go_enter Try.func179, Try.ntmps179
    go_wp2
    go_loop [8] (fun i => ∃ k : Nat, k ≤ xs.length ∧ i = .int .i64 k ∧ Hid (x ∉ xs.take k)) (fun i => xs.length - (intOf i).toNat)
    case atStart => exact ⟨0, Nat.zero_le _, rfl, hid (by simp)⟩
    case round =>
      obtain ⟨k, hk, rfl, Hk⟩ := hrel
      by_cases hlt : k < xs.length
      · obtain ⟨y, hy⟩ : ∃ y, y = xs[k]?.getD 0 := ⟨_, rfl⟩
        have hck : w.cell? ⟨b, off + k, none⟩ = some (.int .i64 y) := by rw [hy]; exact Hc.out k hlt
        have Hy := hid hy
        have hi0 : (0 : Int) ≤ (k : Int) := by omega
        have hi1 : (k : Int) < (xs.length : Int) := by omega
        clear hy
        by_cases hxy : x = y
        · have hd : (x == y) = true := by simp [hxy]
          have He : Hid (x ∈ xs) := hid (by rw [hxy, Hy.out]; exact getD_mem hlt)
          clear hxy
          go_wp2
          go_ret
          exact ⟨k, rfl, by omega, ⟨fun _ => He.out, fun _ => by omega⟩, rfl⟩
        · have hd : (x == y) = false := by simp [hxy]
          have He : Hid (x ∉ xs.take (k + 1)) := hid (by
            rw [take_snoc hlt, ← Hy.out]
            intro h
            rcases List.mem_append.1 h with h | h
            · exact Hk.out h
            · simp at h; exact hxy h)
          clear hxy
          go_wp2
          go_round
          case rel => exact ⟨k + 1, by omega, by go_num, He.out⟩
          case measure => simp [intOf]; omega
      · have He : Hid (x ∉ xs) := hid (by have := Hk.out; rwa [List.take_of_length_le (by omega)] at this)
        go_wp2
        go_ret
        exact ⟨-1, rfl, by decide, ⟨fun h => absurd h (by decide), fun h => absurd h He.out⟩, rfl⟩

set_option maxRecDepth 100000 in
set_option maxHeartbeats 1000000 in
theorem contains_any (a : Option Addr) (cap : Nat) (xs : List Int) (x : Int) (w : World) (hx : SlI w w.heap.size a xs) (hl : xs.length ≤ 1048576) :
    Calls Try.prog 126 #[.slice a xs.length cap, .int .i64 x] w fun e w' => e = .returned (.bool (decide (x ∈ xs))) ∧ w = w' := by
  have HI := hid (index_any a cap xs x w hx hl)
  obtain ⟨c, hc⟩ : ∃ c, c = decide (x ∈ xs) := ⟨_, rfl⟩
  have Hc := hid hc
  rw [← hc]
  clear hc hx
  go_enter Try.func126, Try.ntmps126
  go_wp2_with fail
  refine HI.out.mono ?_
  rintro e w' ⟨i, rfl, h1, h2, rfl⟩
  have Hi := hid h2
  have H1 := hid h1
  clear h1 h2
  by_cases h0 : 0 ≤ i
  · have He : Hid (c = true) := hid (by rw [Hc.out]; exact decide_eq_true (Hi.out.1 h0))
    go_wp2_with fail
    go_ret
    exact ⟨ret_bool (by rw [He.out]), rfl⟩
  · have He : Hid (c = false) := hid (by rw [Hc.out]; exact decide_eq_false (fun h => h0 (Hi.out.2 h)))
    have hlt : i < 0 := by omega
    go_wp2_with fail
    go_ret
    exact ⟨ret_bool (by rw [He.out]; simp [hlt]), rfl⟩

end Go.Proofs.Ytplcbiconfpmlaa

/-! Lists of pairs: all pairs of a complex; maps whose keys are pairs. -/
namespace Go.Proofs.Ytplcbiconfpmlaa
open Go.RowKit

def flatP (L : List (Int × Int)) : List Int := L.flatMap fun p => [p.1, p.2]
theorem flatP_snoc (L : List (Int × Int)) (p : Int × Int) : flatP (L ++ [p]) = flatP L ++ [p.1, p.2] := by simp [flatP]
theorem flatP_len : ∀ L : List (Int × Int), (flatP L).length = 2 * L.length
  | [] => rfl
  | p :: L => by have := flatP_len L; unfold flatP at *; simp only [List.flatMap_cons, List.length_append, List.length_cons, List.length_nil]; omega
theorem flatP_at : ∀ (L : List (Int × Int)) (i : Nat), i < L.length → at0 (flatP L) (i * 2) = (L[i]?.getD (0, 0)).1 ∧ at0 (flatP L) (i * 2 + 1) = (L[i]?.getD (0, 0)).2
  | [], i, h => by simp at h
  | p :: L, 0, _ => by simp [flatP, at0]
  | p :: L, i + 1, h => by
    have ih := flatP_at L i (by simpa using h)
    have e : flatP (p :: L) = p.1 :: p.2 :: flatP L := by simp [flatP]
    have e1 : (i + 1) * 2 = i * 2 + 1 + 1 := by omega
    rw [e, e1]
    unfold at0 at *
    simpa using ih

/-- The pairs of a low face, over the first vertices. -/
def upS (fs : List Int) (x m : Nat) : List (Int × Int) := ((List.range m).filter fun v => decide (x ||| 2 ^ v ≠ x) && decide (((x ||| 2 ^ v : Nat) : Int) ∈ fs)).map fun v => ((x : Int), ((x ||| 2 ^ v : Nat) : Int))
theorem upS_succ (fs : List Int) (x m : Nat) (c : Bool) (h : (decide (x ||| 2 ^ m ≠ x) && decide (((x ||| 2 ^ m : Nat) : Int) ∈ fs)) = c) : upS fs x (m + 1) = upS fs x m ++ (if c then [((x : Int), ((x ||| 2 ^ m : Nat) : Int))] else []) := by
  unfold upS
  rw [List.range_succ, List.filter_append, List.map_append]
  cases c
  · rw [List.filter_cons, if_neg (by rw [h]; simp)]; simp
  · rw [List.filter_cons, if_pos h]; simp
theorem upS_len (fs : List Int) (x m : Nat) : (upS fs x m).length ≤ m := by
  unfold upS
  rw [List.length_map]
  exact Nat.le_trans (List.length_filter_le _ _) (by simp)

/-- All pairs whose low faces are among the first k faces. -/
def pairsL (fs : List Int) (V k : Nat) : List (Int × Int) := (fs.take k).flatMap fun x => upS fs x.toNat V
theorem pairsL_succ {fs : List Int} {V k : Nat} (hlt : k < fs.length) : pairsL fs V (k + 1) = pairsL fs V k ++ upS fs (fs[k]?.getD 0).toNat V := by
  unfold pairsL
  rw [take_snoc hlt, List.flatMap_append]
  simp
theorem pairsL_len (fs : List Int) (V : Nat) : ∀ k, k ≤ fs.length → (pairsL fs V k).length ≤ k * V
  | 0, _ => by simp [pairsL]
  | k + 1, h => by
    have h1 := pairsL_len fs V k (by omega)
    have h2 := upS_len fs (fs[k]?.getD 0).toNat V
    rw [pairsL_succ (by omega), List.length_append, Nat.add_mul]
    omega

theorem up_pair : ∀ x : Fin 64, ∀ v : Fin 6, x.val ||| 2 ^ v.val ≠ x.val → x.val &&& (x.val ||| 2 ^ v.val) = x.val ∧ ones (x.val ||| 2 ^ v.val) = ones x.val + 1 := by decide +kernel
theorem pair_up : ∀ x : Fin 64, ∀ y : Fin 64, x.val &&& y.val = x.val → ones y.val = ones x.val + 1 → ∃ v : Fin 6, x.val ||| 2 ^ v.val = y.val ∧ y.val ≠ x.val := by decide +kernel

theorem mem_pairsL {V : Int} {fs : List Int} (hC : IsC V fs) (x y : Int) : (x, y) ∈ pairsL fs V.toNat fs.length ↔ pairB fs x y = true := by
  have hr := hC.range63
  have hlo := hC.lo
  have hhi := hC.hi
  unfold pairsL upS pairB
  rw [List.take_of_length_le (Nat.le_refl _)]
  simp only [List.mem_flatMap, List.mem_map, List.mem_filter, List.mem_range, Bool.and_eq_true, decide_eq_true_eq, Prod.mk.injEq]
  constructor
  · rintro ⟨x0, hx0, v, ⟨hv, hne, hm⟩, rfl, rfl⟩
    have h0 := hr x0 hx0
    have hu := up_pair ⟨x0.toNat, by omega⟩ ⟨v, by omega⟩ hne
    rw [Int.toNat_of_nonneg (by omega)]
    simp only [Int.toNat_natCast]
    exact ⟨⟨⟨hx0, hm⟩, hu.1⟩, hu.2⟩
  · rintro ⟨⟨⟨hx, hy⟩, hb⟩, ho⟩
    have h0 := hr x hx
    have h1 := hr y hy
    obtain ⟨v, hv, hne⟩ := pair_up ⟨x.toNat, by omega⟩ ⟨y.toNat, by omega⟩ hb ho
    simp only at hv hne
    have hyr := (hC.range y hy).2
    have hle : 2 ^ v.val ≤ y.toNat := by rw [← hv]; exact Nat.right_le_or
    refine ⟨x, hx, v.val, ⟨?_, by rw [hv]; exact hne, by rw [hv, Int.toNat_of_nonneg (by omega)]; exact hy⟩, Int.toNat_of_nonneg (by omega), by rw [hv, Int.toNat_of_nonneg (by omega)]⟩
    rcases Nat.lt_or_ge v.val V.toNat with h | h
    · exact h
    · exfalso
      have hp := Nat.pow_le_pow_right (n := 2) (by decide) h
      unfold allV at hyr
      have e : ((2 : Int) ^ V.toNat) = ((2 ^ V.toNat : Nat) : Int) := by simp
      rw [e] at hyr
      generalize (2 : Nat) ^ V.toNat = q at *
      generalize (2 : Nat) ^ v.val = q' at *
      omega

/-! ### maps whose keys are pairs -/

theorem arrP : Go.WideMaps.ArrKey Try.prog 49 2 2 := ⟨Try.underlying49, by kernel_rfl, by kernel_rfl, by kernel_rfl⟩
theorem keyedP : Maps.Keyed Try.prog 49 := Maps.Keyed.of_law arrP.law
def keyP (p : Int × Int) : Lit := .string (keyBytes [.int .i64 p.1, .int .i64 p.2])
def wfP (p : Int × Int) : Prop := (Lit.int .i64 p.1).wf = true ∧ (Lit.int .i64 p.2).wf = true
theorem keyOfP {p : Int × Int} (h : wfP p) : keyOf Try.prog 49 (.agg #[.int .i64 p.1, .int .i64 p.2]) = some (keyP p) :=
  Go.WideMaps.keyOf_pair arrP Try.underlying2 ⟨Try.prog.types.size - 1, by kernel_rfl⟩ h.1 h.2
theorem keyP_inj {p q : Int × Int} (hp : wfP p) (hq : wfP q) (h : keyP p = keyP q) : p = q := by
  have := keyedP.inj (keyOfP hp) (by rw [h]; exact keyOfP hq)
  simp only [Value.agg.injEq, Array.mk.injEq, List.cons.injEq, Value.int.injEq, true_and, and_true] at this
  exact Prod.ext this.1 this.2

def pknFrom (D : DataW Unit) (pre : List (Int × Int)) : DataW Unit := pre.foldl (fun D p => D.put (keyP p) (.lit (.bool true))) D
def pknD (pre : List (Int × Int)) : DataW Unit := pknFrom (.map []) pre
theorem pknD_snoc (pre : List (Int × Int)) (p : Int × Int) : pknD (pre ++ [p]) = (pknD pre).put (keyP p) (.lit (.bool true)) := by simp [pknD, pknFrom]
theorem isKey_keyP (p : Int × Int) (h : wfP p) : WideAt.IsKeyLit (keyP p) := keyedP.key (keyOfP h)
theorem pknFrom_at (p : Int × Int) (hp : wfP p) : ∀ (pre : List (Int × Int)) (D : DataW Unit), (∀ q ∈ pre, wfP q) → Maps.IsMap D → (pknFrom D pre).atKey (keyP p) (.lit (.bool false)) = if p ∈ pre then .lit (.bool true) else D.atKey (keyP p) (.lit (.bool false))
  | [], D, _, _ => by simp [pknFrom]
  | x :: pre, D, hw, hD => by
    have ih := pknFrom_at p hp pre (D.put (keyP x) (.lit (.bool true))) (fun q hq => hw q (by simp [hq])) (hD.put _ _)
    have e : pknFrom D (x :: pre) = pknFrom (D.put (keyP x) (.lit (.bool true))) pre := rfl
    rw [e, ih]
    by_cases hm : p ∈ pre
    · simp [hm]
    · by_cases hx : p = x
      · subst hx
        rw [if_neg hm, if_pos (by simp), Maps.atKey_put_same hD (isKey_keyP p hp)]
      · rw [if_neg hm, if_neg (by simp [hm, hx]), Maps.atKey_put_other (fun e => hx (keyP_inj hp (hw x (by simp)) e))]

theorem pknD_at (p : Int × Int) (hp : wfP p) (pre : List (Int × Int)) (hw : ∀ q ∈ pre, wfP q) : (pknD pre).atKey (keyP p) (.lit (.bool false)) = .lit (.bool (decide (p ∈ pre))) := by
  unfold pknD
  rw [pknFrom_at p hp pre _ hw Maps.isMap_empty]
  by_cases h : p ∈ pre
  · simp [h]
  · simp [h]
    rfl

/-- The map of pairs. -/
def MapP (w' : World) (b n : Nat) (L : List (Int × Int)) : Prop := w'.ownsMap Try.prog 49 (plainElem (H := Unit) Try.prog 4) b n (pknD L)

theorem MapP.later {w w' : World} {b n : Nat} {L : List (Int × Int)} (h : MapP w b n L) (hB : Below w.heap.size w w') : MapP w' b n L :=
  World.ownsMap.kept h (row := none) ⟨hB.os, hB.tape, hB.output, hB.size, fun k hk _ => hB.block k hk⟩ (by simp)

theorem lookup_pair {w : World} {b n : Nat} {L : List (Int × Int)} (hown : MapP w b n L) (hw : ∀ q ∈ L, wfP q) {p : Int × Int} (hp : wfP p) :
    (Instr.lookup 82 (.map (some b)) (.agg #[.int .i64 p.1, .int .i64 p.2]) false).run Try.prog w = .ok (.bool (decide (p ∈ L))) w := by
  obtain ⟨v, ps, hrun, hv⟩ := World.ownsMap.lookup hown keyedP Try.underlying82 (zero_bool w) (plainElem_bool Try.underlying4 false) (keyOfP hp)
  rw [pknD_at p hp L hw] at hv
  rw [bool_inv hv] at hrun
  exact hrun

end Go.Proofs.Ytplcbiconfpmlaa

/-! Contracts of the laws' small helpers: sizes, copies, comparisons. -/
namespace Go.Proofs.Ytplcbiconfpmlaa
open Go.RowKit

theorem fill_step {xs : List Int} {k : Nat} (h : k < xs.length) :
    ((xs.take k ++ List.replicate (xs.length - k) (0 : Int)).map (Value.int .i64)).set k (.int .i64 (xs[k]?.getD 0)) = (xs.take (k + 1) ++ List.replicate (xs.length - (k + 1)) (0 : Int)).map (Value.int .i64) := by
  rw [take_snoc h, ← List.map_set]
  congr 1
  have e : xs.length - k = (xs.length - (k + 1)) + 1 := by omega
  rw [e, List.replicate_succ, List.set_append_right _ _ (by simp <;> omega)]
  simp [Nat.min_eq_left (Nat.le_of_lt h)]

set_option maxHeartbeats 400000 in
theorem toInts (a : Option Addr) (cap : Nat) (xs : List Int) (w : World) (hx : SlI w w.heap.size a xs) (hl : xs.length ≤ 1048576) :
    Calls Try.prog 18 #[.slice a xs.length cap] w fun e w' =>
      e = .returned (.slice (some ⟨w.heap.size, 0, none⟩) xs.length xs.length) ∧ w'.ownsRow w.heap.size 2 1 (.slice (some ⟨w.heap.size, 0, none⟩) xs.length xs.length) xs.length (xs.map (Value.int .i64)) ∧ Below w.heap.size w w' := by
  go_enter Try.func18, Try.ntmps18
  go_wp2_with (at_make; refine make_int rfl rfl rfl rfl (by omega) ?_; intro w1 hown hg hB)
  rcases hx with rfl | ⟨b, off, hb, rfl, hc⟩
  · refine wp_loop_rounds 1 ?_; rw [rounds_succ]
    go_wp2
    go_ret
    exact ⟨rfl, hown, hB⟩
  · go_loopw [4] (fun i wr => ∃ k : Nat, k ≤ xs.length ∧ i = .int .i64 k ∧ wr.ownsRow w.heap.size 2 1 (.slice (some ⟨w.heap.size, 0, none⟩) xs.length xs.length) xs.length ((xs.take k ++ List.replicate (xs.length - k) (0 : Int)).map (Value.int .i64)) ∧ Below w.heap.size w wr) (fun i _ => xs.length - (intOf i).toNat)
    case atStart => exact ⟨0, Nat.zero_le _, rfl, by simpa using hown, hB⟩
    case round =>
      obtain ⟨k, hk, rfl, hown, hB⟩ := hrel
      by_cases hlt : k < xs.length
      · obtain ⟨x, hx⟩ : ∃ x, x = xs[k]?.getD 0 := ⟨_, rfl⟩
        have hck : wr.cell? ⟨b, off + k, none⟩ = some (.int .i64 x) := by rw [hx]; exact (hB.cell (p := ⟨b, off + k, none⟩) hb).trans (hc k hlt)
        have hcg : wr.cell? ⟨w.heap.size, k, none⟩ = some (.int .i64 0) := by
          rw [hown.cellAt k (by omega)]
          rw [List.getElem?_map, List.getElem?_append_right (by simp <;> omega)]
          simp [List.getElem?_replicate, Nat.min_eq_left hk]
          omega
        have hfg := hown.frozenAt k
        have Hx := hid hx
        have Hc := hid hc
        clear hx hc
        have hst := hown.stored k (.int .i64 x)
        have Hst := hid hst.1
        clear hst
        go_wp2
        go_roundw
        case rel =>
          refine ⟨k + 1, by omega, by go_num, ?_, hB.setCell (p := ⟨w.heap.size, k, none⟩) (Nat.le_refl _) _⟩
          have h := Hst.out
          rw [Hx.out, fill_step hlt, ← Hx.out] at h
          exact h
        case measure => simp [intOf]; omega
      · go_wp2
        go_ret
        obtain rfl : k = xs.length := by omega
        exact ⟨rfl, by simpa using hown, hB⟩

/-- What is left of a size. -/
def szR (left : Int) (n : Nat) : Int := if left < n then -1 else left - n
theorem szR_big {left : Int} {n : Nat} (h : left < n) : szR left n = -1 := by unfold szR; rw [if_pos h]
theorem szR_fit {left : Int} {n : Nat} (h : ¬ left < n) : szR left n = left - n := by unfold szR; rw [if_neg h]

set_option maxHeartbeats 400000 in
theorem szInts (a : Option Addr) (n cap : Nat) (left : Int) (w : World) (h1 : 0 ≤ left) (h2 : left ≤ 1048576) (hn : n ≤ 9223372036854775807) :
    Calls Try.prog 54 #[.slice a n cap, .int .i64 left] w fun e w' => e = .returned (.int .i64 (szR left n)) ∧ w = w' := by
  by_cases h : left < n
  · have H := hid (szR_big h)
    go_enter Try.func54, Try.ntmps54
    go_wp2
    go_ret
    exact ⟨ret_int (by rw [H.out]), rfl⟩
  · have H := hid (szR_fit h)
    go_enter Try.func54, Try.ntmps54
    go_wp2
    go_ret
    exact ⟨ret_int (by rw [H.out]), rfl⟩

set_option maxHeartbeats 400000 in
theorem szCx (V : Int) (a : Option Addr) (n cap : Nat) (left : Int) (w : World) (h1 : 0 ≤ left) (h2 : left ≤ 1048576) (hn : n ≤ 9223372036854775807) :
    Calls Try.prog 15 #[.agg #[.int .i64 V, .slice a n cap], .int .i64 left] w fun e w' => e = .returned (.int .i64 (szR left n)) ∧ Below w.heap.size w w' := by
  have hr : szR left n = -1 ∨ 0 ≤ szR left n := by
    by_cases h : left < n
    · exact .inl (szR_big h)
    · rw [szR_fit h]; right; omega
  have hr' : szR left n < 0 ∨ 0 ≤ szR left n := by omega
  have hm : szR left n < 0 → szR left n = -1 := by omega
  have Hm := hid hm
  clear hr hm
  obtain ⟨r, hr0⟩ : ∃ r, r = szR left n := ⟨_, rfl⟩
  rw [← hr0] at hr'
  have hr := hr'
  have H := hid hr0
  clear hr0 hr'
  go_enter Try.func15, Try.ntmps15
  go_wp2_with fail
  refine (szInts a n cap left _ h1 h2 hn).mono ?_
  rintro e w' ⟨rfl, rfl⟩
  rw [← H.out]
  rcases hr with hr | hr
  · go_wp2
    go_ret
    exact ⟨ret_int (Hm.out (by rw [← H.out]; exact hr)).symm, (Below.refl _ w).alloc (Nat.le_refl _) _⟩
  · go_wp2
    go_ret
    exact ⟨ret_int H.out, (Below.refl _ w).alloc (Nat.le_refl _) _⟩

set_option maxHeartbeats 400000 in
theorem toCx (V : Int) (a : Option Addr) (cap : Nat) (xs : List Int) (w : World) (hx : SlI w w.heap.size a xs) (hl : xs.length ≤ 1048576) :
    Calls Try.prog 17 #[.agg #[.int .i64 V, .slice a xs.length cap]] w fun e w' =>
      ∃ g, e = .returned (.agg #[.int .i64 V, .slice (some ⟨g, 0, none⟩) xs.length xs.length]) ∧ w'.ownsRow w.heap.size 2 1 (.slice (some ⟨g, 0, none⟩) xs.length xs.length) xs.length (xs.map (Value.int .i64)) ∧ Below w.heap.size w w' := by
  go_enter Try.func17, Try.ntmps17
  go_wp2_with fail
  refine (toInts a cap xs _ (SlI.later hx (?hb : Below w.heap.size w _) ?hs) hl).mono ?_
  case hb => repeat (first | exact Below.refl _ _ | refine Below.alloc ?_ (by simp <;> omega) _ | refine Below.setCell ?_ (by simp <;> omega) _)
  case hs => simp <;> omega
  rintro e w1 ⟨rfl, hown, hB⟩
  have hB1 : Below w.heap.size w w1 := Below.trans (by repeat (first | exact Below.refl _ _ | refine Below.alloc ?_ (by simp <;> omega) _ | refine Below.setCell ?_ (by simp <;> omega) _)) (hB.mono (by simp <;> omega))
  have e0 : w1.cell? ⟨w.heap.size + 1 + 1, 0, none⟩ = some (.int .i64 V) := (hB.cell (p := ⟨w.heap.size + 1 + 1, 0, none⟩) (by simp)).trans (by simp [go_sem])
  have e1 : w1.cell? ⟨w.heap.size + 1 + 1, 1, none⟩ = some (.slice none 0 0) := (hB.cell (p := ⟨w.heap.size + 1 + 1, 1, none⟩) (by simp)).trans (by simp [go_sem])
  have e2 : w1.cell? ⟨w.heap.size + 1, 0, none⟩ = some (.int .i64 0) := (hB.cell (p := ⟨w.heap.size + 1, 0, none⟩) (by simp)).trans (by simp [go_sem])
  have e3 : w1.cell? ⟨w.heap.size + 1, 1, none⟩ = some (.slice none 0 0) := (hB.cell (p := ⟨w.heap.size + 1, 1, none⟩) (by simp)).trans (by simp [go_sem])
  have g1 : w1.frozen? ⟨w.heap.size + 1 + 1, 1, none⟩ = false := (hB.frozen (p := ⟨w.heap.size + 1 + 1, 1, none⟩) (by simp)).trans (by simp [go_sem])
  have g2 : w1.frozen? ⟨w.heap.size + 1, 0, none⟩ = false := (hB.frozen (p := ⟨w.heap.size + 1, 0, none⟩) (by simp)).trans (by simp [go_sem])
  have g3 : w1.frozen? ⟨w.heap.size + 1, 1, none⟩ = false := (hB.frozen (p := ⟨w.heap.size + 1, 1, none⟩) (by simp)).trans (by simp [go_sem])
  have hs1 := hB.size
  simp at hs1
  have Hown := hid (hown)
  clear hown
  go_wp2_with fail
  refine bodyPost_ret (v := .agg #[.int .i64 V, .slice (some ⟨w.heap.size + 1 + 1 + 1, 0, none⟩) xs.length xs.length]) (by simp [results, Try.results17, go_sem, e2, e3]) rfl ⟨w.heap.size + 1 + 1 + 1, rfl, ?_, ?_⟩
  · have h := Hown.out
    simp only [World.size_alloc] at h
    refine ownsRow_set (ownsRow_set (ownsRow_set (ownsRow_base h (by omega)) ?_ _) ?_ _) ?_ _ <;> (simp [Value.ownBlock] <;> omega)
  · exact ((hB1.setCell (by simp; omega) _).setCell (by simp) _).setCell (by simp) _

set_option maxHeartbeats 400000 in
theorem eqInts_any (a1 a2 : Option Addr) (c1 c2 : Nat) (xs ys : List Int) (w : World) (hx : SlI w w.heap.size a1 xs) (hy : SlI w w.heap.size a2 ys) (hl : xs.length ≤ 1048576) (hl2 : ys.length ≤ 1048576) :
    Calls Try.prog 20 #[.slice a1 xs.length c1, .slice a2 ys.length c2] w fun e w' => e = .returned (.bool (decide (xs = ys))) ∧ Below w.heap.size w w' := by
  by_cases hlen : xs.length = ys.length
  · rcases hx with rfl | ⟨b, off, hb, rfl, hc⟩
    · obtain rfl : ys = [] := List.eq_nil_of_length_eq_zero hlen.symm
      go_enter Try.func20, Try.ntmps20
      go_wp2
      refine wp_loop_rounds 1 ?_; rw [rounds_succ]
      go_wp2
      go_ret
      exact ⟨ret_bool (by simp), Below.refl _ _⟩
    · rcases hy with rfl | ⟨b2, off2, hb2, rfl, hc2⟩
      · obtain rfl : xs = [] := List.eq_nil_of_length_eq_zero hlen
        go_enter Try.func20, Try.ntmps20
        go_wp2
        refine wp_loop_rounds 1 ?_; rw [rounds_succ]
        go_wp2
        go_ret
        exact ⟨ret_bool (by simp), Below.refl _ _⟩
      · have Hc := hid hc
        have Hc2 := hid hc2
        have hne : ((xs.length : Int) != (ys.length : Int)) = false := by simp [hlen]
        have Hlen := hid hlen
        have hle : xs.length ≤ ys.length := by omega
        clear hc hc2 hlen
        go_enter Try.func20, Try.ntmps20
        go_wp2
        go_loopw [5] (fun i wr => ∃ k : Nat, k ≤ xs.length ∧ i = .int .i64 k ∧ Hid (∀ j, j < k → xs[j]?.getD 0 = ys[j]?.getD 0) ∧ Below w.heap.size w wr) (fun i _ => xs.length - (intOf i).toNat)
        case atStart => exact ⟨0, Nat.zero_le _, rfl, hid (by omega), Below.refl _ _⟩
        case round =>
          obtain ⟨k, hk, rfl, Hk, hB⟩ := hrel
          by_cases hlt : k < xs.length
          · obtain ⟨x, hx⟩ : ∃ x, x = xs[k]?.getD 0 := ⟨_, rfl⟩
            obtain ⟨y, hy⟩ : ∃ y, y = ys[k]?.getD 0 := ⟨_, rfl⟩
            have hck : wr.cell? ⟨b, off + k, none⟩ = some (.int .i64 x) := by rw [hx]; exact (hB.cell (p := ⟨b, off + k, none⟩) hb).trans (Hc.out k hlt)
            have hck2 : wr.cell? ⟨b2, off2 + k, none⟩ = some (.int .i64 y) := by rw [hy]; exact (hB.cell (p := ⟨b2, off2 + k, none⟩) hb2).trans (Hc2.out k (by omega))
            have Hx := hid hx
            have Hy := hid hy
            clear hx hy
            have hi0 : (0 : Int) ≤ (k : Int) := by omega
            have hi1 : (k : Int) < (xs.length : Int) := by omega
            have hi2 : (k : Int) < (ys.length : Int) := by omega
            by_cases hxy : x = y
            · have hd : (x != y) = false := by simp [hxy]
              have Hxy := hid hxy
              clear hxy
              go_wp2_with fail
              go_quiet (fail)
              go_wp2_with fail
              go_roundw
              case rel =>
                refine ⟨k + 1, by omega, by go_num, hid (fun j hj => ?_), hB.trans ⟨rfl, rfl, rfl, Nat.le_refl _, fun _ _ => rfl⟩⟩
                by_cases hjk : j < k
                · exact Hk.out j hjk
                · obtain rfl : j = k := by omega
                  rw [← Hx.out, ← Hy.out, Hxy.out]
              case measure => simp [intOf]; omega
            · have hd : (x != y) = true := by simp [hxy]
              go_wp2_with fail
              go_quiet (fail)
              go_wp2_with fail
              go_ret
              refine ⟨ret_bool ?_, hB.trans ⟨rfl, rfl, rfl, Nat.le_refl _, fun _ _ => rfl⟩⟩
              symm
              refine decide_eq_false (fun h => hxy ?_)
              rw [Hx.out, Hy.out, h]
          · obtain rfl : k = xs.length := by omega
            go_wp2
            go_ret
            refine ⟨ret_bool ?_, hB⟩
            symm
            refine decide_eq_true (List.ext_getElem Hlen.out (fun j h1 h2 => ?_))
            have := Hk.out j h1
            rw [List.getElem?_eq_getElem h1, List.getElem?_eq_getElem h2] at this
            simpa using this
  · have hne : ((xs.length : Int) != (ys.length : Int)) = true := by simp; omega
    have Hlen := hid hlen
    clear hlen
    go_enter Try.func20, Try.ntmps20
    go_wp2
    go_ret
    refine ⟨ret_bool ?_, Below.refl _ _⟩
    symm
    exact decide_eq_false (fun h => Hlen.out (by rw [h]))

theorem eqInts_yes (a1 a2 : Option Addr) (c1 c2 : Nat) (xs ys : List Int) (w : World) (hx : SlI w w.heap.size a1 xs) (hy : SlI w w.heap.size a2 ys) (hl : xs.length ≤ 1048576) (hl2 : ys.length ≤ 1048576) (h : xs = ys) :
    Calls Try.prog 20 #[.slice a1 xs.length c1, .slice a2 ys.length c2] w fun e w' => e = .returned (.bool true) ∧ Below w.heap.size w w' :=
  (eqInts_any a1 a2 c1 c2 xs ys w hx hy hl hl2).mono fun _ _ ⟨he, hw⟩ => ⟨by rw [he, decide_eq_true h], hw⟩

theorem eqInts_no (a1 a2 : Option Addr) (c1 c2 : Nat) (xs ys : List Int) (w : World) (hx : SlI w w.heap.size a1 xs) (hy : SlI w w.heap.size a2 ys) (hl : xs.length ≤ 1048576) (hl2 : ys.length ≤ 1048576) (h : ¬ xs = ys) :
    Calls Try.prog 20 #[.slice a1 xs.length c1, .slice a2 ys.length c2] w fun e w' => e = .returned (.bool false) ∧ Below w.heap.size w w' :=
  (eqInts_any a1 a2 c1 c2 xs ys w hx hy hl hl2).mono fun _ _ ⟨he, hw⟩ => ⟨by rw [he, decide_eq_false h], hw⟩

set_option maxHeartbeats 400000 in
theorem eqCx_yes (V : Int) (a1 a2 : Option Addr) (c1 c2 : Nat) (xs ys : List Int) (w : World) (hx : SlI w w.heap.size a1 xs) (hy : SlI w w.heap.size a2 ys) (hl : xs.length ≤ 1048576) (hl2 : ys.length ≤ 1048576) (h : xs = ys) :
    Calls Try.prog 21 #[.agg #[.int .i64 V, .slice a1 xs.length c1], .agg #[.int .i64 V, .slice a2 ys.length c2]] w fun e w' => e = .returned (.bool true) ∧ Below w.heap.size w w' := by
  have H := hid h
  clear h
  have hne : (V != V) = false := by simp
  go_enter Try.func21, Try.ntmps21
  go_wp2_with fail
  have hB : Below w.heap.size w ((w.alloc (.cells #[.int .i64 V, .slice a1 xs.length c1] 28)).alloc (.cells #[.int .i64 V, .slice a2 ys.length c2] 28)) := ((Below.refl _ w).alloc (Nat.le_refl _) _).alloc (by simp) _
  refine (eqInts_yes a1 a2 c1 c2 xs ys _ (SlI.later hx hB (by simp <;> omega)) (SlI.later hy hB (by simp <;> omega)) hl hl2 H.out).mono ?_
  rintro e w' ⟨rfl, hb⟩
  go_wp2_with fail
  go_ret
  exact ⟨rfl, hB.trans (hb.mono (by simp <;> omega))⟩

end Go.Proofs.Ytplcbiconfpmlaa

/-! Marks: what the laws write into results, and find again. -/
namespace Go.Proofs.Ytplcbiconfpmlaa
open Go.RowKit

/-- k, k + 1, .. -/
def count (k : Int) : Nat → List Int
  | 0 => []
  | n + 1 => count k n ++ [k + n]

theorem count_len (k : Int) : ∀ n, (count k n).length = n
  | 0 => rfl
  | n + 1 => by simp [count, count_len k n]

theorem count_get (k : Int) : ∀ n i, i < n → (count k n)[i]?.getD 0 = k + i
  | 0, i, h => by omega
  | n + 1, i, h => by
    unfold count
    by_cases hi : i < n
    · rw [List.getElem?_append_left (by rw [count_len]; exact hi)]
      exact count_get k n i hi
    · obtain rfl : i = n := by omega
      rw [List.getElem?_append_right (by rw [count_len]; omega), count_len]
      simp

theorem mark_step {k : Int} {xs : List Int} {j : Nat} (h : j < xs.length) :
    ((count k j ++ xs.drop j).map (Value.int .i64)).set j (.int .i64 (k + j)) = (count k (j + 1) ++ xs.drop (j + 1)).map (Value.int .i64) := by
  rw [← List.map_set]
  congr 1
  rw [List.set_append_right _ _ (by rw [count_len]; exact Nat.le_refl _), count_len, Nat.sub_self]
  rw [List.drop_eq_getElem_cons h, List.set_cons_zero]
  simp [count]

set_option maxHeartbeats 400000 in
theorem markInts (base : Nat) (a : Option Addr) (cap : Nat) (xs : List Int) (k : Int) (w : World) (hown : w.ownsRow base 2 1 (.slice a xs.length cap) xs.length (xs.map (Value.int .i64))) (hl : xs.length ≤ 1048576) (h0 : 0 ≤ k) (h1 : k ≤ 1099511627776) :
    Calls Try.prog 23 #[.slice a xs.length cap, .int .i64 k] w fun e w' => e = .returned (.int .i64 (k + xs.length)) ∧
      w'.ownsRow base 2 1 (.slice a xs.length cap) xs.length ((count k xs.length).map (Value.int .i64)) ∧ w.grownBy w' (Value.ownBlock (.slice a xs.length cap)) := by
  rcases hown.2 with ⟨hv, hn⟩ | ⟨g, cap', cur, hv, hb, hg, rest⟩
  · obtain rfl : xs = [] := List.eq_nil_of_length_eq_zero hn
    have Hown := hid hown
    clear hown hv hn
    go_enter Try.func23, Try.ntmps23
    go_wp2
    refine wp_loop_rounds 1 ?_; rw [rounds_succ]
    go_wp2
    go_ret
    exact ⟨ret_int (by simp), Hown.out, ⟨rfl, rfl, rfl, Nat.le_refl _, fun _ _ _ => rfl⟩⟩
  · cases hv
    have Hg := hid (And.intro hb hg)
    clear hb hg rest
    go_enter Try.func23, Try.ntmps23
    go_wp2
    go_loopw [1, 5] (fun m i wr => ∃ j : Nat, j ≤ xs.length ∧ i = .int .i64 j ∧ m = .int .i64 (k + j) ∧ wr.ownsRow base 2 1 (.slice (some ⟨g, 0, none⟩) xs.length cap) xs.length ((count k j ++ xs.drop j).map (Value.int .i64)) ∧ w.grownBy wr (some g)) (fun _ i _ => xs.length - (intOf i).toNat)
    case atStart => exact ⟨0, Nat.zero_le _, rfl, by simp, by simpa [count] using hown, ⟨rfl, rfl, rfl, Nat.le_refl _, fun _ _ _ => rfl⟩⟩
    case round =>
      obtain ⟨j, hj, rfl, rfl, hown, hgr⟩ := hrel
      by_cases hlt : j < xs.length
      · have hcg : ∃ u, wr.cell? ⟨g, j, none⟩ = some (.int .i64 u) := by
          rw [hown.cellAt j (by omega)]
          refine ⟨xs[j]?.getD 0, ?_⟩
          rw [List.getElem?_map, List.getElem?_append_right (by rw [count_len]; exact Nat.le_refl _), count_len, Nat.sub_self]
          simp [hlt]
        obtain ⟨u, hcu⟩ := hcg
        have hfg := hown.frozenAt j
        have hst := hown.stored j (.int .i64 (k + j))
        rw [mark_step hlt] at hst
        have Hst := hid hst
        have Hgr := hid hgr
        clear hst hown hgr
        go_wp2
        go_roundw
        case rel =>
          exact ⟨j + 1, by omega, by go_num, by go_num, Hst.out.1, Hgr.out.trans Hst.out.2⟩
        case measure => simp [intOf]; omega
      · go_wp2
        go_ret
        obtain rfl : j = xs.length := by omega
        exact ⟨rfl, by simpa using hown, hgr⟩

set_option maxHeartbeats 400000 in
theorem heldInts (a : Option Addr) (cap : Nat) (n : Nat) (xs : List Int) (k : Int) (w : World) (hxs : xs = count k n) (hx : SlI w w.heap.size a xs) (hl : n ≤ 1048576) (h0 : 0 ≤ k) (h1 : k ≤ 1099511627776) :
    Calls Try.prog 24 #[.slice a n cap, .int .i64 k] w fun e w' => e = .returned (.int .i64 (k + n)) ∧ Below w.heap.size w w' := by
  have hlen : xs.length = n := by rw [hxs, count_len]
  rcases hx with rfl | ⟨b, off, hb, rfl, hc⟩
  · obtain rfl : n = 0 := by simpa using hlen.symm
    clear hxs hlen
    go_enter Try.func24, Try.ntmps24
    go_wp2
    refine wp_loop_rounds 1 ?_; rw [rounds_succ]
    go_wp2
    go_ret
    exact ⟨ret_int (by simp), Below.refl _ _⟩
  · have Hc := hid hc
    have Hxs := hid hxs
    have Hlen := hid hlen
    clear hc hxs hlen
    go_enter Try.func24, Try.ntmps24
    go_wp2
    go_loop [1, 5] (fun m i => ∃ j : Nat, j ≤ n ∧ i = .int .i64 j ∧ m = .int .i64 (k + j)) (fun _ i => n - (intOf i).toNat)
    case atStart => exact ⟨0, Nat.zero_le _, rfl, by simp⟩
    case round =>
      obtain ⟨j, hj, rfl, rfl⟩ := hrel
      by_cases hlt : j < n
      · have hck : w.cell? ⟨b, off + j, none⟩ = some (.int .i64 (k + j)) := by
          have := Hc.out j (by rw [Hlen.out]; exact hlt)
          rw [Hxs.out, count_get _ _ _ hlt] at this
          exact this
        go_wp2
        go_round
        case rel => exact ⟨j + 1, by omega, by go_num, by go_num⟩
        case measure => simp [intOf]; omega
      · go_wp2
        go_ret
        obtain rfl : j = n := by omega
        exact ⟨rfl, Below.refl _ _⟩

/-! ### What a law keeps of the world: slices of its own, in the order in which they were made, and blocks -/

/-- A slice of int64 that lies in blocks from lo to hi. -/
structure Sl where
  lo : Nat
  hi : Nat
  v : Value
  xs : List Int

structure OwnI (w : World) (p : Sl) : Prop where
  own : w.ownsRow p.lo 2 1 p.v p.xs.length (p.xs.map (Value.int .i64))
  lt : ∀ g, p.v.ownBlock = some g → g < p.hi
  le : p.hi ≤ w.heap.size

structure Facts (w0 : World) (w : World) (A : List (Option Addr × List Int)) (bs : List (Nat × Obj)) (L : List Sl) : Prop where
  from0 : Below w0.heap.size w0 w
  args : ∀ q ∈ A, SlI w w0.heap.size q.1 q.2
  blocks : ∀ b ∈ bs, w.heap[b.1]? = some b.2
  slices : ∀ p ∈ L, OwnI w p

section
variable {w0 w w' : World} {A : List (Option Addr × List Int)} {bs : List (Nat × Obj)} {L : List Sl}

theorem Facts.ge (h : Facts w0 w A bs L) : w0.heap.size ≤ w.heap.size := h.from0.size

theorem Facts.below (h : Facts w0 w A bs L) (hb : Below w.heap.size w w') : Facts w0 w' A bs L where
  from0 := h.from0.trans (hb.mono h.ge)
  args := fun q hq => (h.args q hq).below (hb.mono h.ge)
  blocks := fun b hbm => (hb.block b.1 (Array.getElem?_eq_some_iff.1 (h.blocks b hbm)).1).trans (h.blocks b hbm)
  slices := fun p hp => ⟨ownsRow_below (h.slices p hp).own hb (fun g hg => Nat.lt_of_lt_of_le ((h.slices p hp).lt g hg) (h.slices p hp).le), (h.slices p hp).lt, Nat.le_trans (h.slices p hp).le hb.size⟩

theorem Facts.drew (h : Facts w0 w A bs L) : Facts w0 w.drew A bs L := h.below (Below.refl _ _).drew

theorem Facts.arg (h : Facts w0 w A bs L) {q : Option Addr × List Int} (hq : q ∈ A) : SlI w w.heap.size q.1 q.2 := (h.args q hq).mono h.ge

/-- A new block. -/
theorem Facts.alloc (h : Facts w0 w A bs L) (o : Obj) : Facts w0 (w.alloc o) A ((w.heap.size, o) :: bs) L where
  from0 := h.from0.alloc h.ge o
  args := fun q hq => (h.args q hq).below ((Below.refl _ w).alloc h.ge _)
  blocks := fun b hb => by
    rcases List.mem_cons.1 hb with rfl | hb
    · exact heap_alloc_new w o
    · exact (Below.heap_alloc w o _ (Array.getElem?_eq_some_iff.1 (h.blocks b hb)).1).trans (h.blocks b hb)
  slices := fun p hp => ⟨(h.slices p hp).own.alloc o, (h.slices p hp).lt, by have := (h.slices p hp).le; simp; omega⟩

/-- A new slice, out of a call. -/
theorem Facts.slice (h : Facts w0 w A bs L) {v : Value} {xs : List Int}
    (hown : w'.ownsRow w.heap.size 2 1 v xs.length (xs.map (Value.int .i64))) (hb : Below w.heap.size w w') : Facts w0 w' A bs (⟨w.heap.size, w'.heap.size, v, xs⟩ :: L) :=
  { h.below hb with
    slices := fun p hp => by
      rcases List.mem_cons.1 hp with rfl | hp
      · exact ⟨hown, fun g hg => (hown.lt g hg).2, Nat.le_refl _⟩
      · exact (h.below hb).slices p hp }

/-- A slice is marked: the others stay. -/
theorem Facts.mark {L' : List Sl} (h : Facts w0 w A bs L) {p : Sl} {ys : List Int} (hp : p ∈ L)
    (hown : w'.ownsRow p.lo 2 1 p.v ys.length (ys.map (Value.int .i64))) (hg : w.grownBy w' p.v.ownBlock)
    (hB : w0.heap.size ≤ p.lo) (hbs : ∀ b ∈ bs, b.1 < p.lo ∨ p.hi ≤ b.1) (hL : ∀ q ∈ L', q = { p with xs := ys } ∨ (q ∈ L ∧ (q.hi ≤ p.lo ∨ p.hi ≤ q.lo))) : Facts w0 w' A bs L' where
  from0 := h.from0.grown hg h.ge (fun k e => Nat.le_trans hB ((h.slices p hp).own.lt k e).1)
  args := fun q hq => (h.args q hq).below ((Below.refl _ w).grown hg h.ge (fun k e => Nat.le_trans hB ((h.slices p hp).own.lt k e).1))
  blocks := fun b hb => (hg.block b.1 (Array.getElem?_eq_some_iff.1 (h.blocks b hb)).1 (fun e => by
    have h1 := ((h.slices p hp).own.lt _ e.symm).1
    have h2 := (h.slices p hp).lt _ e.symm
    rcases hbs b hb with h3 | h3 <;> omega)).trans (h.blocks b hb)
  slices := fun q hq => by
    rcases hL q hq with rfl | ⟨hqm, hap⟩
    · exact ⟨hown, (h.slices p hp).lt, Nat.le_trans (h.slices p hp).le hg.size⟩
    · refine ⟨(h.slices q hqm).own.kept hg ?_, (h.slices q hqm).lt, Nat.le_trans (h.slices q hqm).le hg.size⟩
      cases hv : q.v.ownBlock with
      | none => exact .inl rfl
      | some g =>
        refine .inr (fun e => ?_)
        have h1 := ((h.slices p hp).own.lt _ e.symm).1
        have h2 := (h.slices p hp).lt _ e.symm
        have h3 := ((h.slices q hqm).own.lt _ hv).1
        have h4 := (h.slices q hqm).lt _ hv
        rcases hap with h5 | h5 <;> omega

theorem Facts.slI (h : Facts w0 w A bs L) {lo hi : Nat} {a : Option Addr} {m cap : Nat} {xs : List Int} (hp : (⟨lo, hi, .slice a m cap, xs⟩ : Sl) ∈ L) : SlI w w.heap.size a xs :=
  owned_slI (h.slices _ hp).own

theorem Facts.own (h : Facts w0 w A bs L) {lo hi : Nat} {v : Value} {xs : List Int} (hp : (⟨lo, hi, v, xs⟩ : Sl) ∈ L) : w.ownsRow lo 2 1 v xs.length (xs.map (Value.int .i64)) := (h.slices _ hp).own

theorem Facts.two (h : Facts w0 w A bs L) {b t : Nat} {u v : Value} (hb : (b, Obj.cells #[u, v] t (0, 0)) ∈ bs) : w.cell? ⟨b, 0, none⟩ = some u ∧ w.cell? ⟨b, 1, none⟩ = some v := by
  have := h.blocks _ hb
  constructor <;> simp [World.cell?, this]
end

set_option maxHeartbeats 400000 in
theorem markCx (V : Int) (base : Nat) (a : Option Addr) (cap : Nat) (xs : List Int) (k : Int) (w : World) (hown : w.ownsRow base 2 1 (.slice a xs.length cap) xs.length (xs.map (Value.int .i64))) (hl : xs.length ≤ 1048576) (h0 : 0 ≤ k) (h1 : k ≤ 1099511627776) :
    Calls Try.prog 22 #[.agg #[.int .i64 V, .slice a xs.length cap], .int .i64 k] w fun e w' => e = .returned (.int .i64 (k + xs.length)) ∧
      w'.ownsRow base 2 1 (.slice a xs.length cap) xs.length ((count k xs.length).map (Value.int .i64)) ∧ w.grownBy w' (Value.ownBlock (.slice a xs.length cap)) := by
  have Hown := hid (hown.alloc (.cells #[.int .i64 V, .slice a xs.length cap] 28))
  clear hown
  go_enter Try.func22, Try.ntmps22
  go_wp2_with fail
  refine (markInts base a cap xs k _ Hown.out hl h0 h1).mono ?_
  rintro e w1 ⟨rfl, hown1, hgr⟩
  go_wp2_with fail
  go_ret
  exact ⟨rfl, hown1, (World.grownBy_alloc w _ _).trans hgr⟩

set_option maxHeartbeats 400000 in
theorem heldCx (V : Int) (a : Option Addr) (cap n : Nat) (xs : List Int) (k : Int) (w : World) (hxs : xs = count k n) (hx : SlI w w.heap.size a xs) (hl : n ≤ 1048576) (h0 : 0 ≤ k) (h1 : k ≤ 1099511627776) :
    Calls Try.prog 47 #[.agg #[.int .i64 V, .slice a n cap], .int .i64 k] w fun e w' => e = .returned (.int .i64 (k + n)) ∧ Below w.heap.size w w' := by
  have hB : Below w.heap.size w (w.alloc (.cells #[.int .i64 V, .slice a n cap] 28)) := (Below.refl _ w).alloc (Nat.le_refl _) _
  have Hxs := hid hxs
  have Hx := hid (hx.later hB (by simp))
  clear hxs hx
  go_enter Try.func47, Try.ntmps47
  go_wp2_with fail
  refine (heldInts a cap n xs k _ Hxs.out Hx.out hl h0 h1).mono ?_
  rintro e w1 ⟨rfl, hB1⟩
  go_wp2_with fail
  go_ret
  exact ⟨rfl, hB.trans (hB1.mono (by simp))⟩

end Go.Proofs.Ytplcbiconfpmlaa
