import Derived.Deep.RegionHeld3
import Derived.Deep.AppendLies
import Derived.Deep.RegionLaw
import Derived.Laws.ResultCell
import Derived.Shelf.SlIterI.Nil
import Derived.Shelf.SortM.Plain
import Derived.Shelf.SortM.SortNone
import Derived.Maps.OwnIn
import Derived.Test.YtgefpllmelpahaaMF1
/-! 'out.Faces = append(out.Faces, x)' in the model's loops. -/
namespace Go.Proofs.Ytgefpllmelpahaa
open Go.RowKit

theorem cell_alloc_drew {W : World} {p : Addr} {v : Value} (h : W.cell? p = some v) (n : Nat) (o : Obj) : ((W.drewN n).alloc o).cell? p = some v :=
  (World.cell?_alloc_some (W.drewN n) p o (show (W.cell? p).isSome = true by rw [h]; rfl)).trans h

theorem step_append_int {w : World} {ops : Array Oper} {o : Oper} {a : Act} {K : Act → World → Prop} {Q : Exit → Act → World → Prop} {E : Prop} (hgd : o.guard = none) {s y : Operand}
    (ho : o.op = .call { callee := .builtin .append, args := #[s, y], argTypes := #[22, 22] })
    {base : Nat} {v : Value} {xs : List Int} {x : Int} {ad : Addr} (hown : w.ownsRow base 2 1 v xs.length (xs.map (Value.int .i64))) (hbase : base ≤ w.heap.size) (hl : xs.length ≤ 1099511627776)
    (hs : a.eval s = v) (hy : a.eval y = .slice (some ad) 1 1) (hc : w.cell? (ad.add 0) = some (.int .i64 x))
    (hK : ∀ g cap w', w'.ownsRow base 2 1 (.slice (some ⟨g, 0, none⟩) (xs ++ [x]).length cap) (xs ++ [x]).length ((xs ++ [x]).map (Value.int .i64)) → w.grownBy w' v.ownBlock →
      K (a.put o.dst (.slice (some ⟨g, 0, none⟩) (xs ++ [x]).length cap)) w') :
    if Region.wanted o (yielded ops a.tmps) = true then Oper.wp Try.prog o a w K Q else E := by
  obtain ⟨i0, hi, hz0, hz1, hz2⟩ := info_parts info_i64
  refine step_append_lies w hgd s y 22 ho base 2 i0 (.int .i64 0) 1 8 Try.underlying22 hi hz0 hz1 hz2 rfl (by decide) v _ _ hs hown ad 1 1 [.int .i64 x] hy rfl ?_ (by simp [Value.oneCell']) (by decide) (by unfold maxLen; omega) (by omega) hbase _ rfl ?_
  · intro j u hu
    match j, hu with
    | 0, hu => simp at hu; subst hu; exact hc
  · intro g cap w1 hown1 hg _ _
    have e : (xs ++ [x]).length = xs.length + 1 := by simp
    have h := hK g cap w1 (by rw [e]; simpa using hown1) hg
    rw [e] at h
    exact h

/-- What the model's loops keep of the world while they build a complex in block Bo: B is the heap's size when the call began. -/
structure OutW (w W : World) (V : Int) (sl : Value) (Bo : Nat) (xs : List Int) (a : Option Addr) (c : Nat) : Prop where
  below : Below w.heap.size w W
  kbox : W.heap[w.heap.size]? = some (.cells #[.int .i64 V, sl] 30 (0, 0))
  res : W.heap[w.heap.size + 1]? = some (.cells #[.int .i64 0, .slice none 0 0] 30 (0, 0))
  out : W.heap[Bo]? = some (.cells #[.int .i64 V, .slice a xs.length c] 30 (0, 0))
  own : W.ownsRow w.heap.size 2 1 (.slice a xs.length c) xs.length (xs.map (Value.int .i64))
  bo : w.heap.size + 1 < Bo

/-- A block of another type is none of an owned row's. -/
theorem row_ne {W : World} {base e t : Nat} {v : Value} {n : Nat} {xs : List Value} {b : Nat} {cs : Array Value} {fz : Nat × Nat} (h : W.ownsRow base e 1 v n xs) (hb : W.heap[b]? = some (.cells cs t fz)) (hne : e ≠ t) : some b ≠ v.ownBlock := by
  intro he
  rcases h.2 with ⟨rfl, _⟩ | ⟨g, cap, cur, rfl, _, hg, _⟩
  · simp [Value.ownBlock] at he
  · simp [Value.ownBlock] at he
    subst he
    rw [hb] at hg
    simp at hg
    exact hne hg.2.1.symm

theorem lt_get {W : World} {b : Nat} {o : Obj} (h : W.heap[b]? = some o) : b < W.heap.size := (Array.getElem?_eq_some_iff.1 h).1

/-- Draws alone. -/
theorem OutW.drew {w W : World} {V : Int} {sl : Value} {Bo : Nat} {xs : List Int} {a : Option Addr} {c : Nat} (h : OutW w W V sl Bo xs a c) : OutW w W.drew V sl Bo xs a c :=
  ⟨⟨h.below.os, h.below.tape, h.below.output, h.below.size, h.below.block⟩, h.kbox, h.res, h.out, h.own, h.bo⟩

theorem OutW.drewN {w W : World} {V : Int} {sl : Value} {Bo : Nat} {xs : List Int} {a : Option Addr} {c : Nat} (h : OutW w W V sl Bo xs a c) (n : Nat) : OutW w (W.drewN n) V sl Bo xs a c :=
  ⟨⟨h.below.os, h.below.tape, h.below.output, h.below.size, h.below.block⟩, h.kbox, h.res, h.out, h.own, h.bo⟩

/-- Whatever keeps all that lay. -/
theorem OutW.later {w W W' : World} {V : Int} {sl : Value} {Bo : Nat} {xs : List Int} {a : Option Addr} {c : Nat} (h : OutW w W V sl Bo xs a c) (hb : Below W.heap.size W W') : OutW w W' V sl Bo xs a c where
  below := h.below.trans (hb.mono h.below.size)
  kbox := (hb.block _ (lt_get h.kbox)).trans h.kbox
  res := (hb.block _ (lt_get h.res)).trans h.res
  out := (hb.block _ (lt_get h.out)).trans h.out
  own := ownsRow_below h.own hb (fun g hg => (h.own.lt g hg).2)
  bo := h.bo

/-- A face more. -/
theorem OutW.step {w W w2 : World} {V : Int} {sl : Value} {Bo : Nat} {xs : List Int} {a : Option Addr} {c : Nat} (h : OutW w W V sl Bo xs a c) {x : Int} {g cap : Nat} {o : Obj}
    (hown : w2.ownsRow w.heap.size 2 1 (.slice (some ⟨g, 0, none⟩) (xs ++ [x]).length cap) (xs ++ [x]).length ((xs ++ [x]).map (Value.int .i64))) (hg : (W.alloc o).grownBy w2 (Value.ownBlock (.slice a xs.length c))) :
    OutW w (w2.setCell ⟨Bo, 1, none⟩ (.slice (some ⟨g, 0, none⟩) (xs ++ [x]).length cap)) V sl Bo (xs ++ [x]) (some ⟨g, 0, none⟩) cap := by
  have hgr : W.grownBy w2 (Value.ownBlock (.slice a xs.length c)) := (World.grownBy_alloc W o _).trans hg
  have hbo := h.bo
  have k2 := (hgr.block _ (lt_get h.kbox) (row_ne h.own h.kbox (by decide))).trans h.kbox
  have r2 := (hgr.block _ (lt_get h.res) (row_ne h.own h.res (by decide))).trans h.res
  have o2 := (hgr.block _ (lt_get h.out) (row_ne h.own h.out (by decide))).trans h.out
  refine ⟨?_, ?_, ?_, ?_, ?_, h.bo⟩
  · exact (h.below.grown hgr h.below.size (fun k hk => (h.own.lt k hk).1)).setCell (p := ⟨Bo, 1, none⟩) (by simp only; omega) _
  · exact (Below.heap_setCell _ _ _ _ (by simp only; omega)).trans k2
  · exact (Below.heap_setCell _ _ _ _ (by simp only; omega)).trans r2
  · simp only [World.setCell, Array.getElem?_modify, o2]
    simp
  · exact ownsRow_set hown (by
      have := row_ne hown o2 (by decide)
      exact fun e => this e.symm) _

theorem outW_start {w W : World} {V : Int} {sl : Value} (hB : Below w.heap.size w W) (hk : W.heap[w.heap.size]? = some (.cells #[.int .i64 V, sl] 30 (0, 0)))
    (hr : W.heap[w.heap.size + 1]? = some (.cells #[.int .i64 0, .slice none 0 0] 30 (0, 0))) :
    OutW w ((W.alloc (.cells #[] 2)).alloc (.cells #[.int .i64 V, .slice (some ⟨W.heap.size, 0, none⟩) 0 0] 30)) V sl (W.heap.size + 1) [] (some ⟨W.heap.size, 0, none⟩) 0 where
  below := (hB.alloc hB.size _).alloc (by have := hB.size; simp; omega) _
  kbox := (Below.heap_alloc _ _ _ (by have := lt_get hk; simp; omega)).trans ((Below.heap_alloc _ _ _ (lt_get hk)).trans hk)
  res := (Below.heap_alloc _ _ _ (by have := lt_get hr; simp; omega)).trans ((Below.heap_alloc _ _ _ (lt_get hr)).trans hr)
  out := by have := heap_alloc_new (W.alloc (.cells #[] 2)) (.cells #[.int .i64 V, .slice (some ⟨W.heap.size, 0, none⟩) 0 0] 30); rwa [World.size_alloc] at this
  own := by
    have h := World.ownsRow_made (base := w.heap.size) (e := 2) (size := 1) W #[] 0 hB.size (by simp [maxLen]) rfl
    exact h.alloc _
  bo := by have := lt_get hr; omega

/-- The model's loops hand back what they have built. -/
theorem OutW.done {w W : World} {V : Int} {sl : Value} {Bo : Nat} {xs : List Int} {a : Option Addr} {c : Nat} (h : OutW w W V sl Bo xs a c) (u v : Value) :
    Res w ((W.setCell ⟨w.heap.size + 1, 0, none⟩ u).setCell ⟨w.heap.size + 1, 1, none⟩ v) (.slice a xs.length c) xs := by
  have hn := row_ne h.own h.res (by decide)
  exact ⟨ownsRow_set (ownsRow_set h.own (fun e => hn e.symm) _) (fun e => hn e.symm) _, (h.below.setCell (p := ⟨w.heap.size + 1, 0, none⟩) (by simp) _).setCell (p := ⟨w.heap.size + 1, 1, none⟩) (by simp) _⟩

/-- .. where the new element has just been laid. -/
theorem step_append_new {W : World} {H : Nat} {ops : Array Oper} {o : Oper} {a : Act} {K : Act → World → Prop} {Q : Exit → Act → World → Prop} {E : Prop} (hgd : o.guard = none) {s y : Operand}
    (ho : o.op = .call { callee := .builtin .append, args := #[s, y], argTypes := #[22, 22] })
    {base : Nat} {v : Value} {xs : List Int} {x : Int} (hown : W.ownsRow base 2 1 v xs.length (xs.map (Value.int .i64))) (hH : W.heap.size = H) (hbase : base ≤ H) (hl : xs.length ≤ 1099511627776)
    (hs : a.eval s = v) (hy : a.eval y = .slice (some ⟨H, 0, none⟩) 1 1)
    (hK : ∀ g cap w', w'.ownsRow base 2 1 (.slice (some ⟨g, 0, none⟩) (xs ++ [x]).length cap) (xs ++ [x]).length ((xs ++ [x]).map (Value.int .i64)) → (W.alloc (.cells #[.int .i64 x] 2)).grownBy w' v.ownBlock →
      K (a.put o.dst (.slice (some ⟨g, 0, none⟩) (xs ++ [x]).length cap)) w') :
    if Region.wanted o (yielded ops a.tmps) = true then Oper.wp Try.prog o a (W.alloc (.cells #[.int .i64 x] 2)) K Q else E := by
  subst hH
  exact step_append_int hgd ho (hown.alloc _) (by simp; omega) hl hs hy (by simp [go_sem, Addr.add]) hK

theorem OutW.stepN {w W w2 : World} {V : Int} {sl : Value} {Bo : Nat} {xs : List Int} {a : Option Addr} {c : Nat} (h : OutW w W V sl Bo xs a c) {x : Int} {g cap : Nat} {o : Obj} {n : Nat}
    (hown : w2.ownsRow w.heap.size 2 1 (.slice (some ⟨g, 0, none⟩) (xs ++ [x]).length cap) (xs ++ [x]).length ((xs ++ [x]).map (Value.int .i64))) (hg : ((W.drewN n).alloc o).grownBy w2 (Value.ownBlock (.slice a xs.length c))) :
    OutW w (w2.setCell ⟨Bo, 1, none⟩ (.slice (some ⟨g, 0, none⟩) (xs ++ [x]).length cap)) V sl Bo (xs ++ [x]) (some ⟨g, 0, none⟩) cap := (h.drewN n).step hown hg

/-- The out block behind an append. -/
theorem OutW.mid {w W w2 : World} {V : Int} {sl : Value} {Bo : Nat} {xs : List Int} {a : Option Addr} {c : Nat} (h : OutW w W V sl Bo xs a c) {n : Nat} {o : Obj} (hg : ((W.drewN n).alloc o).grownBy w2 (Value.ownBlock (.slice a xs.length c))) :
    w2.cell? ⟨Bo, 1, none⟩ = some (.slice a xs.length c) ∧ w2.frozen? ⟨Bo, 1, none⟩ = false := by
  have hgr : (W.drewN n).grownBy w2 (Value.ownBlock (.slice a xs.length c)) := (World.grownBy_alloc _ o _).trans hg
  have o2 := (hgr.block _ (lt_get (h.drewN n).out) (row_ne (h.drewN n).own (h.drewN n).out (by decide))).trans (h.drewN n).out
  constructor <;> simp [World.cell?, World.frozen?, o2]

/-- The given complex's box behind an append. -/
theorem OutW.midK {w W w2 : World} {V : Int} {sl : Value} {Bo : Nat} {xs : List Int} {a : Option Addr} {c : Nat} (h : OutW w W V sl Bo xs a c) {n : Nat} {o : Obj} (hg : ((W.drewN n).alloc o).grownBy w2 (Value.ownBlock (.slice a xs.length c))) :
    w2.cell? ⟨w.heap.size, 1, none⟩ = some sl := by
  have hgr : (W.drewN n).grownBy w2 (Value.ownBlock (.slice a xs.length c)) := (World.grownBy_alloc _ o _).trans hg
  have o2 := (hgr.block _ (lt_get (h.drewN n).kbox) (row_ne (h.drewN n).own (h.drewN n).kbox (by decide))).trans (h.drewN n).kbox
  simp [World.cell?, o2]

/-- What lay before the call, behind an append. -/
theorem OutW.midX {w W w2 : World} {V : Int} {sl : Value} {Bo : Nat} {xs : List Int} {a : Option Addr} {c : Nat} (h : OutW w W V sl Bo xs a c) {n : Nat} {o : Obj} (hg : ((W.drewN n).alloc o).grownBy w2 (Value.ownBlock (.slice a xs.length c))) {p : Addr} (hp : p.block < w.heap.size) :
    w2.cell? p = W.cell? p := by
  have hgr : (W.drewN n).grownBy w2 (Value.ownBlock (.slice a xs.length c)) := (World.grownBy_alloc _ o _).trans hg
  have hlt : p.block < (W.drewN n).heap.size := Nat.lt_of_lt_of_le hp h.below.size
  have h2 : w2.heap[p.block]? = W.heap[p.block]? := hgr.block _ hlt (by
    intro he
    have := (h.own.lt _ he.symm).1
    omega)
  simp only [World.cell?, h2]

end Go.Proofs.Ytgefpllmelpahaa

/-! Complexes that are handed back: the ends of bodies with a result in a block, and the program's complexWith. -/
namespace Go.Proofs.Ytgefpllmelpahaa
open Go.RowKit

theorem cell_alloc_drew1 {W : World} {p : Addr} {v : Value} (h : W.cell? p = some v) (o : Obj) : (W.alloc o).cell? p = some v := cell_alloc_drew h 0 o

theorem two_of {W : World} {b : Nat} {x y : Value} {t : Nat} (h : W.heap[b]? = some (.cells #[x, y] t (0, 0))) : W.cell? ⟨b, 0, none⟩ = some x ∧ W.cell? ⟨b, 1, none⟩ = some y ∧ W.frozen? ⟨b, 0, none⟩ = false ∧ W.frozen? ⟨b, 1, none⟩ = false := by
  refine ⟨?_, ?_, ?_, ?_⟩ <;> simp [World.cell?, World.frozen?, h]

theorem two_set {W : World} {b : Nat} {x y : Value} {t : Nat} (h : W.heap[b]? = some (.cells #[x, y] t (0, 0))) (u v : Value) : ((W.setCell ⟨b, 0, none⟩ u).setCell ⟨b, 1, none⟩ v).heap[b]? = some (.cells #[u, v] t (0, 0)) := by
  simp only [World.setCell, Array.getElem?_modify, h]
  simp

/-- A result stays where a block of another type is written. -/
theorem Res.set2 {w W : World} {sv : Value} {xs : List Int} (h : Res w W sv xs) {b : Nat} {cs : Array Value} {t : Nat} {fz : Nat × Nat} (hb : W.heap[b]? = some (.cells cs t fz)) (hne : 2 ≠ t) (hw : w.heap.size ≤ b) (u v : Value) :
    Res w ((W.setCell ⟨b, 0, none⟩ u).setCell ⟨b, 1, none⟩ v) sv xs := by
  have hn := row_ne h.1 hb hne
  exact ⟨ownsRow_set (ownsRow_set h.1 (fun e => hn e.symm) _) (fun e => hn e.symm) _, (h.2.setCell (p := ⟨b, 0, none⟩) hw _).setCell (p := ⟨b, 1, none⟩) hw _⟩

theorem new2 (w : World) (A B : Obj) : ((w.alloc A).alloc B).heap[w.heap.size + 1]? = some B := by
  have := heap_alloc_new (w.alloc A) B
  rwa [World.size_alloc] at this

theorem new3 (w : World) (A B C : Obj) : (((w.alloc A).alloc B).alloc C).heap[w.heap.size + 1 + 1]? = some C := by
  have := new2 (w.alloc A) B C
  rwa [World.size_alloc] at this

set_option maxRecDepth 100000 in
theorem load_cx {w : World} {b o : Nat} {x y : Value} (h0 : w.cell? ⟨b, o, none⟩ = some x) (h1 : w.cell? ⟨b, o + 1, none⟩ = some y) :
    (loadVar 30 ⟨b, o, none⟩).run Try.prog w = .ok (.agg #[x, y]) w := by
  go_simp

set_option maxRecDepth 100000 in
theorem done_cx {fn : Func} {R : Ending → World → Prop} {a : Act} {w : World} {p u : Tmp} (hr : fn.results = #[.cell p 30, .tmp u]) (hd : a.defers = []) {b o : Nat} {x y c : Value}
    (hp : a.tmps.getD p undef = .pointer (some ⟨b, o, none⟩)) (h0 : w.cell? ⟨b, o, none⟩ = some x) (h1 : w.cell? ⟨b, o + 1, none⟩ = some y) (hu : a.tmps.getD u undef = c) (hR : R (.returned (.tuple #[.agg #[x, y], c])) w) : bodyPost Try.prog fn R .ret a w := by
  refine bodyPost_ret (v := .tuple #[.agg #[x, y], c]) ?_ hd hR
  rw [results_cell_tmp hr, hp, hu]
  show ((loadVar 30 ⟨b, o, none⟩).run Try.prog w).andThen _ = _
  rw [load_cx h0 h1]
  rfl

set_option maxRecDepth 100000 in
theorem done_cx1 {fn : Func} {R : Ending → World → Prop} {a : Act} {w : World} {p : Tmp} (hr : fn.results = #[.cell p 30]) (hd : a.defers = []) {b o : Nat} {x y : Value}
    (hp : a.tmps.getD p undef = .pointer (some ⟨b, o, none⟩)) (h0 : w.cell? ⟨b, o, none⟩ = some x) (h1 : w.cell? ⟨b, o + 1, none⟩ = some y) (hR : R (.returned (.agg #[x, y])) w) : bodyPost Try.prog fn R .ret a w := by
  refine bodyPost_ret (v := .agg #[x, y]) ?_ hd hR
  have hp' : a.tmps[p]?.getD undef = .pointer (some ⟨b, o, none⟩) := by simpa using hp
  simp [results, hr, hp', asAddr, load_cx h0 h1]

theorem cx_mono {P : Program} {f : FuncId} {args : Array Value} {w : World} {r : Int × List Int × Int} {U : Int} {xs : List Int} {c : Int} (hr : r = (U, xs, c))
    (h : Calls P f args w fun e w' => ∃ v, e = .returned (.tuple #[.agg #[.int .i64 U, v], .int .i64 c]) ∧ Res w w' v xs) : Calls P f args w fun e w' => ∃ v, e = .returned (.tuple #[.agg #[.int .i64 r.1, v], .int .i64 r.2.2]) ∧ Res w w' v r.2.1 := by
  subst hr; exact h

set_option maxHeartbeats 1000000 in
theorem cw_any (V : Int) (a : Option Addr) (cap : Nat) (fs : List Int) (w : World) (fid : Nat) (cs : Array Value) (ys : List Int)
    (hfw : ∀ W, Below w.heap.size w W → Calls Try.prog 152 #[.agg #[.int .i64 V, .slice a fs.length cap], .func (.func fid) #[] cs] W fun e w' => ∃ v, e = .returned v ∧ Res W w' v ys) :
    Calls Try.prog 146 #[.agg #[.int .i64 V, .slice a fs.length cap], .func (.func fid) #[] cs] w fun e w' => ∃ v, e = .returned (.agg #[.int .i64 V, v]) ∧ Res w w' v ys := by
  have hB0 : Below w.heap.size w ((w.alloc (.cells #[.int .i64 V, .slice a fs.length cap] 30)).alloc (.cells #[.int .i64 0, .slice none 0 0] 30)) := ((Below.refl _ w).alloc (Nat.le_refl _) _).alloc (by simp) _
  have Hfw := hid hfw
  have HB0 := hid hB0
  obtain ⟨W, hW⟩ : ∃ W, W = (w.alloc (.cells #[.int .i64 V, .slice a fs.length cap] 30)).alloc (.cells #[.int .i64 0, .slice none 0 0] 30) := ⟨_, rfl⟩
  have k0 : W.cell? ⟨w.heap.size, 0, none⟩ = some (.int .i64 V) := by rw [hW]; simp [go_sem]
  have k1 : W.cell? ⟨w.heap.size, 1, none⟩ = some (.slice a fs.length cap) := by rw [hW]; simp [go_sem]
  have r0 : W.heap[w.heap.size + 1]? = some (.cells #[.int .i64 0, .slice none 0 0] 30 (0, 0)) := by
    have := heap_alloc_new (w.alloc (.cells #[.int .i64 V, .slice a fs.length cap] 30)) (.cells #[.int .i64 0, .slice none 0 0] 30)
    rw [World.size_alloc] at this
    rw [hW]; exact this
  have hBW : Hid (Below w.heap.size w W) := hid (by rw [hW]; exact hB0)
  have R0 := hid r0
  have hWs : Hid (W.heap.size = w.heap.size + 2) := hid (by rw [hW]; simp)
  have HW := hid hW
  clear hfw hB0 hW r0
  go_enter Try.func146, Try.ntmps146
  go_wp2_with fail
  rw [← HW.out]
  go_region_with (go_at_call 152; refine (Hfw.out W.drew ⟨hBW.out.os, hBW.out.tape, hBW.out.output, hBW.out.size, hBW.out.block⟩).mono ?_; rintro e w1 ⟨v, rfl, hr⟩; obtain ⟨_, av, cv, rfl, _⟩ := ownsRow_slI hr.1; have k01 := (hr.2.cell (p := ⟨w.heap.size, 0, none⟩) (by have := hWs.out; show w.heap.size < W.heap.size; omega)).trans k0; have k11 := (hr.2.cell (p := ⟨w.heap.size, 1, none⟩) (by have := hWs.out; show w.heap.size < W.heap.size; omega)).trans k1; have r1 : w1.heap[w.heap.size + 1]? = some (.cells #[.int .i64 0, .slice none 0 0] 30 (0, 0)) := (hr.2.block _ (by have := hWs.out; show w.heap.size + 1 < W.heap.size; omega)).trans R0.out; obtain ⟨c0, c1, f0, f1⟩ := two_of r1; have R1 := hid r1; clear r1)
  all_goals
    go_wp2_with fail
    (try simp only [Exit.inBlock, Exit.then])
    have R2 := two_of (two_set R1.out (.int .i64 V) (.slice av ys.length cv))
    refine done_cx1 (p := 4) (by kernel_rfl) rfl rfl R2.1 R2.2.1 ⟨_, rfl, ?_⟩
    exact (Res.later hr ⟨hBW.out.os, hBW.out.tape, hBW.out.output, hBW.out.size, hBW.out.block⟩).set2 R1.out (by decide) (by omega) _ _


end Go.Proofs.Ytgefpllmelpahaa

/-! 'out.Faces = append(out.Faces, x)' in the model's loops, where the complex that is built has a number of vertices of its own (OutW, with that number). -/
namespace Go.Proofs.Ytgefpllmelpahaa
open Go.RowKit

/-- The same, where what is built has another number of vertices: B is the heap's size when the call began. -/
structure OutU (w W : World) (V U : Int) (sl : Value) (Bo : Nat) (xs : List Int) (a : Option Addr) (c : Nat) : Prop where
  below : Below w.heap.size w W
  kbox : W.heap[w.heap.size]? = some (.cells #[.int .i64 V, sl] 30 (0, 0))
  res : W.heap[w.heap.size + 1]? = some (.cells #[.int .i64 0, .slice none 0 0] 30 (0, 0))
  out : W.heap[Bo]? = some (.cells #[.int .i64 U, .slice a xs.length c] 30 (0, 0))
  own : W.ownsRow w.heap.size 2 1 (.slice a xs.length c) xs.length (xs.map (Value.int .i64))
  bo : w.heap.size + 1 < Bo

/-- Draws alone. -/
theorem OutU.drew {w W : World} {V U : Int} {sl : Value} {Bo : Nat} {xs : List Int} {a : Option Addr} {c : Nat} (h : OutU w W V U sl Bo xs a c) : OutU w W.drew V U sl Bo xs a c :=
  ⟨⟨h.below.os, h.below.tape, h.below.output, h.below.size, h.below.block⟩, h.kbox, h.res, h.out, h.own, h.bo⟩

theorem OutU.drewN {w W : World} {V U : Int} {sl : Value} {Bo : Nat} {xs : List Int} {a : Option Addr} {c : Nat} (h : OutU w W V U sl Bo xs a c) (n : Nat) : OutU w (W.drewN n) V U sl Bo xs a c :=
  ⟨⟨h.below.os, h.below.tape, h.below.output, h.below.size, h.below.block⟩, h.kbox, h.res, h.out, h.own, h.bo⟩

/-- Whatever keeps all that lay. -/
theorem OutU.later {w W W' : World} {V U : Int} {sl : Value} {Bo : Nat} {xs : List Int} {a : Option Addr} {c : Nat} (h : OutU w W V U sl Bo xs a c) (hb : Below W.heap.size W W') : OutU w W' V U sl Bo xs a c where
  below := h.below.trans (hb.mono h.below.size)
  kbox := (hb.block _ (lt_get h.kbox)).trans h.kbox
  res := (hb.block _ (lt_get h.res)).trans h.res
  out := (hb.block _ (lt_get h.out)).trans h.out
  own := ownsRow_below h.own hb (fun g hg => (h.own.lt g hg).2)
  bo := h.bo

/-- A face more. -/
theorem OutU.step {w W w2 : World} {V U : Int} {sl : Value} {Bo : Nat} {xs : List Int} {a : Option Addr} {c : Nat} (h : OutU w W V U sl Bo xs a c) {x : Int} {g cap : Nat} {o : Obj}
    (hown : w2.ownsRow w.heap.size 2 1 (.slice (some ⟨g, 0, none⟩) (xs ++ [x]).length cap) (xs ++ [x]).length ((xs ++ [x]).map (Value.int .i64))) (hg : (W.alloc o).grownBy w2 (Value.ownBlock (.slice a xs.length c))) :
    OutU w (w2.setCell ⟨Bo, 1, none⟩ (.slice (some ⟨g, 0, none⟩) (xs ++ [x]).length cap)) V U sl Bo (xs ++ [x]) (some ⟨g, 0, none⟩) cap := by
  have hgr : W.grownBy w2 (Value.ownBlock (.slice a xs.length c)) := (World.grownBy_alloc W o _).trans hg
  have hbo := h.bo
  have k2 := (hgr.block _ (lt_get h.kbox) (row_ne h.own h.kbox (by decide))).trans h.kbox
  have r2 := (hgr.block _ (lt_get h.res) (row_ne h.own h.res (by decide))).trans h.res
  have o2 := (hgr.block _ (lt_get h.out) (row_ne h.own h.out (by decide))).trans h.out
  refine ⟨?_, ?_, ?_, ?_, ?_, h.bo⟩
  · exact (h.below.grown hgr h.below.size (fun k hk => (h.own.lt k hk).1)).setCell (p := ⟨Bo, 1, none⟩) (by simp only; omega) _
  · exact (Below.heap_setCell _ _ _ _ (by simp only; omega)).trans k2
  · exact (Below.heap_setCell _ _ _ _ (by simp only; omega)).trans r2
  · simp only [World.setCell, Array.getElem?_modify, o2]
    simp
  · exact ownsRow_set hown (by
      have := row_ne hown o2 (by decide)
      exact fun e => this e.symm) _

/-- The model's loops hand back what they have built. -/
theorem OutU.done {w W : World} {V U : Int} {sl : Value} {Bo : Nat} {xs : List Int} {a : Option Addr} {c : Nat} (h : OutU w W V U sl Bo xs a c) (u v : Value) :
    Res w ((W.setCell ⟨w.heap.size + 1, 0, none⟩ u).setCell ⟨w.heap.size + 1, 1, none⟩ v) (.slice a xs.length c) xs := by
  have hn := row_ne h.own h.res (by decide)
  exact ⟨ownsRow_set (ownsRow_set h.own (fun e => hn e.symm) _) (fun e => hn e.symm) _, (h.below.setCell (p := ⟨w.heap.size + 1, 0, none⟩) (by simp) _).setCell (p := ⟨w.heap.size + 1, 1, none⟩) (by simp) _⟩

theorem OutU.stepN {w W w2 : World} {V U : Int} {sl : Value} {Bo : Nat} {xs : List Int} {a : Option Addr} {c : Nat} (h : OutU w W V U sl Bo xs a c) {x : Int} {g cap : Nat} {o : Obj} {n : Nat}
    (hown : w2.ownsRow w.heap.size 2 1 (.slice (some ⟨g, 0, none⟩) (xs ++ [x]).length cap) (xs ++ [x]).length ((xs ++ [x]).map (Value.int .i64))) (hg : ((W.drewN n).alloc o).grownBy w2 (Value.ownBlock (.slice a xs.length c))) :
    OutU w (w2.setCell ⟨Bo, 1, none⟩ (.slice (some ⟨g, 0, none⟩) (xs ++ [x]).length cap)) V U sl Bo (xs ++ [x]) (some ⟨g, 0, none⟩) cap := (h.drewN n).step hown hg

/-- The out block behind an append. -/
theorem OutU.mid {w W w2 : World} {V U : Int} {sl : Value} {Bo : Nat} {xs : List Int} {a : Option Addr} {c : Nat} (h : OutU w W V U sl Bo xs a c) {n : Nat} {o : Obj} (hg : ((W.drewN n).alloc o).grownBy w2 (Value.ownBlock (.slice a xs.length c))) :
    w2.cell? ⟨Bo, 1, none⟩ = some (.slice a xs.length c) ∧ w2.frozen? ⟨Bo, 1, none⟩ = false := by
  have hgr : (W.drewN n).grownBy w2 (Value.ownBlock (.slice a xs.length c)) := (World.grownBy_alloc _ o _).trans hg
  have o2 := (hgr.block _ (lt_get (h.drewN n).out) (row_ne (h.drewN n).own (h.drewN n).out (by decide))).trans (h.drewN n).out
  constructor <;> simp [World.cell?, World.frozen?, o2]

/-- The given complex's box behind an append. -/
theorem OutU.midK {w W w2 : World} {V U : Int} {sl : Value} {Bo : Nat} {xs : List Int} {a : Option Addr} {c : Nat} (h : OutU w W V U sl Bo xs a c) {n : Nat} {o : Obj} (hg : ((W.drewN n).alloc o).grownBy w2 (Value.ownBlock (.slice a xs.length c))) :
    w2.cell? ⟨w.heap.size, 1, none⟩ = some sl := by
  have hgr : (W.drewN n).grownBy w2 (Value.ownBlock (.slice a xs.length c)) := (World.grownBy_alloc _ o _).trans hg
  have o2 := (hgr.block _ (lt_get (h.drewN n).kbox) (row_ne (h.drewN n).own (h.drewN n).kbox (by decide))).trans (h.drewN n).kbox
  simp [World.cell?, o2]

/-- What lay before the call, behind an append. -/
theorem OutU.midX {w W w2 : World} {V U : Int} {sl : Value} {Bo : Nat} {xs : List Int} {a : Option Addr} {c : Nat} (h : OutU w W V U sl Bo xs a c) {n : Nat} {o : Obj} (hg : ((W.drewN n).alloc o).grownBy w2 (Value.ownBlock (.slice a xs.length c))) {p : Addr} (hp : p.block < w.heap.size) :
    w2.cell? p = W.cell? p := by
  have hgr : (W.drewN n).grownBy w2 (Value.ownBlock (.slice a xs.length c)) := (World.grownBy_alloc _ o _).trans hg
  have hlt : p.block < (W.drewN n).heap.size := Nat.lt_of_lt_of_le hp h.below.size
  have h2 : w2.heap[p.block]? = W.heap[p.block]? := hgr.block _ hlt (by
    intro he
    have := (h.own.lt _ he.symm).1
    omega)
  simp only [World.cell?, h2]

end Go.Proofs.Ytgefpllmelpahaa

/-! Finite facts on bits, decided. -/
namespace Go.Proofs.Ytgefpllmelpahaa
open Go.RowKit

theorem andNot_fin : ∀ x : Nat, x < 64 → ∀ s : Nat, s < 64 → (bits BinOp.andNot IntKind.i64 (x : Int) (s : Int) == 0) = decide (x &&& s = x) := by
  decide +kernel

end Go.Proofs.Ytgefpllmelpahaa

/-! The numbers from 1 to n that are wanted, ascending. -/
namespace Go.Proofs.Ytgefpllmelpahaa
open Go.RowKit

/-- The numbers from 1 to k of which p says yes. -/
def pickTo (p : Int → Bool) : Nat → List Int
  | 0 => []
  | k + 1 => pickTo p k ++ (if p ((k : Int) + 1) then [(k : Int) + 1] else [])

theorem pickTo_len (p : Int → Bool) : ∀ k, (pickTo p k).length ≤ k
  | 0 => by simp [pickTo]
  | k + 1 => by
    have := pickTo_len p k
    simp only [pickTo, List.length_append]
    split <;> simp <;> omega

theorem mem_pickTo {p : Int → Bool} {x : Int} : ∀ k : Nat, x ∈ pickTo p k ↔ 1 ≤ x ∧ x ≤ k ∧ p x = true
  | 0 => by simp [pickTo]; omega
  | k + 1 => by
    have ih := mem_pickTo (p := p) (x := x) k
    simp only [pickTo, List.mem_append, ih]
    constructor
    · rintro (⟨h1, h2, h3⟩ | h)
      · exact ⟨h1, by omega, h3⟩
      · split at h
        · rename_i hp
          simp at h
          subst h
          exact ⟨by omega, by omega, hp⟩
        · simp at h
    · rintro ⟨h1, h2, h3⟩
      by_cases he : x = (k : Int) + 1
      · subst he
        right
        rw [if_pos h3]; simp
      · exact .inl ⟨h1, by omega, h3⟩

theorem pickTo_asc (p : Int → Bool) : ∀ k : Nat, (pickTo p k).Pairwise (· < ·)
  | 0 => by simp [pickTo]
  | k + 1 => by
    simp only [pickTo]
    rw [List.pairwise_append]
    refine ⟨pickTo_asc p k, by split <;> simp, fun a ha b hb => ?_⟩
    have h1 := (mem_pickTo k).1 ha
    split at hb
    · simp at hb; omega
    · simp at hb

theorem pickTo_congr {p q : Int → Bool} : ∀ k : Nat, (∀ x : Int, 1 ≤ x → x ≤ k → p x = q x) → pickTo p k = pickTo q k
  | 0, _ => rfl
  | k + 1, h => by
    simp only [pickTo]
    rw [pickTo_congr k (fun x h1 h2 => h x h1 (by omega)), h ((k : Int) + 1) (by omega) (by omega)]

/-- Two ascending lists with the same members are one. -/
theorem asc_ext : ∀ {xs ys : List Int}, xs.Pairwise (· < ·) → ys.Pairwise (· < ·) → (∀ x, x ∈ xs ↔ x ∈ ys) → xs = ys
  | [], [], _, _, _ => rfl
  | [], y :: ys, _, _, h => absurd ((h y).2 (by simp)) (by simp)
  | x :: xs, [], _, _, h => absurd ((h x).1 (by simp)) (by simp)
  | x :: xs, y :: ys, hx, hy, h => by
    have hx' := List.pairwise_cons.1 hx
    have hy' := List.pairwise_cons.1 hy
    have hxy : x = y := by
      have h1 := (h x).1 (by simp)
      have h2 := (h y).2 (by simp)
      rcases List.mem_cons.1 h1 with h1 | h1
      · exact h1
      · rcases List.mem_cons.1 h2 with h2 | h2
        · exact h2.symm
        · have a := hy'.1 _ h1
          have b := hx'.1 _ h2
          omega
    subst hxy
    congr 1
    refine asc_ext hx'.2 hy'.2 fun z => ?_
    have hz := h z
    simp only [List.mem_cons] at hz
    constructor
    · intro hm
      rcases hz.1 (.inr hm) with rfl | h'
      · exact absurd (hx'.1 _ hm) (by omega)
      · exact h'
    · intro hm
      rcases hz.2 (.inr hm) with rfl | h'
      · exact absurd (hy'.1 _ hm) (by omega)
      · exact h'

end Go.Proofs.Ytgefpllmelpahaa

/-! The library's sort at int64, and slices.Sorted(maps.Keys(m)) of a set. -/
namespace Go.Proofs.Ytgefpllmelpahaa
open Go.RowKit Go.Maps Go.Sort Go.Shelf

/-- slices.Sort's two contracts, as slices.Sorted asks them. -/
theorem sortsL (m : Nat) : AnyZI.SortsIn Try.prog sortedL_ren Fence.wide m :=
  ⟨fun blk off cap ss W hH hblk hsz => callsIn_wide.2 (AnyM.slices_Sort_int sortL blk off cap ss W hH hblk hsz),
   fun p cap W => callsIn_wide.2 (AnyM.slices_Sort_int_none sortL p cap W)⟩

theorem has_knownFrom (x : Int) : ∀ (pre : List Int) (D : DataW Unit), Maps.IsMap D → (has (knownFrom D pre) (.int .i64 x) = true ↔ x ∈ pre ∨ has D (.int .i64 x) = true)
  | [], D, _ => by simp [knownFrom]
  | y :: pre, D, hD => by
    have ih := has_knownFrom x pre (D.put (.int .i64 y) (.lit (.bool true))) (hD.put _ _)
    have e : knownFrom D (y :: pre) = knownFrom (D.put (.int .i64 y) (.lit (.bool true))) pre := rfl
    rw [e, ih]
    by_cases hx : x = y
    · subst hx
      rw [has_put_same hD (show WideAt.IsKeyLit (.int .i64 x) from trivial)]
      simp
    · rw [has_put_other (by simpa using hx)]
      simp [hx]

theorem has_knownD (x : Int) (pre : List Int) : has (knownD pre) (.int .i64 x) = true ↔ x ∈ pre := by
  unfold knownD
  rw [has_knownFrom x pre _ Maps.isMap_empty]
  simp [has]

/-- A set's numbers, ascending. -/
def ascOf (L : List Int) : List Int := pickTo (fun x => decide (x ∈ L)) 63

theorem mem_ascOf {L : List Int} (hL : ∀ x ∈ L, 1 ≤ x ∧ x ≤ 63) {x : Int} : x ∈ ascOf L ↔ x ∈ L := by
  unfold ascOf
  rw [mem_pickTo]
  constructor
  · intro h; simpa using h.2.2
  · intro h; exact ⟨(hL x h).1, (hL x h).2, by simpa using h⟩

theorem sorted_known {w : World} {b n : Nat} {L : List Int} (hown : w.ownsMap Try.prog 2 (plainElem (H := Unit) Try.prog 4) b n (knownD L)) (hL : ∀ x ∈ L, 1 ≤ x ∧ x ≤ 63) {ss : List Int} (hp : ss.Perm (intKeys (knownD L))) :
    ss.mergeSort (fun x y => decide (x ≤ y)) = ascOf L := by
  obtain ⟨es, hD, hpw, _⟩ := hown.entries (Maps.int_keyed Try.underlying2)
  obtain ⟨es', hD', hko⟩ := hown.keysOf
  obtain rfl : es = es' := by rw [hD] at hD'; simpa using hD'
  have hasc := pickTo_asc (fun x => decide (x ∈ L)) 63
  have h1 : (ascOf L).Perm (intKeys (knownD L)) := by
    rw [hD]
    refine perm_intKeys hpw (fun p hp => by obtain ⟨v, hv⟩ := hko p hp; obtain ⟨x, _, hx, _⟩ := Maps.keyOf_i64 Try.underlying2 hv; exact ⟨x, hx⟩) (hasc.imp fun h e => by omega) (fun x => ?_)
    rw [← hD, has_knownD, mem_ascOf hL]
  have h2 := mergeSort_of_perm_i (hp.trans h1.symm)
  refine h2.trans (List.mergeSort_of_pairwise ?_)
  exact hasc.imp fun h => by simp only [leI, decide_eq_true_eq]; omega

end Go.Proofs.Ytgefpllmelpahaa

/-! The sides of a face, one after the other: an iterator. -/
namespace Go.Proofs.Ytgefpllmelpahaa
open Go.RowKit Go.Shelf

attribute [local go_sem] Oper.semAt_some

/-- A face without a vertex (the face itself if the vertex is not in it). -/
def sideN (f v : Nat) : Nat := f - (f &&& 2 ^ v)
def sideO (f v : Nat) : Option (Fin 64) := if h : sideN f v < 64 then (if sideN f v ≠ f ∧ sideN f v ≠ 0 then some ⟨sideN f v, h⟩ else none) else none
/-- The sides that lack one of the first k vertices. -/
def sidesTo (f k : Nat) : List (Fin 64) := (List.range k).filterMap (sideO f)
def sidesF (f : Nat) : List (Fin 64) := sidesTo f 6

theorem side_lt {f : Nat} (hf : f < 64) (v : Nat) : sideN f v < 64 := by unfold sideN; omega
theorem side_bits : ∀ f : Fin 64, ∀ v : Fin 6, bits BinOp.andNot IntKind.i64 (f.val : Int) (wrap64 (2 ^ v.val)) = (sideN f.val v.val : Int) := by decide +kernel
theorem sidesTo_some {f k : Nat} (hf : f < 64) (h1 : sideN f k ≠ f) (h0 : sideN f k ≠ 0) : sidesTo f (k + 1) = sidesTo f k ++ [⟨sideN f k, side_lt hf k⟩] := by
  unfold sidesTo
  rw [List.range_succ, List.filterMap_append]
  have : sideO f k = some ⟨sideN f k, side_lt hf k⟩ := by unfold sideO; rw [dif_pos (side_lt hf k), if_pos ⟨h1, h0⟩]
  simp [this]
theorem sidesTo_none {f k : Nat} (h : ¬ (sideN f k ≠ f ∧ sideN f k ≠ 0)) : sidesTo f (k + 1) = sidesTo f k := by
  unfold sidesTo
  rw [List.range_succ, List.filterMap_append]
  have : sideO f k = none := by
    unfold sideO
    by_cases hh : sideN f k < 64
    · rw [dif_pos hh, if_neg h]
    · rw [dif_neg hh]
  simp [this]
theorem sidesTo_prefix (f : Nat) : ∀ m k, sidesTo f k <+: sidesTo f (k + m)
  | 0, k => List.prefix_refl _
  | m + 1, k => by
    refine (sidesTo_prefix f m k).trans ?_
    unfold sidesTo
    rw [← Nat.add_assoc, List.range_succ, List.filterMap_append]
    exact List.prefix_append _ _
theorem sides_len (f k : Nat) : (sidesTo f k).length ≤ k := by
  unfold sidesTo
  exact Nat.le_trans (List.length_filterMap_le _ _) (by simp)

set_option maxRecDepth 100000 in
set_option maxHeartbeats 2000000 in
/-- The iterator over the sides of f: whatever the loop's body, as long as it keeps the block of f. -/
theorem sides1_in (n : Nat) (hn : 1 ≤ n) (l B0 f : Nat) (hf : f < 64) (J Jx : List (Fin 64) → World → Prop)
    (hY : ∀ pre x W, J pre W → pre ++ [x] <+: sidesF f → YieldAt Fence.wide (n - 1) Try.prog l #[.int .i64 (x.val : Int)] W fun e W' =>
      (e = .returned (.bool true) ∧ J (pre ++ [x]) W' ∧ KeepB B0 W W') ∨ (e = .returned (.bool false) ∧ Jx (pre ++ [x]) W'))
    (hJd : ∀ pre W m, J pre W → J pre (W.drewN m))
    (W : World) (hB0 : W.heap[B0]? = some (.cells #[.int .i64 (f : Int)] 2 (0, 0))) (h0 : J [] W) :
    CallsIn Fence.wide n Try.prog 215 #[.func (.yield l) #[] #[], .pointer (some ⟨B0, 0, none⟩)] W fun e W' => (∃ v, e = .returned v) ∧
      ((∃ ys, ys = sidesF f ∧ J ys W') ∨ (∃ pre, pre <+: sidesF f ∧ Jx pre W')) := by
  have c0 := (box_cell hB0).1
  refine callsIn_of_wp Try.func215 rfl trivial ?_ rfl
  simp only [Try.ntmps215, List.size_toArray, List.length_cons, List.length_nil, Nat.reduceAdd, Nat.reduceSub, Array.replicate_succ, Array.replicate_zero, List.push_toArray, List.append_toArray, List.nil_append, List.cons_append]
  gi_wp2
  gi_loopw [5] (fun p wr => ∃ (k : Nat), p = .int .i64 (k : Int) ∧ k ≤ 6 ∧ J (sidesTo f k) wr ∧ wr.heap[B0]? = some (.cells #[.int .i64 (f : Int)] 2 (0, 0)))
    (fun p _ => 6 - (intOf p).toNat)
  case atStart =>
    exact ⟨0, rfl, by omega, h0, hB0⟩
  case round =>
    obtain ⟨k, rfl, hk, hJs, hBr⟩ := hrel
    by_cases hk6 : k < 6
    · have hki : (k : Int) < 6 := by omega
      have hk0 : (0 : Int) ≤ (k : Int) := by omega
      have c0r := (box_cell hBr).1
      have hb : bits BinOp.andNot IntKind.i64 (f : Int) (wrap64 (2 ^ k)) = (sideN f k : Int) := side_bits ⟨f, hf⟩ ⟨k, hk6⟩
      obtain ⟨s, hs⟩ : ∃ s, s = sideN f k := ⟨_, rfl⟩
      rw [← hs] at hb
      have hs64 : s < 64 := by rw [hs]; exact side_lt hf k
      have HJ := hid hJs
      have HB := hid hBr
      clear hJs hBr
      by_cases h1 : s = f
      · have hd : ((s : Int) != (f : Int)) = false := by simp [h1]
        have Hst := hid (sidesTo_none (f := f) (k := k) (fun h => h.1 (by rw [← hs]; exact h1)))
        clear h1 hs
        gi_wp2
        gi_quiet (fail)
        gi_wp2
        refine ⟨fun _ h => (by cases h), ?_⟩
        gi_wp2
        go_roundw
        case rel => exact ⟨k + 1, by go_num, by omega, by rw [Hst.out]; exact hJd _ _ _ HJ.out, HB.out⟩
        case measure => simp [intOf]; omega
      · have hd : ((s : Int) != (f : Int)) = true := by simp; omega
        by_cases h2 : s = 0
        · have hd2 : ((s : Int) != 0) = false := by simp [h2]
          have Hst := hid (sidesTo_none (f := f) (k := k) (fun h => h.2 (by rw [← hs]; exact h2)))
          clear h1 h2 hs
          gi_wp2
          gi_quiet (fail)
          gi_wp2
          refine ⟨fun _ h => (by cases h), ?_⟩
          gi_wp2
          go_roundw
          case rel => exact ⟨k + 1, by go_num, by omega, by rw [Hst.out]; exact hJd _ _ _ HJ.out, HB.out⟩
          case measure => simp [intOf]; omega
        · have hd2 : ((s : Int) != 0) = true := by simp; omega
          have Hst := hid (sidesTo_some hf (k := k) (by rw [← hs]; exact h1) (by rw [← hs]; exact h2))
          have Hpre : Hid (sidesTo f k ++ [⟨s, hs64⟩] <+: sidesF f) := hid (by
            have e : sidesTo f (k + 1) = sidesTo f k ++ [⟨s, hs64⟩] := by rw [Hst.out]; simp [hs]
            rw [← e]
            have := sidesTo_prefix f (6 - (k + 1)) (k + 1)
            rwa [show k + 1 + (6 - (k + 1)) = 6 by omega] at this)
          have Hst' : Hid (sidesTo f (k + 1) = sidesTo f k ++ [⟨s, hs64⟩]) := hid (by rw [Hst.out]; simp [hs])
          have HY : Hid (∀ W', J (sidesTo f k) W' → YieldAt Fence.wide (n - 1) Try.prog l #[.int .i64 (s : Int)] W' fun e W'' =>
              (e = .returned (.bool true) ∧ J (sidesTo f k ++ [⟨s, hs64⟩]) W'' ∧ KeepB B0 W' W'') ∨ (e = .returned (.bool false) ∧ Jx (sidesTo f k ++ [⟨s, hs64⟩]) W'')) := hid (fun W' hj => hY _ ⟨s, hs64⟩ W' hj Hpre.out)
          clear h1 h2 hs Hst
          gi_wp2
          gi_quiet (fail)
          obtain ⟨fn, tmps, assign, body, hy, hR⟩ := HY.out _ (hJd _ _ nq HJ.out)
          gi_wp2
          refine hR.mono ?_
          rintro e W3 (⟨rfl, hJ3, hk3⟩ | ⟨rfl, hJx3⟩)
          · have hBr3 : W3.heap[B0]? = some (.cells #[.int .i64 (f : Int)] 2 (0, 0)) := Eq.trans hk3 HB.out
            have c03 := (box_cell hBr3).1
            gi_wp2
            go_roundw
            case rel => exact ⟨k + 1, by go_num, by omega, by rw [Hst'.out]; exact hJ3, hBr3⟩
            case measure => simp [intOf]; omega
          · gi_wp2
            refine bodyPost_ret (results_none rfl _ _ _) rfl ?_
            exact ⟨⟨_, rfl⟩, .inr ⟨_, Hpre.out, hJx3⟩⟩
    · obtain rfl : k = 6 := by omega
      gi_wp2
      go_end0
      exact ⟨⟨_, rfl⟩, .inl ⟨_, rfl, hJs⟩⟩

set_option maxHeartbeats 1000000 in
/-- sidesOf: its argument is boxed; the function value captures the box. -/
theorem sides_in (n : Nat) (x : Int) (w : World) :
    CallsIn Fence.wide n Try.prog 154 #[.int .i64 x] w fun e w' => e = .returned (.func (.func 215) #[] #[.pointer (some ⟨w.heap.size, 0, none⟩)]) ∧ w' = w.alloc (.cells #[.int .i64 x] 2) := by
  refine callsIn_of_wp Try.func154 rfl trivial ?_ rfl
  simp only [Try.ntmps154, List.size_toArray, List.length_cons, List.length_nil, Nat.reduceAdd, Nat.reduceSub, Array.replicate_succ, Array.replicate_zero, List.push_toArray, List.append_toArray, List.nil_append, List.cons_append]
  gi_wp2
  go_ret
  exact ⟨rfl, rfl⟩

theorem grown_drewN (W : World) (m : Nat) : W.grownBy (W.drewN m) none := ⟨rfl, rfl, rfl, Nat.le_refl _, fun _ _ _ => rfl⟩

theorem sides_stops (n : Nat) (hn : 1 ≤ n) (B0 f : Nat) (hf : f < 64) (w : World) (hB : B0 < w.heap.size)
    (hc : w.heap[B0]? = some (.cells #[.int .i64 (f : Int)] 2 (0, 0))) :
    SeqStopsK Fence.wide n Try.prog 215 #[.pointer (some ⟨B0, 0, none⟩)] (fun x : Fin 64 => #[Value.int .i64 (x.val : Int)]) (KeepB B0) (fun ys => ys = sidesF f) (fun pre => pre <+: sidesF f) 64 w :=
  fun l J Jx W hW hA _ hY h0 => sides1_in n hn l B0 f hf J Jx (fun pre x W1 hj hp => hY pre x W1 hj (by have h1 := hp.length_le; have h2 := sides_len f 6; unfold sidesF at h1; simp only [List.length_append, List.length_cons, List.length_nil] at h1; omega)) (fun pre W m h => hA pre W _ none h (grown_drewN W m) (fun r e => by cases e)) W ((hW.block B0 hB).trans hc) h0

end Go.Proofs.Ytgefpllmelpahaa

/-! Iterators that keep a state of their own in cells: what lies in the blocks that they lay themselves. -/
namespace Go.Proofs.Ytgefpllmelpahaa
open Go.RowKit Go.Shelf

attribute [local go_sem] Oper.semAt_some

/-- I abides new blocks, and the turn of one of the k blocks from lo on, or of one behind them that is no cells. -/
def OwnIn {β : Type} (lo k : Nat) (I : β → World → Prop) : Prop :=
  ∀ s W W' row, I s W → W.grownBy W' row → (∀ r, row = some r → lo ≤ r ∧ (r < lo + k ∨ ∃ o : Obj, W.heap[r]? = some o ∧ o.isCells = false)) → I s W'

/-- The blocks Bs and the k blocks from lo on lie as they lay; no block is lost. -/
structure KeepP (Bs : List Nat) (lo k : Nat) (W W' : World) : Prop where
  size : W.heap.size ≤ W'.heap.size
  same : ∀ r, (r ∈ Bs ∨ (lo ≤ r ∧ r < lo + k)) → W'.heap[r]? = W.heap[r]?

theorem KeepP.refl (Bs : List Nat) (lo k : Nat) (W : World) : KeepP Bs lo k W W := ⟨Nat.le_refl _, fun _ _ => rfl⟩
theorem KeepP.trans {Bs : List Nat} {lo k : Nat} {X Y Z : World} (h : KeepP Bs lo k X Y) (h' : KeepP Bs lo k Y Z) : KeepP Bs lo k X Z := ⟨Nat.le_trans h.size h'.size, fun r hr => (h'.same r hr).trans (h.same r hr)⟩
theorem KeepP.of_grownBy {Bs : List Nat} {lo k : Nat} {W W' : World} {row : Option Nat} (hg : W.grownBy W' row) (hB : ∀ b ∈ Bs, b < W.heap.size) (hlo : lo + k ≤ W.heap.size) (hrow : ∀ j, row = some j → j ∉ Bs ∧ (j < lo ∨ lo + k ≤ j)) : KeepP Bs lo k W W' :=
  ⟨hg.size, fun r hr => hg.block r (by rcases hr with h | h; exact hB r h; omega) (fun e => by have := hrow r e.symm; rcases hr with h | h; exact this.1 h; omega)⟩
theorem KeepP.of_below {Bs : List Nat} {lo k B : Nat} {W W' : World} (h : Below B W W') (hB : ∀ b ∈ Bs, b < B) (hlo : lo + k ≤ B) : KeepP Bs lo k W W' :=
  ⟨h.size, fun r hr => h.block r (by rcases hr with h | h; exact hB r h; omega)⟩
theorem KeepP.less {Bs Bs' : List Nat} {lo lo' k k' : Nat} {W W' : World} (h : KeepP Bs lo k W W') (hB : ∀ b ∈ Bs', b ∈ Bs ∨ (lo ≤ b ∧ b < lo + k)) (hlo : lo ≤ lo') (hk : lo' + k' ≤ lo + k) : KeepP Bs' lo' k' W W' :=
  ⟨h.size, fun r hr => h.same r (by rcases hr with h | h; exact hB r h; exact .inr (by omega))⟩
theorem KeepP.setCell {Bs : List Nat} {lo k : Nat} (W : World) (b : Nat) (o : Nat) (v : Value) (hb : b ∉ Bs ∧ (b < lo ∨ lo + k ≤ b)) : KeepP Bs lo k W (W.setCell ⟨b, o, none⟩ v) :=
  ⟨by simp [World.setCell], fun r hr => Below.heap_setCell _ _ _ _ (fun e => by simp only at e; subst e; rcases hr with h | h; exact hb.1 h; omega)⟩

theorem OwnIn.less {β : Type} {lo lo' k k' : Nat} {I : β → World → Prop} (h : OwnIn lo k I) (hlo : lo ≤ lo') (hk : lo' + k' ≤ lo + k) : OwnIn lo' k' I :=
  fun s W W' row hs hg hr => h s W W' row hs hg (fun r e => by
    obtain ⟨h1, h2⟩ := hr r e
    refine ⟨by omega, ?_⟩
    rcases h2 with h2 | h2
    · exact .inl (by omega)
    · exact .inr h2)
theorem OwnIn.and {β : Type} {lo k : Nat} {I I' : β → World → Prop} (h : OwnIn lo k I) (h' : OwnIn lo k I') : OwnIn lo k (fun s W => I s W ∧ I' s W) := fun s W W' row hs hg hr => ⟨h s W W' row hs.1 hg hr, h' s W W' row hs.2 hg hr⟩
theorem OwnIn.alloc {β : Type} {lo k : Nat} {I : β → World → Prop} (h : OwnIn lo k I) {s : β} {W : World} (o : Obj) (hs : I s W) : I s (W.alloc o) := h s W _ none hs (World.grownBy_alloc W o none) (fun r e => by cases e)
theorem OwnIn.drewN {β : Type} {lo k : Nat} {I : β → World → Prop} (h : OwnIn lo k I) {s : β} {W : World} (m : Nat) (hs : I s W) : I s (W.drewN m) := h s W _ none hs (grown_drewN W m) (fun r e => by cases e)
theorem OwnIn.putObj {β : Type} {lo k : Nat} {I : β → World → Prop} (h : OwnIn lo k I) {s : β} {W : World} {l : Nat} (o' : Obj) (hs : I s W) (h1 : lo ≤ l) (h2 : l < lo + k) : I s (W.putObj l o') :=
  h s W _ (some l) hs (grownBy_putObj' W l o') (fun r e => by cases e; exact ⟨h1, .inl h2⟩)
theorem OwnIn.map {β γ : Type} {lo k : Nat} {I : β → World → Prop} (h : OwnIn lo k I) (f : γ → β) : OwnIn lo k (fun s W => I (f s) W) := fun s W W' row hs hg hr => h (f s) W W' row hs hg hr
theorem ownIn_pure {β : Type} (lo k : Nat) (p : β → Prop) : OwnIn lo k (fun s (_ : World) => p s) := fun _ _ _ _ hs _ _ => hs
/-- What lies in a block of cells ahead of lo, or beyond the k blocks, stays. -/
theorem ownIn_block {β : Type} {lo k : Nat} {b : Nat} (f : β → Obj) (hb : b < lo) : OwnIn lo k (fun s (W : World) => W.heap[b]? = some (f s)) :=
  fun s W W' row hs hg hr => (hg.block b (Array.getElem?_eq_some_iff.1 hs).1 (fun e => by have := (hr b e.symm).1; omega)).trans hs
theorem ownIn_below {β : Type} {lo k n₀ : Nat} {w₀ : World} (h0 : n₀ ≤ lo) (hsz : n₀ ≤ w₀.heap.size) : OwnIn lo k (fun (_ : β) W => Below n₀ w₀ W) :=
  fun _ W W' row hs hg hr => hs.grown hg (Nat.le_trans hsz hs.size) (fun r e => by have := (hr r e).1; omega)

/-- An iterator's contract: it hands over the elements of L, one after the other, until a round says no more; it lays k blocks of its own when it begins, and reads the blocks Bs; every invariant that abides the turns of its own blocks is carried on. -/
def SeqStopsP {α : Type} (F : Fence) (n : Nat) (P : Program) (g : Nat) (lb : Array Value) (encs : α → Array Value) (Bs : List Nat) (k : Nat) (L : List α) (w0 : World) : Prop :=
  ∀ (l : Nat) (J Jx : List α → World → Prop) (W : World), Below w0.heap.size w0 W → OwnIn W.heap.size k J → OwnIn W.heap.size k Jx →
    (∀ pre x W1, pre ++ [x] <+: L → W.heap.size + k ≤ W1.heap.size → J pre W1 → YieldAt F (n - 1) P l (encs x) W1 fun e W' => KeepP Bs W.heap.size k W1 W' ∧ ((e = .returned (.bool true) ∧ J (pre ++ [x]) W') ∨ (e = .returned (.bool false) ∧ Jx (pre ++ [x]) W'))) →
    J [] W →
    CallsIn F n P g (#[.func (.yield l) #[] #[]] ++ lb) W fun e W' => (∃ v, e = .returned v) ∧ (J L W' ∨ ∃ pre, pre <+: L ∧ Jx pre W')

/-- How a round may be left. -/
def postP {α : Type} (Bs : List Nat) (lo k : Nat) (I : List α → World → Prop) (Ix : Code → List α → World → Prop) (xs : List α) (W : World) : Exit → Act → World → Prop
  | .normal, _, W' => KeepP Bs lo k W W' ∧ I xs W'
  | .ret, _, W' => KeepP Bs lo k W W' ∧ Ix .ret xs W'
  | .exit id, _, W' => KeepP Bs lo k W W' ∧ Ix (.exit id) xs W'
  | .goto t, _, W' => KeepP Bs lo k W W' ∧ Ix (.goto t) xs W'
  | .panic _, _, _ => False
  | .outgrown, _, _ => False

/-- A loop over such an iterator. -/
theorem wpIn_rangeFunc_P {α : Type} {F : Fence} {n : Nat} {P : Program} {w : World} {g : Operand} {ps : Array Tmp} {assign body : Code} {Q : Exit → Act → World → Prop} {a : Act}
    (hro : F.round = none) (h1 : 1 ≤ n) {gf : Nat} {lb : Array Value} (hg : a.eval g = .func (.func gf) #[] lb) (hFg : F.fn gf) (eg : ∀ args w, (callFunc gf args).run P w = .ok (.enter gf args) w)
    {encs : α → Array Value} {Bs : List Nat} {k : Nat} {L : List α} {w0 : World} (hseq : SeqStopsP F (n - 1) P gf lb encs Bs k L w0) (hBs : ∀ b ∈ Bs, b < w.heap.size)
    (hb0 : Below w0.heap.size w0 w) (hps : ∀ x, (encs x).size = ps.size)
    (I : List α → World → Prop) (Ix : Code → List α → World → Prop) (hI : OwnIn w.heap.size (2 + k) I) (hIx : ∀ c, OwnIn w.heap.size (2 + k) (Ix c)) (h0 : I [] w) (a₁ : α → Act)
    (hassign : ∀ (l : Nat) (x : α) (W : World) (K : Act → World → Prop), K (a₁ x) W →
      assign.wpIn (F.inRound l) (n - 1 - 1) P (Exit.then K (fun _ _ _ => False)) { tmps := (ps.zip (encs x)).foldl (fun t (p, v) => t.setIfInBounds p v) a.tmps, defers := [] } W)
    (hbody : ∀ (l : Nat) (pre : List α) (x : α) (W : World), pre ++ [x] <+: L → w.heap.size + (2 + k) ≤ W.heap.size → I pre W → body.wpIn (F.inRound l) (n - 1 - 1) P (postP Bs w.heap.size (2 + k) I Ix (pre ++ [x]) W) (a₁ x) W)
    (hdone : ∀ (W : World), I L W → W.heap[w.heap.size]? = some (.deferred (some [])) → Q .normal { a with defers := { target := .collected w.heap.size, args := #[] } :: a.defers } W)
    (hstop : ∀ (c : Code) (pre : List α) (W : World), pre <+: L → Ix c pre W → W.heap[w.heap.size]? = some (.deferred (some [])) → c.wpIn F n P Q { a with defers := { target := .collected w.heap.size, args := #[] } :: a.defers } W) :
    (Code.rangeFunc g ps assign body).wpIn F n P Q a w := by
  refine wpIn_rangeFunc ?_
  intro fn hfn
  rw [hro]
  let rec_ : LoopState → Option Code → Loop := fun st pe => { state := st, pending := pe, fn, tmps := a.tmps, params := ps, assign, body, defers := w.heap.size }
  obtain ⟨rec, hrec⟩ : ∃ rec, rec = rec_ := ⟨_, rfl⟩
  obtain ⟨W1, hW1⟩ : ∃ W1, (w.alloc (.deferred (some []))).alloc (.loop (rec .ready none)) = W1 := ⟨_, rfl⟩
  have hs1 : W1.heap.size = w.heap.size + 2 := by rw [← hW1]; simp
  have hL1 : W1.heap[w.heap.size + 1]? = some (.loop (rec .ready none)) := by
    rw [← hW1]; have := World.alloc_heap_new (w.alloc (.deferred (some []))) (.loop (rec .ready none)); rwa [World.size_alloc] at this
  have hK1 : W1.heap[w.heap.size]? = some (.deferred (some [])) := by
    rw [← hW1]; exact (Below.heap_alloc _ _ _ (by simp)).trans (World.alloc_heap_new w _)
  have hI1 : I [] W1 := by rw [← hW1]; exact hI.alloc _ (hI.alloc _ h0)
  have hb1 : Below w0.heap.size w0 W1 := by
    rw [← hW1]; exact hb0.trans ((((Below.refl _ w).alloc (Nat.le_refl _) _).alloc (by simp) _).mono hb0.size)
  have hIk : ∀ {I' : List α → World → Prop}, OwnIn w.heap.size (2 + k) I' → OwnIn W1.heap.size k I' := fun h => h.less (by omega) (by omega)
  refine ⟨w.heap.size + 1, [{ target := .collected w.heap.size, args := #[] }], W1, { target := .fn (.func gf) lb, args := #[.func (.yield (w.heap.size + 1)) #[] #[]] }, W1, gf,
    #[.func (.yield (w.heap.size + 1)) #[] #[]] ++ lb, W1, ?_, ?_, ?_, ?_, fun _ => h1, ?_⟩
  · rw [← hW1, hrec]; exact run_enterLoop_outer _ _ _ _ _
  · simp only [resolve, hg]
    simp [go_sem]
  · intro f' hf'; simp [Target.leads] at hf'; subst hf'; exact hFg
  · simp [invoke, go_sem, eg]
  · have hrow : ∀ {A B : World} {row : Option Nat} {b : Nat} {o : Obj}, A.grownBy B row → (∀ r, row = some r → W1.heap.size ≤ r ∧ (r < W1.heap.size + k ∨ ∃ o : Obj, A.heap[r]? = some o ∧ o.isCells = false)) → b < W1.heap.size → A.heap[b]? = some o → B.heap[b]? = some o :=
      fun hg' hr hb ho => (hg'.block _ (Array.getElem?_eq_some_iff.1 ho).1 (fun e => by have := (hr _ e.symm).1; omega)).trans ho
    refine (hseq (w.heap.size + 1)
      (fun pre W => I pre W ∧ W.heap[w.heap.size + 1]? = some (.loop (rec .ready none)) ∧ W.heap[w.heap.size]? = some (.deferred (some [])))
      (fun pre W => ∃ c, Ix c pre W ∧ W.heap[w.heap.size + 1]? = some (.loop (rec .done (some c))) ∧ W.heap[w.heap.size]? = some (.deferred (some [])))
      W1 hb1
      (fun s A B row hs hg' hr => ⟨hIk hI s A B row hs.1 hg' hr, hrow hg' hr (by omega) hs.2.1, hrow hg' hr (by omega) hs.2.2⟩)
      (fun s A B row hs hg' hr => by
        obtain ⟨c, hc, hl, hk⟩ := hs
        exact ⟨c, hIk (hIx c) s A B row hc hg' hr, hrow hg' hr (by omega) hl, hrow hg' hr (by omega) hk⟩)
      ?_ ⟨hI1, hL1, hK1⟩).mono ?_
    · rintro pre x W hpre hsk ⟨hi, hl, hk⟩
      have hlt : w.heap.size + 1 < W.heap.size := (Array.getElem?_eq_some_iff.1 hl).1
      have hy := run_yield (P := P) (args := encs x) hl (by rw [hrec]; exact hps x)
      rw [hrec] at hy
      refine ⟨fn, _, assign, body, hy, roundIn_of_wpIn hfn (hassign _ x W _ ?_)⟩
      clear hy
      refine ⟨_, run_beginRound hl (by rw [hrec]), ?_⟩
      obtain ⟨W2, hW2⟩ : ∃ W2, W2 = W.putObj (w.heap.size + 1) (.loop { rec .ready none with state := .busy }) := ⟨_, rfl⟩
      have hl2 : W2.heap[w.heap.size + 1]? = some (.loop { rec .ready none with state := .busy }) := by rw [hW2]; exact World.putObj_heap_same hlt
      have hk2 : W2.heap[w.heap.size]? = some (.deferred (some [])) := by rw [hW2]; exact (World.putObj_heap_other (by omega)).trans hk
      have hi2 : I pre W2 := by rw [hW2]; exact hI.putObj _ hi (by omega) (by omega)
      have hkp : ∀ {X Y : World} {o : Obj}, X = Y.putObj (w.heap.size + 1) o → KeepP Bs W1.heap.size k Y X := fun e => ⟨by rw [e, World.putObj_size]; exact Nat.le_refl _, fun r hr => by
        rw [e]
        refine World.putObj_heap_other ?_
        rcases hr with h | h
        · have := hBs r h; omega
        · omega⟩
      refine wpIn_mono (hbody _ pre x _ hpre (by rw [World.putObj_size]; omega) (by rw [← hW2]; exact hi2)) ?_
      rw [← hW2]
      have fin : ∀ (jump : Option Code) (W3 : World), KeepP Bs w.heap.size (2 + k) W2 W3 →
          (Instr.endRound (w.heap.size + 1) jump).run P W3 = .ok (.bool jump.isNone) (W3.putObj (w.heap.size + 1) (.loop (rec (if jump.isNone then .ready else .done) jump))) ∧
          (W3.putObj (w.heap.size + 1) (.loop (rec (if jump.isNone then .ready else .done) jump))).heap[w.heap.size + 1]? = some (.loop (rec (if jump.isNone then .ready else .done) jump)) ∧
          (W3.putObj (w.heap.size + 1) (.loop (rec (if jump.isNone then .ready else .done) jump))).heap[w.heap.size]? = some (.deferred (some [])) ∧
          KeepP Bs W1.heap.size k W (W3.putObj (w.heap.size + 1) (.loop (rec (if jump.isNone then .ready else .done) jump))) := fun jump W3 hk3 => by
        have hl3 := (hk3.same (w.heap.size + 1) (.inr ⟨by omega, by omega⟩)).trans hl2
        have hd3 := (hk3.same w.heap.size (.inr ⟨by omega, by omega⟩)).trans hk2
        have := run_endRound (P := P) jump hl3
        rw [hrec] at this ⊢
        exact ⟨this, World.putObj_heap_same (Array.getElem?_eq_some_iff.1 hl3).1, (World.putObj_heap_other (by omega)).trans hd3,
          (hkp hW2).trans ((hk3.less (fun b hb => .inl hb) (by omega) (by omega)).trans (hkp rfl))⟩
      rintro e a3 W3 hp
      cases e with
      | normal =>
        obtain ⟨hr, hl4, hk4, hkk⟩ := fin none W3 hp.1
        exact ⟨_, _, hr, hkk, .inl ⟨rfl, hI.putObj _ hp.2 (by omega) (by omega), hl4, hk4⟩⟩
      | ret =>
        obtain ⟨hr, hl4, hk4, hkk⟩ := fin (some .ret) W3 hp.1
        exact ⟨_, _, hr, hkk, .inr ⟨rfl, .ret, (hIx _).putObj _ hp.2 (by omega) (by omega), hl4, hk4⟩⟩
      | exit id =>
        obtain ⟨hr, hl4, hk4, hkk⟩ := fin (some (.exit id)) W3 hp.1
        exact ⟨_, _, hr, hkk, .inr ⟨rfl, .exit id, (hIx _).putObj _ hp.2 (by omega) (by omega), hl4, hk4⟩⟩
      | goto t =>
        obtain ⟨hr, hl4, hk4, hkk⟩ := fin (some (.goto t)) W3 hp.1
        exact ⟨_, _, hr, hkk, .inr ⟨rfl, .goto t, (hIx _).putObj _ hp.2 (by omega) (by omega), hl4, hk4⟩⟩
      | panic ch => exact hp.elim
      | outgrown => exact hp.elim
    · rintro e W2 ⟨⟨v, rfl⟩, (⟨hi, hl, hk⟩ | ⟨pre, hSp, c, hi, hl, hk⟩)⟩
      · exact ⟨none, _, by have := run_endLoop (P := P) hl (by rw [hrec]; simp [rec_]); rw [hrec] at this; exact this, hdone _ (hI.putObj _ hi (by omega) (by omega)) ((World.putObj_heap_other (by omega)).trans hk)⟩
      · exact ⟨some c, _, by have := run_endLoop (P := P) hl (by rw [hrec]; simp [rec_]); rw [hrec] at this; exact this, hstop c pre _ hSp ((hIx c).putObj _ hi (by omega) (by omega)) ((World.putObj_heap_other (by omega)).trans hk)⟩

end Go.Proofs.Ytgefpllmelpahaa

/-! slices.Collect and slices.Sorted over an iterator that reads cells. -/
namespace Go.Proofs.Ytgefpllmelpahaa
open Go.RowKit Go.Maps Go.Sort Go.Shelf

attribute [local go_sem] Oper.semAt_some

/-- The list that is being appended to: it lies in the call's own memory, and its variable holds it. -/
structure ApW (w W : World) (v : Value) (xs : List Int) : Prop where
  below : Below w.heap.size w W
  box : W.heap[w.heap.size]? = some (.cells #[v] 22 (0, 0))
  row : W.ownsRow (w.heap.size + 3) 2 1 v xs.length (xs.map (Value.int .i64))

theorem ApW.turn {w W W' : World} {v : Value} {xs : List Int} (h : ApW w W v xs) {row : Option Nat} (hg : W.grownBy W' row) (hr : ∀ r, row = some r → w.heap.size + 1 ≤ r ∧ v.ownBlock ≠ some r) : ApW w W' v xs where
  below := h.below.grown hg h.below.size (fun k e => by have := (hr k e).1; omega)
  box := (hg.block _ (lt_of_get h.box) (fun e => by have := (hr _ e.symm).1; omega)).trans h.box
  row := by
    cases hv : v.ownBlock with
    | none => exact h.row.kept hg (.inl hv)
    | some g => exact h.row.kept hg (.inr (fun e => by rw [hv] at e; exact (hr g e.symm).2 hv))

theorem apw_ownIn {α : Type} {w : World} (f : List α → List Int) : OwnIn (w.heap.size + 1) 2 (fun (pre : List α) W' => ∃ v, ApW w W' v (f pre)) := by
  rintro s A C row ⟨v, h⟩ hg hr
  refine ⟨v, h.turn hg (fun r e => ?_)⟩
  obtain ⟨h1, h2⟩ := hr r e
  refine ⟨h1, fun ev => ?_⟩
  have hb := (h.row.lt r ev).1
  rcases h2 with h2 | ⟨o, ho, hc⟩
  · omega
  · rcases h.row.2 with ⟨rfl, _⟩ | ⟨g, cp, cur, rfl, _, hg', _⟩
    · simp [Value.ownBlock] at ev
    · simp [Value.ownBlock] at ev
      subst ev
      rw [hg'] at ho
      injection ho with ho
      rw [← ho] at hc
      simp [Obj.isCells] at hc

theorem ApW.grow {w W W' : World} {v v' : Value} {xs ys : List Int} (h : ApW w W v xs) (hq : W'.ownsRow (w.heap.size + 3) 2 1 v' ys.length (ys.map (Value.int .i64))) (hg : W.grownBy W' v.ownBlock) :
    ApW w (W'.setCell ⟨w.heap.size, 0, none⟩ v') v' ys := by
  have hlt := h.row.lt
  have ne : ∀ j, j < w.heap.size + 3 → v.ownBlock ≠ some j := fun j hj e => by have := (hlt j e).1; omega
  have ne' : v'.ownBlock ≠ some w.heap.size := fun e => by have := (hq.lt _ e).1; omega
  have hgs := grownBy_set W' ⟨w.heap.size, 0, none⟩ v'
  have b4' : W'.heap[w.heap.size]? = some (.cells #[v] 22 (0, 0)) := (hg.block _ (lt_of_get h.box) (fun e => ne _ (by omega) e.symm)).trans h.box
  refine ⟨?_, ?_, ownsRow_set hq ne' _⟩
  · have hb := h.below.grown hg h.below.size (fun k e => by have := (hlt k e).1; omega)
    exact hb.grown hgs hb.size (fun k e => by cases e; exact Nat.le_refl _)
  · simp only [World.setCell, Array.getElem?_modify, b4']
    simp

theorem ApW.leaves {w W w' : World} {v : Value} {xs : List Int} (h : ApW w W v xs) (hw' : Shut [w.heap.size + 1] W w') : Res w w' v xs := by
  refine ⟨?_, h.below.trans (hw'.below (fun D hD => by simp at hD; omega))⟩
  have hr := h.row
  refine ⟨hr.1, ?_⟩
  rcases hr.2 with hn | ⟨g, cap, cur, hv, hb, hg, rest⟩
  · exact .inl hn
  · exact .inr ⟨g, cap, cur, hv, by omega, (hw'.block g (fun hm => by simp at hm; omega)).trans hg, rest⟩

theorem append_intK {F : Fence} {nF : Nat} {w : World} {ops : Array Oper} {rest : List Oper} {o : Oper} {a : Act} {Q : Exit → Act → World → Prop} (hgd : o.guard = none) {s y : Operand}
    (ho : o.op = .call { callee := .builtin .append, args := #[s, y], argTypes := #[22, 22] })
    {base : Nat} {v : Value} {L : List Int} {x : Int} (hown : w.ownsRow base 2 1 v L.length (L.map (Value.int .i64))) (hbase : base ≤ w.heap.size) (hl : L.length ≤ 1099511627776)
    (hs : a.eval s = v) (hy : a.eval y = .slice (some ⟨w.heap.size, 0, none⟩) 1 1)
    (hK : ∀ v' w', w'.ownsRow base 2 1 v' (L ++ [x]).length ((L ++ [x]).map (Value.int .i64)) → w.grownBy w' v.ownBlock → wpListIn F nF Try.prog ops Q rest (a.put o.dst v') w') :
    wpListIn F nF Try.prog ops Q (o :: rest) a (w.alloc (.cells #[.int .i64 x] 2)) := by
  obtain ⟨i0, hi, hz0, hz1, hz2⟩ := info_parts info_i64
  refine wpListIn_append_own_at _ hgd s y 22 ho base 2 i0 (.int .i64 0) 1 8 Try.underlying22 hi hz0 hz1 hz2 rfl (by decide) v _ _ hs (hown.alloc _) ⟨w.heap.size, 0, none⟩ 1 1 [.int .i64 x] hy rfl (cell_one_new _ _ _) (by simp [Value.oneCell']) (by unfold maxLen; omega) (by omega) (by simp; omega) ?_
  intro v' w1 hown1 hgrow1 _ _
  exact hK v' w1 (by simpa using hown1) ((World.grownBy_alloc w _ _).trans hgrow1)

set_option maxRecDepth 100000 in
set_option maxHeartbeats 4000000 in
/-- slices.AppendSeq(nil, seq): what the iterator hands over, in its order. -/
theorem appendSeq_in {α : Type} (n : Nat) (hn : 12 ≤ n) (gf : Nat) (lb : Array Value) (eg : ∀ args w, (callFunc gf args).run Try.prog w = .ok (.enter gf args) w) (f : α → Int) (Bs : List Nat) (L : List α) (w : World) (hBs : ∀ b ∈ Bs, b < w.heap.size) (hL : L.length ≤ 1048576)
    (hseq : SeqStopsP Fence.wide (n - 1) Try.prog gf lb (fun x => #[.int .i64 (f x)]) Bs 0 L w) :
    CallsIn Fence.wide n Try.prog 243 #[.slice none 0 0, .func (.func gf) #[] lb] w fun e w' => ∃ v, e = .returned v ∧ Res w w' v (L.map f) := by
  refine callsIn_of_wp_marks Try.func243 rfl trivial ?_ rfl
  simp only [Try.ntmps243, List.size_toArray, List.length_cons, List.length_nil, Nat.reduceAdd, Nat.reduceSub, Array.replicate_succ, Array.replicate_zero, List.push_toArray, List.append_toArray, List.nil_append, List.cons_append]
  gi_wp2_with fail
  obtain ⟨W0, hW0⟩ : ∃ W0, W0 = w.alloc (.cells #[.slice none 0 0] 22) := ⟨_, rfl⟩
  have hs0 : W0.heap.size = w.heap.size + 1 := by rw [hW0]; simp
  have hB0 : Below w.heap.size w W0 := by rw [hW0]; exact (Below.refl _ w).alloc (Nat.le_refl _) _
  have hap : ApW w W0 (.slice none 0 0) [] := ⟨hB0, by rw [hW0]; exact heap_alloc_new _ _, World.ownsRow_nil _ _ _ _⟩
  rw [← hW0]
  have Hap := hid hap
  clear hap hW0
  refine wpIn_rangeFunc_P rfl (by omega) (gf := gf) (lb := lb) rfl trivial eg hseq (fun b hb => by have := hBs b hb; omega) hB0 (fun _ => rfl)
    (fun pre W' => ∃ v, ApW w W' v (pre.map f)) (fun _ _ _ => False)
    (by rw [hs0]; exact apw_ownIn (fun pre => pre.map f)) (fun _ => ownIn_pure _ _ _) ⟨_, Hap.out⟩
    (fun x => { tmps := #[.slice none 0 0, .func (.func gf) #[] lb, .pointer (some ⟨w.heap.size, 0, none⟩), undef, .slice none 0 0, .int .i64 (f x), .func (.func gf) #[] lb, .int .i64 (f x), undef, undef, undef, undef, undef], defers := [] }) ?assign ?body ?done ?stop
  case assign =>
    intro l x W3 K hK
    gi_wp2
    exact hK
  case stop =>
    rintro c pre W3 hpre hF hD
    exact hF.elim
  case body =>
    rintro l pre x W3 hpre hsz3 ⟨v, hA⟩
    have hpl : (pre.map f).length ≤ 1048576 := by have := hpre.length_le; simp at this ⊢; omega
    obtain ⟨c0, f0⟩ := box_cell hA.box
    have HA := hid hA
    have hba : w.heap.size + 3 ≤ W3.heap.size := by omega
    clear hA
    gi_wp2_with (gi_at_builtin; refine append_intK rfl rfl HA.out.row hba (by omega) rfl rfl ?_; intro v' w6 hq6 hg6; obtain ⟨_, av6, cp6, rfl, _⟩ := ownsRow_slI hq6; have c66 := (box_cell ((hg6.block _ (lt_of_get HA.out.box) (fun e => by have := (HA.out.row.lt _ e.symm).1; omega)).trans HA.out.box)).1; have f66 := (box_cell ((hg6.block _ (lt_of_get HA.out.box) (fun e => by have := (HA.out.row.lt _ e.symm).1; omega)).trans HA.out.box)).2; have Hq6 := hid hq6; have Hg6 := hid hg6; clear hq6 hg6)
    refine ⟨⟨by have := Hg6.out.size; simp [World.setCell]; omega, fun r hr => ?_⟩, ?_⟩
    · have hne : v.ownBlock ≠ some r := fun e => by
        have := (HA.out.row.lt _ e).1
        rcases hr with h | h
        · have := hBs r h; omega
        · omega
      refine (Below.heap_setCell _ _ _ _ (fun e => ?_)).trans (Hg6.out.block r (by rcases hr with h | h; have := hBs r h; omega; omega) (fun e => hne e.symm))
      simp only at e
      rcases hr with h | h
      · have := hBs r h; omega
      · omega
    · exact ⟨_, HA.out.grow (ys := (pre ++ [x]).map f) (by simpa using Hq6.out) Hg6.out⟩
  case done =>
    rintro W4 ⟨v, hA⟩ hD4
    obtain ⟨c0, f0⟩ := box_cell hA.box
    have HA := hid hA
    rw [hs0] at hD4
    have HD := hid hD4
    clear hA hD4
    gi_wp2
    refine leaves_marks (by simp) [_] _ (by simp) (fun D hD => by simp only [List.mem_singleton] at hD; subst hD; first | exact HD.out | (rw [hs0]; exact HD.out)) (fun w' hw' => ?_)
    refine ⟨_, results_tmp rfl _ _ _, _, rfl, HA.out.leaves ?_⟩
    first | exact hw' | (rw [hs0] at hw'; exact hw')

set_option maxRecDepth 100000 in
set_option maxHeartbeats 1000000 in
theorem collect_in {α : Type} (n : Nat) (hn : 13 ≤ n) (gf : Nat) (lb : Array Value) (eg : ∀ args w, (callFunc gf args).run Try.prog w = .ok (.enter gf args) w) (f : α → Int) (Bs : List Nat) (L : List α) (w : World) (hBs : ∀ b ∈ Bs, b < w.heap.size) (hL : L.length ≤ 1048576)
    (hseq : SeqStopsP Fence.wide (n - 1 - 1) Try.prog gf lb (fun x => #[.int .i64 (f x)]) Bs 0 L w) :
    CallsIn Fence.wide n Try.prog 212 #[.func (.func gf) #[] lb] w fun e w' => ∃ v, e = .returned v ∧ Res w w' v (L.map f) := by
  have h1 : 1 ≤ n := by omega
  have HA := hid (appendSeq_in (n - 1) (by omega) gf lb eg f Bs L w hBs hL hseq)
  refine callsIn_of_wp Try.func212 rfl trivial ?_ rfl
  simp only [Try.ntmps212, List.size_toArray, List.length_cons, List.length_nil, Nat.reduceAdd, Nat.reduceSub, Array.replicate_succ, Array.replicate_zero, List.push_toArray, List.append_toArray, List.nil_append, List.cons_append]
  gi_wp2_with (refine ⟨trivial, ?_⟩; gi_at_call 243; refine HA.out.mono ?_; rintro e w1 ⟨v, rfl, hr⟩)
  go_ret
  exact ⟨v, rfl, hr⟩

set_option maxRecDepth 100000 in
set_option maxHeartbeats 1000000 in
theorem sortedP_in {α : Type} (n : Nat) (hn : 14 ≤ n) (gf : Nat) (lb : Array Value) (eg : ∀ args w, (callFunc gf args).run Try.prog w = .ok (.enter gf args) w) (f : α → Int) (Bs : List Nat) (L : List α) (w : World) (hBs : ∀ b ∈ Bs, b < w.heap.size) (hL : L.length ≤ 1048576)
    (hseq : SeqStopsP Fence.wide (n - 1 - 1 - 1) Try.prog gf lb (fun x => #[.int .i64 (f x)]) Bs 0 L w) :
    CallsIn Fence.wide n Try.prog 150 #[.func (.func gf) #[] lb] w fun e w' => ∃ v, e = .returned v ∧ Res w w' v ((L.map f).mergeSort fun x y => decide (x ≤ y)) := by
  have h1 : 1 ≤ n := by omega
  have HA := hid (collect_in (n - 1) (by omega) gf lb eg f Bs L w hBs hL hseq)
  obtain ⟨ss, hss⟩ : ∃ ss, ss = L.map f := ⟨_, rfl⟩
  have hsl : ss.length ≤ 1048576 := by rw [hss]; simpa using hL
  rw [← hss] at HA ⊢
  clear hss
  refine callsIn_of_wp Try.func150 rfl trivial ?_ rfl
  simp only [Try.ntmps150, List.size_toArray, List.length_cons, List.length_nil, Nat.reduceAdd, Nat.reduceSub, Array.replicate_succ, Array.replicate_zero, List.push_toArray, List.append_toArray, List.nil_append, List.cons_append]
  gi_wp2_with (refine ⟨trivial, ?_⟩; gi_at_call 212; refine HA.out.mono ?_; rintro e W ⟨v, rfl, hr⟩)
  obtain ⟨hrow, hb⟩ := hr
  rcases hrow.2 with ⟨rfl, hz⟩ | ⟨gb, cap, cur, rfl, hbase, hgb, r1, r2, r3, r4⟩
  · have hss : ss = [] := List.eq_nil_of_length_eq_zero hz
    subst hss
    gi_wp2_with (refine ⟨trivial, ?_⟩; gi_at_call 213; refine ((sortsL (n - 1)).2 none 0 W).mono ?_; rintro e w' ⟨rfl, rfl⟩)
    go_ret
    exact ⟨.slice none 0 0, rfl, by simpa using hrow, hb⟩
  · have hH : Holds (Value.int .i64) W gb 0 ss.toArray := holds_of_block_i hgb (by simpa using r4)
    have hgl : gb < W.heap.size := (Array.getElem?_eq_some_iff.1 hgb).1
    have hsz : ss.length < 4611686018427387904 := by omega
    have cS := (sortsL (n - 1)).1 gb 0 cap ss W hH hgl hsz
    gi_wp2_with (refine ⟨trivial, ?_⟩; gi_at_call 213; refine cS.mono ?_; rintro e w' ⟨rfl, nn, os, rfl⟩)
    go_ret
    refine ⟨_, rfl, ?_, hb.grown (grownBy_sorted_i _) hb.size (fun j hj => by cases hj; exact hbase)⟩
    have h1 := ownsRow_sorted_i (ts := ss.mergeSort fun x y => decide (x ≤ y)) (os := os) (n := nn) (by simp) hbase hgb r1 r2 r3
    rw [show (ss.mergeSort fun x y => decide (x ≤ y)).length = ss.length by simp]
    exact h1

end Go.Proofs.Ytgefpllmelpahaa

/-! slices.Values and partsOf as iterators that read cells; slices.Equal at integers. -/
namespace Go.Proofs.Ytgefpllmelpahaa
open Go.RowKit Go.Shelf

attribute [local go_sem] Oper.semAt_some

/-- The block that a list's numbers lie in. -/
def rowBs (a : Option Addr) (xs : List Int) : List Nat := if xs.length = 0 then [] else a.toList.map (·.block)

set_option maxRecDepth 100000 in
set_option maxHeartbeats 2000000 in
theorem values_P (n : Nat) (hn : 1 ≤ n) (B0 : Nat) (a : Option Addr) (cap : Nat) (xs : List Int) (w : World) (hB : w.heap[B0]? = some (.cells #[.slice a xs.length cap] 22 (0, 0))) (hx : SlI w w.heap.size a xs) (hl : xs.length ≤ 1048576) :
    SeqStopsP Fence.wide n Try.prog 228 #[.pointer (some ⟨B0, 0, none⟩)] (fun x : Int => #[Value.int .i64 x]) (B0 :: rowBs a xs) 0 xs w := by
  intro l J Jx W hW hJ _ hY h0
  have hB' := (hW.block B0 (lt_of_get hB)).trans hB
  have hx' := hx.later hW hW.size
  have Hx := hid hx'
  have HY := hid hY
  have HB := hid hB'
  clear hx hx' hY hB hW
  have c0 := (box_cell HB.out).1
  refine callsIn_of_wp Try.func228 rfl trivial ?_ rfl
  simp only [Try.ntmps228, List.size_toArray, List.length_cons, List.length_nil, Nat.reduceAdd, Nat.reduceSub, Array.replicate_succ, Array.replicate_zero, List.push_toArray, List.append_toArray, List.nil_append, List.cons_append]
  gi_wp2
  clear c0
  gi_loopw [7] (fun i wr => ∃ k : Nat, k ≤ xs.length ∧ i = .int .i64 k ∧ J (xs.take k) wr ∧ W.heap.size ≤ wr.heap.size ∧ Hid (∀ r, r ∈ (B0 :: rowBs a xs) → wr.heap[r]? = W.heap[r]?)) (fun i _ => xs.length - (intOf i).toNat)
  case atStart => exact ⟨0, Nat.zero_le _, rfl, by simpa using h0, Nat.le_refl _, hid (fun _ _ => rfl)⟩
  case round =>
    obtain ⟨k, hk, rfl, hJk, hsz, Hk⟩ := hrel
    by_cases hlt : k < xs.length
    · obtain ⟨b, off, hb, rfl, hc⟩ : ∃ b off, b < W.heap.size ∧ a = some ⟨b, off, none⟩ ∧ ∀ i, i < xs.length → W.cell? ⟨b, off + i, none⟩ = some (.int .i64 (xs[i]?.getD 0)) := by
        rcases Hx.out with h | h
        · rw [h] at hlt; simp at hlt
        · exact h
      obtain ⟨x, hxk⟩ : ∃ x, x = xs[k]?.getD 0 := ⟨_, rfl⟩
      have d0 : wr.cell? ⟨b, off + k, none⟩ = some (.int .i64 x) := by
        rw [World.cell?_of_block (Hk.out b (by unfold rowBs; rw [if_neg (by omega)]; simp))]
        rw [hxk]
        exact hc k hlt
      have htk : xs.take (k + 1) = xs.take k ++ [x] := by rw [take_snoc hlt, hxk]
      have hpre : xs.take k ++ [x] <+: xs := by rw [← htk]; exact List.take_prefix _ _
      obtain ⟨fn, tmps, assign, body, hy, hR⟩ := HY.out (xs.take k) x wr hpre (by omega) hJk
      have Htk := hid htk
      have Hpre := hid hpre
      have hi0 : (0 : Int) ≤ (k : Int) := by omega
      have hi1 : (k : Int) < (xs.length : Int) := by omega
      have Hsz := hid hsz
      clear hxk htk hpre hc hsz
      gi_wp2
      refine hR.mono ?_
      rintro e W3 ⟨hkp, ⟨rfl, hJ3⟩ | ⟨rfl, hJ3⟩⟩
      · have HJ3 := hid hJ3
        have Hkp := hid hkp
        clear hJ3 hkp
        gi_wp2
        go_roundw
        case rel => exact ⟨k + 1, by omega, by go_num, by rw [Htk.out]; exact HJ3.out, Nat.le_trans Hsz.out Hkp.out.size, hid (fun r hr => (Hkp.out.same r (.inl hr)).trans (Hk.out r hr))⟩
        case measure => simp [intOf]; omega
      · have HJ3 := hid hJ3
        clear hJ3 hkp
        gi_wp2
        refine bodyPost_ret (results_none rfl _ _ _) rfl ?_
        exact ⟨⟨_, rfl⟩, .inr ⟨_, Hpre.out, HJ3.out⟩⟩
    · have HJ := hid (show J xs wr by rw [show k = xs.length by omega, List.take_length] at hJk; exact hJk)
      gi_wp2
      go_end0
      exact ⟨⟨_, rfl⟩, .inl HJ.out⟩

set_option maxRecDepth 100000 in
set_option maxHeartbeats 1000000 in
theorem values_in (n : Nat) (a : Option Addr) (cap : Nat) (xs : List Int) (w : World) :
    CallsIn Fence.wide n Try.prog 177 #[.slice a xs.length cap] w fun e w' => e = .returned (.func (.func 228) #[] #[.pointer (some ⟨w.heap.size, 0, none⟩)]) ∧ w' = w.alloc (.cells #[.slice a xs.length cap] 22) := by
  refine callsIn_of_wp Try.func177 rfl trivial ?_ rfl
  simp only [Try.ntmps177, List.size_toArray, List.length_cons, List.length_nil, Nat.reduceAdd, Nat.reduceSub, Array.replicate_succ, Array.replicate_zero, List.push_toArray, List.append_toArray, List.nil_append, List.cons_append]
  gi_wp2
  go_ret
  exact ⟨rfl, rfl⟩

/-- slices.Sorted over slices.Values, from the world in which the iterator lies. -/
theorem sortedV_any (a : Option Addr) (cap : Nat) (xs : List Int) (w : World) (hx : SlI w w.heap.size a xs) (hl : xs.length ≤ 1048576) :
    Calls Try.prog 150 #[.func (.func 228) #[] #[.pointer (some ⟨w.heap.size, 0, none⟩)]] (w.alloc (.cells #[.slice a xs.length cap] 22)) fun e w' => ∃ v, e = .returned v ∧ Res (w.alloc (.cells #[.slice a xs.length cap] 22)) w' v (xs.mergeSort fun x y => decide (x ≤ y)) := by
  have hB : Below w.heap.size w (w.alloc (.cells #[.slice a xs.length cap] 22)) := (Below.refl _ w).alloc (Nat.le_refl _) _
  have h := sortedP_in (α := Int) 20 (by decide) 228 #[.pointer (some ⟨w.heap.size, 0, none⟩)] (enters_of Try.func228 (by kernel_rfl) rfl) (fun x => x) (w.heap.size :: rowBs a xs) xs (w.alloc (.cells #[.slice a xs.length cap] 22)) (fun b hb => by
    rcases List.mem_cons.1 hb with rfl | hb
    · simp
    · unfold rowBs at hb
      split at hb
      · simp at hb
      · rcases hx with h | ⟨b', off, hb', rfl, _⟩
        · subst h; simp at *
        · simp at hb; subst hb; simp; omega) hl (values_P 17 (by decide) w.heap.size a cap xs _ (heap_alloc_new _ _) (hx.later hB hB.size) hl)
  rw [List.map_id'] at h
  exact callsIn_wide.1 h

theorem ext_takeI {L M : List Int} (hl : L.length = M.length) (h : ∀ k, k < L.length → L[k]?.getD 0 = M[k]?.getD 0) : L = M := by
  apply List.ext_getElem hl
  intro i h1 h2
  have := h i h1
  rw [List.getElem?_eq_getElem h1, List.getElem?_eq_getElem h2] at this
  simpa using this

set_option maxRecDepth 100000 in
set_option maxHeartbeats 2000000 in
theorem eqIs_any (a : Option Addr) (c : Nat) (L : List Int) (b : Option Addr) (d : Nat) (M : List Int) (w : World) (ha : SlI w w.heap.size a L) (hb : SlI w w.heap.size b M) (hl : L.length ≤ 1048576) :
    Calls Try.prog 75 #[.slice a L.length c, .slice b M.length d] w fun e w' => e = .returned (.bool (decide (L = M))) ∧ Below w.heap.size w w' := by
  have Ha := hid ha
  have Hb := hid hb
  obtain ⟨R, hR⟩ : ∃ R, R = decide (L = M) := ⟨_, rfl⟩
  have HR := hid hR
  rw [← hR]
  clear ha hb hR
  by_cases hlm : L.length = M.length
  · have hd : ((L.length : Int) != (M.length : Int)) = false := by simp; omega
    have Hlm := hid hlm
    clear hlm
    go_enter Try.func75, Try.ntmps75
    go_wp2_with fail
    go_loopw [13] (fun i wr => ∃ k : Nat, k ≤ L.length ∧ i = .int .i64 k ∧ Hid (∀ j, j < k → L[j]?.getD 0 = M[j]?.getD 0) ∧ Hid (Below w.heap.size w wr)) (fun i _ => L.length - (intOf i).toNat)
    case atStart => exact ⟨0, Nat.zero_le _, rfl, hid (by intro j h; omega), hid (Below.refl _ _)⟩
    case round =>
      obtain ⟨k, hk, rfl, Hk, HB⟩ := hrel
      by_cases hlt : k < L.length
      · have hlt2 : k < M.length := by have := Hlm.out; omega
        obtain ⟨ba, oa, hba, rfl, hca⟩ : ∃ b off, b < wr.heap.size ∧ a = some ⟨b, off, none⟩ ∧ ∀ i, i < L.length → wr.cell? ⟨b, off + i, none⟩ = some (.int .i64 (L[i]?.getD 0)) := by
          rcases Ha.out.later HB.out HB.out.size with h | h
          · rw [h] at hlt; simp at hlt
          · exact h
        obtain ⟨bb, ob, hbb, rfl, hcb⟩ : ∃ b' off, b' < wr.heap.size ∧ b = some ⟨b', off, none⟩ ∧ ∀ i, i < M.length → wr.cell? ⟨b', off + i, none⟩ = some (.int .i64 (M[i]?.getD 0)) := by
          rcases Hb.out.later HB.out HB.out.size with h | h
          · rw [h] at hlt2; simp at hlt2
          · exact h
        have c1 := hca k hlt
        have c2 := hcb k hlt2
        obtain ⟨p, hp⟩ : ∃ p, p = L[k]?.getD 0 := ⟨_, rfl⟩
        obtain ⟨q, hq⟩ : ∃ q, q = M[k]?.getD 0 := ⟨_, rfl⟩
        rw [← hp] at c1
        rw [← hq] at c2
        have hi0 : (0 : Int) ≤ (k : Int) := by omega
        have hi1 : (k : Int) < (L.length : Int) := by omega
        have hi2 : (k : Int) < (M.length : Int) := by omega
        have Hp := hid hp
        have Hq := hid hq
        clear hp hq hca hcb
        by_cases he : p = q
        · have hd2 : (p != q) = false := by simp [he]
          have Hn : Hid (∀ j, j < k + 1 → L[j]?.getD 0 = M[j]?.getD 0) := hid (by
            intro j hj
            by_cases e : j < k
            · exact Hk.out j e
            · obtain rfl : j = k := by omega
              rw [← Hp.out, ← Hq.out, he])
          clear he
          go_wp2_with fail
          go_quiet (fail)
          go_wp2_with fail
          go_roundw
          case rel => exact ⟨k + 1, by omega, by go_num, Hn, hid ⟨HB.out.os, HB.out.tape, HB.out.output, HB.out.size, HB.out.block⟩⟩
          case measure => simp [intOf]; omega
        · have hd2 : (p != q) = true := by simpa using he
          have Hn : Hid (R = false) := hid (by
            rw [HR.out]
            exact decide_eq_false fun h => he (by rw [Hp.out, Hq.out, h]))
          clear he
          go_wp2_with fail
          go_quiet (fail)
          go_wp2_with fail
          go_ret
          exact ⟨ret_bool (by rw [Hn.out]), HB.out.os, HB.out.tape, HB.out.output, HB.out.size, HB.out.block⟩
      · have Hn : Hid (R = true) := hid (by
          rw [HR.out]
          exact decide_eq_true (ext_takeI Hlm.out (fun j hj => Hk.out j (by omega))))
        go_wp2_with fail
        go_ret
        exact ⟨ret_bool (by rw [Hn.out]), HB.out⟩
  · have hd : ((L.length : Int) != (M.length : Int)) = true := by simp; omega
    have Hn : Hid (R = false) := hid (by
      rw [HR.out]
      exact decide_eq_false (fun h => hlm (by rw [h])))
    clear hlm
    go_enter Try.func75, Try.ntmps75
    go_wp2_with fail
    go_ret
    exact ⟨ret_bool (by rw [Hn.out]), Below.refl _ _⟩

end Go.Proofs.Ytgefpllmelpahaa

/-! partsOf as an iterator that reads cells; slices.Sorted over it. -/
namespace Go.Proofs.Ytgefpllmelpahaa
open Go.RowKit Go.Shelf

attribute [local go_sem] Oper.semAt_some

set_option maxRecDepth 100000 in
set_option maxHeartbeats 1000000 in
theorem parts_P (n : Nat) (hn : 1 ≤ n) (B0 f : Nat) (hf : f < 64) (w : World) (hB0 : w.heap[B0]? = some (.cells #[.int .i64 (f : Int)] 2 (0, 0))) :
    SeqStopsP Fence.wide n Try.prog 214 #[.pointer (some ⟨B0, 0, none⟩)] (fun x : Fin 64 => #[Value.int .i64 (x.val : Int)]) [B0] 0 (subsF f) w := by
  intro l J Jx W hW hJ _ hY h0
  have hBW := (hW.block B0 (lt_of_get hB0)).trans hB0
  have c0 := (box_cell hBW).1
  refine callsIn_of_wp Try.func214 rfl trivial ?_ rfl
  simp only [Try.ntmps214, List.size_toArray, List.length_cons, List.length_nil, Nat.reduceAdd, Nat.reduceSub, Array.replicate_succ, Array.replicate_zero, List.push_toArray, List.append_toArray, List.nil_append, List.cons_append]
  gi_wp2
  gi_loopw [3] (fun p wr => ∃ (pre rest : List (Fin 64)) (q : Nat), p = .int .i64 (q : Int) ∧ q < 64 ∧ Hid (subsF f = pre ++ rest ∧ rest.map Fin.val = chain f 64 q) ∧ J pre wr ∧ W.heap.size ≤ wr.heap.size ∧ wr.heap[B0]? = some (.cells #[.int .i64 (f : Int)] 2 (0, 0)))
    (fun p _ => (intOf p).toNat)
  case atStart =>
    exact ⟨[], subsF f, f, rfl, hf, hid ⟨rfl, subsF_map hf⟩, h0, Nat.le_refl _, hBW⟩
  case round =>
    obtain ⟨pre, rest, q, rfl, hq, Hl, hJs, hsz, hBr⟩ := hrel
    by_cases hq0 : 0 < q
    · obtain ⟨hl1, hl2⟩ := Hl.out
      rw [chain_pos hq0 (by omega)] at hl2
      cases rest with
      | nil => simp at hl2
      | cons x rest =>
        simp only [List.map_cons, List.cons.injEq] at hl2
        obtain ⟨hx, hl2⟩ := hl2
        have hpre : pre ++ [x] <+: subsF f := ⟨rest, by simp [hl1]⟩
        obtain ⟨fn, tmps, assign, body, hy, hR⟩ := hY pre x wr hpre (by omega) hJs
        rw [hx] at hy
        have hbits := and_bits hq0 hq hf
        have hand : (q - 1) &&& f ≤ q - 1 := Nat.and_le_left
        have Hl' : Hid (subsF f = pre ++ [x] ++ rest ∧ rest.map Fin.val = chain f 64 ((q - 1) &&& f)) := hid ⟨by simp [hl1], hl2⟩
        have Hpre := hid hpre
        clear hl1 hl2 Hl hx hpre
        have c0r := (box_cell hBr).1
        gi_wp2
        refine hR.mono ?_
        rintro e W3 ⟨hk3, ⟨rfl, hJ3⟩ | ⟨rfl, hJx3⟩⟩
        · have hBr3 : W3.heap[B0]? = some (.cells #[.int .i64 (f : Int)] 2 (0, 0)) := (hk3.same B0 (.inl (by simp))).trans hBr
          have c03 := (box_cell hBr3).1
          have hsz3 := Nat.le_trans hsz hk3.size
          gi_wp2
          go_roundw
          case rel => exact ⟨pre ++ [x], rest, (q - 1) &&& f, rfl, by omega, Hl', hJ3, hsz3, hBr3⟩
          case measure => simp [intOf]; omega
        · gi_wp2
          refine bodyPost_ret (results_none rfl _ _ _) rfl ?_
          exact ⟨⟨_, rfl⟩, .inr ⟨pre ++ [x], Hpre.out, hJx3⟩⟩
    · obtain rfl : q = 0 := by omega
      obtain ⟨hl1, hl2⟩ := Hl.out
      rw [chain_zero] at hl2
      obtain rfl : rest = [] := by cases rest <;> simp_all
      have Hx : Hid (subsF f = pre) := hid (by rw [hl1]; simp)
      clear hl1 hl2 Hl
      gi_wp2
      go_end0
      exact ⟨⟨_, rfl⟩, .inl (by rw [Hx.out]; exact hJs)⟩

/-- slices.Sorted over partsOf, from the world in which the iterator lies. -/
theorem sortedParts_any (f : Nat) (hf : f < 64) (w : World) :
    Calls Try.prog 150 #[.func (.func 214) #[] #[.pointer (some ⟨w.heap.size, 0, none⟩)]] (w.alloc (.cells #[.int .i64 (f : Int)] 2)) fun e w' => ∃ v, e = .returned v ∧ Res (w.alloc (.cells #[.int .i64 (f : Int)] 2)) w' v (((subsF f).map fun x => (x.val : Int)).mergeSort fun x y => decide (x ≤ y)) := by
  have hlen : (subsF f).length ≤ 63 := by
    have := subs_len' ⟨f, hf⟩
    rwa [← subsF_map hf, List.length_map] at this
  exact callsIn_wide.1 (sortedP_in (α := Fin 64) 20 (by decide) 214 #[.pointer (some ⟨w.heap.size, 0, none⟩)] (enters_of Try.func214 (by kernel_rfl) rfl) (fun x => (x.val : Int)) [w.heap.size] (subsF f) (w.alloc (.cells #[.int .i64 (f : Int)] 2)) (fun b hb => by simp at hb; subst hb; simp) (by omega) (parts_P 17 (by decide) w.heap.size f hf _ (heap_alloc_new _ _)))

end Go.Proofs.Ytgefpllmelpahaa

/-! l07Goes, the model's. -/
namespace Go.Proofs.Ytgefpllmelpahaa
open Go.RowKit Go.Shelf

/-- The faces ahead, for one vertex: do they put it into the restriction? -/
def shF (f bit : Int) (os : List Int) (r : Int) : Int := os.foldl (fun r o => if (bits BinOp.and IntKind.i64 o (wrap64 (f - bit)) == wrap64 (f - bit)) = true then bits BinOp.or IntKind.i64 r bit else r) r
/-- The restriction after k vertices. -/
def shR (f : Int) (os : List Int) : Nat → Int
  | 0 => 0
  | v + 1 => if (bits BinOp.and IntKind.i64 f (wrap64 (2 ^ v)) == 0) = true then shR f os v else shF f (wrap64 (2 ^ v)) os (shR f os v)
/-- Does f go on with os? -/
def shG (f : Int) (os : List Int) : Bool := os.all fun o => !(bits BinOp.and IntKind.i64 o (shR f os 6) == shR f os 6)

theorem shF_snoc (f bit : Int) (os : List Int) (r : Int) {m : Nat} (hm : m < os.length) : shF f bit (os.take (m + 1)) r = if (bits BinOp.and IntKind.i64 (os[m]?.getD 0) (wrap64 (f - bit)) == wrap64 (f - bit)) = true then bits BinOp.or IntKind.i64 (shF f bit (os.take m) r) bit else shF f bit (os.take m) r := by
  unfold shF
  rw [take_snoc hm, List.foldl_append]
  rfl

set_option maxRecDepth 100000 in
set_option maxHeartbeats 2000000 in
theorem goes_any (a : Option Addr) (cap : Nat) (os : List Int) (f : Int) (w : World) (hx : SlI w w.heap.size a os) (hl : os.length ≤ 1048576) :
    Calls Try.prog 156 #[.slice a os.length cap, .int .i64 f] w fun e w' => e = .returned (.tuple #[.bool (shG f os), .int .i64 (shR f os 6)]) ∧ w = w' := by
  have Hx := hid hx
  obtain ⟨E, hE⟩ : ∃ E, E = shG f os := ⟨_, rfl⟩
  obtain ⟨R6, hR6⟩ : ∃ E, E = shR f os 6 := ⟨_, rfl⟩
  have HE0 := hid hE
  have HR0 := hid hR6
  rw [← hE, ← hR6]
  clear hx hE hR6
  go_enter Try.func156, Try.ntmps156
  go_wp2_with fail
  go_loop [6, 7] (fun r v => ∃ k : Nat, k ≤ 6 ∧ v = .int .i64 k ∧ r = .int .i64 (shR f os k)) (fun _ v => 6 - (intOf v).toNat)
  case atStart => exact ⟨0, by omega, rfl, rfl⟩
  case round =>
    obtain ⟨k, hk, rfl, rfl⟩ := hrel
    obtain ⟨r, hr⟩ : ∃ r, r = shR f os k := ⟨_, rfl⟩
    rw [← hr]
    by_cases hlt : k < 6
    · have hki : (k : Int) < 6 := by omega
      have hk0 : (0 : Int) ≤ (k : Int) := by omega
      obtain ⟨bt, hbt⟩ : ∃ b, b = wrap64 (2 ^ k) := ⟨_, rfl⟩
      have Hs : Hid (shR f os (k + 1) = if (bits BinOp.and IntKind.i64 f bt == 0) = true then r else shF f bt os r) := hid (by rw [hbt, hr]; rfl)
      obtain ⟨z, hz⟩ : ∃ z, (bits BinOp.and IntKind.i64 f bt == 0) = z := ⟨_, rfl⟩
      rw [hz] at Hs
      have hbw := hbt.symm
      clear hbt hr
      cases z
      · go_wp2_with fail
        go_loop [6, 9] (fun q j => ∃ m : Nat, m ≤ os.length ∧ j = .int .i64 m ∧ q = .int .i64 (shF f bt (os.take m) r)) (fun _ j => os.length - (intOf j).toNat)
        case atStart => exact ⟨0, Nat.zero_le _, rfl, rfl⟩
        case round =>
          obtain ⟨m, hm, rfl, rfl⟩ := hrel
          by_cases hlm : m < os.length
          · obtain ⟨b, off, hb, rfl, hc⟩ : ∃ b off, b < w.heap.size ∧ a = some ⟨b, off, none⟩ ∧ ∀ i, i < os.length → w.cell? ⟨b, off + i, none⟩ = some (.int .i64 (os[i]?.getD 0)) := by
              rcases Hx.out with h | h
              · rw [h] at hlm; simp at hlm
              · exact h
            have Hm := hid (shF_snoc f bt os r hlm)
            have c0 := hc m hlm
            obtain ⟨o, ho⟩ : ∃ o, o = os[m]?.getD 0 := ⟨_, rfl⟩
            obtain ⟨q, hq⟩ : ∃ q, q = shF f bt (os.take m) r := ⟨_, rfl⟩
            rw [← ho, ← hq] at Hm
            rw [← ho] at c0
            rw [← hq]
            obtain ⟨g, hg⟩ : ∃ g, (bits BinOp.and IntKind.i64 o (wrap64 (f - bt)) == wrap64 (f - bt)) = g := ⟨_, rfl⟩
            rw [hg] at Hm
            have hi0 : (0 : Int) ≤ (m : Int) := by omega
            have hi1 : (m : Int) < (os.length : Int) := by omega
            clear hc ho hq
            cases g
            · go_wp2_with fail
              go_round
              case rel => exact ⟨m + 1, by omega, by go_num, by rw [Hm.out]; rfl⟩
              case measure => simp [intOf]; omega
            · go_wp2_with fail
              go_round
              case rel => exact ⟨m + 1, by omega, by go_num, by rw [Hm.out]; rfl⟩
              case measure => simp [intOf]; omega
          · have Hm := hid (show shF f bt (os.take m) r = shF f bt os r by rw [List.take_of_length_le (by omega)])
            go_wp2_with fail
            go_round
            case rel => exact ⟨k + 1, by omega, by go_num, by rw [Hs.out, Hm.out]; rfl⟩
            case measure => simp [intOf]; omega
      · go_wp2_with fail
        go_round
        case rel => exact ⟨k + 1, by omega, by go_num, by rw [Hs.out]; rfl⟩
        case measure => simp [intOf]; omega
    · have hk6 : k = 6 := by omega
      have HE : Hid (E = os.all fun o => !(bits BinOp.and IntKind.i64 o r == r)) := hid (by rw [HE0.out, hr, hk6]; rfl)
      have HR : Hid (R6 = r) := hid (by rw [HR0.out, hr, hk6])
      clear hr
      go_wp2_with fail
      go_loop [10] (fun j => ∃ m : Nat, m ≤ os.length ∧ j = .int .i64 m ∧ Hid ((os.take m).all (fun o => !(bits BinOp.and IntKind.i64 o r == r)) = true)) (fun j => os.length - (intOf j).toNat)
      case atStart => exact ⟨0, Nat.zero_le _, rfl, hid rfl⟩
      case round =>
        obtain ⟨m, hm, rfl, Hm⟩ := hrel
        by_cases hlm : m < os.length
        · obtain ⟨b, off, hb, rfl, hc⟩ : ∃ b off, b < w.heap.size ∧ a = some ⟨b, off, none⟩ ∧ ∀ i, i < os.length → w.cell? ⟨b, off + i, none⟩ = some (.int .i64 (os[i]?.getD 0)) := by
            rcases Hx.out with h | h
            · rw [h] at hlm; simp at hlm
            · exact h
          have c0 := hc m hlm
          obtain ⟨o, ho⟩ : ∃ o, o = os[m]?.getD 0 := ⟨_, rfl⟩
          obtain ⟨g, hg⟩ : ∃ g, (bits BinOp.and IntKind.i64 o r == r) = g := ⟨_, rfl⟩
          have Hn : Hid ((os.take (m + 1)).all (fun o => !(bits BinOp.and IntKind.i64 o r == r)) = !g) := hid (by
            rw [take_snoc hlm, List.all_append, Hm.out, ← ho]
            simp [hg])
          have Hb : Hid (g = true → E = false) := hid (fun e => by
            rw [HE.out, List.all_eq_false]
            exact ⟨o, by rw [ho]; exact getD_mem hlm, by rw [hg, e]; simp⟩)
          rw [← ho] at c0
          have hi0 : (0 : Int) ≤ (m : Int) := by omega
          have hi1 : (m : Int) < (os.length : Int) := by omega
          clear hc ho
          cases g
          · go_wp2_with fail
            go_round
            case rel => exact ⟨m + 1, by omega, by go_num, Hn⟩
            case measure => simp [intOf]; omega
          · have He := hid (Hb.out rfl)
            go_wp2_with fail
            go_ret2
            rw [He.out, HR.out]
            exact ⟨rfl, rfl⟩
        · have He := hid (show E = true by rw [HE.out]; have h := Hm.out; rwa [List.take_of_length_le (by omega)] at h)
          go_wp2_with fail
          go_ret2
          rw [He.out, HR.out]
          exact ⟨rfl, rfl⟩

end Go.Proofs.Ytgefpllmelpahaa

/-! FacetsOf, the model's. -/
namespace Go.Proofs.Ytgefpllmelpahaa
open Go.RowKit

/-- The faces with one vertex more than a face that have all of it. -/
def aboveL (fs : List Int) (f : Nat) : List Int := fs.filter fun x => decide (x.toNat &&& f = f ∧ ones x.toNat = ones f + 1)
/-- The facets. -/
def facetsL (fs : List Int) : List Int := fs.filter fun x => decide ((aboveL fs x.toNat).length = 0)

theorem pair_mono' {P : Program} {f : FuncId} {args : Array Value} {w : World} {r : List Int × Int} {xs : List Int} {c : Int} (hr : r = (xs, c))
    (h : Calls P f args w fun e w' => ∃ v, e = .returned (.tuple #[v, .int .i64 c]) ∧ Res w w' v xs) : Calls P f args w fun e w' => ∃ v, e = .returned (.tuple #[v, .int .i64 r.2]) ∧ Res w w' v r.1 := by
  subst hr; exact h

set_option maxHeartbeats 2000000 in
theorem above_any (V : Int) (a : Option Addr) (cap : Nat) (fs : List Int) (f : Nat) (w : World) (hx : SlI w w.heap.size a fs) (hl : fs.length ≤ 1048576) (hf : ∀ x ∈ fs, 1 ≤ x ∧ x ≤ 63) (hf64 : f < 64) :
    Calls Try.prog 155 #[.agg #[.int .i64 V, .slice a fs.length cap], .int .i64 (f : Int)] w fun e w' => ∃ v, e = .returned v ∧ Res w w' v (aboveL fs f) := by
  have hB0 : Below w.heap.size w (w.alloc (.cells #[.int .i64 V, .slice a fs.length cap] 30)) := (Below.refl _ w).alloc (Nat.le_refl _) _
  have hB00 := (hB0.alloc (by simp) (.cells #[] 2))
  have hown0 := World.ownsRow_made (base := w.heap.size + 1) (e := 2) (size := 1) (w.alloc (.cells #[.int .i64 V, .slice a fs.length cap] 30)) #[] 0 (by simp) (by simp [maxLen]) rfl
  rw [World.size_alloc] at hown0
  rcases hx with rfl | ⟨b, off, hb, rfl, hc⟩
  · have Hown0 := hid hown0
    clear hown0
    go_enter Try.func155, Try.ntmps155
    go_wp2
    refine wp_loop_rounds 1 ?_; rw [rounds_succ]
    go_wp2
    go_ret
    exact ⟨_, rfl, ownsRow_base (by simpa [aboveL] using Hown0.out) (Nat.le_succ _), hB00⟩
  · have Hc := hid hc
    have Hf := hid hf
    have Hown0 := hid hown0
    clear hc hf hown0
    go_enter Try.func155, Try.ntmps155
    go_wp2
    go_loopw [5, 6] (fun v i wr => ∃ k : Nat, k ≤ fs.length ∧ i = .int .i64 k ∧ wr.ownsRow (w.heap.size + 1) 2 1 v (aboveL (fs.take k) f).length ((aboveL (fs.take k) f).map (Value.int .i64)) ∧
        Below (w.heap.size + 1) (w.alloc (.cells #[.int .i64 V, .slice (some ⟨b, off, none⟩) fs.length cap] 30)) wr) (fun _ i _ => fs.length - (intOf i).toNat)
    case atStart => exact ⟨0, Nat.zero_le _, rfl, Hown0.out, (Below.refl _ _).alloc (by simp) _⟩
    case round =>
      obtain ⟨k, hk, rfl, hown, hB⟩ := hrel
      have c0 : wr.cell? ⟨w.heap.size, 0, none⟩ = some (.int .i64 V) := (hB.cell (p := ⟨w.heap.size, 0, none⟩) (by simp)).trans (by simp [go_sem])
      have c1 : wr.cell? ⟨w.heap.size, 1, none⟩ = some (.slice (some ⟨b, off, none⟩) fs.length cap) := (hB.cell (p := ⟨w.heap.size, 1, none⟩) (by simp)).trans (by simp [go_sem])
      have hBW := hB0.trans (hB.mono (by simp))
      have hsz := hB.size
      simp only [World.size_alloc] at hsz
      by_cases hlt : k < fs.length
      · obtain ⟨x, hx⟩ : ∃ x : Nat, (x : Int) = fs[k]?.getD 0 := ⟨(fs[k]?.getD 0).toNat, by have := Hf.out _ (getD_mem hlt); omega⟩
        have hx64 : x < 64 := by have := Hf.out _ (getD_mem hlt); omega
        have hck : wr.cell? ⟨b, off + k, none⟩ = some (.int .i64 (x : Int)) := by rw [hx]; exact (hBW.cell (p := ⟨b, off + k, none⟩) hb).trans (Hc.out k hlt)
        have hi0 : (0 : Int) ≤ (k : Int) := by omega
        have hi1 : (k : Int) < (fs.length : Int) := by omega
        have hfl : (aboveL (fs.take k) f).length ≤ 1048576 := Nat.le_trans (List.length_filter_le _ _) (by simp; omega)
        have Hp : Hid (∀ c, decide (x &&& f = f ∧ ones x = ones f + 1) = c → aboveL (fs.take (k + 1)) f = aboveL (fs.take k) f ++ (if c then [(x : Int)] else [])) := hid (fun c hc => by
          unfold aboveL
          rw [take_snoc hlt, List.filter_append, ← hx]
          cases c <;> simpa using hc)
        have hbits : bits BinOp.and IntKind.i64 (x : Int) (f : Int) = ((x &&& f : Nat) : Int) := (bits_nat .i64 6 (by decide) (fun n h0 h1 => by rw [IntKind.wrap_i64]; omega) x f (by omega) (by omega)).1
        clear hx hB0 hB00
        have ho := ones_le x
        have ho' := ones_le f
        by_cases hpx : x &&& f = f
        · have hd : (((x &&& f : Nat) : Int) == (f : Int)) = true := by simp; omega
          by_cases hox : ones x = ones f + 1
          · have hd2 : ((ones x : Int) == (ones f : Int) + 1) = true := by simp; omega
            have HP := hid (Hp.out true (decide_eq_true ⟨hpx, hox⟩))
            clear hpx hox Hp
            go_wp2_with (first
              | (go_at_call 130; refine (ones_any _ _ (by assumption)).mono ?_; rintro e w' ⟨rfl, rfl⟩)
              | (at_builtin; refine append_int rfl rfl hown hsz (by omega) rfl rfl ?_; intro v' w2 hown2 hgrow2 hB2))
            go_roundw
            case rel => exact ⟨k + 1, by omega, by go_num, by rw [HP.out]; exact hown2, hB.trans hB2⟩
            case measure => simp [intOf]; omega
          · have hd2 : ((ones x : Int) == (ones f : Int) + 1) = false := by simp; omega
            have HP := hid (Hp.out false (decide_eq_false (fun h => hox h.2)))
            clear hpx hox Hp
            go_wp2_with (first
              | (go_at_call 130; refine (ones_any _ _ (by assumption)).mono ?_; rintro e w' ⟨rfl, rfl⟩))
            go_roundw
            case rel => exact ⟨k + 1, by omega, by go_num, by rw [HP.out]; simpa using hown, hB⟩
            case measure => simp [intOf]; omega
        · have hd : (((x &&& f : Nat) : Int) == (f : Int)) = false := by simp; omega
          have HP := hid (Hp.out false (decide_eq_false (fun h => hpx h.1)))
          clear hpx Hp
          go_wp2_with fail
          go_roundw
          case rel => exact ⟨k + 1, by omega, by go_num, by rw [HP.out]; simpa using hown, hB⟩
          case measure => simp [intOf]; omega
      · go_wp2
        go_ret
        obtain rfl : k = fs.length := by omega
        rw [List.take_of_length_le (Nat.le_refl _)] at hown
        exact ⟨_, rfl, ownsRow_base hown (by omega), hBW⟩

set_option maxHeartbeats 2000000 in
theorem facets_any (V : Int) (a : Option Addr) (cap : Nat) (fs : List Int) (w : World) (hx : SlI w w.heap.size a fs) (hl : fs.length ≤ 1048576) (hf : ∀ x ∈ fs, 1 ≤ x ∧ x ≤ 63) :
    Calls Try.prog 80 #[.agg #[.int .i64 V, .slice a fs.length cap]] w fun e w' => ∃ v, e = .returned v ∧ Res w w' v (facetsL fs) := by
  have hB0 : Below w.heap.size w (w.alloc (.cells #[.int .i64 V, .slice a fs.length cap] 30)) := (Below.refl _ w).alloc (Nat.le_refl _) _
  have hB00 := (hB0.alloc (by simp) (.cells #[] 2))
  have hown0 := World.ownsRow_made (base := w.heap.size + 1) (e := 2) (size := 1) (w.alloc (.cells #[.int .i64 V, .slice a fs.length cap] 30)) #[] 0 (by simp) (by simp [maxLen]) rfl
  rw [World.size_alloc] at hown0
  have Hx0 := hid hx
  rcases hx with rfl | ⟨b, off, hb, rfl, hc⟩
  · have Hown0 := hid hown0
    clear hown0
    go_enter Try.func80, Try.ntmps80
    go_wp2
    refine wp_loop_rounds 1 ?_; rw [rounds_succ]
    go_wp2
    go_ret
    exact ⟨_, rfl, ownsRow_base (by simpa [facetsL] using Hown0.out) (Nat.le_succ _), hB00⟩
  · have Hc := hid hc
    have Hf := hid hf
    have Hown0 := hid hown0
    clear hc hf hown0
    go_enter Try.func80, Try.ntmps80
    go_wp2
    go_loopw [3, 4] (fun v i wr => ∃ k : Nat, k ≤ fs.length ∧ i = .int .i64 k ∧ wr.ownsRow (w.heap.size + 1) 2 1 v ((fs.take k).filter fun x => decide ((aboveL fs x.toNat).length = 0)).length (((fs.take k).filter fun x => decide ((aboveL fs x.toNat).length = 0)).map (Value.int .i64)) ∧
        Below (w.heap.size + 1) (w.alloc (.cells #[.int .i64 V, .slice (some ⟨b, off, none⟩) fs.length cap] 30)) wr) (fun _ i _ => fs.length - (intOf i).toNat)
    case atStart => exact ⟨0, Nat.zero_le _, rfl, Hown0.out, (Below.refl _ _).alloc (by simp) _⟩
    case round =>
      obtain ⟨k, hk, rfl, hown, hB⟩ := hrel
      have c0 : wr.cell? ⟨w.heap.size, 0, none⟩ = some (.int .i64 V) := (hB.cell (p := ⟨w.heap.size, 0, none⟩) (by simp)).trans (by simp [go_sem])
      have c1 : wr.cell? ⟨w.heap.size, 1, none⟩ = some (.slice (some ⟨b, off, none⟩) fs.length cap) := (hB.cell (p := ⟨w.heap.size, 1, none⟩) (by simp)).trans (by simp [go_sem])
      have hBW := hB0.trans (hB.mono (by simp))
      have hsz := hB.size
      simp only [World.size_alloc] at hsz
      by_cases hlt : k < fs.length
      · obtain ⟨x, hx⟩ : ∃ x : Nat, (x : Int) = fs[k]?.getD 0 := ⟨(fs[k]?.getD 0).toNat, by have := Hf.out _ (getD_mem hlt); omega⟩
        have hx64 : x < 64 := by have := Hf.out _ (getD_mem hlt); omega
        have hck : wr.cell? ⟨b, off + k, none⟩ = some (.int .i64 (x : Int)) := by rw [hx]; exact (hBW.cell (p := ⟨b, off + k, none⟩) hb).trans (Hc.out k hlt)
        have hi0 : (0 : Int) ≤ (k : Int) := by omega
        have hi1 : (k : Int) < (fs.length : Int) := by omega
        have hfl : ((fs.take k).filter fun x => decide ((aboveL fs x.toNat).length = 0)).length ≤ 1048576 := Nat.le_trans (List.length_filter_le _ _) (by simp; omega)
        have Hp : Hid (∀ c, decide ((aboveL fs x).length = 0) = c → ((fs.take (k + 1)).filter fun x => decide ((aboveL fs x.toNat).length = 0)) = ((fs.take k).filter fun x => decide ((aboveL fs x.toNat).length = 0)) ++ (if c then [(x : Int)] else [])) := hid (fun c hc => by
          rw [take_snoc hlt, List.filter_append, ← hx]
          cases c <;> simpa using hc)
        have Hxr := hid (Hx0.out.later hBW (by omega))
        have hal : (aboveL fs x).length ≤ 1048576 := Nat.le_trans (List.length_filter_le _ _) hl
        have Hown := hid hown
        have HB := hid hB
        obtain ⟨us, hus⟩ : ∃ us, us = ((fs.take k).filter fun x => decide ((aboveL fs x.toNat).length = 0)) := ⟨_, rfl⟩
        obtain ⟨bs, hbs⟩ : ∃ bs, bs = aboveL fs x := ⟨_, rfl⟩
        have Hbs := hid hbs
        rw [← hus] at hfl Hown Hp
        rw [← hbs] at Hp hal
        clear hx hB0 hB00 hown hB hBW hus hbs
        go_wp2_with fail
        go_region_with (go_at_call 155; refine (above_any V _ cap fs x wr.drew Hxr.out hl Hf.out hx64).mono ?_; rintro e w2 ⟨v2, rfl, hr2⟩; rw [← Hbs.out] at hr2; obtain ⟨_, a2, cp2, rfl, _⟩ := ownsRow_slI hr2.1)
        all_goals
          have hs2 : wr.heap.size ≤ w2.heap.size := hr2.2.size
          have hB2 : Below wr.heap.size wr w2 := ⟨hr2.2.os, hr2.2.tape, hr2.2.output, hr2.2.size, hr2.2.block⟩
          have hBt := HB.out.trans (hB2.mono hsz)
          have c02 := (hBt.cell (p := ⟨w.heap.size, 0, none⟩) (by simp)).trans (show (w.alloc (.cells #[.int .i64 V, .slice (some ⟨b, off, none⟩) fs.length cap] 30)).cell? ⟨w.heap.size, 0, none⟩ = some (.int .i64 V) by simp [go_sem])
          have c12 := (hBt.cell (p := ⟨w.heap.size, 1, none⟩) (by simp)).trans (show (w.alloc (.cells #[.int .i64 V, .slice (some ⟨b, off, none⟩) fs.length cap] 30)).cell? ⟨w.heap.size, 1, none⟩ = some (.slice (some ⟨b, off, none⟩) fs.length cap) by simp [go_sem])
          have hck2 := (hB2.cell (p := ⟨b, off + k, none⟩) (by show b < wr.heap.size; omega)).trans hck
          have hown2 := ownsRow_below Hown.out hB2 (fun g hg => (Hown.out.lt g hg).2)
          have hsz2 : w.heap.size + 1 ≤ w2.heap.size := by omega
          have HBt := hid hBt
          have hbl : (bs.length : Int) ≤ 1048576 := by omega
          clear hr2 hB2 hBt c0 c1 hck
          by_cases hpx : bs.length = 0
          · have hd : ((bs.length : Int) == 0) = true := by simp [hpx]
            have HP := hid (Hp.out true (decide_eq_true hpx))
            clear hpx Hp
            go_wp2_with (at_builtin; refine append_int rfl rfl hown2 hsz2 (by omega) rfl rfl ?_; intro v' w3 hown3 hgrow3 hB3)
            go_roundw
            case rel => exact ⟨k + 1, by omega, by go_num, by rw [HP.out]; exact hown3, HBt.out.trans hB3⟩
            case measure => simp [intOf]; omega
          · have hd : ((bs.length : Int) == 0) = false := by simp; intro h; exact hpx (by rw [h]; rfl)
            have HP := hid (Hp.out false (decide_eq_false hpx))
            clear hpx Hp
            go_wp2_with fail
            go_roundw
            case rel => exact ⟨k + 1, by omega, by go_num, by rw [HP.out]; simpa using hown2, HBt.out⟩
            case measure => simp [intOf]; omega
      · go_wp2
        go_ret
        obtain rfl : k = fs.length := by omega
        rw [List.take_of_length_le (Nat.le_refl _)] at hown
        exact ⟨_, rfl, ownsRow_base hown (by omega), hBW⟩

/-- What FacetsOf hands back. -/
noncomputable def facetsOfR (V : Int) (fs : List Int) : List Int × Int := if isCB V fs then (facetsL fs, 0) else ([], 1)

theorem facetsOfR_len (V : Int) (fs : List Int) (h : fs.length ≤ 1048576) : (facetsOfR V fs).1.length ≤ 1048576 := by
  unfold facetsOfR
  split
  · exact Nat.le_trans (List.length_filter_le _ _) h
  · simp

end Go.Proofs.Ytgefpllmelpahaa
