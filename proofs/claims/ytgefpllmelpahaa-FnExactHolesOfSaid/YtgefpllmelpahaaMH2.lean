import Derived.Deep.RegionHeld3
import Derived.Deep.AppendLies
import Derived.Deep.RegionLaw
import Derived.Laws.ResultCell
import Derived.Test.YtgefpllmelpahaaMH1
/-! 'out.Faces = append(out.Faces, x)' in the model's loops. -/
namespace Go.Proofs.Ytgefpllmelpahaa
open Go.RowKit

theorem cell_alloc_drew {W : World} {p : Addr} {v : Value} (h : W.cell? p = some v) (n : Nat) (o : Obj) : ((W.drewN n).alloc o).cell? p = some v :=
  (World.cell?_alloc_some (W.drewN n) p o (show (W.cell? p).isSome = true by rw [h]; rfl)).trans h

theorem step_append_int {w : World} {ops : Array Oper} {o : Oper} {a : Act} {K : Act → World → Prop} {Q : Exit → Act → World → Prop} {E : Prop} (hgd : o.guard = none) {s y : Operand}
    (ho : o.op = .call { callee := .builtin .append, args := #[s, y], argTypes := #[22, 22] })
    {base : Nat} {v : Value} {xs : List Int} {x : Int} {ad : Addr} (hown : w.ownsRow base 2 1 v xs.length (xs.map (Value.int .i64))) (hbase : base ≤ w.heap.size) (hl : xs.length ≤ 1099511627776)
    (hs : a.eval s = v) (hy : a.eval y = .slice (some ad) 1 1) (hc : w.cell? (ad.add 0) = some (.int .i64 x))
    (hK : ∀ g cap w', w'.ownsRow base 2 1 (.slice (some ⟨g, 0, none⟩) (xs ++ [x]).length cap) (xs ++ [x]).length ((xs ++ [x]).map (Value.int .i64)) → w.grownBy w' v.ownBlock →
      K (a.put o.dst (.slice (some ⟨g, 0, none⟩) (xs ++ [x]).length cap)) w') :
    if Region.wanted o (yielded ops a.tmps) = true then Oper.wp Try.prog o a w K Q else E := by
  obtain ⟨i0, hi, hz0, hz1, hz2⟩ := info_parts info_i64
  refine step_append_lies w hgd s y 22 ho base 2 i0 (.int .i64 0) 1 8 Try.underlying22 hi hz0 hz1 hz2 rfl (by decide) v _ _ hs hown ad 1 1 [.int .i64 x] hy rfl ?_ (by simp [Value.oneCell']) (by decide) (by unfold maxLen; omega) (by omega) hbase _ rfl ?_
  · intro j u hu
    match j, hu with
    | 0, hu => simp at hu; subst hu; exact hc
  · intro g cap w1 hown1 hg _ _
    have e : (xs ++ [x]).length = xs.length + 1 := by simp
    have h := hK g cap w1 (by rw [e]; simpa using hown1) hg
    rw [e] at h
    exact h

/-- What the model's loops keep of the world while they build a complex in block Bo: B is the heap's size when the call began. -/
structure OutW (w W : World) (V : Int) (sl : Value) (Bo : Nat) (xs : List Int) (a : Option Addr) (c : Nat) : Prop where
  below : Below w.heap.size w W
  kbox : W.heap[w.heap.size]? = some (.cells #[.int .i64 V, sl] 30 (0, 0))
  res : W.heap[w.heap.size + 1]? = some (.cells #[.int .i64 0, .slice none 0 0] 30 (0, 0))
  out : W.heap[Bo]? = some (.cells #[.int .i64 V, .slice a xs.length c] 30 (0, 0))
  own : W.ownsRow w.heap.size 2 1 (.slice a xs.length c) xs.length (xs.map (Value.int .i64))
  bo : w.heap.size + 1 < Bo

/-- A block of another type is none of an owned row's. -/
theorem row_ne {W : World} {base e t : Nat} {v : Value} {n : Nat} {xs : List Value} {b : Nat} {cs : Array Value} {fz : Nat × Nat} (h : W.ownsRow base e 1 v n xs) (hb : W.heap[b]? = some (.cells cs t fz)) (hne : e ≠ t) : some b ≠ v.ownBlock := by
  intro he
  rcases h.2 with ⟨rfl, _⟩ | ⟨g, cap, cur, rfl, _, hg, _⟩
  · simp [Value.ownBlock] at he
  · simp [Value.ownBlock] at he
    subst he
    rw [hb] at hg
    simp at hg
    exact hne hg.2.1.symm

theorem lt_get {W : World} {b : Nat} {o : Obj} (h : W.heap[b]? = some o) : b < W.heap.size := (Array.getElem?_eq_some_iff.1 h).1

/-- Draws alone. -/
theorem OutW.drew {w W : World} {V : Int} {sl : Value} {Bo : Nat} {xs : List Int} {a : Option Addr} {c : Nat} (h : OutW w W V sl Bo xs a c) : OutW w W.drew V sl Bo xs a c :=
  ⟨⟨h.below.os, h.below.tape, h.below.output, h.below.size, h.below.block⟩, h.kbox, h.res, h.out, h.own, h.bo⟩

theorem OutW.drewN {w W : World} {V : Int} {sl : Value} {Bo : Nat} {xs : List Int} {a : Option Addr} {c : Nat} (h : OutW w W V sl Bo xs a c) (n : Nat) : OutW w (W.drewN n) V sl Bo xs a c :=
  ⟨⟨h.below.os, h.below.tape, h.below.output, h.below.size, h.below.block⟩, h.kbox, h.res, h.out, h.own, h.bo⟩

/-- Whatever keeps all that lay. -/
theorem OutW.later {w W W' : World} {V : Int} {sl : Value} {Bo : Nat} {xs : List Int} {a : Option Addr} {c : Nat} (h : OutW w W V sl Bo xs a c) (hb : Below W.heap.size W W') : OutW w W' V sl Bo xs a c where
  below := h.below.trans (hb.mono h.below.size)
  kbox := (hb.block _ (lt_get h.kbox)).trans h.kbox
  res := (hb.block _ (lt_get h.res)).trans h.res
  out := (hb.block _ (lt_get h.out)).trans h.out
  own := ownsRow_below h.own hb (fun g hg => (h.own.lt g hg).2)
  bo := h.bo

/-- A face more. -/
theorem OutW.step {w W w2 : World} {V : Int} {sl : Value} {Bo : Nat} {xs : List Int} {a : Option Addr} {c : Nat} (h : OutW w W V sl Bo xs a c) {x : Int} {g cap : Nat} {o : Obj}
    (hown : w2.ownsRow w.heap.size 2 1 (.slice (some ⟨g, 0, none⟩) (xs ++ [x]).length cap) (xs ++ [x]).length ((xs ++ [x]).map (Value.int .i64))) (hg : (W.alloc o).grownBy w2 (Value.ownBlock (.slice a xs.length c))) :
    OutW w (w2.setCell ⟨Bo, 1, none⟩ (.slice (some ⟨g, 0, none⟩) (xs ++ [x]).length cap)) V sl Bo (xs ++ [x]) (some ⟨g, 0, none⟩) cap := by
  have hgr : W.grownBy w2 (Value.ownBlock (.slice a xs.length c)) := (World.grownBy_alloc W o _).trans hg
  have hbo := h.bo
  have k2 := (hgr.block _ (lt_get h.kbox) (row_ne h.own h.kbox (by decide))).trans h.kbox
  have r2 := (hgr.block _ (lt_get h.res) (row_ne h.own h.res (by decide))).trans h.res
  have o2 := (hgr.block _ (lt_get h.out) (row_ne h.own h.out (by decide))).trans h.out
  refine ⟨?_, ?_, ?_, ?_, ?_, h.bo⟩
  · exact (h.below.grown hgr h.below.size (fun k hk => (h.own.lt k hk).1)).setCell (p := ⟨Bo, 1, none⟩) (by simp only; omega) _
  · exact (Below.heap_setCell _ _ _ _ (by simp only; omega)).trans k2
  · exact (Below.heap_setCell _ _ _ _ (by simp only; omega)).trans r2
  · simp only [World.setCell, Array.getElem?_modify, o2]
    simp
  · exact ownsRow_set hown (by
      have := row_ne hown o2 (by decide)
      exact fun e => this e.symm) _

theorem outW_start {w W : World} {V : Int} {sl : Value} (hB : Below w.heap.size w W) (hk : W.heap[w.heap.size]? = some (.cells #[.int .i64 V, sl] 30 (0, 0)))
    (hr : W.heap[w.heap.size + 1]? = some (.cells #[.int .i64 0, .slice none 0 0] 30 (0, 0))) :
    OutW w ((W.alloc (.cells #[] 2)).alloc (.cells #[.int .i64 V, .slice (some ⟨W.heap.size, 0, none⟩) 0 0] 30)) V sl (W.heap.size + 1) [] (some ⟨W.heap.size, 0, none⟩) 0 where
  below := (hB.alloc hB.size _).alloc (by have := hB.size; simp; omega) _
  kbox := (Below.heap_alloc _ _ _ (by have := lt_get hk; simp; omega)).trans ((Below.heap_alloc _ _ _ (lt_get hk)).trans hk)
  res := (Below.heap_alloc _ _ _ (by have := lt_get hr; simp; omega)).trans ((Below.heap_alloc _ _ _ (lt_get hr)).trans hr)
  out := by have := heap_alloc_new (W.alloc (.cells #[] 2)) (.cells #[.int .i64 V, .slice (some ⟨W.heap.size, 0, none⟩) 0 0] 30); rwa [World.size_alloc] at this
  own := by
    have h := World.ownsRow_made (base := w.heap.size) (e := 2) (size := 1) W #[] 0 hB.size (by simp [maxLen]) rfl
    exact h.alloc _
  bo := by have := lt_get hr; omega

/-- The model's loops hand back what they have built. -/
theorem OutW.done {w W : World} {V : Int} {sl : Value} {Bo : Nat} {xs : List Int} {a : Option Addr} {c : Nat} (h : OutW w W V sl Bo xs a c) (u v : Value) :
    Res w ((W.setCell ⟨w.heap.size + 1, 0, none⟩ u).setCell ⟨w.heap.size + 1, 1, none⟩ v) (.slice a xs.length c) xs := by
  have hn := row_ne h.own h.res (by decide)
  exact ⟨ownsRow_set (ownsRow_set h.own (fun e => hn e.symm) _) (fun e => hn e.symm) _, (h.below.setCell (p := ⟨w.heap.size + 1, 0, none⟩) (by simp) _).setCell (p := ⟨w.heap.size + 1, 1, none⟩) (by simp) _⟩

/-- .. where the new element has just been laid. -/
theorem step_append_new {W : World} {H : Nat} {ops : Array Oper} {o : Oper} {a : Act} {K : Act → World → Prop} {Q : Exit → Act → World → Prop} {E : Prop} (hgd : o.guard = none) {s y : Operand}
    (ho : o.op = .call { callee := .builtin .append, args := #[s, y], argTypes := #[22, 22] })
    {base : Nat} {v : Value} {xs : List Int} {x : Int} (hown : W.ownsRow base 2 1 v xs.length (xs.map (Value.int .i64))) (hH : W.heap.size = H) (hbase : base ≤ H) (hl : xs.length ≤ 1099511627776)
    (hs : a.eval s = v) (hy : a.eval y = .slice (some ⟨H, 0, none⟩) 1 1)
    (hK : ∀ g cap w', w'.ownsRow base 2 1 (.slice (some ⟨g, 0, none⟩) (xs ++ [x]).length cap) (xs ++ [x]).length ((xs ++ [x]).map (Value.int .i64)) → (W.alloc (.cells #[.int .i64 x] 2)).grownBy w' v.ownBlock →
      K (a.put o.dst (.slice (some ⟨g, 0, none⟩) (xs ++ [x]).length cap)) w') :
    if Region.wanted o (yielded ops a.tmps) = true then Oper.wp Try.prog o a (W.alloc (.cells #[.int .i64 x] 2)) K Q else E := by
  subst hH
  exact step_append_int hgd ho (hown.alloc _) (by simp; omega) hl hs hy (by simp [go_sem, Addr.add]) hK

theorem OutW.stepN {w W w2 : World} {V : Int} {sl : Value} {Bo : Nat} {xs : List Int} {a : Option Addr} {c : Nat} (h : OutW w W V sl Bo xs a c) {x : Int} {g cap : Nat} {o : Obj} {n : Nat}
    (hown : w2.ownsRow w.heap.size 2 1 (.slice (some ⟨g, 0, none⟩) (xs ++ [x]).length cap) (xs ++ [x]).length ((xs ++ [x]).map (Value.int .i64))) (hg : ((W.drewN n).alloc o).grownBy w2 (Value.ownBlock (.slice a xs.length c))) :
    OutW w (w2.setCell ⟨Bo, 1, none⟩ (.slice (some ⟨g, 0, none⟩) (xs ++ [x]).length cap)) V sl Bo (xs ++ [x]) (some ⟨g, 0, none⟩) cap := (h.drewN n).step hown hg

/-- The out block behind an append. -/
theorem OutW.mid {w W w2 : World} {V : Int} {sl : Value} {Bo : Nat} {xs : List Int} {a : Option Addr} {c : Nat} (h : OutW w W V sl Bo xs a c) {n : Nat} {o : Obj} (hg : ((W.drewN n).alloc o).grownBy w2 (Value.ownBlock (.slice a xs.length c))) :
    w2.cell? ⟨Bo, 1, none⟩ = some (.slice a xs.length c) ∧ w2.frozen? ⟨Bo, 1, none⟩ = false := by
  have hgr : (W.drewN n).grownBy w2 (Value.ownBlock (.slice a xs.length c)) := (World.grownBy_alloc _ o _).trans hg
  have o2 := (hgr.block _ (lt_get (h.drewN n).out) (row_ne (h.drewN n).own (h.drewN n).out (by decide))).trans (h.drewN n).out
  constructor <;> simp [World.cell?, World.frozen?, o2]

/-- The given complex's box behind an append. -/
theorem OutW.midK {w W w2 : World} {V : Int} {sl : Value} {Bo : Nat} {xs : List Int} {a : Option Addr} {c : Nat} (h : OutW w W V sl Bo xs a c) {n : Nat} {o : Obj} (hg : ((W.drewN n).alloc o).grownBy w2 (Value.ownBlock (.slice a xs.length c))) :
    w2.cell? ⟨w.heap.size, 1, none⟩ = some sl := by
  have hgr : (W.drewN n).grownBy w2 (Value.ownBlock (.slice a xs.length c)) := (World.grownBy_alloc _ o _).trans hg
  have o2 := (hgr.block _ (lt_get (h.drewN n).kbox) (row_ne (h.drewN n).own (h.drewN n).kbox (by decide))).trans (h.drewN n).kbox
  simp [World.cell?, o2]

/-- What lay before the call, behind an append. -/
theorem OutW.midX {w W w2 : World} {V : Int} {sl : Value} {Bo : Nat} {xs : List Int} {a : Option Addr} {c : Nat} (h : OutW w W V sl Bo xs a c) {n : Nat} {o : Obj} (hg : ((W.drewN n).alloc o).grownBy w2 (Value.ownBlock (.slice a xs.length c))) {p : Addr} (hp : p.block < w.heap.size) :
    w2.cell? p = W.cell? p := by
  have hgr : (W.drewN n).grownBy w2 (Value.ownBlock (.slice a xs.length c)) := (World.grownBy_alloc _ o _).trans hg
  have hlt : p.block < (W.drewN n).heap.size := Nat.lt_of_lt_of_le hp h.below.size
  have h2 : w2.heap[p.block]? = W.heap[p.block]? := hgr.block _ hlt (by
    intro he
    have := (h.own.lt _ he.symm).1
    omega)
  simp only [World.cell?, h2]

end Go.Proofs.Ytgefpllmelpahaa

/-! Complexes that are handed back: the ends of bodies with a result in a block, and the program's complexWith. -/
namespace Go.Proofs.Ytgefpllmelpahaa
open Go.RowKit

theorem cell_alloc_drew1 {W : World} {p : Addr} {v : Value} (h : W.cell? p = some v) (o : Obj) : (W.alloc o).cell? p = some v := cell_alloc_drew h 0 o

theorem two_of {W : World} {b : Nat} {x y : Value} {t : Nat} (h : W.heap[b]? = some (.cells #[x, y] t (0, 0))) : W.cell? ⟨b, 0, none⟩ = some x ∧ W.cell? ⟨b, 1, none⟩ = some y ∧ W.frozen? ⟨b, 0, none⟩ = false ∧ W.frozen? ⟨b, 1, none⟩ = false := by
  refine ⟨?_, ?_, ?_, ?_⟩ <;> simp [World.cell?, World.frozen?, h]

theorem two_set {W : World} {b : Nat} {x y : Value} {t : Nat} (h : W.heap[b]? = some (.cells #[x, y] t (0, 0))) (u v : Value) : ((W.setCell ⟨b, 0, none⟩ u).setCell ⟨b, 1, none⟩ v).heap[b]? = some (.cells #[u, v] t (0, 0)) := by
  simp only [World.setCell, Array.getElem?_modify, h]
  simp

/-- A result stays where a block of another type is written. -/
theorem Res.set2 {w W : World} {sv : Value} {xs : List Int} (h : Res w W sv xs) {b : Nat} {cs : Array Value} {t : Nat} {fz : Nat × Nat} (hb : W.heap[b]? = some (.cells cs t fz)) (hne : 2 ≠ t) (hw : w.heap.size ≤ b) (u v : Value) :
    Res w ((W.setCell ⟨b, 0, none⟩ u).setCell ⟨b, 1, none⟩ v) sv xs := by
  have hn := row_ne h.1 hb hne
  exact ⟨ownsRow_set (ownsRow_set h.1 (fun e => hn e.symm) _) (fun e => hn e.symm) _, (h.2.setCell (p := ⟨b, 0, none⟩) hw _).setCell (p := ⟨b, 1, none⟩) hw _⟩

theorem new2 (w : World) (A B : Obj) : ((w.alloc A).alloc B).heap[w.heap.size + 1]? = some B := by
  have := heap_alloc_new (w.alloc A) B
  rwa [World.size_alloc] at this

theorem new3 (w : World) (A B C : Obj) : (((w.alloc A).alloc B).alloc C).heap[w.heap.size + 1 + 1]? = some C := by
  have := new2 (w.alloc A) B C
  rwa [World.size_alloc] at this

set_option maxRecDepth 100000 in
theorem load_cx {w : World} {b o : Nat} {x y : Value} (h0 : w.cell? ⟨b, o, none⟩ = some x) (h1 : w.cell? ⟨b, o + 1, none⟩ = some y) :
    (loadVar 30 ⟨b, o, none⟩).run Try.prog w = .ok (.agg #[x, y]) w := by
  go_simp

set_option maxRecDepth 100000 in
theorem done_cx {fn : Func} {R : Ending → World → Prop} {a : Act} {w : World} {p u : Tmp} (hr : fn.results = #[.cell p 30, .tmp u]) (hd : a.defers = []) {b o : Nat} {x y c : Value}
    (hp : a.tmps.getD p undef = .pointer (some ⟨b, o, none⟩)) (h0 : w.cell? ⟨b, o, none⟩ = some x) (h1 : w.cell? ⟨b, o + 1, none⟩ = some y) (hu : a.tmps.getD u undef = c) (hR : R (.returned (.tuple #[.agg #[x, y], c])) w) : bodyPost Try.prog fn R .ret a w := by
  refine bodyPost_ret (v := .tuple #[.agg #[x, y], c]) ?_ hd hR
  rw [results_cell_tmp hr, hp, hu]
  show ((loadVar 30 ⟨b, o, none⟩).run Try.prog w).andThen _ = _
  rw [load_cx h0 h1]
  rfl

set_option maxRecDepth 100000 in
theorem done_cx1 {fn : Func} {R : Ending → World → Prop} {a : Act} {w : World} {p : Tmp} (hr : fn.results = #[.cell p 30]) (hd : a.defers = []) {b o : Nat} {x y : Value}
    (hp : a.tmps.getD p undef = .pointer (some ⟨b, o, none⟩)) (h0 : w.cell? ⟨b, o, none⟩ = some x) (h1 : w.cell? ⟨b, o + 1, none⟩ = some y) (hR : R (.returned (.agg #[x, y])) w) : bodyPost Try.prog fn R .ret a w := by
  refine bodyPost_ret (v := .agg #[x, y]) ?_ hd hR
  have hp' : a.tmps[p]?.getD undef = .pointer (some ⟨b, o, none⟩) := by simpa using hp
  simp [results, hr, hp', asAddr, load_cx h0 h1]

theorem cx_mono {P : Program} {f : FuncId} {args : Array Value} {w : World} {r : Int × List Int × Int} {U : Int} {xs : List Int} {c : Int} (hr : r = (U, xs, c))
    (h : Calls P f args w fun e w' => ∃ v, e = .returned (.tuple #[.agg #[.int .i64 U, v], .int .i64 c]) ∧ Res w w' v xs) : Calls P f args w fun e w' => ∃ v, e = .returned (.tuple #[.agg #[.int .i64 r.1, v], .int .i64 r.2.2]) ∧ Res w w' v r.2.1 := by
  subst hr; exact h

set_option maxHeartbeats 1000000 in
theorem cw_any (V : Int) (a : Option Addr) (cap : Nat) (fs : List Int) (w : World) (fid : Nat) (cs : Array Value) (ys : List Int)
    (hfw : ∀ W, Below w.heap.size w W → Calls Try.prog 152 #[.agg #[.int .i64 V, .slice a fs.length cap], .func (.func fid) #[] cs] W fun e w' => ∃ v, e = .returned v ∧ Res W w' v ys) :
    Calls Try.prog 146 #[.agg #[.int .i64 V, .slice a fs.length cap], .func (.func fid) #[] cs] w fun e w' => ∃ v, e = .returned (.agg #[.int .i64 V, v]) ∧ Res w w' v ys := by
  have hB0 : Below w.heap.size w ((w.alloc (.cells #[.int .i64 V, .slice a fs.length cap] 30)).alloc (.cells #[.int .i64 0, .slice none 0 0] 30)) := ((Below.refl _ w).alloc (Nat.le_refl _) _).alloc (by simp) _
  have Hfw := hid hfw
  have HB0 := hid hB0
  obtain ⟨W, hW⟩ : ∃ W, W = (w.alloc (.cells #[.int .i64 V, .slice a fs.length cap] 30)).alloc (.cells #[.int .i64 0, .slice none 0 0] 30) := ⟨_, rfl⟩
  have k0 : W.cell? ⟨w.heap.size, 0, none⟩ = some (.int .i64 V) := by rw [hW]; simp [go_sem]
  have k1 : W.cell? ⟨w.heap.size, 1, none⟩ = some (.slice a fs.length cap) := by rw [hW]; simp [go_sem]
  have r0 : W.heap[w.heap.size + 1]? = some (.cells #[.int .i64 0, .slice none 0 0] 30 (0, 0)) := by
    have := heap_alloc_new (w.alloc (.cells #[.int .i64 V, .slice a fs.length cap] 30)) (.cells #[.int .i64 0, .slice none 0 0] 30)
    rw [World.size_alloc] at this
    rw [hW]; exact this
  have hBW : Hid (Below w.heap.size w W) := hid (by rw [hW]; exact hB0)
  have R0 := hid r0
  have hWs : Hid (W.heap.size = w.heap.size + 2) := hid (by rw [hW]; simp)
  have HW := hid hW
  clear hfw hB0 hW r0
  go_enter Try.func146, Try.ntmps146
  go_wp2_with fail
  rw [← HW.out]
  go_region_with (go_at_call 152; refine (Hfw.out W.drew ⟨hBW.out.os, hBW.out.tape, hBW.out.output, hBW.out.size, hBW.out.block⟩).mono ?_; rintro e w1 ⟨v, rfl, hr⟩; obtain ⟨_, av, cv, rfl, _⟩ := ownsRow_slI hr.1; have k01 := (hr.2.cell (p := ⟨w.heap.size, 0, none⟩) (by have := hWs.out; show w.heap.size < W.heap.size; omega)).trans k0; have k11 := (hr.2.cell (p := ⟨w.heap.size, 1, none⟩) (by have := hWs.out; show w.heap.size < W.heap.size; omega)).trans k1; have r1 : w1.heap[w.heap.size + 1]? = some (.cells #[.int .i64 0, .slice none 0 0] 30 (0, 0)) := (hr.2.block _ (by have := hWs.out; show w.heap.size + 1 < W.heap.size; omega)).trans R0.out; obtain ⟨c0, c1, f0, f1⟩ := two_of r1; have R1 := hid r1; clear r1)
  all_goals
    go_wp2_with fail
    (try simp only [Exit.inBlock, Exit.then])
    have R2 := two_of (two_set R1.out (.int .i64 V) (.slice av ys.length cv))
    refine done_cx1 (p := 4) (by kernel_rfl) rfl rfl R2.1 R2.2.1 ⟨_, rfl, ?_⟩
    exact (Res.later hr ⟨hBW.out.os, hBW.out.tape, hBW.out.output, hBW.out.size, hBW.out.block⟩).set2 R1.out (by decide) (by omega) _ _


end Go.Proofs.Ytgefpllmelpahaa

/-! Pairs compared. -/
namespace Go.Proofs.Ytgefpllmelpahaa
open Go.RowKit

/-- A pair comes ahead of another one. -/
def lessP (x y x' y' : Int) : Bool := decide (x < x') || (decide (x = x') && decide (y < y'))

set_option maxRecDepth 100000 in
set_option maxHeartbeats 1000000 in
theorem less_any (x y x' y' : Int) (w : World) :
    Calls Try.prog 132 #[.agg #[.int .i64 x, .int .i64 y], .agg #[.int .i64 x', .int .i64 y']] w fun e w' => e = .returned (.bool (lessP x y x' y')) ∧ Below w.heap.size w w' := by
  have HB : Hid (Below w.heap.size w ((w.alloc (.cells #[.int .i64 x, .int .i64 y] 62)).alloc (.cells #[.int .i64 x', .int .i64 y'] 62))) := hid (((Below.refl _ w).alloc (Nat.le_refl _) _).alloc (by simp) _)
  by_cases h1 : x < x'
  · have hd : decide (x < x') = true := decide_eq_true h1
    have He : Hid (lessP x y x' y' = true) := hid (by unfold lessP; simp [h1])
    clear h1
    go_enter Try.func132, Try.ntmps132
    go_wp2
    go_ret
    exact ⟨ret_bool He.out.symm, HB.out⟩
  · have hd : decide (x < x') = false := decide_eq_false h1
    by_cases h2 : x = x'
    · have hd2 : (x == x') = true := by simp [h2]
      have He : Hid (lessP x y x' y' = decide (y < y')) := hid (by unfold lessP; simp [h2])
      clear h1 h2
      go_enter Try.func132, Try.ntmps132
      go_wp2
      go_ret
      exact ⟨ret_bool He.out.symm, HB.out⟩
    · have hd2 : (x == x') = false := by simp [h2]
      have He : Hid (lessP x y x' y' = false) := hid (by unfold lessP; simp [h1, h2])
      clear h1 h2
      go_enter Try.func132, Try.ntmps132
      go_wp2
      go_ret
      exact ⟨ret_bool He.out.symm, HB.out⟩

/-- -1, 0 or 1. -/
def cmpI (x y : Int) : Int := if x < y then -1 else if y < x then 1 else 0

set_option maxRecDepth 100000 in
set_option maxHeartbeats 1000000 in
theorem nan_any (x : Int) (w : World) : Calls Try.prog 209 #[.int .i64 x] w fun e w' => e = .returned (.bool false) ∧ w = w' := by
  have hne : (x != x) = false := by simp
  go_enter Try.func209, Try.ntmps209
  go_wp2
  go_ret
  exact ⟨rfl, rfl⟩

set_option maxRecDepth 100000 in
set_option maxHeartbeats 1000000 in
theorem cmp_any (x y : Int) (w : World) : Calls Try.prog 138 #[.int .i64 x, .int .i64 y] w fun e w' => e = .returned (.int .i64 (cmpI x y)) ∧ w = w' := by
  by_cases h1 : x < y
  · have hd : decide (x < y) = true := decide_eq_true h1
    have He : Hid (cmpI x y = -1) := hid (by unfold cmpI; simp [h1])
    clear h1
    go_enter Try.func138, Try.ntmps138
    go_wp2_with (go_at_call 209; refine (nan_any _ _).mono ?_; rintro e w' ⟨rfl, rfl⟩)
    go_ret
    exact ⟨ret_int He.out.symm, rfl⟩
  · have hd : decide (x < y) = false := decide_eq_false h1
    by_cases h2 : y < x
    · have hd2 : decide (y < x) = true := decide_eq_true h2
      have He : Hid (cmpI x y = 1) := hid (by unfold cmpI; simp [h1, h2])
      clear h1 h2
      go_enter Try.func138, Try.ntmps138
      go_wp2_with (go_at_call 209; refine (nan_any _ _).mono ?_; rintro e w' ⟨rfl, rfl⟩)
      go_ret
      exact ⟨ret_int He.out.symm, rfl⟩
    · have hd2 : decide (y < x) = false := decide_eq_false h2
      have He : Hid (cmpI x y = 0) := hid (by unfold cmpI; simp [h1, h2])
      clear h1 h2
      go_enter Try.func138, Try.ntmps138
      go_wp2_with (go_at_call 209; refine (nan_any _ _).mono ?_; rintro e w' ⟨rfl, rfl⟩)
      go_ret
      exact ⟨ret_int He.out.symm, rfl⟩

/-- The first of two that is not 0. -/
def orI (u v : Int) : Int := if u = 0 then v else u

theorem two_new (W : World) (H : Nat) (hH : W.heap.size = H) (u v : Value) (t : Nat) : (W.alloc (.cells #[u, v] t)).cell? ⟨H, 0, none⟩ = some u ∧ (W.alloc (.cells #[u, v] t)).cell? ⟨H, 1, none⟩ = some v := by
  subst hH
  constructor <;> simp [go_sem]

theorem two_new_d (W : World) (H : Nat) (hH : W.heap.size = H) (u v : Value) (t : Nat) : (W.alloc (.cells #[u, v] t)).drew.cell? ⟨H, 0, none⟩ = some u ∧ (W.alloc (.cells #[u, v] t)).drew.cell? ⟨H, 1, none⟩ = some v := two_new W H hH u v t

set_option maxRecDepth 100000 in
set_option maxHeartbeats 1000000 in
theorem or_any (u v : Int) (b : Nat) (w : World) (h0 : w.cell? ⟨b, 0, none⟩ = some (.int .i64 u)) (h1 : w.cell? ⟨b, 1, none⟩ = some (.int .i64 v)) :
    Calls Try.prog 137 #[.slice (some ⟨b, 0, none⟩) 2 2] w fun e w' => e = .returned (.int .i64 (orI u v)) ∧ w = w' := by
  by_cases hu : u = 0
  · have hd : (u != 0) = false := by simp [hu]
    by_cases hv : v = 0
    · have hd2 : (v != 0) = false := by simp [hv]
      have He : Hid (orI u v = 0) := hid (by unfold orI; rw [if_pos hu, hv])
      clear hu hv
      go_enter Try.func137, Try.ntmps137
      go_wp2
      refine wp_loop_rounds 3 ?_; rw [rounds_succ]
      go_wp2
      rw [rounds_succ]
      go_wp2
      rw [rounds_succ]
      go_wp2
      go_ret
      exact ⟨ret_int He.out.symm, rfl⟩
    · have hd2 : (v != 0) = true := by simp [hv]
      have He : Hid (orI u v = v) := hid (by unfold orI; rw [if_pos hu])
      clear hu hv
      go_enter Try.func137, Try.ntmps137
      go_wp2
      refine wp_loop_rounds 3 ?_; rw [rounds_succ]
      go_wp2
      rw [rounds_succ]
      go_wp2
      go_ret
      exact ⟨ret_int He.out.symm, rfl⟩
  · have hd : (u != 0) = true := by simp [hu]
    have He : Hid (orI u v = u) := hid (by unfold orI; rw [if_neg hu])
    clear hu
    go_enter Try.func137, Try.ntmps137
    go_wp2
    refine wp_loop_rounds 3 ?_; rw [rounds_succ]
    go_wp2
    go_ret
    exact ⟨ret_int He.out.symm, rfl⟩

/-- What comparePairs hands back. -/
def cmpP (x y x' y' : Int) : Int := orI (cmpI x x') (cmpI y y')

theorem cmpP_neg (x y x' y' : Int) : cmpP x y x' y' < 0 ↔ lessP x y x' y' = true := by
  unfold cmpP orI cmpI lessP
  simp only [Bool.or_eq_true, Bool.and_eq_true, decide_eq_true_eq]
  repeat' split
  all_goals omega

set_option maxRecDepth 100000 in
set_option maxHeartbeats 1000000 in
theorem cp_any (x y x' y' : Int) (w : World) :
    Calls Try.prog 65 #[.agg #[.int .i64 x, .int .i64 y], .agg #[.int .i64 x', .int .i64 y']] w fun e w' => e = .returned (.int .i64 (cmpP x y x' y')) ∧ Below w.heap.size w w' := by
  go_enter Try.func65, Try.ntmps65
  go_wp2
  have q0 : ((w.alloc (.cells #[.int .i64 x, .int .i64 y] 62)).alloc (.cells #[.int .i64 x', .int .i64 y'] 62)).cell? ⟨w.heap.size, 0, none⟩ = some (.int .i64 x) := by simp [go_sem]
  have q1 : ((w.alloc (.cells #[.int .i64 x, .int .i64 y] 62)).alloc (.cells #[.int .i64 x', .int .i64 y'] 62)).cell? ⟨w.heap.size, 1, none⟩ = some (.int .i64 y) := by simp [go_sem]
  have q2 : ((w.alloc (.cells #[.int .i64 x, .int .i64 y] 62)).alloc (.cells #[.int .i64 x', .int .i64 y'] 62)).cell? ⟨w.heap.size + 1, 0, none⟩ = some (.int .i64 x') := by simp [go_sem]
  have q3 : ((w.alloc (.cells #[.int .i64 x, .int .i64 y] 62)).alloc (.cells #[.int .i64 x', .int .i64 y'] 62)).cell? ⟨w.heap.size + 1, 1, none⟩ = some (.int .i64 y') := by simp [go_sem]
  have hsz : ((w.alloc (.cells #[.int .i64 x, .int .i64 y] 62)).alloc (.cells #[.int .i64 x', .int .i64 y'] 62)).heap.size = w.heap.size + 1 + 1 := by simp
  have HB : Hid (Below w.heap.size w ((w.alloc (.cells #[.int .i64 x, .int .i64 y] 62)).alloc (.cells #[.int .i64 x', .int .i64 y'] 62))) := hid (((Below.refl _ w).alloc (Nat.le_refl _) _).alloc (by simp) _)
  obtain ⟨W, hW⟩ : ∃ W, W = (w.alloc (.cells #[.int .i64 x, .int .i64 y] 62)).alloc (.cells #[.int .i64 x', .int .i64 y'] 62) := ⟨_, rfl⟩
  rw [← hW] at q0 q1 q2 q3 hsz HB ⊢
  clear hW
  go_region_held3 (fun w' => w'.cell? ⟨w.heap.size, 0, none⟩ = some (.int .i64 x) ∧ w'.cell? ⟨w.heap.size, 1, none⟩ = some (.int .i64 y) ∧ w'.cell? ⟨w.heap.size + 1, 0, none⟩ = some (.int .i64 x') ∧ w'.cell? ⟨w.heap.size + 1, 1, none⟩ = some (.int .i64 y')) (go_keep) (first
    | (go_at_call 138; refine (cmp_any _ _ _).mono ?_; rintro e w' ⟨rfl, rfl⟩)
    | (go_at_call 137; refine (or_any (cmpI x x') (cmpI y y') _ _ (two_new_d W _ hsz _ _ _).1 (two_new_d W _ hsz _ _ _).2).mono ?_; rintro e w' ⟨rfl, rfl⟩))
  all_goals
    go_wp2_with fail
    go_ret
    exact ⟨rfl, HB.out.trans (Below.mono (w := W) (((Below.refl _ W).alloc (Nat.le_refl _) _).drew) HB.out.size)⟩

end Go.Proofs.Ytgefpllmelpahaa

/-! slices.IsSortedFunc on a list of pairs. -/
namespace Go.Proofs.Ytgefpllmelpahaa
open Go.RowKit

/-- The number at a place. -/
def at0 (ps : List Int) (i : Nat) : Int := ps[i]?.getD 0

/-- No pair comes ahead of the one before it, from place k on. -/
def NoDrop (ps : List Int) (n k : Nat) : Prop := ∀ j, k ≤ j → 1 ≤ j → j < n → lessP (at0 ps (j * 2)) (at0 ps (j * 2 + 1)) (at0 ps ((j - 1) * 2)) (at0 ps ((j - 1) * 2 + 1)) = false

noncomputable def noDropB (ps : List Int) (n : Nat) : Bool := @decide (NoDrop ps n 1) (Classical.propDecidable _)
theorem noDropB_true {ps : List Int} {n : Nat} (h : NoDrop ps n 1) : noDropB ps n = true := by unfold noDropB; exact @decide_eq_true _ (Classical.propDecidable _) h
theorem noDropB_false {ps : List Int} {n : Nat} (h : ¬ NoDrop ps n 1) : noDropB ps n = false := by unfold noDropB; exact @decide_eq_false _ (Classical.propDecidable _) h

set_option maxRecDepth 100000 in
set_option maxHeartbeats 2000000 in
theorem sorted_any (a : Option Addr) (n cap : Nat) (ps : List Int) (w : World) (hx : SlI w w.heap.size a ps) (hp : ps.length = 2 * n) (hl : n ≤ 1048576) :
    Calls Try.prog 237 #[.slice a n cap, .func (.func 65) #[] #[]] w fun e w' => e = .returned (.bool (noDropB ps n)) ∧ Below w.heap.size w w' := by
  have hent : ∀ args w, (callFunc 65 args).run Try.prog w = .ok (.enter 65 args) w := enters_of Try.func65 (by kernel_rfl) rfl
  by_cases hn : n ≤ 1
  · have He : Hid (noDropB ps n = true) := hid (noDropB_true (fun j h1 h2 h3 => by omega))
    clear hx hp
    have h0 : n = 0 ∨ n = 1 := by omega
    rcases h0 with rfl | rfl
    · go_enter Try.func237, Try.ntmps237
      go_wp2
      refine wp_loop_rounds 1 ?_; rw [rounds_succ]
      go_wp2
      go_ret
      exact ⟨ret_bool He.out.symm, Below.refl _ _⟩
    · go_enter Try.func237, Try.ntmps237
      go_wp2
      refine wp_loop_rounds 1 ?_; rw [rounds_succ]
      go_wp2
      go_ret
      exact ⟨ret_bool He.out.symm, Below.refl _ _⟩
  · obtain ⟨b, off, hb, rfl, hc⟩ : ∃ b off, b < w.heap.size ∧ a = some ⟨b, off, none⟩ ∧ ∀ i, i < ps.length → w.cell? ⟨b, off + i, none⟩ = some (.int .i64 (ps[i]?.getD 0)) := by
      rcases hx with rfl | h
      · simp at hp; omega
      · exact h
    have Hc := hid hc
    have Hp := hid hp
    clear hc hx hp
    go_enter Try.func237, Try.ntmps237
    go_wp2
    go_loopw [5] (fun i wr => ∃ k : Nat, k < n ∧ i = .int .i64 k ∧ Hid (NoDrop ps n (k + 1)) ∧ Below w.heap.size w wr) (fun i _ => (intOf i).toNat)
    case atStart => exact ⟨n - 1, by omega, by go_num, hid (fun j h1 h2 h3 => by omega), Below.refl _ _⟩
    case round =>
      obtain ⟨k, hk, rfl, Hk, hB⟩ := hrel
      by_cases hlt : 0 < k
      · obtain ⟨m, rfl⟩ : ∃ m : Nat, k = m + 1 := ⟨k - 1, by omega⟩
        have c0 : wr.cell? ⟨b, off + (m + 1) * 2, none⟩ = some (.int .i64 (at0 ps ((m + 1) * 2))) := (hB.cell (p := ⟨b, off + (m + 1) * 2, none⟩) hb).trans (Hc.out _ (by have := Hp.out; omega))
        have c1 : wr.cell? ⟨b, off + (m + 1) * 2 + 1, none⟩ = some (.int .i64 (at0 ps ((m + 1) * 2 + 1))) := (hB.cell (p := ⟨b, off + ((m + 1) * 2 + 1), none⟩) hb).trans (Hc.out _ (by have := Hp.out; omega))
        have d0 : wr.cell? ⟨b, off + m * 2, none⟩ = some (.int .i64 (at0 ps (m * 2))) := (hB.cell (p := ⟨b, off + m * 2, none⟩) hb).trans (Hc.out _ (by have := Hp.out; omega))
        have d1 : wr.cell? ⟨b, off + m * 2 + 1, none⟩ = some (.int .i64 (at0 ps (m * 2 + 1))) := (hB.cell (p := ⟨b, off + (m * 2 + 1), none⟩) hb).trans (Hc.out _ (by have := Hp.out; omega))
        obtain ⟨x, hx⟩ : ∃ x, x = at0 ps ((m + 1) * 2) := ⟨_, rfl⟩
        obtain ⟨y, hy⟩ : ∃ y, y = at0 ps ((m + 1) * 2 + 1) := ⟨_, rfl⟩
        obtain ⟨x', hx'⟩ : ∃ x, x = at0 ps (m * 2) := ⟨_, rfl⟩
        obtain ⟨y', hy'⟩ : ∃ y, y = at0 ps (m * 2 + 1) := ⟨_, rfl⟩
        rw [← hx] at c0
        rw [← hy] at c1
        rw [← hx'] at d0
        rw [← hy'] at d1
        have Hstep : Hid (∀ c, lessP x y x' y' = c → (c = false → NoDrop ps n (m + 1)) ∧ (c = true → ¬ NoDrop ps n 1)) := hid (fun c hc => by
          refine ⟨fun h0 j h1 h2 h3 => ?_, fun h0 hno => ?_⟩
          · by_cases hj : j = m + 1
            · subst hj
              rw [Nat.add_sub_cancel, ← hx, ← hy, ← hx', ← hy', hc, h0]
            · exact Hk.out j (by omega) h2 h3
          · have := hno (m + 1) (by omega) (by omega) hk
            rw [Nat.add_sub_cancel, ← hx, ← hy, ← hx', ← hy', hc, h0] at this
            cases this)
        have Hneg := hid (cmpP_neg x y x' y')
        obtain ⟨q, hq⟩ : ∃ q, q = cmpP x y x' y' := ⟨_, rfl⟩
        have Hq := hid hq
        rw [← hq] at Hneg
        have hi0 : (0 : Int) ≤ (m : Int) := by omega
        have hi1 : (m : Int) < (n : Int) := by omega
        have hi2 : (m : Int) + 1 < (n : Int) := by omega
        have hi3 : (0 : Int) ≤ (m : Int) + 1 := by omega
        have hw1 : IntKind.i64.wrap (m : Int) = m := by rw [IntKind.wrap_i64]; omega
        have hw2 : IntKind.i64.wrap ((m : Int) + 1 - 1) = m := by rw [show (m : Int) + 1 - 1 = m by omega]; exact hw1
        have hw3 : wrap64 (m : Int) = m := IntWalk.wrap64_in _ ⟨by omega, by omega⟩
        have HB := hid hB
        clear hx hy hx' hy' hq hB Hk
        go_wp2_with fail
        go_region_with (go_at_call 65; refine (cp_any x y x' y' _).mono ?_; rintro e w2 ⟨rfl, hB2⟩; rw [← Hq.out])
        all_goals
          have HB2 := hid (HB.out.trans (Below.mono (w := wr) ⟨hB2.os, hB2.tape, hB2.output, hB2.size, hB2.block⟩ HB.out.size))
          clear hB2
          by_cases hql : q < 0
          · have He : Hid (noDropB ps n = false) := hid (noDropB_false ((Hstep.out true (Hneg.out.1 hql)).2 rfl))
            go_wp2_with fail
            go_ret
            exact ⟨ret_bool He.out.symm, HB2.out⟩
          · have hq0 : 0 ≤ q := by omega
            have He : Hid (NoDrop ps n (m + 1)) := hid ((Hstep.out false (by
              cases hc : lessP x y x' y'
              · rfl
              · exact absurd (Hneg.out.2 hc) hql)).1 rfl)
            clear hql
            go_wp2_with fail
            go_roundw
            case rel => exact ⟨m, by omega, by go_num, He.out, HB2.out⟩
            case measure => simp [intOf] <;> omega
      · obtain rfl : k = 0 := by omega
        have He : Hid (noDropB ps n = true) := hid (noDropB_true (fun j h1 h2 h3 => Hk.out j (by omega) h2 h3))
        go_wp2
        go_ret
        exact ⟨ret_bool He.out.symm, hB⟩

end Go.Proofs.Ytgefpllmelpahaa

/-! How many faces a complex has at most. -/
namespace Go.Proofs.Ytgefpllmelpahaa

theorem asc_len : ∀ (fs : List Int) (lo : Int), fs.Pairwise (· < ·) → (∀ x ∈ fs, lo ≤ x ∧ x ≤ 63) → fs.length ≤ (64 - lo).toNat
  | [], lo, _, _ => by simp
  | x :: fs, lo, hp, hr => by
    have h1 := hr x (by simp)
    have h2 := asc_len fs (x + 1) (List.pairwise_cons.1 hp).2 (fun y hy => ⟨by have := (List.pairwise_cons.1 hp).1 y hy; omega, (hr y (by simp [hy])).2⟩)
    rw [List.length_cons]
    omega

theorem IsC.len63 {V : Int} {fs : List Int} (h : IsC V fs) : fs.length ≤ 63 := by
  have := asc_len fs 1 h.asc h.range63
  omega

end Go.Proofs.Ytgefpllmelpahaa

/-! l02High, l02Next: the steps from a face. -/
namespace Go.Proofs.Ytgefpllmelpahaa
open Go.RowKit

/-- The high face of the first pair with a low face; 0: there is none. -/
def highOf (ps : List Int) (n : Nat) (a : Int) : Int := match (List.range n).find? (fun i => decide (at0 ps (i * 2) = a)) with
  | some i => at0 ps (i * 2 + 1)
  | none => 0
theorem highOf_some {ps : List Int} {n i : Nat} {a : Int} (hi : i < n) (ha : at0 ps (i * 2) = a) (h : ∀ j, j < i → at0 ps (j * 2) ≠ a) : highOf ps n a = at0 ps (i * 2 + 1) := by
  have : (List.range n).find? (fun i => decide (at0 ps (i * 2) = a)) = some i := by
    rw [List.find?_range_eq_some]
    exact ⟨by simp [ha], by simpa using hi, fun j hj => by simpa using h j hj⟩
  unfold highOf
  rw [this]
theorem highOf_none {ps : List Int} {n : Nat} {a : Int} (h : ∀ j, j < n → at0 ps (j * 2) ≠ a) : highOf ps n a = 0 := by
  have : (List.range n).find? (fun i => decide (at0 ps (i * 2) = a)) = none := by
    rw [List.find?_eq_none]
    intro i hi
    simpa using h i (by simpa using hi)
  unfold highOf
  rw [this]
/-- The faces to which steps lead. -/
def nextL (ps : List Int) (n : Nat) (a : Int) : List Int := if highOf ps n a = 0 then [] else (belowR (highOf ps n a).toNat 63).filter fun y => decide (y ≠ a)
theorem nextL_len (ps : List Int) (n : Nat) (a : Int) : (nextL ps n a).length ≤ 63 := by
  unfold nextL
  split
  · simp
  · exact Nat.le_trans (List.length_filter_le _ _) (belowR_len _ _)

/-- 'append' of a number; where the row lies afterwards. -/
theorem append_int_at {w : World} {ops : Array Oper} {rest : List Oper} {o : Oper} {a : Act} {Q : Exit → Act → World → Prop} (hgd : o.guard = none) {s y : Operand}
    (ho : o.op = .call { callee := .builtin .append, args := #[s, y], argTypes := #[22, 22] })
    {base : Nat} {v : Value} {xs : List Int} {x : Int} (hown : w.ownsRow base 2 1 v xs.length (xs.map (Value.int .i64))) (hbase : base ≤ w.heap.size) (hl : xs.length ≤ 1099511627776)
    (hs : a.eval s = v) (hy : a.eval y = .slice (some ⟨w.heap.size, 0, none⟩) 1 1)
    (hK : ∀ v' w', w'.ownsRow base 2 1 v' (xs ++ [x]).length ((xs ++ [x]).map (Value.int .i64)) → w.grownBy w' v.ownBlock → (v'.ownBlock = v.ownBlock ∨ v'.ownBlock = some (w.heap.size + 1)) → Below base w w' → wpList Try.prog ops Q rest (a.put o.dst v') w') :
    wpList Try.prog ops Q (o :: rest) a (w.alloc (.cells #[.int .i64 x] 2)) := by
  obtain ⟨i0, hi, hz0, hz1, hz2⟩ := info_parts info_i64
  refine wpList_append_own_at _ hgd s y 22 ho base 2 i0 (.int .i64 0) 1 8 Try.underlying22 hi hz0 hz1 hz2 rfl (by decide) v _ _ hs (hown.alloc _) ⟨w.heap.size, 0, none⟩ 1 1 [.int .i64 x] hy rfl (cell_one_new _ _ _) (by simp [Value.oneCell']) (by unfold maxLen; omega) (by omega) (by simp; omega) ?_
  intro v' w1 hown1 hgrow1 _ hat
  have hg : w.grownBy w1 v.ownBlock := (World.grownBy_alloc w _ _).trans hgrow1
  exact hK v' w1 (by simpa using hown1) hg (by simpa using hat) ((Below.refl base w).grown hg hbase (fun k hk => (hown.lt k hk).1))

set_option maxRecDepth 100000 in
set_option maxHeartbeats 2000000 in
theorem high_any (a1 : Option Addr) (n cap : Nat) (ps : List Int) (a : Int) (w : World) (hx : SlI w w.heap.size a1 ps) (hp : ps.length = 2 * n) (hl : n ≤ 1048576) :
    Calls Try.prog 60 #[.slice a1 n cap, .int .i64 a] w fun e w' => e = .returned (.int .i64 (highOf ps n a)) ∧ w = w' := by
  obtain ⟨E, hE⟩ : ∃ E, E = highOf ps n a := ⟨_, rfl⟩
  have HE := hid hE
  rw [← hE]
  clear hE
  have Hx := hid hx
  have Hp := hid hp
  clear hx hp
  go_enter Try.func60, Try.ntmps60
  go_wp2
  go_loop [5] (fun i => ∃ k : Nat, k ≤ n ∧ i = .int .i64 k ∧ Hid (∀ j, j < k → at0 ps (j * 2) ≠ a)) (fun i => n - (intOf i).toNat)
  case atStart => exact ⟨0, Nat.zero_le _, rfl, hid (fun j hj => absurd hj (Nat.not_lt_zero _))⟩
  case round =>
    obtain ⟨k, hk, rfl, Hk⟩ := hrel
    by_cases hlt : k < n
    · obtain ⟨b, off, hb, rfl, hc⟩ : ∃ b off, b < w.heap.size ∧ a1 = some ⟨b, off, none⟩ ∧ ∀ i, i < ps.length → w.cell? ⟨b, off + i, none⟩ = some (.int .i64 (ps[i]?.getD 0)) := by
        rcases Hx.out with h | h
        · have := Hp.out; rw [h] at this; simp at this; omega
        · exact h
      have c0 : w.cell? ⟨b, off + k * 2, none⟩ = some (.int .i64 (at0 ps (k * 2))) := hc _ (by have := Hp.out; omega)
      have c1 : w.cell? ⟨b, off + k * 2 + 1, none⟩ = some (.int .i64 (at0 ps (k * 2 + 1))) := hc (k * 2 + 1) (by have := Hp.out; omega)
      obtain ⟨x, hx⟩ : ∃ x, x = at0 ps (k * 2) := ⟨_, rfl⟩
      obtain ⟨y, hy⟩ : ∃ y, y = at0 ps (k * 2 + 1) := ⟨_, rfl⟩
      rw [← hx] at c0
      rw [← hy] at c1
      have hi0 : (0 : Int) ≤ (k : Int) := by omega
      have hi1 : (k : Int) < (n : Int) := by omega
      clear hc
      by_cases hxa : x = a
      · have hd : (x == a) = true := by simp [hxa]
        have He : Hid (E = y) := hid (by rw [HE.out, hy]; exact highOf_some hlt (by rw [← hx, hxa]) Hk.out)
        clear hxa hx hy
        go_wp2
        go_ret
        exact ⟨ret_int (by rw [He.out]), rfl⟩
      · have hd : (x == a) = false := by simp [hxa]
        have He : Hid (∀ j, j < k + 1 → at0 ps (j * 2) ≠ a) := hid (fun j hj => by
          by_cases h : j = k
          · rw [h, ← hx]; exact hxa
          · exact Hk.out j (by omega))
        clear hxa hx hy
        go_wp2
        go_round
        case rel => exact ⟨k + 1, by omega, by go_num, He.out⟩
        case measure => simp [intOf]; omega
    · have He : Hid (E = 0) := hid (by rw [HE.out]; exact highOf_none (fun j hj => Hk.out j (by omega)))
      go_wp2
      go_ret
      exact ⟨ret_int (by rw [He.out]), rfl⟩

theorem owned_some {w : World} {base e size n : Nat} {v : Value} {xs : List Value} (h : w.ownsRow base e size v n xs) (hn : v.ownBlock ≠ none) : ∃ g cap, v = .slice (some ⟨g, 0, none⟩) n cap ∧ n ≤ cap := by
  rcases h.2 with ⟨rfl, _⟩ | ⟨g, cap, cur, rfl, _, _, h1, _⟩
  · exact absurd rfl hn
  · exact ⟨g, cap, rfl, h1⟩

set_option maxRecDepth 100000 in
set_option maxHeartbeats 2000000 in
theorem next_any (a1 : Option Addr) (n cap : Nat) (ps : List Int) (a : Int) (w : World) (hx : SlI w w.heap.size a1 ps) (hp : ps.length = 2 * n) (hl : n ≤ 1048576) (hh : 0 ≤ highOf ps n a ∧ highOf ps n a < 64) :
    Calls Try.prog 131 #[.slice a1 n cap, .int .i64 a] w fun e w' => ∃ g c, e = .returned (.slice (some ⟨g, 0, none⟩) (nextL ps n a).length c) ∧ Res w w' (.slice (some ⟨g, 0, none⟩) (nextL ps n a).length c) (nextL ps n a) := by
  have HI := hid (high_any a1 n cap ps a w hx hp hl)
  obtain ⟨f, hf⟩ : ∃ f : Nat, highOf ps n a = f := ⟨(highOf ps n a).toNat, by omega⟩
  have hN : nextL ps n a = if f = 0 then [] else (belowR f 63).filter fun y => decide (y ≠ a) := by
    unfold nextL
    rw [hf, Int.toNat_natCast]
    by_cases h : f = 0
    · rw [if_pos h, if_pos (by omega)]
    · rw [if_neg h, if_neg (by omega)]
  have hf64 : f < 64 := by omega
  rw [hf] at HI
  rw [hN]
  clear hx hp hh hN hf
  have Hown0 := hid (World.ownsRow_made (base := w.heap.size) (e := 2) (size := 1) w #[] 0 (Nat.le_refl _) (by simp [maxLen]) rfl)
  by_cases h0 : f = 0
  · subst h0
    rw [if_pos rfl]
    go_enter Try.func131, Try.ntmps131
    go_wp2_with (go_at_call 60; refine HI.out.mono ?_; rintro e w' ⟨rfl, rfl⟩)
    go_ret
    exact ⟨w.heap.size, 0, rfl, Hown0.out, (Below.refl _ w).alloc (Nat.le_refl _) _⟩
  · rw [if_neg h0]
    have hne : ((f : Int) == 0) = false := by simp; omega
    obtain ⟨ys, hys⟩ : ∃ ys, ys = belowR f 63 := ⟨_, rfl⟩
    have HB := hid (fun w => below_any f w hf64)
    have hyl : ys.length ≤ 63 := by rw [hys]; exact belowR_len _ _
    rw [← hys] at HB ⊢
    clear hys h0
    go_enter Try.func131, Try.ntmps131
    go_wp2_with (go_at_call 60; refine HI.out.mono ?_; rintro e w' ⟨rfl, rfl⟩)
    refine (HB.out _).mono ?_
    rintro e w2 ⟨v, rfl, hown2, hB2⟩
    obtain ⟨_, av, cv, rfl, hs⟩ := ownsRow_slI hown2
    have hown1 := ownsRow_below Hown0.out hB2 (fun g hg => (Hown0.out.lt g hg).2)
    have hB12 : Below w.heap.size w w2 := ((Below.refl _ w).alloc (Nat.le_refl _) _).trans (hB2.mono (by simp))
    have hb0 : ∀ b off, av = some ⟨b, off, none⟩ → w.heap.size + 1 ≤ b := fun b off h => by
      have := (hown2.lt b (by rw [h]; rfl)).1
      simpa using this
    have Hown1 := hid hown1
    have HB12 := hid hB12
    clear hown1 hB12 hown2 hB2
    rcases hs with rfl | ⟨b, off, hb, rfl, hc⟩
    · go_wp2_with fail
      refine wp_loop_rounds 1 ?_; rw [rounds_succ]
      go_wp2
      go_ret
      exact ⟨w.heap.size, 0, rfl, Hown1.out, HB12.out⟩
    · have hbw := hb0 b off rfl
      have Hc := hid hc
      clear hc hb0
      go_wp2_with fail
      go_loopw [6, 8] (fun v i wr => ∃ k : Nat, k ≤ ys.length ∧ i = .int .i64 k ∧ wr.ownsRow w.heap.size 2 1 v ((ys.take k).filter fun y => decide (y ≠ a)).length (((ys.take k).filter fun y => decide (y ≠ a)).map (Value.int .i64)) ∧ v.ownBlock ≠ none ∧ v.ownBlock ≠ some b ∧ Hid (b < wr.heap.size ∧ ∀ i, i < ys.length → wr.cell? ⟨b, off + i, none⟩ = some (.int .i64 (ys[i]?.getD 0))) ∧ Below w.heap.size w wr) (fun _ i _ => ys.length - (intOf i).toNat)
      case atStart => exact ⟨0, Nat.zero_le _, rfl, Hown1.out, by simp [Value.ownBlock], by simp [Value.ownBlock]; omega, hid ⟨hb, Hc.out⟩, HB12.out⟩
      case round =>
        obtain ⟨k, hk, rfl, hown, hnn, hne', HC, hB⟩ := hrel
        by_cases hlt : k < ys.length
        · obtain ⟨y, hy⟩ : ∃ y, y = ys[k]?.getD 0 := ⟨_, rfl⟩
          have hck : wr.cell? ⟨b, off + k, none⟩ = some (.int .i64 y) := by rw [hy]; exact HC.out.2 k hlt
          have Htk : Hid (ys.take (k + 1) = ys.take k ++ [y]) := hid (by rw [take_snoc hlt, hy])
          have hi0 : (0 : Int) ≤ (k : Int) := by omega
          have hi1 : (k : Int) < (ys.length : Int) := by omega
          have hfl : ((ys.take k).filter fun y => decide (y ≠ a)).length ≤ 1048576 := Nat.le_trans (List.length_filter_le _ _) (by simp; omega)
          have hsz := hB.size
          have HB' := hid hB
          have Hown := hid hown
          clear hy hown hB
          by_cases hya : y = a
          · have hd : (y != a) = false := by simp [hya]
            have He : Hid ((ys.take (k + 1)).filter (fun y => decide (y ≠ a)) = (ys.take k).filter (fun y => decide (y ≠ a))) := hid (by rw [Htk.out, List.filter_append]; simp [hya])
            clear hya
            go_wp2_with fail
            go_roundw
            case rel => exact ⟨k + 1, by omega, by go_num, by rw [He.out]; exact Hown.out, hnn, hne', HC, HB'.out⟩
            case measure => simp [intOf]; omega
          · have hd : (y != a) = true := by simp [hya]
            have He : Hid ((ys.take (k + 1)).filter (fun y => decide (y ≠ a)) = (ys.take k).filter (fun y => decide (y ≠ a)) ++ [y]) := hid (by rw [Htk.out, List.filter_append]; simp [hya])
            clear hya
            go_wp2_with (at_builtin; refine append_int_at rfl rfl Hown.out hsz (by omega) rfl rfl ?_; intro v' w4 hown4 hgrow4 hat4 hB4)
            go_roundw
            case rel =>
              have hbn := HC.out.1
              refine ⟨k + 1, by omega, by go_num, by rw [He.out]; exact hown4, ?_, ?_, hid ⟨Nat.lt_of_lt_of_le hbn hB4.size, fun i hi => ?_⟩, HB'.out.trans hB4⟩
              · rcases hat4 with h | h
                · rw [h]; exact hnn
                · rw [h]; intro e; cases e
              · rcases hat4 with h | h
                · rw [h]; exact hne'
                · rw [h]; intro e; injection e with e; omega
              · rw [hgrow4.cell_far _ hbn (fun e => hne' e.symm)]; exact HC.out.2 i hi
            case measure => simp [intOf]; omega
        · obtain rfl : k = ys.length := by omega
          rw [List.take_length] at hown
          have HB' := hid hB
          have Hown := hid hown
          clear hB hown
          go_wp2_with fail
          obtain ⟨g, c, rfl, _⟩ := owned_some Hown.out hnn
          go_ret
          exact ⟨g, c, rfl, Hown.out, HB'.out⟩

end Go.Proofs.Ytgefpllmelpahaa

/-! Contracts of the laws' small helpers: sizes, copies, comparisons. -/
namespace Go.Proofs.Ytgefpllmelpahaa
open Go.RowKit

theorem fill_step {xs : List Int} {k : Nat} (h : k < xs.length) :
    ((xs.take k ++ List.replicate (xs.length - k) (0 : Int)).map (Value.int .i64)).set k (.int .i64 (xs[k]?.getD 0)) = (xs.take (k + 1) ++ List.replicate (xs.length - (k + 1)) (0 : Int)).map (Value.int .i64) := by
  rw [take_snoc h, ← List.map_set]
  congr 1
  have e : xs.length - k = (xs.length - (k + 1)) + 1 := by omega
  rw [e, List.replicate_succ, List.set_append_right _ _ (by simp <;> omega)]
  simp [Nat.min_eq_left (Nat.le_of_lt h)]

set_option maxHeartbeats 400000 in
theorem toInts (a : Option Addr) (cap : Nat) (xs : List Int) (w : World) (hx : SlI w w.heap.size a xs) (hl : xs.length ≤ 1048576) :
    Calls Try.prog 35 #[.slice a xs.length cap] w fun e w' =>
      e = .returned (.slice (some ⟨w.heap.size, 0, none⟩) xs.length xs.length) ∧ w'.ownsRow w.heap.size 2 1 (.slice (some ⟨w.heap.size, 0, none⟩) xs.length xs.length) xs.length (xs.map (Value.int .i64)) ∧ Below w.heap.size w w' := by
  go_enter Try.func35, Try.ntmps35
  go_wp2_with (at_make; refine make_int rfl rfl rfl rfl (by omega) ?_; intro w1 hown hg hB)
  rcases hx with rfl | ⟨b, off, hb, rfl, hc⟩
  · refine wp_loop_rounds 1 ?_; rw [rounds_succ]
    go_wp2
    go_ret
    exact ⟨rfl, hown, hB⟩
  · go_loopw [4] (fun i wr => ∃ k : Nat, k ≤ xs.length ∧ i = .int .i64 k ∧ wr.ownsRow w.heap.size 2 1 (.slice (some ⟨w.heap.size, 0, none⟩) xs.length xs.length) xs.length ((xs.take k ++ List.replicate (xs.length - k) (0 : Int)).map (Value.int .i64)) ∧ Below w.heap.size w wr) (fun i _ => xs.length - (intOf i).toNat)
    case atStart => exact ⟨0, Nat.zero_le _, rfl, by simpa using hown, hB⟩
    case round =>
      obtain ⟨k, hk, rfl, hown, hB⟩ := hrel
      by_cases hlt : k < xs.length
      · obtain ⟨x, hx⟩ : ∃ x, x = xs[k]?.getD 0 := ⟨_, rfl⟩
        have hck : wr.cell? ⟨b, off + k, none⟩ = some (.int .i64 x) := by rw [hx]; exact (hB.cell (p := ⟨b, off + k, none⟩) hb).trans (hc k hlt)
        have hcg : wr.cell? ⟨w.heap.size, k, none⟩ = some (.int .i64 0) := by
          rw [hown.cellAt k (by omega)]
          rw [List.getElem?_map, List.getElem?_append_right (by simp <;> omega)]
          simp [List.getElem?_replicate, Nat.min_eq_left hk]
          omega
        have hfg := hown.frozenAt k
        have Hx := hid hx
        have Hc := hid hc
        clear hx hc
        have hst := hown.stored k (.int .i64 x)
        have Hst := hid hst.1
        clear hst
        go_wp2
        go_roundw
        case rel =>
          refine ⟨k + 1, by omega, by go_num, ?_, hB.setCell (p := ⟨w.heap.size, k, none⟩) (Nat.le_refl _) _⟩
          have h := Hst.out
          rw [Hx.out, fill_step hlt, ← Hx.out] at h
          exact h
        case measure => simp [intOf]; omega
      · go_wp2
        go_ret
        obtain rfl : k = xs.length := by omega
        exact ⟨rfl, by simpa using hown, hB⟩

/-- What is left of a size. -/
def szR (left : Int) (n : Nat) : Int := if left < n then -1 else left - n
theorem szR_big {left : Int} {n : Nat} (h : left < n) : szR left n = -1 := by unfold szR; rw [if_pos h]
theorem szR_fit {left : Int} {n : Nat} (h : ¬ left < n) : szR left n = left - n := by unfold szR; rw [if_neg h]

set_option maxHeartbeats 400000 in
theorem szInts (a : Option Addr) (n cap : Nat) (left : Int) (w : World) (h1 : 0 ≤ left) (h2 : left ≤ 1048576) (hn : n ≤ 9223372036854775807) :
    Calls Try.prog 47 #[.slice a n cap, .int .i64 left] w fun e w' => e = .returned (.int .i64 (szR left n)) ∧ w = w' := by
  by_cases h : left < n
  · have H := hid (szR_big h)
    go_enter Try.func47, Try.ntmps47
    go_wp2
    go_ret
    exact ⟨ret_int (by rw [H.out]), rfl⟩
  · have H := hid (szR_fit h)
    go_enter Try.func47, Try.ntmps47
    go_wp2
    go_ret
    exact ⟨ret_int (by rw [H.out]), rfl⟩

set_option maxHeartbeats 400000 in
theorem szCx (V : Int) (a : Option Addr) (n cap : Nat) (left : Int) (w : World) (h1 : 0 ≤ left) (h2 : left ≤ 1048576) (hn : n ≤ 9223372036854775807) :
    Calls Try.prog 13 #[.agg #[.int .i64 V, .slice a n cap], .int .i64 left] w fun e w' => e = .returned (.int .i64 (szR left n)) ∧ Below w.heap.size w w' := by
  have hr : szR left n = -1 ∨ 0 ≤ szR left n := by
    by_cases h : left < n
    · exact .inl (szR_big h)
    · rw [szR_fit h]; right; omega
  have hr' : szR left n < 0 ∨ 0 ≤ szR left n := by omega
  have hm : szR left n < 0 → szR left n = -1 := by omega
  have Hm := hid hm
  clear hr hm
  obtain ⟨r, hr0⟩ : ∃ r, r = szR left n := ⟨_, rfl⟩
  rw [← hr0] at hr'
  have hr := hr'
  have H := hid hr0
  clear hr0 hr'
  go_enter Try.func13, Try.ntmps13
  go_wp2_with fail
  refine (szInts a n cap left _ h1 h2 hn).mono ?_
  rintro e w' ⟨rfl, rfl⟩
  rw [← H.out]
  rcases hr with hr | hr
  · go_wp2
    go_ret
    exact ⟨ret_int (Hm.out (by rw [← H.out]; exact hr)).symm, (Below.refl _ w).alloc (Nat.le_refl _) _⟩
  · go_wp2
    go_ret
    exact ⟨ret_int H.out, (Below.refl _ w).alloc (Nat.le_refl _) _⟩

set_option maxHeartbeats 400000 in
theorem toCx (V : Int) (a : Option Addr) (cap : Nat) (xs : List Int) (w : World) (hx : SlI w w.heap.size a xs) (hl : xs.length ≤ 1048576) :
    Calls Try.prog 16 #[.agg #[.int .i64 V, .slice a xs.length cap]] w fun e w' =>
      ∃ g, e = .returned (.agg #[.int .i64 V, .slice (some ⟨g, 0, none⟩) xs.length xs.length]) ∧ w'.ownsRow w.heap.size 2 1 (.slice (some ⟨g, 0, none⟩) xs.length xs.length) xs.length (xs.map (Value.int .i64)) ∧ Below w.heap.size w w' := by
  go_enter Try.func16, Try.ntmps16
  go_wp2_with fail
  refine (toInts a cap xs _ (SlI.later hx (?hb : Below w.heap.size w _) ?hs) hl).mono ?_
  case hb => repeat (first | exact Below.refl _ _ | refine Below.alloc ?_ (by simp <;> omega) _ | refine Below.setCell ?_ (by simp <;> omega) _)
  case hs => simp <;> omega
  rintro e w1 ⟨rfl, hown, hB⟩
  have hB1 : Below w.heap.size w w1 := Below.trans (by repeat (first | exact Below.refl _ _ | refine Below.alloc ?_ (by simp <;> omega) _ | refine Below.setCell ?_ (by simp <;> omega) _)) (hB.mono (by simp <;> omega))
  have e0 : w1.cell? ⟨w.heap.size + 1 + 1, 0, none⟩ = some (.int .i64 V) := (hB.cell (p := ⟨w.heap.size + 1 + 1, 0, none⟩) (by simp)).trans (by simp [go_sem])
  have e1 : w1.cell? ⟨w.heap.size + 1 + 1, 1, none⟩ = some (.slice none 0 0) := (hB.cell (p := ⟨w.heap.size + 1 + 1, 1, none⟩) (by simp)).trans (by simp [go_sem])
  have e2 : w1.cell? ⟨w.heap.size + 1, 0, none⟩ = some (.int .i64 0) := (hB.cell (p := ⟨w.heap.size + 1, 0, none⟩) (by simp)).trans (by simp [go_sem])
  have e3 : w1.cell? ⟨w.heap.size + 1, 1, none⟩ = some (.slice none 0 0) := (hB.cell (p := ⟨w.heap.size + 1, 1, none⟩) (by simp)).trans (by simp [go_sem])
  have g1 : w1.frozen? ⟨w.heap.size + 1 + 1, 1, none⟩ = false := (hB.frozen (p := ⟨w.heap.size + 1 + 1, 1, none⟩) (by simp)).trans (by simp [go_sem])
  have g2 : w1.frozen? ⟨w.heap.size + 1, 0, none⟩ = false := (hB.frozen (p := ⟨w.heap.size + 1, 0, none⟩) (by simp)).trans (by simp [go_sem])
  have g3 : w1.frozen? ⟨w.heap.size + 1, 1, none⟩ = false := (hB.frozen (p := ⟨w.heap.size + 1, 1, none⟩) (by simp)).trans (by simp [go_sem])
  have hs1 := hB.size
  simp at hs1
  have Hown := hid (hown)
  clear hown
  go_wp2_with fail
  refine bodyPost_ret (v := .agg #[.int .i64 V, .slice (some ⟨w.heap.size + 1 + 1 + 1, 0, none⟩) xs.length xs.length]) (by simp [results, Try.results16, go_sem, e2, e3]) rfl ⟨w.heap.size + 1 + 1 + 1, rfl, ?_, ?_⟩
  · have h := Hown.out
    simp only [World.size_alloc] at h
    refine ownsRow_set (ownsRow_set (ownsRow_set (ownsRow_base h (by omega)) ?_ _) ?_ _) ?_ _ <;> (simp [Value.ownBlock] <;> omega)
  · exact ((hB1.setCell (by simp; omega) _).setCell (by simp) _).setCell (by simp) _

set_option maxHeartbeats 400000 in
theorem eqInts_any (a1 a2 : Option Addr) (c1 c2 : Nat) (xs ys : List Int) (w : World) (hx : SlI w w.heap.size a1 xs) (hy : SlI w w.heap.size a2 ys) (hl : xs.length ≤ 1048576) (hl2 : ys.length ≤ 1048576) :
    Calls Try.prog 19 #[.slice a1 xs.length c1, .slice a2 ys.length c2] w fun e w' => e = .returned (.bool (decide (xs = ys))) ∧ Below w.heap.size w w' := by
  by_cases hlen : xs.length = ys.length
  · rcases hx with rfl | ⟨b, off, hb, rfl, hc⟩
    · obtain rfl : ys = [] := List.eq_nil_of_length_eq_zero hlen.symm
      go_enter Try.func19, Try.ntmps19
      go_wp2
      refine wp_loop_rounds 1 ?_; rw [rounds_succ]
      go_wp2
      go_ret
      exact ⟨ret_bool (by simp), Below.refl _ _⟩
    · rcases hy with rfl | ⟨b2, off2, hb2, rfl, hc2⟩
      · obtain rfl : xs = [] := List.eq_nil_of_length_eq_zero hlen
        go_enter Try.func19, Try.ntmps19
        go_wp2
        refine wp_loop_rounds 1 ?_; rw [rounds_succ]
        go_wp2
        go_ret
        exact ⟨ret_bool (by simp), Below.refl _ _⟩
      · have Hc := hid hc
        have Hc2 := hid hc2
        have hne : ((xs.length : Int) != (ys.length : Int)) = false := by simp [hlen]
        have Hlen := hid hlen
        have hle : xs.length ≤ ys.length := by omega
        clear hc hc2 hlen
        go_enter Try.func19, Try.ntmps19
        go_wp2
        go_loopw [5] (fun i wr => ∃ k : Nat, k ≤ xs.length ∧ i = .int .i64 k ∧ Hid (∀ j, j < k → xs[j]?.getD 0 = ys[j]?.getD 0) ∧ Below w.heap.size w wr) (fun i _ => xs.length - (intOf i).toNat)
        case atStart => exact ⟨0, Nat.zero_le _, rfl, hid (by omega), Below.refl _ _⟩
        case round =>
          obtain ⟨k, hk, rfl, Hk, hB⟩ := hrel
          by_cases hlt : k < xs.length
          · obtain ⟨x, hx⟩ : ∃ x, x = xs[k]?.getD 0 := ⟨_, rfl⟩
            obtain ⟨y, hy⟩ : ∃ y, y = ys[k]?.getD 0 := ⟨_, rfl⟩
            have hck : wr.cell? ⟨b, off + k, none⟩ = some (.int .i64 x) := by rw [hx]; exact (hB.cell (p := ⟨b, off + k, none⟩) hb).trans (Hc.out k hlt)
            have hck2 : wr.cell? ⟨b2, off2 + k, none⟩ = some (.int .i64 y) := by rw [hy]; exact (hB.cell (p := ⟨b2, off2 + k, none⟩) hb2).trans (Hc2.out k (by omega))
            have Hx := hid hx
            have Hy := hid hy
            clear hx hy
            have hi0 : (0 : Int) ≤ (k : Int) := by omega
            have hi1 : (k : Int) < (xs.length : Int) := by omega
            have hi2 : (k : Int) < (ys.length : Int) := by omega
            by_cases hxy : x = y
            · have hd : (x != y) = false := by simp [hxy]
              have Hxy := hid hxy
              clear hxy
              go_wp2_with fail
              go_quiet (fail)
              go_wp2_with fail
              go_roundw
              case rel =>
                refine ⟨k + 1, by omega, by go_num, hid (fun j hj => ?_), hB.trans ⟨rfl, rfl, rfl, Nat.le_refl _, fun _ _ => rfl⟩⟩
                by_cases hjk : j < k
                · exact Hk.out j hjk
                · obtain rfl : j = k := by omega
                  rw [← Hx.out, ← Hy.out, Hxy.out]
              case measure => simp [intOf]; omega
            · have hd : (x != y) = true := by simp [hxy]
              go_wp2_with fail
              go_quiet (fail)
              go_wp2_with fail
              go_ret
              refine ⟨ret_bool ?_, hB.trans ⟨rfl, rfl, rfl, Nat.le_refl _, fun _ _ => rfl⟩⟩
              symm
              refine decide_eq_false (fun h => hxy ?_)
              rw [Hx.out, Hy.out, h]
          · obtain rfl : k = xs.length := by omega
            go_wp2
            go_ret
            refine ⟨ret_bool ?_, hB⟩
            symm
            refine decide_eq_true (List.ext_getElem Hlen.out (fun j h1 h2 => ?_))
            have := Hk.out j h1
            rw [List.getElem?_eq_getElem h1, List.getElem?_eq_getElem h2] at this
            simpa using this
  · have hne : ((xs.length : Int) != (ys.length : Int)) = true := by simp; omega
    have Hlen := hid hlen
    clear hlen
    go_enter Try.func19, Try.ntmps19
    go_wp2
    go_ret
    refine ⟨ret_bool ?_, Below.refl _ _⟩
    symm
    exact decide_eq_false (fun h => Hlen.out (by rw [h]))

theorem eqInts_yes (a1 a2 : Option Addr) (c1 c2 : Nat) (xs ys : List Int) (w : World) (hx : SlI w w.heap.size a1 xs) (hy : SlI w w.heap.size a2 ys) (hl : xs.length ≤ 1048576) (hl2 : ys.length ≤ 1048576) (h : xs = ys) :
    Calls Try.prog 19 #[.slice a1 xs.length c1, .slice a2 ys.length c2] w fun e w' => e = .returned (.bool true) ∧ Below w.heap.size w w' :=
  (eqInts_any a1 a2 c1 c2 xs ys w hx hy hl hl2).mono fun _ _ ⟨he, hw⟩ => ⟨by rw [he, decide_eq_true h], hw⟩

theorem eqInts_no (a1 a2 : Option Addr) (c1 c2 : Nat) (xs ys : List Int) (w : World) (hx : SlI w w.heap.size a1 xs) (hy : SlI w w.heap.size a2 ys) (hl : xs.length ≤ 1048576) (hl2 : ys.length ≤ 1048576) (h : ¬ xs = ys) :
    Calls Try.prog 19 #[.slice a1 xs.length c1, .slice a2 ys.length c2] w fun e w' => e = .returned (.bool false) ∧ Below w.heap.size w w' :=
  (eqInts_any a1 a2 c1 c2 xs ys w hx hy hl hl2).mono fun _ _ ⟨he, hw⟩ => ⟨by rw [he, decide_eq_false h], hw⟩

set_option maxHeartbeats 400000 in
theorem eqCx_yes (V : Int) (a1 a2 : Option Addr) (c1 c2 : Nat) (xs ys : List Int) (w : World) (hx : SlI w w.heap.size a1 xs) (hy : SlI w w.heap.size a2 ys) (hl : xs.length ≤ 1048576) (hl2 : ys.length ≤ 1048576) (h : xs = ys) :
    Calls Try.prog 20 #[.agg #[.int .i64 V, .slice a1 xs.length c1], .agg #[.int .i64 V, .slice a2 ys.length c2]] w fun e w' => e = .returned (.bool true) ∧ Below w.heap.size w w' := by
  have H := hid h
  clear h
  have hne : (V != V) = false := by simp
  go_enter Try.func20, Try.ntmps20
  go_wp2_with fail
  have hB : Below w.heap.size w ((w.alloc (.cells #[.int .i64 V, .slice a1 xs.length c1] 30)).alloc (.cells #[.int .i64 V, .slice a2 ys.length c2] 30)) := ((Below.refl _ w).alloc (Nat.le_refl _) _).alloc (by simp) _
  refine (eqInts_yes a1 a2 c1 c2 xs ys _ (SlI.later hx hB (by simp <;> omega)) (SlI.later hy hB (by simp <;> omega)) hl hl2 H.out).mono ?_
  rintro e w' ⟨rfl, hb⟩
  go_wp2_with fail
  go_ret
  exact ⟨rfl, hB.trans (hb.mono (by simp <;> omega))⟩

end Go.Proofs.Ytgefpllmelpahaa

/-! Marks: what the laws write into results, and find again. -/
namespace Go.Proofs.Ytgefpllmelpahaa
open Go.RowKit

/-- k, k + 1, .. -/
def count (k : Int) : Nat → List Int
  | 0 => []
  | n + 1 => count k n ++ [k + n]

theorem count_len (k : Int) : ∀ n, (count k n).length = n
  | 0 => rfl
  | n + 1 => by simp [count, count_len k n]

theorem count_get (k : Int) : ∀ n i, i < n → (count k n)[i]?.getD 0 = k + i
  | 0, i, h => by omega
  | n + 1, i, h => by
    unfold count
    by_cases hi : i < n
    · rw [List.getElem?_append_left (by rw [count_len]; exact hi)]
      exact count_get k n i hi
    · obtain rfl : i = n := by omega
      rw [List.getElem?_append_right (by rw [count_len]; omega), count_len]
      simp

theorem mark_step {k : Int} {xs : List Int} {j : Nat} (h : j < xs.length) :
    ((count k j ++ xs.drop j).map (Value.int .i64)).set j (.int .i64 (k + j)) = (count k (j + 1) ++ xs.drop (j + 1)).map (Value.int .i64) := by
  rw [← List.map_set]
  congr 1
  rw [List.set_append_right _ _ (by rw [count_len]; exact Nat.le_refl _), count_len, Nat.sub_self]
  rw [List.drop_eq_getElem_cons h, List.set_cons_zero]
  simp [count]

set_option maxHeartbeats 400000 in
theorem markInts (base : Nat) (a : Option Addr) (cap : Nat) (xs : List Int) (k : Int) (w : World) (hown : w.ownsRow base 2 1 (.slice a xs.length cap) xs.length (xs.map (Value.int .i64))) (hl : xs.length ≤ 1048576) (h0 : 0 ≤ k) (h1 : k ≤ 1099511627776) :
    Calls Try.prog 24 #[.slice a xs.length cap, .int .i64 k] w fun e w' => e = .returned (.int .i64 (k + xs.length)) ∧
      w'.ownsRow base 2 1 (.slice a xs.length cap) xs.length ((count k xs.length).map (Value.int .i64)) ∧ w.grownBy w' (Value.ownBlock (.slice a xs.length cap)) := by
  rcases hown.2 with ⟨hv, hn⟩ | ⟨g, cap', cur, hv, hb, hg, rest⟩
  · obtain rfl : xs = [] := List.eq_nil_of_length_eq_zero hn
    have Hown := hid hown
    clear hown hv hn
    go_enter Try.func24, Try.ntmps24
    go_wp2
    refine wp_loop_rounds 1 ?_; rw [rounds_succ]
    go_wp2
    go_ret
    exact ⟨ret_int (by simp), Hown.out, ⟨rfl, rfl, rfl, Nat.le_refl _, fun _ _ _ => rfl⟩⟩
  · cases hv
    have Hg := hid (And.intro hb hg)
    clear hb hg rest
    go_enter Try.func24, Try.ntmps24
    go_wp2
    go_loopw [1, 5] (fun m i wr => ∃ j : Nat, j ≤ xs.length ∧ i = .int .i64 j ∧ m = .int .i64 (k + j) ∧ wr.ownsRow base 2 1 (.slice (some ⟨g, 0, none⟩) xs.length cap) xs.length ((count k j ++ xs.drop j).map (Value.int .i64)) ∧ w.grownBy wr (some g)) (fun _ i _ => xs.length - (intOf i).toNat)
    case atStart => exact ⟨0, Nat.zero_le _, rfl, by simp, by simpa [count] using hown, ⟨rfl, rfl, rfl, Nat.le_refl _, fun _ _ _ => rfl⟩⟩
    case round =>
      obtain ⟨j, hj, rfl, rfl, hown, hgr⟩ := hrel
      by_cases hlt : j < xs.length
      · have hcg : ∃ u, wr.cell? ⟨g, j, none⟩ = some (.int .i64 u) := by
          rw [hown.cellAt j (by omega)]
          refine ⟨xs[j]?.getD 0, ?_⟩
          rw [List.getElem?_map, List.getElem?_append_right (by rw [count_len]; exact Nat.le_refl _), count_len, Nat.sub_self]
          simp [hlt]
        obtain ⟨u, hcu⟩ := hcg
        have hfg := hown.frozenAt j
        have hst := hown.stored j (.int .i64 (k + j))
        rw [mark_step hlt] at hst
        have Hst := hid hst
        have Hgr := hid hgr
        clear hst hown hgr
        go_wp2
        go_roundw
        case rel =>
          exact ⟨j + 1, by omega, by go_num, by go_num, Hst.out.1, Hgr.out.trans Hst.out.2⟩
        case measure => simp [intOf]; omega
      · go_wp2
        go_ret
        obtain rfl : j = xs.length := by omega
        exact ⟨rfl, by simpa using hown, hgr⟩

set_option maxHeartbeats 400000 in
theorem heldInts (a : Option Addr) (cap : Nat) (n : Nat) (xs : List Int) (k : Int) (w : World) (hxs : xs = count k n) (hx : SlI w w.heap.size a xs) (hl : n ≤ 1048576) (h0 : 0 ≤ k) (h1 : k ≤ 1099511627776) :
    Calls Try.prog 25 #[.slice a n cap, .int .i64 k] w fun e w' => e = .returned (.int .i64 (k + n)) ∧ Below w.heap.size w w' := by
  have hlen : xs.length = n := by rw [hxs, count_len]
  rcases hx with rfl | ⟨b, off, hb, rfl, hc⟩
  · obtain rfl : n = 0 := by simpa using hlen.symm
    clear hxs hlen
    go_enter Try.func25, Try.ntmps25
    go_wp2
    refine wp_loop_rounds 1 ?_; rw [rounds_succ]
    go_wp2
    go_ret
    exact ⟨ret_int (by simp), Below.refl _ _⟩
  · have Hc := hid hc
    have Hxs := hid hxs
    have Hlen := hid hlen
    clear hc hxs hlen
    go_enter Try.func25, Try.ntmps25
    go_wp2
    go_loop [1, 5] (fun m i => ∃ j : Nat, j ≤ n ∧ i = .int .i64 j ∧ m = .int .i64 (k + j)) (fun _ i => n - (intOf i).toNat)
    case atStart => exact ⟨0, Nat.zero_le _, rfl, by simp⟩
    case round =>
      obtain ⟨j, hj, rfl, rfl⟩ := hrel
      by_cases hlt : j < n
      · have hck : w.cell? ⟨b, off + j, none⟩ = some (.int .i64 (k + j)) := by
          have := Hc.out j (by rw [Hlen.out]; exact hlt)
          rw [Hxs.out, count_get _ _ _ hlt] at this
          exact this
        go_wp2
        go_round
        case rel => exact ⟨j + 1, by omega, by go_num, by go_num⟩
        case measure => simp [intOf]; omega
      · go_wp2
        go_ret
        obtain rfl : j = n := by omega
        exact ⟨rfl, Below.refl _ _⟩

/-! ### What a law keeps of the world: slices of its own, in the order in which they were made, and blocks -/

/-- A slice of int64 that lies in blocks from lo to hi. -/
structure Sl where
  lo : Nat
  hi : Nat
  v : Value
  xs : List Int

structure OwnI (w : World) (p : Sl) : Prop where
  own : w.ownsRow p.lo 2 1 p.v p.xs.length (p.xs.map (Value.int .i64))
  lt : ∀ g, p.v.ownBlock = some g → g < p.hi
  le : p.hi ≤ w.heap.size

structure Facts (w0 : World) (w : World) (A : List (Option Addr × List Int)) (bs : List (Nat × Obj)) (L : List Sl) : Prop where
  from0 : Below w0.heap.size w0 w
  args : ∀ q ∈ A, SlI w w0.heap.size q.1 q.2
  blocks : ∀ b ∈ bs, w.heap[b.1]? = some b.2
  slices : ∀ p ∈ L, OwnI w p

section
variable {w0 w w' : World} {A : List (Option Addr × List Int)} {bs : List (Nat × Obj)} {L : List Sl}

theorem Facts.ge (h : Facts w0 w A bs L) : w0.heap.size ≤ w.heap.size := h.from0.size

theorem Facts.below (h : Facts w0 w A bs L) (hb : Below w.heap.size w w') : Facts w0 w' A bs L where
  from0 := h.from0.trans (hb.mono h.ge)
  args := fun q hq => (h.args q hq).below (hb.mono h.ge)
  blocks := fun b hbm => (hb.block b.1 (Array.getElem?_eq_some_iff.1 (h.blocks b hbm)).1).trans (h.blocks b hbm)
  slices := fun p hp => ⟨ownsRow_below (h.slices p hp).own hb (fun g hg => Nat.lt_of_lt_of_le ((h.slices p hp).lt g hg) (h.slices p hp).le), (h.slices p hp).lt, Nat.le_trans (h.slices p hp).le hb.size⟩

theorem Facts.drew (h : Facts w0 w A bs L) : Facts w0 w.drew A bs L := h.below (Below.refl _ _).drew

theorem Facts.arg (h : Facts w0 w A bs L) {q : Option Addr × List Int} (hq : q ∈ A) : SlI w w.heap.size q.1 q.2 := (h.args q hq).mono h.ge

/-- A new block. -/
theorem Facts.alloc (h : Facts w0 w A bs L) (o : Obj) : Facts w0 (w.alloc o) A ((w.heap.size, o) :: bs) L where
  from0 := h.from0.alloc h.ge o
  args := fun q hq => (h.args q hq).below ((Below.refl _ w).alloc h.ge _)
  blocks := fun b hb => by
    rcases List.mem_cons.1 hb with rfl | hb
    · exact heap_alloc_new w o
    · exact (Below.heap_alloc w o _ (Array.getElem?_eq_some_iff.1 (h.blocks b hb)).1).trans (h.blocks b hb)
  slices := fun p hp => ⟨(h.slices p hp).own.alloc o, (h.slices p hp).lt, by have := (h.slices p hp).le; simp; omega⟩

/-- A new slice, out of a call. -/
theorem Facts.slice (h : Facts w0 w A bs L) {v : Value} {xs : List Int}
    (hown : w'.ownsRow w.heap.size 2 1 v xs.length (xs.map (Value.int .i64))) (hb : Below w.heap.size w w') : Facts w0 w' A bs (⟨w.heap.size, w'.heap.size, v, xs⟩ :: L) :=
  { h.below hb with
    slices := fun p hp => by
      rcases List.mem_cons.1 hp with rfl | hp
      · exact ⟨hown, fun g hg => (hown.lt g hg).2, Nat.le_refl _⟩
      · exact (h.below hb).slices p hp }

/-- A slice is marked: the others stay. -/
theorem Facts.mark {L' : List Sl} (h : Facts w0 w A bs L) {p : Sl} {ys : List Int} (hp : p ∈ L)
    (hown : w'.ownsRow p.lo 2 1 p.v ys.length (ys.map (Value.int .i64))) (hg : w.grownBy w' p.v.ownBlock)
    (hB : w0.heap.size ≤ p.lo) (hbs : ∀ b ∈ bs, b.1 < p.lo ∨ p.hi ≤ b.1) (hL : ∀ q ∈ L', q = { p with xs := ys } ∨ (q ∈ L ∧ (q.hi ≤ p.lo ∨ p.hi ≤ q.lo))) : Facts w0 w' A bs L' where
  from0 := h.from0.grown hg h.ge (fun k e => Nat.le_trans hB ((h.slices p hp).own.lt k e).1)
  args := fun q hq => (h.args q hq).below ((Below.refl _ w).grown hg h.ge (fun k e => Nat.le_trans hB ((h.slices p hp).own.lt k e).1))
  blocks := fun b hb => (hg.block b.1 (Array.getElem?_eq_some_iff.1 (h.blocks b hb)).1 (fun e => by
    have h1 := ((h.slices p hp).own.lt _ e.symm).1
    have h2 := (h.slices p hp).lt _ e.symm
    rcases hbs b hb with h3 | h3 <;> omega)).trans (h.blocks b hb)
  slices := fun q hq => by
    rcases hL q hq with rfl | ⟨hqm, hap⟩
    · exact ⟨hown, (h.slices p hp).lt, Nat.le_trans (h.slices p hp).le hg.size⟩
    · refine ⟨(h.slices q hqm).own.kept hg ?_, (h.slices q hqm).lt, Nat.le_trans (h.slices q hqm).le hg.size⟩
      cases hv : q.v.ownBlock with
      | none => exact .inl rfl
      | some g =>
        refine .inr (fun e => ?_)
        have h1 := ((h.slices p hp).own.lt _ e.symm).1
        have h2 := (h.slices p hp).lt _ e.symm
        have h3 := ((h.slices q hqm).own.lt _ hv).1
        have h4 := (h.slices q hqm).lt _ hv
        rcases hap with h5 | h5 <;> omega

theorem Facts.slI (h : Facts w0 w A bs L) {lo hi : Nat} {a : Option Addr} {m cap : Nat} {xs : List Int} (hp : (⟨lo, hi, .slice a m cap, xs⟩ : Sl) ∈ L) : SlI w w.heap.size a xs :=
  owned_slI (h.slices _ hp).own

theorem Facts.own (h : Facts w0 w A bs L) {lo hi : Nat} {v : Value} {xs : List Int} (hp : (⟨lo, hi, v, xs⟩ : Sl) ∈ L) : w.ownsRow lo 2 1 v xs.length (xs.map (Value.int .i64)) := (h.slices _ hp).own

theorem Facts.two (h : Facts w0 w A bs L) {b t : Nat} {u v : Value} (hb : (b, Obj.cells #[u, v] t (0, 0)) ∈ bs) : w.cell? ⟨b, 0, none⟩ = some u ∧ w.cell? ⟨b, 1, none⟩ = some v := by
  have := h.blocks _ hb
  constructor <;> simp [World.cell?, this]
end

set_option maxHeartbeats 400000 in
theorem markCx (V : Int) (base : Nat) (a : Option Addr) (cap : Nat) (xs : List Int) (k : Int) (w : World) (hown : w.ownsRow base 2 1 (.slice a xs.length cap) xs.length (xs.map (Value.int .i64))) (hl : xs.length ≤ 1048576) (h0 : 0 ≤ k) (h1 : k ≤ 1099511627776) :
    Calls Try.prog 22 #[.agg #[.int .i64 V, .slice a xs.length cap], .int .i64 k] w fun e w' => e = .returned (.int .i64 (k + xs.length)) ∧
      w'.ownsRow base 2 1 (.slice a xs.length cap) xs.length ((count k xs.length).map (Value.int .i64)) ∧ w.grownBy w' (Value.ownBlock (.slice a xs.length cap)) := by
  have Hown := hid (hown.alloc (.cells #[.int .i64 V, .slice a xs.length cap] 30))
  clear hown
  go_enter Try.func22, Try.ntmps22
  go_wp2_with fail
  refine (markInts base a cap xs k _ Hown.out hl h0 h1).mono ?_
  rintro e w1 ⟨rfl, hown1, hgr⟩
  go_wp2_with fail
  go_ret
  exact ⟨rfl, hown1, (World.grownBy_alloc w _ _).trans hgr⟩

set_option maxHeartbeats 400000 in
theorem heldCx (V : Int) (a : Option Addr) (cap n : Nat) (xs : List Int) (k : Int) (w : World) (hxs : xs = count k n) (hx : SlI w w.heap.size a xs) (hl : n ≤ 1048576) (h0 : 0 ≤ k) (h1 : k ≤ 1099511627776) :
    Calls Try.prog 31 #[.agg #[.int .i64 V, .slice a n cap], .int .i64 k] w fun e w' => e = .returned (.int .i64 (k + n)) ∧ Below w.heap.size w w' := by
  have hB : Below w.heap.size w (w.alloc (.cells #[.int .i64 V, .slice a n cap] 30)) := (Below.refl _ w).alloc (Nat.le_refl _) _
  have Hxs := hid hxs
  have Hx := hid (hx.later hB (by simp))
  clear hxs hx
  go_enter Try.func31, Try.ntmps31
  go_wp2_with fail
  refine (heldInts a cap n xs k _ Hxs.out Hx.out hl h0 h1).mono ?_
  rintro e w1 ⟨rfl, hB1⟩
  go_wp2_with fail
  go_ret
  exact ⟨rfl, hB.trans (hB1.mono (by simp))⟩

end Go.Proofs.Ytgefpllmelpahaa

/-! Lists of rows of integers in memory that the call itself has made: rows in blocks of their own, in ascending blocks. -/
namespace Go.Proofs.Ytgefpllmelpahaa
open Go.RowKit

theorem info_rowsG : (Try.prog.info? 22).map (fun i => (i.zero, i.size, i.bytes)) = some (some (.slice none 0 0), 1, 24) := by kernel_rfl

/-- v is a slice with the integers g. -/
def RowAt (w : World) (base : Nat) (v : Value) (g : List Int) : Prop := ∃ a c, v = .slice a g.length c ∧ w.ownsRow base 2 1 (.slice a g.length c) g.length (g.map (Value.int .i64))
theorem RowAt.own {w : World} {base : Nat} {v : Value} {g : List Int} (h : RowAt w base v g) : w.ownsRow base 2 1 v g.length (g.map (Value.int .i64)) := by
  obtain ⟨a, c, rfl, h⟩ := h
  exact h
theorem RowAt.slI {w : World} {base : Nat} {v : Value} {g : List Int} (h : RowAt w base v g) : ∃ a c, v = .slice a g.length c ∧ SlI w w.heap.size a g := by
  obtain ⟨a, c, rfl, h⟩ := h
  obtain ⟨_, a', c', e, hs⟩ := ownsRow_slI h
  cases e
  exact ⟨_, _, rfl, hs⟩
theorem RowAt.one {w : World} {base : Nat} {v : Value} {g : List Int} (h : RowAt w base v g) : v.oneCell' = true := by
  obtain ⟨a, c, rfl, _⟩ := h
  rfl
theorem rowAt_of {w : World} {base : Nat} {v : Value} {g : List Int} (h : w.ownsRow base 2 1 v g.length (g.map (Value.int .i64))) : RowAt w base v g := by
  obtain ⟨_, a, c, rfl, _⟩ := ownsRow_slI h
  exact ⟨a, c, rfl, h⟩

/-- Rows of two types lie in two blocks. -/
theorem own_neG {w : World} {base base' e e' s s' n n' : Nat} {v v' : Value} {xs xs' : List Value} (h : w.ownsRow base e s v n xs) (h' : w.ownsRow base' e' s' v' n' xs') (hne : e ≠ e') : v.ownBlock = none ∨ v.ownBlock ≠ v'.ownBlock := by
  rcases h.2 with ⟨rfl, _⟩ | ⟨g, cap, cur, rfl, _, hg, _⟩
  · exact .inl rfl
  · rcases h'.2 with ⟨rfl, _⟩ | ⟨g', cap', cur', rfl, _, hg', _⟩
    · exact .inr (by simp [Value.ownBlock])
    · refine .inr (fun e1 => ?_)
      simp [Value.ownBlock] at e1
      subst e1
      rw [hg] at hg'
      simp at hg'
      exact hne hg'.2

/-- A list of rows: the values of the rows, and what they hold. -/
structure RowsV (w : World) (base : Nat) (v : Value) (vs : List Value) (gs : List (List Int)) : Prop where
  own : w.ownsRow base 22 1 v gs.length vs
  len : vs.length = gs.length
  at_ : ∀ i, i < gs.length → RowAt w base (vs[i]?.getD undef) (gs[i]?.getD [])
  asc : ∀ i j, i < j → j < gs.length → ∀ g g', (vs[i]?.getD undef).ownBlock = some g → (vs[j]?.getD undef).ownBlock = some g' → g < g'

theorem RowsV.below {w w' : World} {base : Nat} {v : Value} {vs : List Value} {gs : List (List Int)} (h : RowsV w base v vs gs) (hb : Below w.heap.size w w') : RowsV w' base v vs gs :=
  ⟨ownsRow_below h.own hb (fun g hg => (h.own.lt g hg).2), h.len, fun i hi => by
    obtain ⟨a, c, e, ho⟩ := h.at_ i hi
    exact ⟨a, c, e, ownsRow_below ho hb (fun g hg => (ho.lt g hg).2)⟩, h.asc⟩

theorem RowsV.base {w : World} {b b' : Nat} {v : Value} {vs : List Value} {gs : List (List Int)} (h : RowsV w b v vs gs) (hb : b' ≤ b) : RowsV w b' v vs gs :=
  ⟨ownsRow_base h.own hb, h.len, fun i hi => by
    obtain ⟨a, c, e, ho⟩ := h.at_ i hi
    exact ⟨a, c, e, ownsRow_base ho hb⟩, h.asc⟩

theorem RowsV.nil {w : World} {base : Nat} {v : Value} (h : w.ownsRow base 22 1 v 0 []) : RowsV w base v [] [] :=
  ⟨h, rfl, fun i hi => absurd hi (by simp), fun i j _ hj => absurd hj (by simp)⟩

theorem RowsV.nil0 (w : World) (base : Nat) : RowsV w base (.slice none 0 0) [] [] := .nil ⟨rfl, .inl ⟨rfl, rfl⟩⟩

/-- What an append of a row of the call's own gives: the rows before are of an elder world. -/
theorem RowsV.snoc {w0 w w' : World} {base : Nat} {v v' nv : Value} {vs : List Value} {gs : List (List Int)} {g : List Int} (h : RowsV w0 base v vs gs) (hb : Below w0.heap.size w0 w) (hbase : base ≤ w0.heap.size) (hn : w.ownsRow w0.heap.size 2 1 nv g.length (g.map (Value.int .i64)))
    (hown : w'.ownsRow base 22 1 v' (gs.length + 1) (vs ++ [nv])) (hg : w.grownBy w' v.ownBlock) : RowsV w' base v' (vs ++ [nv]) (gs ++ [g]) := by
  have h1 := h.below hb
  have hl := h.len
  have keep : ∀ {b : Nat} {u : Value} {x : List Int}, w.ownsRow b 2 1 u x.length (x.map (Value.int .i64)) → w'.ownsRow b 2 1 u x.length (x.map (Value.int .i64)) := fun ho => ho.kept hg (own_neG ho h1.own (by decide))
  refine ⟨by simpa using hown, by simp [hl], fun i hi => ?_, fun i j hij hj => ?_⟩
  · by_cases e : i < gs.length
    · rw [List.getElem?_append_left (by rw [hl]; exact e), List.getElem?_append_left e]
      obtain ⟨a, c, e2, ho⟩ := h1.at_ i e
      exact ⟨a, c, e2, keep ho⟩
    · have : i = gs.length := by simp at hi; omega
      subst this
      rw [← hl, List.getElem?_append_right (Nat.le_refl _), hl, List.getElem?_append_right (Nat.le_refl _)]
      simp only [Nat.sub_self, List.getElem?_cons_zero, Option.getD_some]
      obtain ⟨a, c, e2, ho⟩ := rowAt_of hn
      exact ⟨a, c, e2, ownsRow_base (keep ho) hbase⟩
  · by_cases e : j < gs.length
    · rw [List.getElem?_append_left (by rw [hl]; omega), List.getElem?_append_left (by rw [hl]; exact e)]
      exact h.asc i j hij e
    · have : j = gs.length := by simp at hj; omega
      subst this
      intro b b' hbk hbk'
      rw [List.getElem?_append_left (by rw [hl]; exact hij)] at hbk
      rw [← hl, List.getElem?_append_right (Nat.le_refl _)] at hbk'
      simp only [Nat.sub_self, List.getElem?_cons_zero, Option.getD_some] at hbk'
      obtain ⟨a, c, e2, ho⟩ := h.at_ i hij
      rw [e2] at hbk
      have h2 := (ho.lt b hbk).2
      have h3 := (hn.lt b' hbk').1
      omega

/-- 'rows = append(rows, row)'. -/
theorem append_row {w : World} {ops : Array Oper} {rest : List Oper} {o : Oper} {a : Act} {Q : Exit → Act → World → Prop} (hgd : o.guard = none) {s y : Operand}
    (ho : o.op = .call { callee := .builtin .append, args := #[s, y], argTypes := #[66, 66] })
    {base n : Nat} {v x : Value} {xs : List Value} (hx : x.oneCell' = true) (hown : w.ownsRow base 22 1 v n xs) (hbase : base ≤ w.heap.size) (hl : n ≤ 1099511627776)
    (hs : a.eval s = v) (hy : a.eval y = .slice (some ⟨w.heap.size, 0, none⟩) 1 1)
    (hK : ∀ v' w', w'.ownsRow base 22 1 v' (n + 1) (xs ++ [x]) → w.grownBy w' v.ownBlock → Below base w w' → wpList Try.prog ops Q rest (a.put o.dst v') w') :
    wpList Try.prog ops Q (o :: rest) a (w.alloc (.cells #[x] 22)) := by
  obtain ⟨i0, hi, hz0, hz1, hz2⟩ := info_parts info_rowsG
  refine wpList_append_own _ hgd s y 66 ho base 22 i0 (.slice none 0 0) 1 24 Try.underlying66 hi hz0 hz1 hz2 rfl (by decide) v _ _ hs (hown.alloc _) ⟨w.heap.size, 0, none⟩ 1 1 [x] hy rfl (cell_one_new _ _ _) (by simpa using hx) (by unfold maxLen; omega) (by omega) (by simp; omega) ?_
  intro v' w1 hown1 hgrow1 _
  have hg : w.grownBy w1 v.ownBlock := (World.grownBy_alloc w _ _).trans hgrow1
  exact hK v' w1 hown1 hg ((Below.refl base w).grown hg hbase (fun k hk => (hown.lt k hk).1))

/-- A call of a function of three arguments, as one step of a region that draws. -/
theorem step_call3 {P : Program} {ops : Array Oper} {o : Oper} {a : Act} {w : World} {K : Act → World → Prop} {Q : Exit → Act → World → Prop} {E : Prop} (hg : o.guard = none) {f : FuncId} {fn : Func} (hfn : P.funcs[f]? = some fn) (hname : (fn.name == "runtime.NumGoroutine") = false) (hbody : fn.body.isNone = false) {x y z : Operand} {T : Array TypeId}
    (ho : o.op = .call { callee := .value (.func f), args := #[x, y, z], argTypes := T }) {vx vy vz r : Value} {R : World → Prop} (hx : a.eval x = vx) (hy : a.eval y = vy) (hz : a.eval z = vz)
    (hC : Calls P f #[vx, vy, vz] w fun e w' => e = .returned r ∧ R w') (hK : ∀ w', R w' → K (a.put o.dst r) w') :
    if Region.wanted o (yielded ops a.tmps) = true then Oper.wp P o a w K Q else E := by
  have hw : Region.wanted o (yielded ops a.tmps) = true := by simp [Region.wanted, hg]
  rw [if_pos hw]
  unfold Oper.wp
  have h : (execOp a.eval o).run P w = .ok (.enter f #[vx, vy, vz]) w := by
    have hf : a.eval (.func f) = .func (.func f) #[] #[] := rfl
    have h1 : ¬ fn.name = "runtime.NumGoroutine" := by simpa using hname
    have h2 : ¬ fn.body = none := fun e => by rw [e] at hbody; cases hbody
    simp [execOp, ho, resolve, invoke, hx, hy, hz, hf, Deferred.ofValue, callFunc, hfn, h1, h2]
  rw [h, Oper.upon_enter]
  exact hC.mono fun e w' ⟨he, hr⟩ => by subst he; exact hK w' hr

end Go.Proofs.Ytgefpllmelpahaa

/-! What a law keeps of the world, for rows of any type that are read as integers (a list of n pairs: 2 * n integers). -/
namespace Go.Proofs.Ytgefpllmelpahaa
open Go.RowKit

/-- A row that lies in blocks from lo to hi: n elements of a type and size, read as integers. -/
structure Bk where
  lo : Nat
  hi : Nat
  ty : TypeId
  sz : Nat
  n : Nat
  v : Value
  xs : List Int

structure OwnB (w : World) (p : Bk) : Prop where
  own : w.ownsRow p.lo p.ty p.sz p.v p.n (p.xs.map (Value.int .i64))
  lt : ∀ g, p.v.ownBlock = some g → g < p.hi
  le : p.hi ≤ w.heap.size

/-- What is owned reads as integers. -/
theorem flat_slI {w : World} {base e sz : Nat} {a : Option Addr} {n m cap : Nat} {xs : List Int} (h : w.ownsRow base e sz (.slice a m cap) n (xs.map (Value.int .i64))) : SlI w w.heap.size a xs := by
  have hl := h.1
  rcases h.2 with ⟨hv, hn⟩ | ⟨g, cap', cur, hv, _, hg, _⟩
  · subst hn
    exact .inl (List.eq_nil_of_length_eq_zero (by simpa using hl))
  · cases hv
    refine .inr ⟨g, 0, (Array.getElem?_eq_some_iff.1 hg).1, rfl, fun i hi => ?_⟩
    have := h.cells (g := g) rfl i (.int .i64 (xs[i]?.getD 0)) (by simp [hi])
    have hadd : (⟨g, 0, none⟩ : Addr).add i = ⟨g, i, none⟩ := by unfold Addr.add; split <;> simp_all
    rw [hadd] at this
    simpa using this

structure Book (w0 : World) (w : World) (A : List (Option Addr × List Int)) (bs : List (Nat × Obj)) (L : List Bk) : Prop where
  from0 : Below w0.heap.size w0 w
  args : ∀ q ∈ A, SlI w w0.heap.size q.1 q.2
  blocks : ∀ b ∈ bs, w.heap[b.1]? = some b.2
  rows : ∀ p ∈ L, OwnB w p

section
variable {w0 w w' : World} {A : List (Option Addr × List Int)} {bs : List (Nat × Obj)} {L : List Bk}

theorem Book.ge (h : Book w0 w A bs L) : w0.heap.size ≤ w.heap.size := h.from0.size

theorem Book.below (h : Book w0 w A bs L) (hb : Below w.heap.size w w') : Book w0 w' A bs L where
  from0 := h.from0.trans (hb.mono h.ge)
  args := fun q hq => (h.args q hq).below (hb.mono h.ge)
  blocks := fun b hbm => (hb.block b.1 (Array.getElem?_eq_some_iff.1 (h.blocks b hbm)).1).trans (h.blocks b hbm)
  rows := fun p hp => ⟨ownsRow_below (h.rows p hp).own hb (fun g hg => Nat.lt_of_lt_of_le ((h.rows p hp).lt g hg) (h.rows p hp).le), (h.rows p hp).lt, Nat.le_trans (h.rows p hp).le hb.size⟩

theorem Book.drew (h : Book w0 w A bs L) : Book w0 w.drew A bs L := h.below (Below.refl _ _).drew
theorem Book.drewN (h : Book w0 w A bs L) (n : Nat) : Book w0 (w.drewN n) A bs L := h.below ⟨rfl, rfl, rfl, Nat.le_refl _, fun _ _ => rfl⟩

theorem Book.arg (h : Book w0 w A bs L) {q : Option Addr × List Int} (hq : q ∈ A) : SlI w w.heap.size q.1 q.2 := (h.args q hq).mono h.ge

theorem Book.alloc (h : Book w0 w A bs L) (o : Obj) : Book w0 (w.alloc o) A ((w.heap.size, o) :: bs) L where
  from0 := h.from0.alloc h.ge o
  args := fun q hq => (h.args q hq).below ((Below.refl _ w).alloc h.ge _)
  blocks := fun b hb => by
    rcases List.mem_cons.1 hb with rfl | hb
    · exact heap_alloc_new w o
    · exact (Below.heap_alloc w o _ (Array.getElem?_eq_some_iff.1 (h.blocks b hb)).1).trans (h.blocks b hb)
  rows := fun p hp => ⟨(h.rows p hp).own.alloc o, (h.rows p hp).lt, by have := (h.rows p hp).le; simp; omega⟩

/-- A new row, out of a call. -/
theorem Book.row (h : Book w0 w A bs L) {ty : TypeId} {sz n : Nat} {v : Value} {xs : List Int}
    (hown : w'.ownsRow w.heap.size ty sz v n (xs.map (Value.int .i64))) (hb : Below w.heap.size w w') : Book w0 w' A bs (⟨w.heap.size, w'.heap.size, ty, sz, n, v, xs⟩ :: L) :=
  { h.below hb with
    rows := fun p hp => by
      rcases List.mem_cons.1 hp with rfl | hp
      · exact ⟨hown, fun g hg => (hown.lt g hg).2, Nat.le_refl _⟩
      · exact (h.below hb).rows p hp }

/-- A row is marked: the others stay. -/
theorem Book.mark {L' : List Bk} (h : Book w0 w A bs L) {p : Bk} {ys : List Int} (hp : p ∈ L)
    (hown : w'.ownsRow p.lo p.ty p.sz p.v p.n (ys.map (Value.int .i64))) (hg : w.grownBy w' p.v.ownBlock)
    (hB : w0.heap.size ≤ p.lo) (hbs : ∀ b ∈ bs, b.1 < p.lo ∨ p.hi ≤ b.1) (hL : ∀ q ∈ L', q = { p with xs := ys } ∨ (q ∈ L ∧ (q.hi ≤ p.lo ∨ p.hi ≤ q.lo))) : Book w0 w' A bs L' where
  from0 := h.from0.grown hg h.ge (fun k e => Nat.le_trans hB ((h.rows p hp).own.lt k e).1)
  args := fun q hq => (h.args q hq).below ((Below.refl _ w).grown hg h.ge (fun k e => Nat.le_trans hB ((h.rows p hp).own.lt k e).1))
  blocks := fun b hb => (hg.block b.1 (Array.getElem?_eq_some_iff.1 (h.blocks b hb)).1 (fun e => by
    have h1 := ((h.rows p hp).own.lt _ e.symm).1
    have h2 := (h.rows p hp).lt _ e.symm
    rcases hbs b hb with h3 | h3 <;> omega)).trans (h.blocks b hb)
  rows := fun q hq => by
    rcases hL q hq with rfl | ⟨hqm, hap⟩
    · exact ⟨hown, (h.rows p hp).lt, Nat.le_trans (h.rows p hp).le hg.size⟩
    · refine ⟨(h.rows q hqm).own.kept hg ?_, (h.rows q hqm).lt, Nat.le_trans (h.rows q hqm).le hg.size⟩
      cases hv : q.v.ownBlock with
      | none => exact .inl rfl
      | some g =>
        refine .inr (fun e => ?_)
        have h1 := ((h.rows p hp).own.lt _ e.symm).1
        have h2 := (h.rows p hp).lt _ e.symm
        have h3 := ((h.rows q hqm).own.lt _ hv).1
        have h4 := (h.rows q hqm).lt _ hv
        rcases hap with h5 | h5 <;> omega

/-- Some of it. -/
theorem Book.only {bs' : List (Nat × Obj)} {L' : List Bk} (h : Book w0 w A bs L) (hb : ∀ b ∈ bs', b ∈ bs) (hL : ∀ p ∈ L', p ∈ L) : Book w0 w A bs' L' :=
  ⟨h.from0, h.args, fun b hbm => h.blocks b (hb b hbm), fun p hp => h.rows p (hL p hp)⟩

/-- A block of another type is written. -/
theorem Book.set2 {b t : Nat} {x y u v : Value} (h : Book w0 w A ((b, .cells #[x, y] t (0, 0)) :: bs) L) (hw : w0.heap.size ≤ b) (hb : ∀ q ∈ bs, q.1 ≠ b) (hty : ∀ p ∈ L, p.ty ≠ t) :
    Book w0 ((w.setCell ⟨b, 0, none⟩ u).setCell ⟨b, 1, none⟩ v) A ((b, .cells #[u, v] t (0, 0)) :: bs) L where
  from0 := (h.from0.setCell (p := ⟨b, 0, none⟩) hw _).setCell (p := ⟨b, 1, none⟩) hw _
  args := fun q hq => (h.args q hq).below (((Below.refl _ w).setCell (p := ⟨b, 0, none⟩) hw _).setCell (p := ⟨b, 1, none⟩) hw _)
  blocks := fun q hq => by
    rcases List.mem_cons.1 hq with rfl | hq
    · have hbk := h.blocks _ (List.mem_cons_self ..)
      simp only at hbk
      simp only [World.setCell, Array.getElem?_modify, hbk]
      simp
    · exact (Below.heap_setCell _ _ _ _ (hb q hq)).trans ((Below.heap_setCell _ _ _ _ (hb q hq)).trans (h.blocks q (List.mem_cons_of_mem _ hq)))
  rows := fun p hp => by
    have hbk := h.blocks _ (List.mem_cons_self ..)
    have hn : p.v.ownBlock ≠ some b := by
      intro e
      have ho := (h.rows p hp).own
      rcases ho.2 with ⟨hv, _⟩ | ⟨g, cap, cur, hv, _, hg, _⟩
      · rw [hv] at e; simp [Value.ownBlock] at e
      · rw [hv] at e
        simp [Value.ownBlock] at e
        subst e
        rw [hg] at hbk
        simp at hbk
        exact hty p hp hbk.2
    exact ⟨ownsRow_set (ownsRow_set (h.rows p hp).own hn _) hn _, (h.rows p hp).lt, by have := (h.rows p hp).le; simpa [World.setCell] using this⟩

theorem Book.slI (h : Book w0 w A bs L) {lo hi : Nat} {ty : TypeId} {sz n : Nat} {a : Option Addr} {m cap : Nat} {xs : List Int} (hp : (⟨lo, hi, ty, sz, n, .slice a m cap, xs⟩ : Bk) ∈ L) : SlI w w.heap.size a xs :=
  flat_slI (h.rows _ hp).own

theorem Book.own (h : Book w0 w A bs L) {lo hi : Nat} {ty : TypeId} {sz n : Nat} {v : Value} {xs : List Int} (hp : (⟨lo, hi, ty, sz, n, v, xs⟩ : Bk) ∈ L) : w.ownsRow lo ty sz v n (xs.map (Value.int .i64)) := (h.rows _ hp).own

theorem Book.two (h : Book w0 w A bs L) {b t : Nat} {u v : Value} (hb : (b, Obj.cells #[u, v] t (0, 0)) ∈ bs) : w.cell? ⟨b, 0, none⟩ = some u ∧ w.cell? ⟨b, 1, none⟩ = some v := by
  have := h.blocks _ hb
  constructor <;> simp [World.cell?, this]

end

end Go.Proofs.Ytgefpllmelpahaa

/-! A law's book with tables: lists of rows that calls have made. -/
namespace Go.Proofs.Ytgefpllmelpahaa
open Go.RowKit

structure Tb where
  lo : Nat
  hi : Nat
  v : Value
  vs : List Value
  gs : List (List Int)

structure OwnT (w : World) (t : Tb) : Prop where
  rows : RowsV w t.lo t.v t.vs t.gs
  ltv : ∀ g, t.v.ownBlock = some g → g < t.hi
  lti : ∀ i, i < t.gs.length → ∀ g, (t.vs[i]?.getD undef).ownBlock = some g → g < t.hi
  le : t.hi ≤ w.heap.size

/-- What is owned stays where its block stays. -/
theorem ownsRow_same {w w' : World} {base e s n : Nat} {v : Value} {xs : List Value} (h : w.ownsRow base e s v n xs) (hb : ∀ g, v.ownBlock = some g → w'.heap[g]? = w.heap[g]?) : w'.ownsRow base e s v n xs := by
  refine ⟨h.1, ?_⟩
  rcases h.2 with h1 | ⟨g, cap, cur, rfl, h2, h3, h4⟩
  · exact .inl h1
  · exact .inr ⟨g, cap, cur, rfl, h2, (hb g rfl).trans h3, h4⟩

theorem OwnT.same {w w' : World} {t : Tb} (h : OwnT w t) (hs : w.heap.size ≤ w'.heap.size) (hb : ∀ g, t.lo ≤ g → g < t.hi → w'.heap[g]? = w.heap[g]?) : OwnT w' t where
  rows := ⟨ownsRow_same h.rows.own (fun g hg => hb g (h.rows.own.lt g hg).1 (h.ltv g hg)), h.rows.len, fun i hi => by
    have hlt := h.lti i hi
    obtain ⟨a, c, e, ho⟩ := h.rows.at_ i hi
    rw [e] at hlt
    exact ⟨a, c, e, ownsRow_same ho (fun g hg => hb g (ho.lt g hg).1 (hlt g hg))⟩, h.rows.asc⟩
  ltv := h.ltv
  lti := h.lti
  le := Nat.le_trans h.le hs

/-- Nothing outside of lo .. hi has changed. -/
structure Within (lo hi : Nat) (w w' : World) : Prop where
  os : w'.os = w.os
  tape : w'.tape = w.tape
  output : w'.output = w.output
  size : w.heap.size ≤ w'.heap.size
  block : ∀ k, k < w.heap.size → (k < lo ∨ hi ≤ k) → w'.heap[k]? = w.heap[k]?
theorem Within.refl (lo hi : Nat) (w : World) : Within lo hi w w := ⟨rfl, rfl, rfl, Nat.le_refl _, fun _ _ _ => rfl⟩
theorem Within.trans {lo hi : Nat} {a b c : World} (h : Within lo hi a b) (k : Within lo hi b c) : Within lo hi a c :=
  ⟨k.os.trans h.os, k.tape.trans h.tape, k.output.trans h.output, Nat.le_trans h.size k.size, fun i hi ho => (k.block i (Nat.lt_of_lt_of_le hi h.size) ho).trans (h.block i hi ho)⟩
theorem Within.of_grown {lo hi : Nat} {w w' : World} {row : Option Nat} (h : w.grownBy w' row) (hr : ∀ g, row = some g → lo ≤ g ∧ g < hi) : Within lo hi w w' :=
  ⟨h.os, h.tape, h.output, h.size, fun k hk ho => h.block k hk (fun e => by have := hr k e.symm; omega)⟩
theorem Within.below {lo hi B : Nat} {w w' : World} (h : Within lo hi w w') (hB : B ≤ lo) (hs : B ≤ w.heap.size) : Below B w w' :=
  ⟨h.os, h.tape, h.output, h.size, fun k hk => h.block k (Nat.lt_of_lt_of_le hk hs) (.inl (Nat.lt_of_lt_of_le hk hB))⟩

structure BookT (w0 : World) (w : World) (A : List (Option Addr × List Int)) (bs : List (Nat × Obj)) (L : List Bk) (T : List Tb) : Prop where
  book : Book w0 w A bs L
  tabs : ∀ t ∈ T, OwnT w t

section
variable {w0 w w' : World} {A : List (Option Addr × List Int)} {bs : List (Nat × Obj)} {L : List Bk} {T : List Tb}

theorem BookT.below (h : BookT w0 w A bs L T) (hb : Below w.heap.size w w') : BookT w0 w' A bs L T :=
  ⟨h.book.below hb, fun t ht => (h.tabs t ht).same hb.size (fun g _ hg => hb.block g (Nat.lt_of_lt_of_le hg (h.tabs t ht).le))⟩
theorem BookT.drew (h : BookT w0 w A bs L T) : BookT w0 w.drew A bs L T := h.below (Below.refl _ _).drew
theorem BookT.from0 (h : BookT w0 w A bs L T) : Below w0.heap.size w0 w := h.book.from0
theorem BookT.arg (h : BookT w0 w A bs L T) {q : Option Addr × List Int} (hq : q ∈ A) : SlI w w.heap.size q.1 q.2 := h.book.arg hq
theorem BookT.slI (h : BookT w0 w A bs L T) {lo hi : Nat} {ty : TypeId} {sz n : Nat} {a : Option Addr} {m cap : Nat} {xs : List Int} (hp : (⟨lo, hi, ty, sz, n, .slice a m cap, xs⟩ : Bk) ∈ L) : SlI w w.heap.size a xs := h.book.slI hp
theorem BookT.own (h : BookT w0 w A bs L T) {lo hi : Nat} {ty : TypeId} {sz n : Nat} {v : Value} {xs : List Int} (hp : (⟨lo, hi, ty, sz, n, v, xs⟩ : Bk) ∈ L) : w.ownsRow lo ty sz v n (xs.map (Value.int .i64)) := h.book.own hp
theorem BookT.two (h : BookT w0 w A bs L T) {b t : Nat} {u v : Value} (hb : (b, Obj.cells #[u, v] t (0, 0)) ∈ bs) : w.cell? ⟨b, 0, none⟩ = some u ∧ w.cell? ⟨b, 1, none⟩ = some v := h.book.two hb
theorem BookT.tab (h : BookT w0 w A bs L T) {t : Tb} (ht : t ∈ T) : RowsV w t.lo t.v t.vs t.gs := (h.tabs t ht).rows
theorem BookT.alloc (h : BookT w0 w A bs L T) (o : Obj) : BookT w0 (w.alloc o) A ((w.heap.size, o) :: bs) L T :=
  ⟨h.book.alloc o, (h.below ((Below.refl _ w).alloc (Nat.le_refl _) o)).tabs⟩
theorem BookT.row (h : BookT w0 w A bs L T) {ty : TypeId} {sz n : Nat} {v : Value} {xs : List Int}
    (hown : w'.ownsRow w.heap.size ty sz v n (xs.map (Value.int .i64))) (hb : Below w.heap.size w w') : BookT w0 w' A bs (⟨w.heap.size, w'.heap.size, ty, sz, n, v, xs⟩ :: L) T :=
  ⟨h.book.row hown hb, (h.below hb).tabs⟩
/-- A new table, out of a call. -/
theorem BookT.put (h : BookT w0 w A bs L T) {v : Value} {vs : List Value} {gs : List (List Int)} (hr : RowsV w' w.heap.size v vs gs) (hb : Below w.heap.size w w') : BookT w0 w' A bs L (⟨w.heap.size, w'.heap.size, v, vs, gs⟩ :: T) :=
  ⟨h.book.below hb, fun t ht => by
    rcases List.mem_cons.1 ht with rfl | ht
    · exact ⟨hr, fun g hg => (hr.own.lt g hg).2, fun i hi g hg => by
        obtain ⟨a, c, e, ho⟩ := hr.at_ i hi
        simp only at hg
        rw [e] at hg
        exact (ho.lt g hg).2, Nat.le_refl _⟩
    · exact (h.below hb).tabs t ht⟩
theorem BookT.only {bs' : List (Nat × Obj)} {L' : List Bk} (h : BookT w0 w A bs L T) (hb : ∀ b ∈ bs', b ∈ bs) (hL : ∀ p ∈ L', p ∈ L) : BookT w0 w A bs' L' T :=
  ⟨h.book.only hb hL, h.tabs⟩
theorem BookT.mark {L' : List Bk} (h : BookT w0 w A bs L T) {p : Bk} {ys : List Int} (hp : p ∈ L)
    (hown : w'.ownsRow p.lo p.ty p.sz p.v p.n (ys.map (Value.int .i64))) (hg : w.grownBy w' p.v.ownBlock)
    (hB : w0.heap.size ≤ p.lo) (hbs : ∀ b ∈ bs, b.1 < p.lo ∨ p.hi ≤ b.1) (hL : ∀ q ∈ L', q = { p with xs := ys } ∨ (q ∈ L ∧ (q.hi ≤ p.lo ∨ p.hi ≤ q.lo))) (hT : ∀ t ∈ T, t.hi ≤ p.lo ∨ p.hi ≤ t.lo) : BookT w0 w' A bs L' T :=
  ⟨h.book.mark hp hown hg hB hbs hL, fun t ht => (h.tabs t ht).same hg.size (fun g h1 h2 => hg.block g (Nat.lt_of_lt_of_le h2 (h.tabs t ht).le) (fun e => by
    have h3 := ((h.book.rows p hp).own.lt _ e.symm).1
    have h4 := (h.book.rows p hp).lt _ e.symm
    rcases hT t ht with h5 | h5 <;> omega))⟩
/-- A table is marked. -/
theorem BookT.markT {L' : List Bk} {T' : List Tb} (h : BookT w0 w A bs L T) {t : Tb} {gs' : List (List Int)} (ht : t ∈ T)
    (hr : RowsV w' t.lo t.v t.vs gs') (hlen : gs'.length = t.gs.length) (hw : Within t.lo t.hi w w') (hB : w0.heap.size ≤ t.lo) (hbs : ∀ b ∈ bs, b.1 < t.lo ∨ t.hi ≤ b.1)
    (hL : ∀ q ∈ L', q ∈ L ∧ (q.hi ≤ t.lo ∨ t.hi ≤ q.lo)) (hT : ∀ u ∈ T', u = { t with gs := gs' } ∨ (u ∈ T ∧ (u.hi ≤ t.lo ∨ t.hi ≤ u.lo))) : BookT w0 w' A bs L' T' where
  book := {
    from0 := h.book.from0.trans (hw.below hB h.book.ge)
    args := fun q hq => (h.book.args q hq).below (hw.below hB h.book.ge)
    blocks := fun b hb => (hw.block b.1 (Array.getElem?_eq_some_iff.1 (h.book.blocks b hb)).1 (hbs b hb)).trans (h.book.blocks b hb)
    rows := fun q hq => by
      obtain ⟨h1, h2⟩ := hL q hq
      have ho := h.book.rows q h1
      refine ⟨ownsRow_same ho.own (fun g hg => ?_), ho.lt, Nat.le_trans ho.le hw.size⟩
      have h3 := (ho.own.lt g hg)
      have h4 := ho.lt g hg
      exact hw.block g h3.2 (by omega) }
  tabs := fun u hu => by
    rcases hT u hu with rfl | ⟨h1, h2⟩
    · have := h.tabs t ht
      exact ⟨hr, this.ltv, fun i hi => this.lti i (by simp only at hi; omega), Nat.le_trans this.le hw.size⟩
    · exact (h.tabs u h1).same hw.size (fun g h3 h4 => hw.block g (Nat.lt_of_lt_of_le h4 (h.tabs u h1).le) (by omega))
end

/-- The outer cells of a table. -/
theorem RowsV.shape {w : World} {base : Nat} {v : Value} {vs : List Value} {gs : List (List Int)} (h : RowsV w base v vs gs) :
    ∃ a c, v = .slice a gs.length c ∧ (gs = [] ∨ ∃ g, base ≤ g ∧ g < w.heap.size ∧ a = some ⟨g, 0, none⟩ ∧ ∀ i, i < gs.length → w.cell? ⟨g, 0 + i, none⟩ = some (vs[i]?.getD undef)) := by
  have h1 := h.own.1
  rcases h.own.2 with ⟨rfl, h2⟩ | ⟨g, cap, cur, rfl, h2, h3, _⟩
  · exact ⟨none, 0, by rw [h2], .inl (List.eq_nil_of_length_eq_zero h2)⟩
  · refine ⟨_, cap, rfl, .inr ⟨g, h2, (Array.getElem?_eq_some_iff.1 h3).1, rfl, fun i hi => ?_⟩⟩
    have := h.own.cells (g := g) rfl i (vs[i]?.getD undef) (by rw [List.getElem?_eq_getElem (by rw [h.len]; exact hi)]; simp)
    have hadd : (⟨g, 0, none⟩ : Addr).add i = ⟨g, 0 + i, none⟩ := by unfold Addr.add; split <;> simp_all
    rwa [hadd] at this

/-- One row of a table is written. -/
theorem RowsV.set {w w' : World} {base : Nat} {v : Value} {vs : List Value} {gs : List (List Int)} (h : RowsV w base v vs gs) {i : Nat} (hi : i < gs.length) {ys : List Int}
    (hown : w'.ownsRow base 2 1 (vs[i]?.getD undef) ys.length (ys.map (Value.int .i64))) (hg : w.grownBy w' (vs[i]?.getD undef).ownBlock) : RowsV w' base v vs (gs.set i ys) := by
  obtain ⟨ai, ci, ei, hoi⟩ := h.at_ i hi
  refine ⟨by rw [List.length_set]; exact h.own.kept hg (by rw [ei]; exact own_neG h.own hoi (by decide)), by rw [List.length_set]; exact h.len, fun j hj => ?_, fun j k hjk hk => h.asc j k hjk (by simpa using hk)⟩
  rw [List.length_set] at hj
  by_cases e : i = j
  · subst e
    rw [List.getElem?_set_self (by exact hi)]
    exact rowAt_of (by simpa using hown)
  · rw [List.getElem?_set_ne e]
    obtain ⟨aj, cj, ej, hoj⟩ := h.at_ j hj
    refine ⟨aj, cj, ej, hoj.kept hg ?_⟩
    cases hv : Value.ownBlock (.slice aj (gs[j]?.getD []).length cj) with
    | none => exact .inl rfl
    | some g =>
      refine .inr (fun e2 => ?_)
      have h5 := h.asc
      rcases Nat.lt_or_gt_of_ne e with h6 | h6
      · have := h5 i j h6 hj g g e2.symm (by rw [ej]; exact hv)
        omega
      · have := h5 j i h6 hi g g (by rw [ej]; exact hv) e2.symm
        omega

end Go.Proofs.Ytgefpllmelpahaa

/-! Elimination modulo 2 or 3, the mathematics. -/
namespace Go.Proofs.Ytgefpllmelpahaa
open Go.RowKit

/-- The entry of a matrix. -/
def ent (M : List (List Int)) (i j : Nat) : Int := (M[i]?.getD [])[j]?.getD 0
/-- A step is taken off a row so often that the row has 0 in column c. -/
def clr (p : Int) (c : Nat) (row own : List Int) : List Int := List.zipWith (fun a b => (a + (p - (row[c]?.getD 0 * own[c]?.getD 0) % p) * b) % p) row own
/-- Rows r and i change places. -/
def swapR (M : List (List Int)) (r i : Nat) : List (List Int) := (M.set r (M[i]?.getD [])).set i (M[r]?.getD [])
/-- The rows behind row r, up to row k, are cleared. -/
def sweepTo (p : Int) (c r k : Nat) (M : List (List Int)) : List (List Int) := M.mapIdx fun i row => if r < i ∧ i < k then clr p c row (M[r]?.getD []) else row
/-- The first row from r on that has no 0 in column c. -/
def firstNZ (M : List (List Int)) (r c : Nat) : Option Nat := (List.range M.length).find? fun i => decide (r ≤ i ∧ ent M i c ≠ 0)
/-- The rank: k columns are left. -/
def elimR (p : Int) : Nat → Nat → Nat → List (List Int) → Nat
  | 0, r, _, _ => r
  | k + 1, r, c, M => match firstNZ M r c with
    | none => elimR p k r (c + 1) M
    | some i => elimR p k (r + 1) (c + 1) (sweepTo p c r M.length (swapR M r i))

/-- n rows of w numbers from 0 to p - 1. -/
structure MatG (p : Int) (n w : Nat) (M : List (List Int)) : Prop where
  len : M.length = n
  wid : ∀ row ∈ M, row.length = w
  rng : ∀ row ∈ M, ∀ x ∈ row, 0 ≤ x ∧ x < p

theorem MatG.row {p : Int} {n w : Nat} {M : List (List Int)} (h : MatG p n w M) {i : Nat} (hi : i < n) : M[i]?.getD [] ∈ M := by
  have : i < M.length := by rw [h.len]; exact hi
  rw [List.getElem?_eq_getElem this]; simp
theorem MatG.rowLen {p : Int} {n w : Nat} {M : List (List Int)} (h : MatG p n w M) {i : Nat} (hi : i < n) : (M[i]?.getD []).length = w := h.wid _ (h.row hi)
theorem getD_memL {α : Type} {xs : List α} {d : α} {k : Nat} (h : k < xs.length) : xs[k]?.getD d ∈ xs := by rw [List.getElem?_eq_getElem h]; simp
theorem MatG.ent {p : Int} {n w : Nat} {M : List (List Int)} (h : MatG p n w M) {i j : Nat} (hi : i < n) (hj : j < w) : 0 ≤ ent M i j ∧ ent M i j < p :=
  h.rng _ (h.row hi) _ (getD_memL (by rw [h.rowLen hi]; exact hj))

theorem clr_len {p : Int} {c w : Nat} {row own : List Int} (h1 : row.length = w) (h2 : own.length = w) : (clr p c row own).length = w := by simp [clr, h1, h2]
theorem clr_rng {p : Int} {c : Nat} {row own : List Int} (hp : 0 < p) : ∀ x ∈ clr p c row own, 0 ≤ x ∧ x < p := by
  intro x hx
  unfold clr at hx
  rw [List.zipWith_eq_zipWith_take_min] at hx
  obtain ⟨i, hi, rfl⟩ := List.getElem_of_mem hx
  rw [List.getElem_zipWith]
  exact ⟨Int.emod_nonneg _ (by omega), Int.emod_lt_of_pos _ hp⟩
theorem clr_get {p : Int} {c w : Nat} {row own : List Int} (h1 : row.length = w) (h2 : own.length = w) {j : Nat} (hj : j < w) :
    (clr p c row own)[j]?.getD 0 = (row[j]?.getD 0 + (p - (row[c]?.getD 0 * own[c]?.getD 0) % p) * own[j]?.getD 0) % p := by
  unfold clr
  rw [List.getElem?_zipWith, List.getElem?_eq_getElem (by omega : j < row.length), List.getElem?_eq_getElem (by omega : j < own.length)]
  simp

theorem swapR_len (M : List (List Int)) (r i : Nat) : (swapR M r i).length = M.length := by simp [swapR]
theorem swapR_good {p : Int} {n w : Nat} {M : List (List Int)} (h : MatG p n w M) {r i : Nat} (hr : r < n) (hi : i < n) : MatG p n w (swapR M r i) := by
  have hmem : ∀ row ∈ swapR M r i, row ∈ M := by
    intro row hrow
    unfold swapR at hrow
    rcases List.mem_or_eq_of_mem_set hrow with h1 | h1
    · rcases List.mem_or_eq_of_mem_set h1 with h2 | h2
      · exact h2
      · rw [h2]; exact h.row hi
    · rw [h1]; exact h.row hr
  exact ⟨by rw [swapR_len]; exact h.len, fun row hrow => h.wid _ (hmem row hrow), fun row hrow => h.rng _ (hmem row hrow)⟩

theorem sweepTo_len (p : Int) (c r k : Nat) (M : List (List Int)) : (sweepTo p c r k M).length = M.length := by simp [sweepTo]
theorem sweepTo_get {p : Int} {c r k : Nat} {M : List (List Int)} {i : Nat} (hi : i < M.length) :
    (sweepTo p c r k M)[i]?.getD [] = if r < i ∧ i < k then clr p c (M[i]?.getD []) (M[r]?.getD []) else M[i]?.getD [] := by
  unfold sweepTo
  rw [List.getElem?_mapIdx, List.getElem?_eq_getElem hi]
  simp
theorem sweepTo_good {p : Int} {n w : Nat} {M : List (List Int)} (h : MatG p n w M) (hp : 0 < p) {c r k : Nat} (hr : r < n) : MatG p n w (sweepTo p c r k M) := by
  have hmem : ∀ row ∈ sweepTo p c r k M, row ∈ M ∨ ∃ row' ∈ M, row = clr p c row' (M[r]?.getD []) := by
    intro row hrow
    obtain ⟨i, hi, rfl⟩ := List.getElem_of_mem hrow
    rw [sweepTo_len] at hi
    have e := sweepTo_get (p := p) (c := c) (r := r) (k := k) hi
    rw [List.getElem?_eq_getElem (by rw [sweepTo_len]; exact hi)] at e
    simp only [Option.getD_some] at e
    rw [e]
    split
    · exact .inr ⟨_, h.row (by rw [← h.len]; exact hi), rfl⟩
    · exact .inl (h.row (by rw [← h.len]; exact hi))
  refine ⟨by rw [sweepTo_len]; exact h.len, fun row hrow => ?_, fun row hrow => ?_⟩
  · rcases hmem row hrow with h1 | ⟨row', h1, rfl⟩
    · exact h.wid _ h1
    · exact clr_len (h.wid _ h1) (h.rowLen hr)
  · rcases hmem row hrow with h1 | ⟨row', h1, rfl⟩
    · exact h.rng _ h1
    · exact clr_rng hp
/-- One row more. -/
theorem sweepTo_succ {p : Int} {c r k : Nat} {M : List (List Int)} (hr : r < k) :
    sweepTo p c r (k + 1) M = (sweepTo p c r k M).set k (clr p c (M[k]?.getD []) (M[r]?.getD [])) := by
  apply List.ext_getElem?
  intro i
  by_cases hi : i < M.length
  · by_cases hik : k = i
    · subst hik
      rw [List.getElem?_set_self (by rw [sweepTo_len]; exact hi)]
      have e := sweepTo_get (p := p) (c := c) (r := r) (k := k + 1) hi
      rw [List.getElem?_eq_getElem (by rw [sweepTo_len]; exact hi)] at e ⊢
      simp only [Option.getD_some] at e
      rw [e, if_pos (by omega)]
    · rw [List.getElem?_set_ne hik]
      have e1 := sweepTo_get (p := p) (c := c) (r := r) (k := k + 1) hi
      have e2 := sweepTo_get (p := p) (c := c) (r := r) (k := k) hi
      rw [List.getElem?_eq_getElem (by rw [sweepTo_len]; exact hi)] at e1 e2 ⊢
      rw [List.getElem?_eq_getElem (by rw [sweepTo_len]; exact hi)]
      simp only [Option.getD_some] at e1 e2
      rw [e1, e2]
      congr 1
      by_cases h : r < i ∧ i < k
      · rw [if_pos h, if_pos (by omega)]
      · rw [if_neg h, if_neg (by omega)]
  · rw [List.getElem?_eq_none (by rw [sweepTo_len]; omega), List.getElem?_eq_none (by rw [List.length_set, sweepTo_len]; omega)]
theorem sweepTo_none {p : Int} {c r k : Nat} {M : List (List Int)} (hk : k ≤ r + 1) : sweepTo p c r k M = M := by
  apply List.ext_getElem?
  intro i
  by_cases hi : i < M.length
  · have e := sweepTo_get (p := p) (c := c) (r := r) (k := k) hi
    rw [List.getElem?_eq_getElem (by rw [sweepTo_len]; exact hi), List.getElem?_eq_getElem hi] at *
    simp only [Option.getD_some] at e
    rw [e, if_neg (by omega)]
  · rw [List.getElem?_eq_none (by rw [sweepTo_len]; omega), List.getElem?_eq_none (by omega)]
/-- The pivot's row is left as it is. -/
theorem sweepTo_pivot {p : Int} {c r k : Nat} {M : List (List Int)} (hr : r < M.length) : (sweepTo p c r k M)[r]?.getD [] = M[r]?.getD [] := by
  rw [sweepTo_get hr, if_neg (by omega)]
theorem sweepTo_later {p : Int} {c r k : Nat} {M : List (List Int)} (hk : k < M.length) : (sweepTo p c r k M)[k]?.getD [] = M[k]?.getD [] := by
  rw [sweepTo_get hk, if_neg (by omega)]

theorem firstNZ_none {M : List (List Int)} {r c : Nat} (h : ∀ i, r ≤ i → i < M.length → ent M i c = 0) : firstNZ M r c = none := by
  unfold firstNZ
  rw [List.find?_eq_none]
  intro i hi
  have := h i
  simp at hi ⊢
  intro hr
  exact this hr hi
theorem firstNZ_some {M : List (List Int)} {r c i : Nat} (hr : r ≤ i) (hi : i < M.length) (hne : ent M i c ≠ 0) (h : ∀ i', r ≤ i' → i' < i → ent M i' c = 0) : firstNZ M r c = some i := by
  unfold firstNZ
  rw [List.find?_range_eq_some]
  refine ⟨by simp [hr, hne], by simpa using hi, ?_⟩
  intro j hj
  have := h j
  simp
  by_cases hrj : r ≤ j
  · exact .inr (this hrj hj)
  · exact .inl (by omega)
theorem elim_none {p : Int} {k r c : Nat} {M : List (List Int)} (h : ∀ i, r ≤ i → i < M.length → ent M i c = 0) : elimR p (k + 1) r c M = elimR p k r (c + 1) M := by
  rw [elimR, firstNZ_none h]
theorem elim_some {p : Int} {k r c i : Nat} {M : List (List Int)} (hr : r ≤ i) (hi : i < M.length) (hne : ent M i c ≠ 0) (h : ∀ i', r ≤ i' → i' < i → ent M i' c = 0) :
    elimR p (k + 1) r c M = elimR p k (r + 1) (c + 1) (sweepTo p c r M.length (swapR M r i)) := by
  rw [elimR, firstNZ_some hr hi hne h]
/-- All rows have been used: the rank stays. -/
theorem elim_full {p : Int} : ∀ (k r c : Nat) (M : List (List Int)), M.length ≤ r → elimR p k r c M = r
  | 0, _, _, _, _ => rfl
  | k + 1, r, c, M, h => by rw [elim_none (fun i h1 h2 => by omega)]; exact elim_full k r (c + 1) M h
theorem elim_le {p : Int} : ∀ (k r c : Nat) (M : List (List Int)), elimR p k r c M ≤ r + k
  | 0, _, _, _ => Nat.le_refl _
  | k + 1, r, c, M => by
    rw [elimR]
    split
    · have := elim_le (p := p) k r (c + 1) M; omega
    · rename_i i _
      have := elim_le (p := p) k (r + 1) (c + 1) (sweepTo p c r M.length (swapR M r i)); omega

/-- Rows from r on have zeros ahead of column c. -/
def ZerosTo (M : List (List Int)) (r c : Nat) : Prop := ∀ i j, r ≤ i → i < M.length → j < c → ent M i j = 0

theorem clear_one {p a b : Int} (hp : p = 2 ∨ p = 3) (ha0 : 0 ≤ a) (ha : a < p) (hb0 : 0 ≤ b) (hb : b < p) (hne : b ≠ 0) : (a + (p - (a * b) % p) * b) % p = 0 := by
  rcases hp with rfl | rfl
  · have : a = 0 ∨ a = 1 := by omega
    have : b = 1 := by omega
    subst this
    rcases ‹a = 0 ∨ a = 1› with rfl | rfl <;> decide
  · have h1 : a = 0 ∨ a = 1 ∨ a = 2 := by omega
    have h2 : b = 1 ∨ b = 2 := by omega
    rcases h1 with rfl | rfl | rfl <;> rcases h2 with rfl | rfl <;> decide

end Go.Proofs.Ytgefpllmelpahaa
