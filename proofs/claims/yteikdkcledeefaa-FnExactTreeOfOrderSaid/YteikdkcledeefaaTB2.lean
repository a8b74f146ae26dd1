import Derived.Deep.RegionHeld3
import Derived.Deep.AppendLies
import Derived.Deep.RegionLaw
import Derived.Laws.ResultCell
import Derived.Test.YteikdkcledeefaaTB1
/-! 'out.Faces = append(out.Faces, x)' in the model's loops. -/
namespace Go.Proofs.Yteikdkcledeefaa
open Go.RowKit

theorem cell_alloc_drew {W : World} {p : Addr} {v : Value} (h : W.cell? p = some v) (n : Nat) (o : Obj) : ((W.drewN n).alloc o).cell? p = some v :=
  (World.cell?_alloc_some (W.drewN n) p o (show (W.cell? p).isSome = true by rw [h]; rfl)).trans h

theorem step_append_int {w : World} {ops : Array Oper} {o : Oper} {a : Act} {K : Act → World → Prop} {Q : Exit → Act → World → Prop} {E : Prop} (hgd : o.guard = none) {s y : Operand}
    (ho : o.op = .call { callee := .builtin .append, args := #[s, y], argTypes := #[22, 22] })
    {base : Nat} {v : Value} {xs : List Int} {x : Int} {ad : Addr} (hown : w.ownsRow base 2 1 v xs.length (xs.map (Value.int .i64))) (hbase : base ≤ w.heap.size) (hl : xs.length ≤ 1099511627776)
    (hs : a.eval s = v) (hy : a.eval y = .slice (some ad) 1 1) (hc : w.cell? (ad.add 0) = some (.int .i64 x))
    (hK : ∀ g cap w', w'.ownsRow base 2 1 (.slice (some ⟨g, 0, none⟩) (xs ++ [x]).length cap) (xs ++ [x]).length ((xs ++ [x]).map (Value.int .i64)) → w.grownBy w' v.ownBlock →
      K (a.put o.dst (.slice (some ⟨g, 0, none⟩) (xs ++ [x]).length cap)) w') :
    if Region.wanted o (yielded ops a.tmps) = true then Oper.wp Try.prog o a w K Q else E := by
  obtain ⟨i0, hi, hz0, hz1, hz2⟩ := info_parts info_i64
  refine step_append_lies w hgd s y 22 ho base 2 i0 (.int .i64 0) 1 8 Try.underlying22 hi hz0 hz1 hz2 rfl (by decide) v _ _ hs hown ad 1 1 [.int .i64 x] hy rfl ?_ (by simp [Value.oneCell']) (by decide) (by unfold maxLen; omega) (by omega) hbase _ rfl ?_
  · intro j u hu
    match j, hu with
    | 0, hu => simp at hu; subst hu; exact hc
  · intro g cap w1 hown1 hg _ _
    have e : (xs ++ [x]).length = xs.length + 1 := by simp
    have h := hK g cap w1 (by rw [e]; simpa using hown1) hg
    rw [e] at h
    exact h

/-- What the model's loops keep of the world while they build a complex in block Bo: B is the heap's size when the call began. -/
structure OutW (w W : World) (V : Int) (sl : Value) (Bo : Nat) (xs : List Int) (a : Option Addr) (c : Nat) : Prop where
  below : Below w.heap.size w W
  kbox : W.heap[w.heap.size]? = some (.cells #[.int .i64 V, sl] 37 (0, 0))
  res : W.heap[w.heap.size + 1]? = some (.cells #[.int .i64 0, .slice none 0 0] 37 (0, 0))
  out : W.heap[Bo]? = some (.cells #[.int .i64 V, .slice a xs.length c] 37 (0, 0))
  own : W.ownsRow w.heap.size 2 1 (.slice a xs.length c) xs.length (xs.map (Value.int .i64))
  bo : w.heap.size + 1 < Bo

/-- A block of another type is none of an owned row's. -/
theorem row_ne {W : World} {base e t : Nat} {v : Value} {n : Nat} {xs : List Value} {b : Nat} {cs : Array Value} {fz : Nat × Nat} (h : W.ownsRow base e 1 v n xs) (hb : W.heap[b]? = some (.cells cs t fz)) (hne : e ≠ t) : some b ≠ v.ownBlock := by
  intro he
  rcases h.2 with ⟨rfl, _⟩ | ⟨g, cap, cur, rfl, _, hg, _⟩
  · simp [Value.ownBlock] at he
  · simp [Value.ownBlock] at he
    subst he
    rw [hb] at hg
    simp at hg
    exact hne hg.2.1.symm

theorem lt_get {W : World} {b : Nat} {o : Obj} (h : W.heap[b]? = some o) : b < W.heap.size := (Array.getElem?_eq_some_iff.1 h).1

/-- Draws alone. -/
theorem OutW.drew {w W : World} {V : Int} {sl : Value} {Bo : Nat} {xs : List Int} {a : Option Addr} {c : Nat} (h : OutW w W V sl Bo xs a c) : OutW w W.drew V sl Bo xs a c :=
  ⟨⟨h.below.os, h.below.tape, h.below.output, h.below.size, h.below.block⟩, h.kbox, h.res, h.out, h.own, h.bo⟩

theorem OutW.drewN {w W : World} {V : Int} {sl : Value} {Bo : Nat} {xs : List Int} {a : Option Addr} {c : Nat} (h : OutW w W V sl Bo xs a c) (n : Nat) : OutW w (W.drewN n) V sl Bo xs a c :=
  ⟨⟨h.below.os, h.below.tape, h.below.output, h.below.size, h.below.block⟩, h.kbox, h.res, h.out, h.own, h.bo⟩

/-- Whatever keeps all that lay. -/
theorem OutW.later {w W W' : World} {V : Int} {sl : Value} {Bo : Nat} {xs : List Int} {a : Option Addr} {c : Nat} (h : OutW w W V sl Bo xs a c) (hb : Below W.heap.size W W') : OutW w W' V sl Bo xs a c where
  below := h.below.trans (hb.mono h.below.size)
  kbox := (hb.block _ (lt_get h.kbox)).trans h.kbox
  res := (hb.block _ (lt_get h.res)).trans h.res
  out := (hb.block _ (lt_get h.out)).trans h.out
  own := ownsRow_below h.own hb (fun g hg => (h.own.lt g hg).2)
  bo := h.bo

/-- A face more. -/
theorem OutW.step {w W w2 : World} {V : Int} {sl : Value} {Bo : Nat} {xs : List Int} {a : Option Addr} {c : Nat} (h : OutW w W V sl Bo xs a c) {x : Int} {g cap : Nat} {o : Obj}
    (hown : w2.ownsRow w.heap.size 2 1 (.slice (some ⟨g, 0, none⟩) (xs ++ [x]).length cap) (xs ++ [x]).length ((xs ++ [x]).map (Value.int .i64))) (hg : (W.alloc o).grownBy w2 (Value.ownBlock (.slice a xs.length c))) :
    OutW w (w2.setCell ⟨Bo, 1, none⟩ (.slice (some ⟨g, 0, none⟩) (xs ++ [x]).length cap)) V sl Bo (xs ++ [x]) (some ⟨g, 0, none⟩) cap := by
  have hgr : W.grownBy w2 (Value.ownBlock (.slice a xs.length c)) := (World.grownBy_alloc W o _).trans hg
  have hbo := h.bo
  have k2 := (hgr.block _ (lt_get h.kbox) (row_ne h.own h.kbox (by decide))).trans h.kbox
  have r2 := (hgr.block _ (lt_get h.res) (row_ne h.own h.res (by decide))).trans h.res
  have o2 := (hgr.block _ (lt_get h.out) (row_ne h.own h.out (by decide))).trans h.out
  refine ⟨?_, ?_, ?_, ?_, ?_, h.bo⟩
  · exact (h.below.grown hgr h.below.size (fun k hk => (h.own.lt k hk).1)).setCell (p := ⟨Bo, 1, none⟩) (by simp only; omega) _
  · exact (Below.heap_setCell _ _ _ _ (by simp only; omega)).trans k2
  · exact (Below.heap_setCell _ _ _ _ (by simp only; omega)).trans r2
  · simp only [World.setCell, Array.getElem?_modify, o2]
    simp
  · exact ownsRow_set hown (by
      have := row_ne hown o2 (by decide)
      exact fun e => this e.symm) _

theorem outW_start {w W : World} {V : Int} {sl : Value} (hB : Below w.heap.size w W) (hk : W.heap[w.heap.size]? = some (.cells #[.int .i64 V, sl] 37 (0, 0)))
    (hr : W.heap[w.heap.size + 1]? = some (.cells #[.int .i64 0, .slice none 0 0] 37 (0, 0))) :
    OutW w ((W.alloc (.cells #[] 2)).alloc (.cells #[.int .i64 V, .slice (some ⟨W.heap.size, 0, none⟩) 0 0] 37)) V sl (W.heap.size + 1) [] (some ⟨W.heap.size, 0, none⟩) 0 where
  below := (hB.alloc hB.size _).alloc (by have := hB.size; simp; omega) _
  kbox := (Below.heap_alloc _ _ _ (by have := lt_get hk; simp; omega)).trans ((Below.heap_alloc _ _ _ (lt_get hk)).trans hk)
  res := (Below.heap_alloc _ _ _ (by have := lt_get hr; simp; omega)).trans ((Below.heap_alloc _ _ _ (lt_get hr)).trans hr)
  out := by have := heap_alloc_new (W.alloc (.cells #[] 2)) (.cells #[.int .i64 V, .slice (some ⟨W.heap.size, 0, none⟩) 0 0] 37); rwa [World.size_alloc] at this
  own := by
    have h := World.ownsRow_made (base := w.heap.size) (e := 2) (size := 1) W #[] 0 hB.size (by simp [maxLen]) rfl
    exact h.alloc _
  bo := by have := lt_get hr; omega

/-- The model's loops hand back what they have built. -/
theorem OutW.done {w W : World} {V : Int} {sl : Value} {Bo : Nat} {xs : List Int} {a : Option Addr} {c : Nat} (h : OutW w W V sl Bo xs a c) (u v : Value) :
    Res w ((W.setCell ⟨w.heap.size + 1, 0, none⟩ u).setCell ⟨w.heap.size + 1, 1, none⟩ v) (.slice a xs.length c) xs := by
  have hn := row_ne h.own h.res (by decide)
  exact ⟨ownsRow_set (ownsRow_set h.own (fun e => hn e.symm) _) (fun e => hn e.symm) _, (h.below.setCell (p := ⟨w.heap.size + 1, 0, none⟩) (by simp) _).setCell (p := ⟨w.heap.size + 1, 1, none⟩) (by simp) _⟩

/-- .. where the new element has just been laid. -/
theorem step_append_new {W : World} {H : Nat} {ops : Array Oper} {o : Oper} {a : Act} {K : Act → World → Prop} {Q : Exit → Act → World → Prop} {E : Prop} (hgd : o.guard = none) {s y : Operand}
    (ho : o.op = .call { callee := .builtin .append, args := #[s, y], argTypes := #[22, 22] })
    {base : Nat} {v : Value} {xs : List Int} {x : Int} (hown : W.ownsRow base 2 1 v xs.length (xs.map (Value.int .i64))) (hH : W.heap.size = H) (hbase : base ≤ H) (hl : xs.length ≤ 1099511627776)
    (hs : a.eval s = v) (hy : a.eval y = .slice (some ⟨H, 0, none⟩) 1 1)
    (hK : ∀ g cap w', w'.ownsRow base 2 1 (.slice (some ⟨g, 0, none⟩) (xs ++ [x]).length cap) (xs ++ [x]).length ((xs ++ [x]).map (Value.int .i64)) → (W.alloc (.cells #[.int .i64 x] 2)).grownBy w' v.ownBlock →
      K (a.put o.dst (.slice (some ⟨g, 0, none⟩) (xs ++ [x]).length cap)) w') :
    if Region.wanted o (yielded ops a.tmps) = true then Oper.wp Try.prog o a (W.alloc (.cells #[.int .i64 x] 2)) K Q else E := by
  subst hH
  exact step_append_int hgd ho (hown.alloc _) (by simp; omega) hl hs hy (by simp [go_sem, Addr.add]) hK

theorem OutW.stepN {w W w2 : World} {V : Int} {sl : Value} {Bo : Nat} {xs : List Int} {a : Option Addr} {c : Nat} (h : OutW w W V sl Bo xs a c) {x : Int} {g cap : Nat} {o : Obj} {n : Nat}
    (hown : w2.ownsRow w.heap.size 2 1 (.slice (some ⟨g, 0, none⟩) (xs ++ [x]).length cap) (xs ++ [x]).length ((xs ++ [x]).map (Value.int .i64))) (hg : ((W.drewN n).alloc o).grownBy w2 (Value.ownBlock (.slice a xs.length c))) :
    OutW w (w2.setCell ⟨Bo, 1, none⟩ (.slice (some ⟨g, 0, none⟩) (xs ++ [x]).length cap)) V sl Bo (xs ++ [x]) (some ⟨g, 0, none⟩) cap := (h.drewN n).step hown hg

/-- The out block behind an append. -/
theorem OutW.mid {w W w2 : World} {V : Int} {sl : Value} {Bo : Nat} {xs : List Int} {a : Option Addr} {c : Nat} (h : OutW w W V sl Bo xs a c) {n : Nat} {o : Obj} (hg : ((W.drewN n).alloc o).grownBy w2 (Value.ownBlock (.slice a xs.length c))) :
    w2.cell? ⟨Bo, 1, none⟩ = some (.slice a xs.length c) ∧ w2.frozen? ⟨Bo, 1, none⟩ = false := by
  have hgr : (W.drewN n).grownBy w2 (Value.ownBlock (.slice a xs.length c)) := (World.grownBy_alloc _ o _).trans hg
  have o2 := (hgr.block _ (lt_get (h.drewN n).out) (row_ne (h.drewN n).own (h.drewN n).out (by decide))).trans (h.drewN n).out
  constructor <;> simp [World.cell?, World.frozen?, o2]

/-- The given complex's box behind an append. -/
theorem OutW.midK {w W w2 : World} {V : Int} {sl : Value} {Bo : Nat} {xs : List Int} {a : Option Addr} {c : Nat} (h : OutW w W V sl Bo xs a c) {n : Nat} {o : Obj} (hg : ((W.drewN n).alloc o).grownBy w2 (Value.ownBlock (.slice a xs.length c))) :
    w2.cell? ⟨w.heap.size, 1, none⟩ = some sl := by
  have hgr : (W.drewN n).grownBy w2 (Value.ownBlock (.slice a xs.length c)) := (World.grownBy_alloc _ o _).trans hg
  have o2 := (hgr.block _ (lt_get (h.drewN n).kbox) (row_ne (h.drewN n).own (h.drewN n).kbox (by decide))).trans (h.drewN n).kbox
  simp [World.cell?, o2]

/-- What lay before the call, behind an append. -/
theorem OutW.midX {w W w2 : World} {V : Int} {sl : Value} {Bo : Nat} {xs : List Int} {a : Option Addr} {c : Nat} (h : OutW w W V sl Bo xs a c) {n : Nat} {o : Obj} (hg : ((W.drewN n).alloc o).grownBy w2 (Value.ownBlock (.slice a xs.length c))) {p : Addr} (hp : p.block < w.heap.size) :
    w2.cell? p = W.cell? p := by
  have hgr : (W.drewN n).grownBy w2 (Value.ownBlock (.slice a xs.length c)) := (World.grownBy_alloc _ o _).trans hg
  have hlt : p.block < (W.drewN n).heap.size := Nat.lt_of_lt_of_le hp h.below.size
  have h2 : w2.heap[p.block]? = W.heap[p.block]? := hgr.block _ hlt (by
    intro he
    have := (h.own.lt _ he.symm).1
    omega)
  simp only [World.cell?, h2]

end Go.Proofs.Yteikdkcledeefaa

/-! Complexes that are handed back: the ends of bodies with a result in a block, and the program's complexWith. -/
namespace Go.Proofs.Yteikdkcledeefaa
open Go.RowKit

theorem cell_alloc_drew1 {W : World} {p : Addr} {v : Value} (h : W.cell? p = some v) (o : Obj) : (W.alloc o).cell? p = some v := cell_alloc_drew h 0 o

theorem two_of {W : World} {b : Nat} {x y : Value} {t : Nat} (h : W.heap[b]? = some (.cells #[x, y] t (0, 0))) : W.cell? ⟨b, 0, none⟩ = some x ∧ W.cell? ⟨b, 1, none⟩ = some y ∧ W.frozen? ⟨b, 0, none⟩ = false ∧ W.frozen? ⟨b, 1, none⟩ = false := by
  refine ⟨?_, ?_, ?_, ?_⟩ <;> simp [World.cell?, World.frozen?, h]

theorem two_set {W : World} {b : Nat} {x y : Value} {t : Nat} (h : W.heap[b]? = some (.cells #[x, y] t (0, 0))) (u v : Value) : ((W.setCell ⟨b, 0, none⟩ u).setCell ⟨b, 1, none⟩ v).heap[b]? = some (.cells #[u, v] t (0, 0)) := by
  simp only [World.setCell, Array.getElem?_modify, h]
  simp

/-- A result stays where a block of another type is written. -/
theorem Res.set2 {w W : World} {sv : Value} {xs : List Int} (h : Res w W sv xs) {b : Nat} {cs : Array Value} {t : Nat} {fz : Nat × Nat} (hb : W.heap[b]? = some (.cells cs t fz)) (hne : 2 ≠ t) (hw : w.heap.size ≤ b) (u v : Value) :
    Res w ((W.setCell ⟨b, 0, none⟩ u).setCell ⟨b, 1, none⟩ v) sv xs := by
  have hn := row_ne h.1 hb hne
  exact ⟨ownsRow_set (ownsRow_set h.1 (fun e => hn e.symm) _) (fun e => hn e.symm) _, (h.2.setCell (p := ⟨b, 0, none⟩) hw _).setCell (p := ⟨b, 1, none⟩) hw _⟩

theorem new2 (w : World) (A B : Obj) : ((w.alloc A).alloc B).heap[w.heap.size + 1]? = some B := by
  have := heap_alloc_new (w.alloc A) B
  rwa [World.size_alloc] at this

theorem new3 (w : World) (A B C : Obj) : (((w.alloc A).alloc B).alloc C).heap[w.heap.size + 1 + 1]? = some C := by
  have := new2 (w.alloc A) B C
  rwa [World.size_alloc] at this

set_option maxRecDepth 100000 in
theorem load_cx {w : World} {b o : Nat} {x y : Value} (h0 : w.cell? ⟨b, o, none⟩ = some x) (h1 : w.cell? ⟨b, o + 1, none⟩ = some y) :
    (loadVar 37 ⟨b, o, none⟩).run Try.prog w = .ok (.agg #[x, y]) w := by
  go_simp

set_option maxRecDepth 100000 in
theorem done_cx {fn : Func} {R : Ending → World → Prop} {a : Act} {w : World} {p u : Tmp} (hr : fn.results = #[.cell p 37, .tmp u]) (hd : a.defers = []) {b o : Nat} {x y c : Value}
    (hp : a.tmps.getD p undef = .pointer (some ⟨b, o, none⟩)) (h0 : w.cell? ⟨b, o, none⟩ = some x) (h1 : w.cell? ⟨b, o + 1, none⟩ = some y) (hu : a.tmps.getD u undef = c) (hR : R (.returned (.tuple #[.agg #[x, y], c])) w) : bodyPost Try.prog fn R .ret a w := by
  refine bodyPost_ret (v := .tuple #[.agg #[x, y], c]) ?_ hd hR
  rw [results_cell_tmp hr, hp, hu]
  show ((loadVar 37 ⟨b, o, none⟩).run Try.prog w).andThen _ = _
  rw [load_cx h0 h1]
  rfl

set_option maxRecDepth 100000 in
theorem done_cx1 {fn : Func} {R : Ending → World → Prop} {a : Act} {w : World} {p : Tmp} (hr : fn.results = #[.cell p 37]) (hd : a.defers = []) {b o : Nat} {x y : Value}
    (hp : a.tmps.getD p undef = .pointer (some ⟨b, o, none⟩)) (h0 : w.cell? ⟨b, o, none⟩ = some x) (h1 : w.cell? ⟨b, o + 1, none⟩ = some y) (hR : R (.returned (.agg #[x, y])) w) : bodyPost Try.prog fn R .ret a w := by
  refine bodyPost_ret (v := .agg #[x, y]) ?_ hd hR
  have hp' : a.tmps[p]?.getD undef = .pointer (some ⟨b, o, none⟩) := by simpa using hp
  simp [results, hr, hp', asAddr, load_cx h0 h1]

theorem cx_mono {P : Program} {f : FuncId} {args : Array Value} {w : World} {r : Int × List Int × Int} {U : Int} {xs : List Int} {c : Int} (hr : r = (U, xs, c))
    (h : Calls P f args w fun e w' => ∃ v, e = .returned (.tuple #[.agg #[.int .i64 U, v], .int .i64 c]) ∧ Res w w' v xs) : Calls P f args w fun e w' => ∃ v, e = .returned (.tuple #[.agg #[.int .i64 r.1, v], .int .i64 r.2.2]) ∧ Res w w' v r.2.1 := by
  subst hr; exact h

set_option maxHeartbeats 1000000 in
theorem cw_any (V : Int) (a : Option Addr) (cap : Nat) (fs : List Int) (w : World) (fid : Nat) (cs : Array Value) (ys : List Int)
    (hfw : ∀ W, Below w.heap.size w W → Calls Try.prog 153 #[.agg #[.int .i64 V, .slice a fs.length cap], .func (.func fid) #[] cs] W fun e w' => ∃ v, e = .returned v ∧ Res W w' v ys) :
    Calls Try.prog 147 #[.agg #[.int .i64 V, .slice a fs.length cap], .func (.func fid) #[] cs] w fun e w' => ∃ v, e = .returned (.agg #[.int .i64 V, v]) ∧ Res w w' v ys := by
  have hB0 : Below w.heap.size w ((w.alloc (.cells #[.int .i64 V, .slice a fs.length cap] 37)).alloc (.cells #[.int .i64 0, .slice none 0 0] 37)) := ((Below.refl _ w).alloc (Nat.le_refl _) _).alloc (by simp) _
  have Hfw := hid hfw
  have HB0 := hid hB0
  obtain ⟨W, hW⟩ : ∃ W, W = (w.alloc (.cells #[.int .i64 V, .slice a fs.length cap] 37)).alloc (.cells #[.int .i64 0, .slice none 0 0] 37) := ⟨_, rfl⟩
  have k0 : W.cell? ⟨w.heap.size, 0, none⟩ = some (.int .i64 V) := by rw [hW]; simp [go_sem]
  have k1 : W.cell? ⟨w.heap.size, 1, none⟩ = some (.slice a fs.length cap) := by rw [hW]; simp [go_sem]
  have r0 : W.heap[w.heap.size + 1]? = some (.cells #[.int .i64 0, .slice none 0 0] 37 (0, 0)) := by
    have := heap_alloc_new (w.alloc (.cells #[.int .i64 V, .slice a fs.length cap] 37)) (.cells #[.int .i64 0, .slice none 0 0] 37)
    rw [World.size_alloc] at this
    rw [hW]; exact this
  have hBW : Hid (Below w.heap.size w W) := hid (by rw [hW]; exact hB0)
  have R0 := hid r0
  have hWs : Hid (W.heap.size = w.heap.size + 2) := hid (by rw [hW]; simp)
  have HW := hid hW
  clear hfw hB0 hW r0
  go_enter Try.func147, Try.ntmps147
  go_wp2_with fail
  rw [← HW.out]
  go_region_with (go_at_call 153; refine (Hfw.out W.drew ⟨hBW.out.os, hBW.out.tape, hBW.out.output, hBW.out.size, hBW.out.block⟩).mono ?_; rintro e w1 ⟨v, rfl, hr⟩; obtain ⟨_, av, cv, rfl, _⟩ := ownsRow_slI hr.1; have k01 := (hr.2.cell (p := ⟨w.heap.size, 0, none⟩) (by have := hWs.out; show w.heap.size < W.heap.size; omega)).trans k0; have k11 := (hr.2.cell (p := ⟨w.heap.size, 1, none⟩) (by have := hWs.out; show w.heap.size < W.heap.size; omega)).trans k1; have r1 : w1.heap[w.heap.size + 1]? = some (.cells #[.int .i64 0, .slice none 0 0] 37 (0, 0)) := (hr.2.block _ (by have := hWs.out; show w.heap.size + 1 < W.heap.size; omega)).trans R0.out; obtain ⟨c0, c1, f0, f1⟩ := two_of r1; have R1 := hid r1; clear r1)
  all_goals
    go_wp2_with fail
    (try simp only [Exit.inBlock, Exit.then])
    have R2 := two_of (two_set R1.out (.int .i64 V) (.slice av ys.length cv))
    refine done_cx1 (p := 4) (by kernel_rfl) rfl rfl R2.1 R2.2.1 ⟨_, rfl, ?_⟩
    exact (Res.later hr ⟨hBW.out.os, hBW.out.tape, hBW.out.output, hBW.out.size, hBW.out.block⟩).set2 R1.out (by decide) (by omega) _ _


end Go.Proofs.Yteikdkcledeefaa

/-! 'out.Faces = append(out.Faces, x)' in the model's loops, where the complex that is built has a number of vertices of its own (OutW, with that number). -/
namespace Go.Proofs.Yteikdkcledeefaa
open Go.RowKit

/-- The same, where what is built has another number of vertices: B is the heap's size when the call began. -/
structure OutU (w W : World) (V U : Int) (sl : Value) (Bo : Nat) (xs : List Int) (a : Option Addr) (c : Nat) : Prop where
  below : Below w.heap.size w W
  kbox : W.heap[w.heap.size]? = some (.cells #[.int .i64 V, sl] 37 (0, 0))
  res : W.heap[w.heap.size + 1]? = some (.cells #[.int .i64 0, .slice none 0 0] 37 (0, 0))
  out : W.heap[Bo]? = some (.cells #[.int .i64 U, .slice a xs.length c] 37 (0, 0))
  own : W.ownsRow w.heap.size 2 1 (.slice a xs.length c) xs.length (xs.map (Value.int .i64))
  bo : w.heap.size + 1 < Bo

/-- Draws alone. -/
theorem OutU.drew {w W : World} {V U : Int} {sl : Value} {Bo : Nat} {xs : List Int} {a : Option Addr} {c : Nat} (h : OutU w W V U sl Bo xs a c) : OutU w W.drew V U sl Bo xs a c :=
  ⟨⟨h.below.os, h.below.tape, h.below.output, h.below.size, h.below.block⟩, h.kbox, h.res, h.out, h.own, h.bo⟩

theorem OutU.drewN {w W : World} {V U : Int} {sl : Value} {Bo : Nat} {xs : List Int} {a : Option Addr} {c : Nat} (h : OutU w W V U sl Bo xs a c) (n : Nat) : OutU w (W.drewN n) V U sl Bo xs a c :=
  ⟨⟨h.below.os, h.below.tape, h.below.output, h.below.size, h.below.block⟩, h.kbox, h.res, h.out, h.own, h.bo⟩

/-- Whatever keeps all that lay. -/
theorem OutU.later {w W W' : World} {V U : Int} {sl : Value} {Bo : Nat} {xs : List Int} {a : Option Addr} {c : Nat} (h : OutU w W V U sl Bo xs a c) (hb : Below W.heap.size W W') : OutU w W' V U sl Bo xs a c where
  below := h.below.trans (hb.mono h.below.size)
  kbox := (hb.block _ (lt_get h.kbox)).trans h.kbox
  res := (hb.block _ (lt_get h.res)).trans h.res
  out := (hb.block _ (lt_get h.out)).trans h.out
  own := ownsRow_below h.own hb (fun g hg => (h.own.lt g hg).2)
  bo := h.bo

/-- A face more. -/
theorem OutU.step {w W w2 : World} {V U : Int} {sl : Value} {Bo : Nat} {xs : List Int} {a : Option Addr} {c : Nat} (h : OutU w W V U sl Bo xs a c) {x : Int} {g cap : Nat} {o : Obj}
    (hown : w2.ownsRow w.heap.size 2 1 (.slice (some ⟨g, 0, none⟩) (xs ++ [x]).length cap) (xs ++ [x]).length ((xs ++ [x]).map (Value.int .i64))) (hg : (W.alloc o).grownBy w2 (Value.ownBlock (.slice a xs.length c))) :
    OutU w (w2.setCell ⟨Bo, 1, none⟩ (.slice (some ⟨g, 0, none⟩) (xs ++ [x]).length cap)) V U sl Bo (xs ++ [x]) (some ⟨g, 0, none⟩) cap := by
  have hgr : W.grownBy w2 (Value.ownBlock (.slice a xs.length c)) := (World.grownBy_alloc W o _).trans hg
  have hbo := h.bo
  have k2 := (hgr.block _ (lt_get h.kbox) (row_ne h.own h.kbox (by decide))).trans h.kbox
  have r2 := (hgr.block _ (lt_get h.res) (row_ne h.own h.res (by decide))).trans h.res
  have o2 := (hgr.block _ (lt_get h.out) (row_ne h.own h.out (by decide))).trans h.out
  refine ⟨?_, ?_, ?_, ?_, ?_, h.bo⟩
  · exact (h.below.grown hgr h.below.size (fun k hk => (h.own.lt k hk).1)).setCell (p := ⟨Bo, 1, none⟩) (by simp only; omega) _
  · exact (Below.heap_setCell _ _ _ _ (by simp only; omega)).trans k2
  · exact (Below.heap_setCell _ _ _ _ (by simp only; omega)).trans r2
  · simp only [World.setCell, Array.getElem?_modify, o2]
    simp
  · exact ownsRow_set hown (by
      have := row_ne hown o2 (by decide)
      exact fun e => this e.symm) _

/-- The model's loops hand back what they have built. -/
theorem OutU.done {w W : World} {V U : Int} {sl : Value} {Bo : Nat} {xs : List Int} {a : Option Addr} {c : Nat} (h : OutU w W V U sl Bo xs a c) (u v : Value) :
    Res w ((W.setCell ⟨w.heap.size + 1, 0, none⟩ u).setCell ⟨w.heap.size + 1, 1, none⟩ v) (.slice a xs.length c) xs := by
  have hn := row_ne h.own h.res (by decide)
  exact ⟨ownsRow_set (ownsRow_set h.own (fun e => hn e.symm) _) (fun e => hn e.symm) _, (h.below.setCell (p := ⟨w.heap.size + 1, 0, none⟩) (by simp) _).setCell (p := ⟨w.heap.size + 1, 1, none⟩) (by simp) _⟩

theorem OutU.stepN {w W w2 : World} {V U : Int} {sl : Value} {Bo : Nat} {xs : List Int} {a : Option Addr} {c : Nat} (h : OutU w W V U sl Bo xs a c) {x : Int} {g cap : Nat} {o : Obj} {n : Nat}
    (hown : w2.ownsRow w.heap.size 2 1 (.slice (some ⟨g, 0, none⟩) (xs ++ [x]).length cap) (xs ++ [x]).length ((xs ++ [x]).map (Value.int .i64))) (hg : ((W.drewN n).alloc o).grownBy w2 (Value.ownBlock (.slice a xs.length c))) :
    OutU w (w2.setCell ⟨Bo, 1, none⟩ (.slice (some ⟨g, 0, none⟩) (xs ++ [x]).length cap)) V U sl Bo (xs ++ [x]) (some ⟨g, 0, none⟩) cap := (h.drewN n).step hown hg

/-- The out block behind an append. -/
theorem OutU.mid {w W w2 : World} {V U : Int} {sl : Value} {Bo : Nat} {xs : List Int} {a : Option Addr} {c : Nat} (h : OutU w W V U sl Bo xs a c) {n : Nat} {o : Obj} (hg : ((W.drewN n).alloc o).grownBy w2 (Value.ownBlock (.slice a xs.length c))) :
    w2.cell? ⟨Bo, 1, none⟩ = some (.slice a xs.length c) ∧ w2.frozen? ⟨Bo, 1, none⟩ = false := by
  have hgr : (W.drewN n).grownBy w2 (Value.ownBlock (.slice a xs.length c)) := (World.grownBy_alloc _ o _).trans hg
  have o2 := (hgr.block _ (lt_get (h.drewN n).out) (row_ne (h.drewN n).own (h.drewN n).out (by decide))).trans (h.drewN n).out
  constructor <;> simp [World.cell?, World.frozen?, o2]

/-- The given complex's box behind an append. -/
theorem OutU.midK {w W w2 : World} {V U : Int} {sl : Value} {Bo : Nat} {xs : List Int} {a : Option Addr} {c : Nat} (h : OutU w W V U sl Bo xs a c) {n : Nat} {o : Obj} (hg : ((W.drewN n).alloc o).grownBy w2 (Value.ownBlock (.slice a xs.length c))) :
    w2.cell? ⟨w.heap.size, 1, none⟩ = some sl := by
  have hgr : (W.drewN n).grownBy w2 (Value.ownBlock (.slice a xs.length c)) := (World.grownBy_alloc _ o _).trans hg
  have o2 := (hgr.block _ (lt_get (h.drewN n).kbox) (row_ne (h.drewN n).own (h.drewN n).kbox (by decide))).trans (h.drewN n).kbox
  simp [World.cell?, o2]

/-- What lay before the call, behind an append. -/
theorem OutU.midX {w W w2 : World} {V U : Int} {sl : Value} {Bo : Nat} {xs : List Int} {a : Option Addr} {c : Nat} (h : OutU w W V U sl Bo xs a c) {n : Nat} {o : Obj} (hg : ((W.drewN n).alloc o).grownBy w2 (Value.ownBlock (.slice a xs.length c))) {p : Addr} (hp : p.block < w.heap.size) :
    w2.cell? p = W.cell? p := by
  have hgr : (W.drewN n).grownBy w2 (Value.ownBlock (.slice a xs.length c)) := (World.grownBy_alloc _ o _).trans hg
  have hlt : p.block < (W.drewN n).heap.size := Nat.lt_of_lt_of_le hp h.below.size
  have h2 : w2.heap[p.block]? = W.heap[p.block]? := hgr.block _ hlt (by
    intro he
    have := (h.own.lt _ he.symm).1
    omega)
  simp only [World.cell?, h2]

end Go.Proofs.Yteikdkcledeefaa

/-! Finite facts on bits, decided. -/
namespace Go.Proofs.Yteikdkcledeefaa
open Go.RowKit

theorem andNot_fin : ∀ x : Nat, x < 64 → ∀ s : Nat, s < 64 → (bits BinOp.andNot IntKind.i64 (x : Int) (s : Int) == 0) = decide (x &&& s = x) := by
  decide +kernel

end Go.Proofs.Yteikdkcledeefaa

/-! The numbers from 1 to n that are wanted, ascending. -/
namespace Go.Proofs.Yteikdkcledeefaa
open Go.RowKit

/-- The numbers from 1 to k of which p says yes. -/
def pickTo (p : Int → Bool) : Nat → List Int
  | 0 => []
  | k + 1 => pickTo p k ++ (if p ((k : Int) + 1) then [(k : Int) + 1] else [])

theorem pickTo_len (p : Int → Bool) : ∀ k, (pickTo p k).length ≤ k
  | 0 => by simp [pickTo]
  | k + 1 => by
    have := pickTo_len p k
    simp only [pickTo, List.length_append]
    split <;> simp <;> omega

theorem mem_pickTo {p : Int → Bool} {x : Int} : ∀ k : Nat, x ∈ pickTo p k ↔ 1 ≤ x ∧ x ≤ k ∧ p x = true
  | 0 => by simp [pickTo]; omega
  | k + 1 => by
    have ih := mem_pickTo (p := p) (x := x) k
    simp only [pickTo, List.mem_append, ih]
    constructor
    · rintro (⟨h1, h2, h3⟩ | h)
      · exact ⟨h1, by omega, h3⟩
      · split at h
        · rename_i hp
          simp at h
          subst h
          exact ⟨by omega, by omega, hp⟩
        · simp at h
    · rintro ⟨h1, h2, h3⟩
      by_cases he : x = (k : Int) + 1
      · subst he
        right
        rw [if_pos h3]; simp
      · exact .inl ⟨h1, by omega, h3⟩

theorem pickTo_asc (p : Int → Bool) : ∀ k : Nat, (pickTo p k).Pairwise (· < ·)
  | 0 => by simp [pickTo]
  | k + 1 => by
    simp only [pickTo]
    rw [List.pairwise_append]
    refine ⟨pickTo_asc p k, by split <;> simp, fun a ha b hb => ?_⟩
    have h1 := (mem_pickTo k).1 ha
    split at hb
    · simp at hb; omega
    · simp at hb

theorem pickTo_congr {p q : Int → Bool} : ∀ k : Nat, (∀ x : Int, 1 ≤ x → x ≤ k → p x = q x) → pickTo p k = pickTo q k
  | 0, _ => rfl
  | k + 1, h => by
    simp only [pickTo]
    rw [pickTo_congr k (fun x h1 h2 => h x h1 (by omega)), h ((k : Int) + 1) (by omega) (by omega)]

/-- Two ascending lists with the same members are one. -/
theorem asc_ext : ∀ {xs ys : List Int}, xs.Pairwise (· < ·) → ys.Pairwise (· < ·) → (∀ x, x ∈ xs ↔ x ∈ ys) → xs = ys
  | [], [], _, _, _ => rfl
  | [], y :: ys, _, _, h => absurd ((h y).2 (by simp)) (by simp)
  | x :: xs, [], _, _, h => absurd ((h x).1 (by simp)) (by simp)
  | x :: xs, y :: ys, hx, hy, h => by
    have hx' := List.pairwise_cons.1 hx
    have hy' := List.pairwise_cons.1 hy
    have hxy : x = y := by
      have h1 := (h x).1 (by simp)
      have h2 := (h y).2 (by simp)
      rcases List.mem_cons.1 h1 with h1 | h1
      · exact h1
      · rcases List.mem_cons.1 h2 with h2 | h2
        · exact h2.symm
        · have a := hy'.1 _ h1
          have b := hx'.1 _ h2
          omega
    subst hxy
    congr 1
    refine asc_ext hx'.2 hy'.2 fun z => ?_
    have hz := h z
    simp only [List.mem_cons] at hz
    constructor
    · intro hm
      rcases hz.1 (.inr hm) with rfl | h'
      · exact absurd (hx'.1 _ hm) (by omega)
      · exact h'
    · intro hm
      rcases hz.2 (.inr hm) with rfl | h'
      · exact absurd (hy'.1 _ hm) (by omega)
      · exact h'

end Go.Proofs.Yteikdkcledeefaa

/-! Renumbered sets: the mathematics. -/
namespace Go.Proofs.Yteikdkcledeefaa
open Go.RowKit

/-- The image of a set, vertex by vertex. -/
def movN (p : List Int) (f : Nat) : Nat → Nat
  | 0 => 0
  | k + 1 => if bitN f k then movN p f k ||| 2 ^ (p[k]?.getD 0).toNat else movN p f k
def moved (p : List Int) (f : Nat) : Nat := movN p f p.length
theorem bit_test (f v : Nat) : bitN f v = f.testBit v := by
  unfold bitN
  rw [Nat.testBit_eq_decide_div_mod_eq]
  cases h : decide (f / 2 ^ v % 2 = 1) <;> simp_all
theorem test_pow (a w : Nat) : (2 ^ a).testBit w = decide (a = w) := by rw [Nat.testBit_two_pow]
theorem movN_test (p : List Int) (f w : Nat) : ∀ k, (movN p f k).testBit w = true ↔ ∃ v, v < k ∧ f.testBit v = true ∧ (p[v]?.getD 0).toNat = w
  | 0 => by simp [movN]
  | k + 1 => by
    have ih := movN_test p f w k
    unfold movN
    by_cases hb : bitN f k = true
    · rw [if_pos hb, Nat.testBit_or, Bool.or_eq_true, ih, test_pow, decide_eq_true_eq]
      rw [bit_test] at hb
      constructor
      · rintro (⟨v, h1, h2, h3⟩ | h)
        · exact ⟨v, by omega, h2, h3⟩
        · exact ⟨k, by omega, hb, h⟩
      · rintro ⟨v, h1, h2, h3⟩
        by_cases e : v = k
        · subst e; exact .inr h3
        · exact .inl ⟨v, by omega, h2, h3⟩
    · rw [if_neg hb, ih]
      rw [bit_test] at hb
      constructor
      · rintro ⟨v, h1, h2, h3⟩
        exact ⟨v, by omega, h2, h3⟩
      · rintro ⟨v, h1, h2, h3⟩
        by_cases e : v = k
        · subst e; exact absurd h2 hb
        · exact ⟨v, by omega, h2, h3⟩
theorem moved_test (p : List Int) (f w : Nat) : (moved p f).testBit w = true ↔ ∃ v, v < p.length ∧ f.testBit v = true ∧ (p[v]?.getD 0).toNat = w := movN_test p f w p.length
theorem movN_lt {p : List Int} {n : Nat} (h : ∀ x ∈ p, x.toNat < n) (f : Nat) : ∀ k, k ≤ p.length → movN p f k < 2 ^ n
  | 0, _ => Nat.two_pow_pos n
  | k + 1, hk => by
    have ih := movN_lt h f k (by omega)
    unfold movN
    split
    · exact Nat.or_lt_two_pow ih (Nat.pow_lt_pow_right (by decide) (h _ (getD_mem (by omega))))
    · exact ih

/-- A renumbering of n vertices. -/
structure IsR (p : List Int) (n : Int) : Prop where
  len : (p.length : Int) = n
  rng : ∀ x ∈ p, 0 ≤ x ∧ x < n
  inj : ∀ i j, i < j → j < p.length → p[i]?.getD 0 ≠ p[j]?.getD 0
noncomputable def isRB (p : List Int) (n : Int) : Bool := @decide (IsR p n) (Classical.propDecidable _)
theorem isRB_true {p : List Int} {n : Int} (h : IsR p n) : isRB p n = true := @decide_eq_true _ (Classical.propDecidable _) h
theorem isRB_false {p : List Int} {n : Int} (h : ¬ IsR p n) : isRB p n = false := @decide_eq_false _ (Classical.propDecidable _) h
theorem isRB_iff {p : List Int} {n : Int} : isRB p n = true ↔ IsR p n := @decide_eq_true_iff _ (Classical.propDecidable _)
/-- .. so far. -/
structure OkR (p : List Int) (n : Int) (k : Nat) : Prop where
  rng : ∀ i, i < k → 0 ≤ p[i]?.getD 0 ∧ p[i]?.getD 0 < n
  inj : ∀ i j, i < j → j < k → p[i]?.getD 0 ≠ p[j]?.getD 0
theorem OkR.zero (p : List Int) (n : Int) : OkR p n 0 := ⟨fun _ h => absurd h (Nat.not_lt_zero _), fun _ _ _ h => absurd h (Nat.not_lt_zero _)⟩
theorem OkR.succ {p : List Int} {n : Int} {k : Nat} (h : OkR p n k) (h1 : 0 ≤ p[k]?.getD 0 ∧ p[k]?.getD 0 < n) (h2 : p[k]?.getD 0 ∉ p.take k) (hk : k < p.length) : OkR p n (k + 1) where
  rng := fun i hi => by
    by_cases e : i = k
    · subst e; exact h1
    · exact h.rng i (by omega)
  inj := fun i j hij hj => by
    by_cases e : j = k
    · subst e
      intro he
      apply h2
      rw [← he]
      have hi : i < (p.take j).length := by simp; omega
      have := getD_mem hi
      rwa [List.getElem?_take_of_lt hij] at this
    · exact h.inj i j hij (by omega)
theorem OkR.all {p : List Int} {n : Int} (h : OkR p n p.length) (hl : (p.length : Int) = n) : IsR p n where
  len := hl
  rng := fun x hx => by
    obtain ⟨i, hi, rfl⟩ := List.getElem_of_mem hx
    have := h.rng i hi
    rwa [List.getElem?_eq_getElem hi, Option.getD_some] at this
  inj := h.inj
theorem not_rng {p : List Int} {n : Int} {k : Nat} (hk : k < p.length) (h : ¬ (0 ≤ p[k]?.getD 0 ∧ p[k]?.getD 0 < n)) : isRB p n = false := isRB_false fun hR => h (hR.rng _ (getD_mem hk))
theorem not_inj {p : List Int} {n : Int} {k : Nat} (hk : k < p.length) (h : p[k]?.getD 0 ∈ p.take k) : isRB p n = false := isRB_false fun hR => by
  obtain ⟨i, hi, he⟩ := List.getElem_of_mem h
  have hik : i < k := by have := hi; simp at this; omega
  refine hR.inj i k hik hk ?_
  rw [← he, List.getElem_take, List.getElem?_eq_getElem (by omega)]
  rfl
theorem not_len {p : List Int} {n : Int} (h : ¬ (p.length : Int) = n) : isRB p n = false := isRB_false fun hR => h hR.len

/-- The images of the faces. -/
def imgL (p fs : List Int) : List Int := fs.map fun f => ((moved p f.toNat : Nat) : Int)
theorem allV_two {V : Int} (h1 : 1 ≤ V) (h2 : V ≤ 6) : allV V = ((2 ^ V.toNat - 1 : Nat) : Int) := by
  rcases (show V = 1 ∨ V = 2 ∨ V = 3 ∨ V = 4 ∨ V = 5 ∨ V = 6 by omega) with rfl | rfl | rfl | rfl | rfl | rfl <;> decide

section
variable {V : Int} {fs p : List Int}
theorem test_lt {f n w : Nat} (hf : f < 2 ^ n) (h : f.testBit w = true) : w < n := by
  rcases Nat.lt_or_ge w n with h1 | h1
  · exact h1
  · have := Nat.testBit_lt_two_pow (Nat.lt_of_lt_of_le hf (Nat.pow_le_pow_right (by decide) h1))
    rw [this] at h
    cases h
theorem moved_inj (hR : IsR p V) (h1 : 1 ≤ V) {f g : Nat} (hf : f < 2 ^ V.toNat) (hg : g < 2 ^ V.toNat) (h : moved p f = moved p g) : f = g := by
  have hl := hR.len
  have key : ∀ f g : Nat, f < 2 ^ V.toNat → moved p f = moved p g → ∀ w, f.testBit w = true → g.testBit w = true := by
    intro f g hf h w hw
    have hwV := test_lt hf hw
    have h2 := (moved_test p f (p[w]?.getD 0).toNat).2 ⟨w, by omega, hw, rfl⟩
    rw [h] at h2
    obtain ⟨v, hv, hgv, he⟩ := (moved_test p g _).1 h2
    have r1 := hR.rng _ (getD_mem (show w < p.length by omega))
    have r2 := hR.rng _ (getD_mem hv)
    have hpe : p[v]?.getD 0 = p[w]?.getD 0 := by omega
    rcases Nat.lt_trichotomy v w with hlt | heq | hlt
    · exact absurd hpe (hR.inj v w hlt (by omega))
    · subst heq; exact hgv
    · exact absurd hpe.symm (hR.inj w v hlt hv)
  apply Nat.eq_of_testBit_eq
  intro w
  rw [Bool.eq_iff_iff]
  exact ⟨key f g hf h w, key g f hg h.symm w⟩
/-- What of f goes into x. -/
def preN (p : List Int) (x f : Nat) : Nat → Nat
  | 0 => 0
  | k + 1 => if f.testBit k && x.testBit (p[k]?.getD 0).toNat then preN p x f k ||| 2 ^ k else preN p x f k
theorem preN_test (p : List Int) (x f w : Nat) : ∀ k, (preN p x f k).testBit w = true ↔ w < k ∧ f.testBit w = true ∧ x.testBit (p[w]?.getD 0).toNat = true
  | 0 => by simp [preN]
  | k + 1 => by
    have ih := preN_test p x f w k
    unfold preN
    by_cases hb : (f.testBit k && x.testBit (p[k]?.getD 0).toNat) = true
    · rw [if_pos hb, Nat.testBit_or, Bool.or_eq_true, ih, test_pow, decide_eq_true_eq]
      rw [Bool.and_eq_true] at hb
      constructor
      · rintro (⟨a, b, c⟩ | rfl)
        · exact ⟨by omega, b, c⟩
        · exact ⟨by omega, hb.1, hb.2⟩
      · rintro ⟨a, b, c⟩
        by_cases e : k = w
        · exact .inr e
        · exact .inl ⟨by omega, b, c⟩
    · rw [if_neg hb, ih]
      constructor
      · rintro ⟨a, b, c⟩; exact ⟨by omega, b, c⟩
      · rintro ⟨a, b, c⟩
        by_cases e : k = w
        · subst e; exact absurd (by rw [b, c]; rfl) hb
        · exact ⟨by omega, b, c⟩
end

end Go.Proofs.Yteikdkcledeefaa

/-! Trees of questions as lists: the model's test, and the tree of an order. -/
namespace Go.Proofs.Yteikdkcledeefaa
open Go.RowKit

/-- The question at place p of a list. -/
def atP (T : List Int) (p : Nat) : Int := T[p - 1]?.getD 0
/-- The question at place p is one of the numbers, and not asked for on the way there. -/
def okP (n : Nat) (T : List Int) (p : Nat) : Prop := (0 ≤ atP T p ∧ atP T p ≤ (n : Int) - 1) ∧ ∀ j, 0 < p / 2 ^ (j + 1) → atP T (p / 2 ^ (j + 1)) ≠ atP T p
structure IsT (n : Nat) (T : List Int) : Prop where
  len : T.length = 2 ^ n - 1
  ok : ∀ p, 1 ≤ p → p ≤ T.length → okP n T p
noncomputable def isTB (n : Nat) (T : List Int) : Bool := @decide (IsT n T) (Classical.propDecidable _)
theorem isTB_true {n : Nat} {T : List Int} (h : IsT n T) : isTB n T = true := @decide_eq_true _ (Classical.propDecidable _) h
theorem isTB_false {n : Nat} {T : List Int} (h : ¬ IsT n T) : isTB n T = false := @decide_eq_false _ (Classical.propDecidable _) h
theorem isTB_iff {n : Nat} {T : List Int} : isTB n T = true ↔ IsT n T := @decide_eq_true_iff _ (Classical.propDecidable _)
theorem half_pow (p j : Nat) : p / 2 ^ (j + 1) = p / 2 ^ j / 2 := by rw [Nat.pow_succ, Nat.div_div_eq_div_mul]

/-- The tree that asks in an order: the first k numbers of it. -/
def treeL (L : List Int) (k : Nat) : List Int := (List.range (2 ^ k - 1)).map fun i => L[Nat.log2 (i + 1)]?.getD 0
theorem treeL_len (L : List Int) (k : Nat) : (treeL L k).length = 2 ^ k - 1 := by unfold treeL; simp
theorem treeL_at {L : List Int} {k p : Nat} (h1 : 1 ≤ p) (h2 : p ≤ 2 ^ k - 1) : atP (treeL L k) p = L[Nat.log2 p]?.getD 0 := by
  unfold atP treeL
  rw [List.getElem?_map, List.getElem?_range (by omega)]
  simp only [Option.map_some, Option.getD_some]
  rw [show p - 1 + 1 = p by omega]
theorem log_half : ∀ p : Fin 64, ∀ j : Fin 6, 0 < p.val / 2 ^ (j.val + 1) → Nat.log2 (p.val / 2 ^ (j.val + 1)) + (j.val + 1) = Nat.log2 p.val := by decide +kernel
theorem log_lt6 : ∀ n : Fin 7, ∀ p : Fin 64, 1 ≤ p.val → p.val ≤ 2 ^ n.val - 1 → Nat.log2 p.val < n.val := by decide +kernel
theorem log_two : ∀ k : Fin 6, Nat.log2 (2 ^ k.val) = k.val := by decide +kernel
theorem log_row : ∀ k : Fin 6, ∀ x : Fin 64, 2 ^ k.val ≤ x.val → x.val < 2 ^ (k.val + 1) → Nat.log2 x.val = k.val := by decide +kernel
theorem pow_le64 {n : Nat} (h : n ≤ 6) : 2 ^ n ≤ 64 := show 2 ^ n ≤ 2 ^ 6 from Nat.pow_le_pow_right (by decide) h
theorem big_half {p j : Nat} (hp : p < 64) (hj : 6 ≤ j + 1) : p / 2 ^ (j + 1) = 0 := by
  have : 2 ^ 6 ≤ 2 ^ (j + 1) := Nat.pow_le_pow_right (by decide) hj
  exact Nat.div_eq_of_lt (by omega)

/-- The tree of an order is a tree exactly if this is a renumbering. -/
theorem treeL_is {L : List Int} {n : Nat} (hn : n ≤ 6) (hl : L.length = n) : IsT n (treeL L n) ↔ IsR L (n : Int) := by
  have h64 := pow_le64 hn
  constructor
  · intro h
    refine ⟨by omega, fun x hx => ?_, fun i j hij hj => ?_⟩
    · obtain ⟨i, hi, rfl⟩ := List.getElem_of_mem hx
      have hp : 1 ≤ 2 ^ i := Nat.one_le_two_pow
      have hp2 : 2 ^ i < 2 ^ n := Nat.pow_lt_pow_right (by decide) (by omega)
      have h1 := (h.ok (2 ^ i) hp (by rw [treeL_len]; omega)).1
      rw [treeL_at hp (by omega), log_two ⟨i, by omega⟩, List.getElem?_eq_getElem hi] at h1
      simp only [Option.getD_some] at h1
      omega
    · have hp : 1 ≤ 2 ^ j := Nat.one_le_two_pow
      have hp2 : 2 ^ j < 2 ^ n := Nat.pow_lt_pow_right (by decide) (by omega)
      have hd : 2 ^ j / 2 ^ (j - i - 1 + 1) = 2 ^ i := by
        rw [show j - i - 1 + 1 = j - i by omega, Nat.pow_div (by omega) (by decide)]
        congr 1
        omega
      have hpi : 1 ≤ 2 ^ i := Nat.one_le_two_pow
      have hpi2 : 2 ^ i < 2 ^ n := Nat.pow_lt_pow_right (by decide) (by omega)
      have h1 := (h.ok (2 ^ j) hp (by rw [treeL_len]; omega)).2 (j - i - 1) (by rw [hd]; omega)
      rw [hd, treeL_at hp (by omega), treeL_at hpi (by omega), log_two ⟨i, by omega⟩, log_two ⟨j, by omega⟩] at h1
      exact h1
  · intro h
    refine ⟨treeL_len L n, fun p h1 h2 => ?_⟩
    rw [treeL_len] at h2
    have hlt := log_lt6 ⟨n, by omega⟩ ⟨p, by omega⟩ h1 h2
    simp only at hlt
    have hm : L[Nat.log2 p]?.getD 0 ∈ L := getD_mem (by omega)
    refine ⟨?_, fun j hj => ?_⟩
    · rw [treeL_at h1 h2]
      have := h.rng _ hm
      omega
    · have hj6 : j < 6 := by
        apply Classical.byContradiction
        intro hc
        rw [big_half (by omega) (by omega)] at hj
        omega
      have hle : p / 2 ^ (j + 1) ≤ p := Nat.div_le_self _ _
      have hlg := log_half ⟨p, by omega⟩ ⟨j, hj6⟩ hj
      simp only at hlg
      rw [treeL_at (by omega) (by omega), treeL_at h1 h2]
      exact h.inj _ _ (by omega) (by omega)
theorem treeL_isB {L : List Int} {n : Nat} (hn : n ≤ 6) (hl : L.length = n) : isTB n (treeL L n) = isRB L (n : Int) := by
  rw [Bool.eq_iff_iff, isTB_iff, isRB_iff, treeL_is hn hl]
theorem treeL_get {L : List Int} {k i : Nat} (h : i < (treeL L k).length) : (treeL L k)[i] = L[Nat.log2 (i + 1)]?.getD 0 := by
  have h2 : i < 2 ^ k - 1 := by rw [treeL_len] at h; exact h
  have := treeL_at (L := L) (k := k) (p := i + 1) (by omega) (by omega)
  unfold atP at this
  rw [show i + 1 - 1 = i by omega, List.getElem?_eq_getElem h] at this
  exact this
/-- A number more. -/
theorem treeL_succ {L : List Int} {k : Nat} (hk : k < 6) : treeL L (k + 1) = treeL L k ++ List.replicate (2 ^ k) (L[k]?.getD 0) := by
  have hp : 1 ≤ 2 ^ k := Nat.one_le_two_pow
  have h64 : 2 ^ (k + 1) ≤ 64 := pow_le64 (by omega)
  have hs : 2 ^ (k + 1) = 2 ^ k + 2 ^ k := by rw [Nat.pow_succ]; omega
  apply List.ext_getElem (by rw [List.length_append, treeL_len, treeL_len, List.length_replicate]; omega)
  intro i h1 h2
  rw [treeL_len] at h1
  rw [List.getElem_append]
  split
  · rw [treeL_get, treeL_get]
  · rename_i h3
    rw [treeL_len] at h3
    rw [List.getElem_replicate, treeL_get, log_row ⟨k, hk⟩ ⟨i + 1, by omega⟩ (by simp only; omega) (by simp only; omega)]
theorem treeL_zero (L : List Int) : treeL L 0 = [] := rfl
/-- .. place by place. -/
def dep (q : Nat) : Nat := if q = 0 then 0 else Nat.log2 q + 1
theorem dep_step : ∀ p : Fin 64, 1 ≤ p.val → dep p.val = if p.val &&& (p.val - 1) = 0 then dep (p.val - 1) + 1 else dep (p.val - 1) := by decide +kernel
theorem dep_le : ∀ n : Fin 7, ∀ p : Fin 64, p.val ≤ 2 ^ n.val - 1 → dep p.val ≤ n.val := by decide +kernel
def treeP (L : List Int) (p : Nat) : List Int := (List.range p).map fun i => L[Nat.log2 (i + 1)]?.getD 0
theorem treeP_succ (L : List Int) (p : Nat) : treeP L (p + 1) = treeP L p ++ [L[Nat.log2 (p + 1)]?.getD 0] := by unfold treeP; rw [List.range_succ, List.map_append]; rfl
theorem treeP_len (L : List Int) (p : Nat) : (treeP L p).length = p := by unfold treeP; simp

set_option maxRecDepth 100000 in
set_option maxHeartbeats 4000000 in
theorem treeT_any (n : Nat) (a : Option Addr) (cap : Nat) (T : List Int) (w : World) (hx : SlI w w.heap.size a T) (hl : T.length ≤ 1048576) (hn : n ≤ 6) :
    Calls Try.prog 51 #[.int .i64 (n : Int), .slice a T.length cap] w fun e w' => e = .returned (.bool (isTB n T)) ∧ Below w.heap.size w w' := by
  have h64 := pow_le64 hn
  have Hx := hid hx
  have hp1 : 1 ≤ 2 ^ n := Nat.one_le_two_pow
  have hsh : wrap64 (2 ^ n) = ((2 ^ n : Nat) : Int) := by
    rw [wrap64, show ((2 : Int) ^ n) = ((2 ^ n : Nat) : Int) by simp]
    generalize 2 ^ n = z at h64
    omega
  obtain ⟨R, hR⟩ : ∃ R, R = isTB n T := ⟨_, rfl⟩
  have HT : Hid (IsT n T → R = true) := hid (fun h => hR.trans (isTB_true h))
  have HF : Hid (¬ IsT n T → R = false) := hid (fun h => hR.trans (isTB_false h))
  rw [← hR]
  have HI := hid (fun x W => in_any x 0 ((n : Int) - 1) W)
  have hn0 : (0 : Int) ≤ (n : Int) := by omega
  obtain ⟨P, hP⟩ : ∃ P, P = 2 ^ n := ⟨_, rfl⟩
  rw [← hP] at hsh h64 hp1
  have HP := hid hP
  have hs1 : wrap64 ((P : Int) - 1) = (P : Int) - 1 := by rw [wrap64]; omega
  have hs2 : wrap64 ((n : Int) - 1) = (n : Int) - 1 := by rw [wrap64]; omega
  clear hx hR hP
  by_cases hlen : T.length = P - 1
  · have hd : ((T.length : Int) != (P : Int) - 1) = false := by simp; omega
    have Hlen := hid hlen
    clear hlen
    go_enter Try.func51, Try.ntmps51
    go_wp2_with fail
    clear hd
    rw [hsh]
    clear hsh
    go_loopw [5] (fun iv wx => ∃ p : Nat, 1 ≤ p ∧ p ≤ T.length + 1 ∧ iv = .int .i64 (p : Int) ∧ Hid (∀ q, 1 ≤ q → q < p → okP n T q) ∧ Hid (Below w.heap.size w wx)) (fun iv _ => T.length + 1 - (intOf iv).toNat)
    case atStart => exact ⟨1, Nat.le_refl _, by omega, rfl, hid (fun q h1 h2 => by omega), hid (Below.refl _ _)⟩
    case round =>
      obtain ⟨p, hp0, hp, rfl, HK, HB⟩ := hrel
      by_cases hlt : p ≤ T.length
      · obtain ⟨b, off, hb, rfl, hc⟩ : ∃ b off, b < w.heap.size ∧ a = some ⟨b, off, none⟩ ∧ ∀ i, i < T.length → w.cell? ⟨b, off + i, none⟩ = some (.int .i64 (T[i]?.getD 0)) := by
          rcases Hx.out with h | h
          · rw [h] at hlt; simp at hlt; omega
          · exact h
        obtain ⟨x, hxe⟩ : ∃ x, x = atP T p := ⟨_, rfl⟩
        have hck : wr.cell? ⟨b, off + (p - 1), none⟩ = some (.int .i64 x) := by rw [hxe]; exact (HB.out.cell (p := ⟨b, off + (p - 1), none⟩) hb).trans (hc (p - 1) (by omega))
        have hsub : wrap64 ((p : Int) - 1) = ((p - 1 : Nat) : Int) := by rw [wrap64]; omega
        have hsub2 : IntKind.i64.wrap ((p : Int) - 1) = ((p - 1 : Nat) : Int) := by rw [IntKind.wrap_i64]; omega
        have hi0 : (0 : Int) ≤ ((p - 1 : Nat) : Int) := by omega
        have hi1 : ((p - 1 : Nat) : Int) < (T.length : Int) := by omega
        have hlp : (p : Int) ≤ (T.length : Int) := by omega
        have HIx := hid (HI.out x)
        have Hcl := hid (fun i (h : i < T.length) => (HB.out.cell (p := ⟨b, off + i, none⟩) hb).trans (hc i h))
        have Hxe := hid hxe
        have HB' := hid (fun W (h : Below wr.heap.size wr W) => HB.out.trans (h.mono HB.out.size))
        clear hc hxe
        by_cases hin : 0 ≤ x ∧ x ≤ (n : Int) - 1
        · rw [decide_eq_true hin.1, decide_eq_true hin.2] at HIx
          have Hin := hid hin
          clear hin
          go_wp2_with fail
          refine (HIx.out wr).mono ?_
          rintro e w2 ⟨rfl, rfl⟩
          go_wp2_with fail
          go_loopw [6] (fun qv wx => ∃ j q : Nat, q = p / 2 ^ (j + 1) ∧ qv = .int .i64 (q : Int) ∧ Hid (∀ i, i < j → atP T (p / 2 ^ (i + 1)) ≠ x) ∧ Hid (Below wr.heap.size wr wx)) (fun qv _ => (intOf qv).toNat)
          case atStart => exact ⟨0, p / 2, by simp, by simp, hid (fun i h => absurd h (by omega)), hid (Below.refl _ _)⟩
          case round =>
            obtain ⟨j, q, hq, rfl, HJ, HB2⟩ := hrel
            have hqp : q ≤ p := by rw [hq]; exact Nat.div_le_self _ _
            by_cases hq0 : 0 < q
            · have hqp2 : q ≤ T.length := by omega
              have hg0 : decide (0 < q) = true := decide_eq_true hq0
              have hg1 : (0 : Int) < (q : Int) := by omega
              have c0 := (HB2.out.cell (p := ⟨b, off + (p - 1), none⟩) (by have := HB.out.size; simp only; omega)).trans hck
              have c1 := (HB2.out.cell (p := ⟨b, off + (q - 1), none⟩) (by have := HB.out.size; simp only; omega)).trans (Hcl.out (q - 1) (by omega))
              obtain ⟨y, hye⟩ : ∃ y, y = atP T q := ⟨_, rfl⟩
              have c1' : ∀ z, z = T[q - 1]?.getD 0 → z = y := fun z hz => by rw [hz, hye]; rfl
              rw [c1' _ rfl] at c1
              have hqs : wrap64 ((q : Int) - 1) = ((q - 1 : Nat) : Int) := by rw [wrap64]; omega
              have hqs2 : IntKind.i64.wrap ((q : Int) - 1) = ((q - 1 : Nat) : Int) := by rw [IntKind.wrap_i64]; omega
              have hj0 : (0 : Int) ≤ ((q - 1 : Nat) : Int) := by omega
              have hj1 : ((q - 1 : Nat) : Int) < (T.length : Int) := by omega
              have Hq := hid hq
              have Hye := hid hye
              clear hq hye c1'
              by_cases hxy : y = x
              · have hd2 : (y == x) = true := by simp [hxy]
                have He : Hid (R = false) := hid (HF.out (fun h => (h.ok p hp0 hlt).2 j (by rw [← Hq.out]; exact hq0) (by rw [← Hq.out, ← Hye.out, ← Hxe.out]; exact hxy)))
                clear hxy
                go_wp2_with fail
                go_quiet (fail)
                go_wp2_with fail
                go_ret
                exact ⟨ret_bool He.out.symm, (HB'.out _ HB2.out).trans ⟨rfl, rfl, rfl, Nat.le_refl _, fun _ _ => rfl⟩⟩
              · have hd2 : (y == x) = false := by simpa using hxy
                have HJ2 : Hid (∀ i, i < j + 1 → atP T (p / 2 ^ (i + 1)) ≠ x) := hid (fun i hi => by
                  by_cases e : i = j
                  · subst e; rw [← Hq.out, ← Hye.out]; exact hxy
                  · exact HJ.out i (by omega))
                have hhalf : q / 2 = p / 2 ^ (j + 1 + 1) := by rw [Hq.out, Nat.pow_succ _ (j + 1), Nat.div_div_eq_div_mul]
                have Hhalf := hid hhalf
                clear hxy hhalf
                go_wp2_with fail
                go_quiet (fail)
                go_wp2_with fail
                go_roundw
                case rel => exact ⟨j + 1, q / 2, Hhalf.out, by simp, HJ2, hid (HB2.out.trans ⟨rfl, rfl, rfl, Nat.le_refl _, fun _ _ => rfl⟩)⟩
                case measure => simp [intOf]; omega
            · obtain rfl : q = 0 := by omega
              have HK2 : Hid (∀ q, 1 ≤ q → q < p + 1 → okP n T q) := hid (fun q h1 h2 => by
                by_cases e : q = p
                · subst e
                  refine ⟨by rw [← Hxe.out]; exact Hin.out, fun i hi => ?_⟩
                  rw [← Hxe.out]
                  by_cases hij : i < j
                  · exact HJ.out i hij
                  · have h0 : q / 2 ^ (i + 1) ≤ q / 2 ^ (j + 1) := Nat.div_le_div_left (Nat.pow_le_pow_right (by decide) (by omega)) (Nat.two_pow_pos _)
                    omega
                · exact HK.out q h1 (by omega))
              clear hq hqp hsub hsub2 hck
              go_wp2_with fail
              go_roundw
              case rel => exact ⟨p + 1, by omega, by omega, by go_num, HK2, hid (HB'.out _ HB2.out)⟩
              case measure => simp [intOf]; omega
        · have hf : (decide (0 ≤ x) && decide (x ≤ (n : Int) - 1)) = false := by simp; omega
          rw [hf] at HIx
          have He : Hid (R = false) := hid (HF.out (fun h => hin (by have := (h.ok p hp0 hlt).1; rw [← Hxe.out] at this; exact this)))
          clear hin hf
          go_wp2_with fail
          refine (HIx.out wr).mono ?_
          rintro e w2 ⟨rfl, rfl⟩
          go_wp2_with fail
          go_ret
          exact ⟨ret_bool He.out.symm, HB.out⟩
      · have He : Hid (R = true) := hid (HT.out ⟨by rw [Hlen.out, HP.out], fun q h1 h2 => HK.out q h1 (by omega)⟩)
        have hlp : ¬ (p : Int) ≤ (T.length : Int) := by omega
        go_wp2_with fail
        go_ret
        exact ⟨ret_bool He.out.symm, HB.out⟩
  · have hd : ((T.length : Int) != (P : Int) - 1) = true := by simp; omega
    have He : Hid (R = false) := hid (HF.out (fun h => hlen (by rw [h.len, HP.out])))
    clear hlen
    go_enter Try.func51, Try.ntmps51
    go_wp2_with fail
    go_ret
    exact ⟨ret_bool He.out.symm, Below.refl _ _⟩

end Go.Proofs.Yteikdkcledeefaa

/-! TreeOfOrder: the model's. -/
namespace Go.Proofs.Yteikdkcledeefaa
open Go.RowKit

/-- What TreeOfOrder answers. -/
noncomputable def treeOR (n : Int) (L : List Int) : List Int × Int := if (1 ≤ n ∧ n ≤ 6) ∧ isRB L n = true then (treeL L n.toNat, 0) else ([], 2)
theorem treeOR_len (n : Int) (L : List Int) (_h : L.length ≤ 1048576) : (treeOR n L).1.length ≤ 1048576 := by
  unfold treeOR
  split
  · rename_i h
    rw [treeL_len]
    have := pow_le64 (n := n.toNat) (by omega)
    omega
  · simp
theorem and6 {x y : Nat} (hx : x < 64) (hy : y < 64) : bits BinOp.and IntKind.i64 (x : Int) (y : Int) = ((x &&& y : Nat) : Int) := (bits_nat .i64 6 (by decide) (fun n h0 h1 => by rw [IntKind.wrap_i64]; omega) x y (by omega) (by omega)).1
theorem isR_len {L : List Int} {n : Int} (h : ¬ (L.length : Int) = n) : isRB L n = false := isRB_false (fun x => h x.len)

set_option maxRecDepth 100000 in
set_option maxHeartbeats 4000000 in
theorem specTreeOfOrder (n : Int) (a : Option Addr) (cap : Nat) (L : List Int) (w : World) (hx : SlI w w.heap.size a L) (hl : L.length ≤ 1048576) (_ : (Lit.int .i64 n).wf = true) :
    Calls Try.prog 13 #[.int .i64 n, .slice a L.length cap] w fun e w' => ∃ v, e = .returned (.tuple #[v, .int .i64 (treeOR n L).2]) ∧ Res w w' v (treeOR n L).1 := by
  have HI := hid (in_any n 1 6 w)
  have Hx := hid hx
  clear hx
  by_cases hn : 1 ≤ n ∧ n ≤ 6
  · rw [decide_eq_true hn.1, decide_eq_true hn.2] at HI
    obtain ⟨n, rfl⟩ : ∃ k : Nat, n = (k : Int) := ⟨n.toNat, by omega⟩
    by_cases hlen : (L.length : Int) = (n : Int)
    · have hd : ((L.length : Int) != (n : Int)) = false := by simpa using hlen
      have hn6 : n ≤ 6 := by omega
      have h64 := pow_le64 hn6
      have hp1 : 1 ≤ 2 ^ n := Nat.one_le_two_pow
      have hsh : wrap64 (2 ^ n) = ((2 ^ n : Nat) : Int) := by
        rw [wrap64, show ((2 : Int) ^ n) = ((2 ^ n : Nat) : Int) by simp]
        generalize 2 ^ n = z at h64
        omega
      have HR : Hid (isRB L (n : Int) = true → treeOR n L = (treeL L n, 0)) := hid (fun h => by unfold treeOR; rw [if_pos ⟨hn, h⟩, Int.toNat_natCast])
      have HF : Hid (isRB L (n : Int) = false → treeOR n L = ([], 2)) := hid (fun h => by unfold treeOR; rw [if_neg (by rw [h]; simp)])
      have HTB := hid (treeL_isB (L := L) (n := n) hn6 (by omega))
      have HT := hid (fun v c W (h : SlI W W.heap.size v (treeL L n)) => treeT_any n v c (treeL L n) W h (by rw [treeL_len]; omega) hn6)
      have Hlen := hid hlen
      have hn0 : (0 : Int) ≤ (n : Int) := by omega
      have Hlog : Hid (∀ p, 1 ≤ p → p ≤ 2 ^ n - 1 → Nat.log2 p < n) := hid (fun p h1 h2 => log_lt6 ⟨n, by omega⟩ ⟨p, by omega⟩ h1 h2)
      have Htl : Hid (treeP L (2 ^ n - 1) = treeL L n) := hid rfl
      obtain ⟨P, hP⟩ : ∃ P, P = 2 ^ n := ⟨_, rfl⟩
      rw [← hP] at hsh h64 hp1 Hlog Htl
      have hown0 := World.ownsRow_made (base := w.heap.size) (e := 2) (size := 1) w #[] 0 (by simp) (by simp [maxLen]) rfl
      have Hown0 := hid hown0
      clear hlen hP hown0 hn
      go_enter Try.func13, Try.ntmps13
      go_wp2_with fail
      refine HI.out.mono ?_
      rintro e w1 ⟨rfl, rfl⟩
      go_wp2_with fail
      clear hd
      go_loopw [6, 7, 8] (fun ov dv pv wx => ∃ (p : Nat) (v : Value), p + 1 ≤ P ∧ ov = v ∧ dv = .int .i64 ((dep p : Int) - 1) ∧ pv = .int .i64 ((p : Int) + 1) ∧ Hid (wx.ownsRow w.heap.size 2 1 v (treeP L p).length ((treeP L p).map (Value.int .i64))) ∧ Hid (Below w.heap.size w wx)) (fun _ _ pv _ => P - (intOf pv).toNat)
      case atStart => exact ⟨0, _, by omega, rfl, rfl, rfl, Hown0, hid ((Below.refl _ w).alloc (Nat.le_refl _) _)⟩
      case round =>
        clear Hown0
        obtain ⟨p, v, hp, rfl, rfl, rfl, HO, HB⟩ := hrel
        have hsz := HB.out.size
        by_cases hlt : p + 1 < P
        · have hc1 : (p : Int) + 1 < (P : Int) := by omega
          have hlg := Hlog.out (p + 1) (by omega) (by omega)
          obtain ⟨b, off, hb, rfl, hc⟩ : ∃ b off, b < w.heap.size ∧ a = some ⟨b, off, none⟩ ∧ ∀ i, i < L.length → w.cell? ⟨b, off + i, none⟩ = some (.int .i64 (L[i]?.getD 0)) := by
            rcases Hx.out with h | h
            · have := Hlen.out; rw [h] at this; simp at this; omega
            · exact h
          have hds := dep_step ⟨p + 1, by omega⟩ (by simp)
          simp only [Nat.add_sub_cancel] at hds
          have hdp : dep (p + 1) = Nat.log2 (p + 1) + 1 := rfl
          obtain ⟨d, hdd⟩ : ∃ d, d = Nat.log2 (p + 1) := ⟨_, rfl⟩
          have hck := (HB.out.cell (p := ⟨b, off + d, none⟩) hb).trans (hc d (by have := Hlen.out; omega))
          obtain ⟨x, hxe⟩ : ∃ x, x = L[d]?.getD 0 := ⟨_, rfl⟩
          rw [← hxe] at hck
          have hsn := treeP_succ L p
          rw [← hdd, ← hxe] at hsn
          have hand := and6 (show p + 1 < 64 by omega) (show p < 64 by omega)
          have hpc : ((p + 1 : Nat) : Int) = (p : Int) + 1 := by omega
          rw [hpc] at hand
          obtain ⟨y, hy⟩ : ∃ y, y = (p + 1) &&& p := ⟨_, rfl⟩
          rw [← hy] at hand hds
          obtain ⟨q, hq⟩ : ∃ q, q = dep p := ⟨_, rfl⟩
          rw [← hq] at hds ⊢
          rw [hdp, ← hdd] at hds
          have Hsn := hid hsn
          have Hdp : Hid (dep (p + 1) = d + 1) := hid (by rw [hdp, hdd])
          have hw1 : wrap64 ((p : Int) + 1 - 1) = (p : Int) := by rw [wrap64]; omega
          have hi0 : (0 : Int) ≤ (d : Int) := by omega
          have hi1 : (d : Int) < (L.length : Int) := by have := Hlen.out; omega
          have htp : (treeP L p).length ≤ 64 := by rw [treeP_len]; omega
          obtain ⟨xs, hxs⟩ : ∃ xs, xs = treeP L p := ⟨_, rfl⟩
          rw [← hxs] at Hsn HO htp
          clear hc hxe hsn hdp hdd hy hq hxs hlg
          by_cases hy0 : y = 0
          · subst hy0
            rw [if_pos rfl] at hds
            have hqd : (q : Int) - 1 + 1 = (d : Int) := by omega
            have hw2 : wrap64 ((q : Int) - 1 + 1) = (d : Int) := by rw [hqd, wrap64]; omega
            clear hds
            go_wp2_with (at_builtin; refine append_int rfl rfl HO.out hsz (by omega) rfl rfl ?_; intro v' w4 hown4 hgrow4 hB4)
            have Hown4 := hid hown4
            have HB4 := hid (HB.out.trans hB4)
            clear hown4 hgrow4 hB4
            go_roundw
            case rel => exact ⟨p + 1, v', by omega, rfl, by rw [Hdp.out]; exact congrArg _ (by omega), by go_num, hid (by rw [Hsn.out]; exact Hown4.out), HB4⟩
            case measure => simp [intOf]; omega
          · have hd2 : ((y : Int) == 0) = false := by simpa using hy0
            rw [if_neg hy0] at hds
            rw [show (q : Int) - 1 = (d : Int) by omega]
            clear hds hy0
            go_wp2_with (at_builtin; refine append_int rfl rfl HO.out hsz (by omega) rfl rfl ?_; intro v' w4 hown4 hgrow4 hB4)
            have Hown4 := hid hown4
            have HB4 := hid (HB.out.trans hB4)
            clear hown4 hgrow4 hB4
            go_roundw
            case rel => exact ⟨p + 1, v', by omega, rfl, by rw [Hdp.out]; exact congrArg _ (by omega), by go_num, hid (by rw [Hsn.out]; exact Hown4.out), HB4⟩
            case measure => simp [intOf]; omega
        · have hc1 : ¬ (p : Int) + 1 < (P : Int) := by omega
          have HTl : Hid (treeP L p = treeL L n) := hid (by rw [← Htl.out]; congr 1; omega)
          rw [HTl.out] at HO
          have hrl := HO.out
          obtain ⟨_, av, cv, rfl, hs⟩ := ownsRow_slI hrl
          have HTw := hid (HT.out av cv wr hs)
          rw [HTB.out] at HTw
          obtain ⟨m, hm⟩ : ∃ m, m = (treeL L n).length := ⟨_, rfl⟩
          rw [← hm] at HTw ⊢
          have Hm := hid hm
          clear hs hrl hm
          cases hb : isRB L (n : Int)
          · have HR2 := hid (HF.out hb)
            rw [hb] at HTw
            clear hb
            go_wp2_with fail
            refine HTw.out.mono ?_
            rintro e w2 ⟨rfl, hB2⟩
            have HB2 := hid (HB.out.trans (hB2.mono hsz))
            clear hB2
            go_wp2_with fail
            go_ret2
            rw [HR2.out]
            exact ⟨_, rfl, res_nil _ _ HB2.out⟩
          · have HR2 := hid (HR.out hb)
            rw [hb] at HTw
            clear hb
            go_wp2_with fail
            refine HTw.out.mono ?_
            rintro e w2 ⟨rfl, hB2⟩
            have HB2 := hid (HB.out.trans (hB2.mono hsz))
            have HO2 := hid (ownsRow_below HO.out hB2 (fun g hg => (HO.out.lt g hg).2))
            clear hB2
            go_wp2_with fail
            go_ret2
            rw [HR2.out]
            exact ⟨_, rfl, by have := HO2.out; rw [← Hm.out] at this ⊢; exact this, HB2.out⟩
    · have hd : ((L.length : Int) != (n : Int)) = true := by simpa using hlen
      have HF : Hid (treeOR n L = ([], 2)) := hid (by unfold treeOR; rw [if_neg (by rw [isR_len hlen]; simp)])
      clear hlen hn
      go_enter Try.func13, Try.ntmps13
      go_wp2_with fail
      refine HI.out.mono ?_
      rintro e w1 ⟨rfl, rfl⟩
      go_wp2_with fail
      go_ret2
      rw [HF.out]
      exact ⟨_, rfl, res_nil _ _ (Below.refl _ _)⟩
  · have hf : (decide (1 ≤ n) && decide (n ≤ 6)) = false := by simp; omega
    rw [hf] at HI
    have HF : Hid (treeOR n L = ([], 2)) := hid (by unfold treeOR; rw [if_neg (fun h => hn h.1)])
    clear hn hf
    go_enter Try.func13, Try.ntmps13
    go_wp2_with fail
    refine HI.out.mono ?_
    rintro e w1 ⟨rfl, rfl⟩
    go_wp2_with fail
    go_ret2
    rw [HF.out]
    exact ⟨_, rfl, res_nil _ _ (Below.refl _ _)⟩

end Go.Proofs.Yteikdkcledeefaa

/-! The image of a set, on both sides. -/
namespace Go.Proofs.Yteikdkcledeefaa
open Go.RowKit

theorem or_bitsR : ∀ f : Fin 64, ∀ v : Fin 6, bits BinOp.or IntKind.i64 (f.val : Int) (wrap64 (2 ^ v.val)) = ((f.val ||| 2 ^ v.val : Nat) : Int) := by decide +kernel
theorem u64_small {x : Nat} (h : x < 64) : IntKind.u64.wrap (x : Int) = (x : Int) := by
  have : ∀ y : Fin 64, IntKind.u64.wrap (y.val : Int) = (y.val : Int) := by decide +kernel
  exact this ⟨x, h⟩
theorem movN_small {p : List Int} (h : ∀ x ∈ p, 0 ≤ x ∧ x < 6) (f : Nat) {k : Nat} (hk : k ≤ p.length) : movN p f k < 64 := movN_lt (n := 6) (fun x hx => by have := h x hx; omega) f k hk

set_option maxRecDepth 100000 in
set_option maxHeartbeats 2000000 in
theorem movedS_any (f : Nat) (a : Option Addr) (cap : Nat) (p : List Int) (w : World) (hx : SlI w w.heap.size a p) (hf : f < 64) (hp : ∀ x ∈ p, 0 ≤ x ∧ x < 6) (hl : p.length ≤ 6) :
    Calls Try.prog 182 #[.int .i64 (f : Int), .slice a p.length cap] w fun e w' => e = .returned (.int .i64 ((moved p f : Nat) : Int)) ∧ w = w' := by
  have Hx := hid hx
  have Hp := hid hp
  clear hx hp
  unfold moved
  go_enter Try.func182, Try.ntmps182
  go_wp2_with fail
  go_loopw [5, 6] (fun ov iv wx => ∃ k : Nat, k ≤ p.length ∧ ov = .int .i64 ((movN p f k : Nat) : Int) ∧ iv = .int .i64 k ∧ Hid (wx = w)) (fun _ iv _ => p.length - (intOf iv).toNat)
  case atStart => exact ⟨0, Nat.zero_le _, rfl, rfl, hid rfl⟩
  case round =>
    obtain ⟨k, hk, rfl, rfl, HW⟩ := hrel
    have hww : wr = w := HW.out
    clear HW
    subst hww
    by_cases hlt : k < p.length
    · obtain ⟨b, off, hb, rfl, hc⟩ : ∃ b off, b < wr.heap.size ∧ a = some ⟨b, off, none⟩ ∧ ∀ i, i < p.length → wr.cell? ⟨b, off + i, none⟩ = some (.int .i64 (p[i]?.getD 0)) := by
        rcases Hx.out with h | h
        · rw [h] at hlt; simp at hlt
        · exact h
      have hxr := Hp.out _ (getD_mem hlt)
      obtain ⟨x, hxe⟩ : ∃ x : Nat, (x : Int) = p[k]?.getD 0 := ⟨(p[k]?.getD 0).toNat, by omega⟩
      have hck := hc k hlt
      rw [← hxe] at hck hxr
      have hx6 : x < 6 := by omega
      obtain ⟨m, hm⟩ : ∃ m, m = movN p f k := ⟨_, rfl⟩
      have hm64 : m < 64 := by rw [hm]; exact movN_small Hp.out f hk
      have hor := or_bitsR ⟨m, hm64⟩ ⟨x, hx6⟩
      simp only at hor
      have hbit := bit_one (v := k) hf
      have hu1 : IntKind.u64.wrap (k : Int) = (k : Int) := u64_small (by omega)
      have hu2 : IntKind.u64.wrap (x : Int) = (x : Int) := u64_small (by omega)
      have hms : movN p f (k + 1) = if bitN f k then m ||| 2 ^ x else m := by
        rw [movN, ← hm, ← hxe, Int.toNat_natCast]
      rw [← hm]
      have hi0 : (0 : Int) ≤ (k : Int) := by omega
      have hi1 : (k : Int) < (p.length : Int) := by omega
      have Hms := hid hms
      clear hc hxe hm hms
      cases hb1 : bitN f k
      · rw [hb1] at hbit Hms
        simp only [Bool.false_eq_true, if_false] at hbit
        clear hb1 hor
        go_wp2_with fail
        go_roundw
        case rel => exact ⟨k + 1, by omega, by rw [Hms.out]; rfl, by go_num, trivial⟩
        case measure => simp [intOf]; omega
      · rw [hb1] at hbit Hms
        simp only [if_true] at hbit
        clear hb1
        go_wp2_with fail
        go_roundw
        case rel => exact ⟨k + 1, by omega, by rw [Hms.out]; rfl, by go_num, trivial⟩
        case measure => simp [intOf]; omega
    · obtain rfl : k = p.length := by omega
      go_wp2_with fail
      go_ret
      exact ⟨rfl, rfl⟩

set_option maxRecDepth 100000 in
set_option maxHeartbeats 2000000 in
theorem movedI_any (f : Nat) (a : Option Addr) (cap : Nat) (p : List Int) (w : World) (hx : SlI w w.heap.size a p) (hf : f < 64) (hp : ∀ x ∈ p, 0 ≤ x ∧ x < 6) (hl : p.length ≤ 6) :
    Calls Try.prog 218 #[.int .i64 (f : Int), .slice a p.length cap] w fun e w' => e = .returned (.int .i64 ((moved p f : Nat) : Int)) ∧ w = w' := by
  have Hx := hid hx
  have Hp := hid hp
  clear hx hp
  unfold moved
  go_enter Try.func218, Try.ntmps218
  go_wp2_with fail
  go_loopw [5, 10] (fun ov iv wx => ∃ k : Nat, k ≤ p.length ∧ ov = .int .i64 ((movN p f k : Nat) : Int) ∧ iv = .int .i64 k ∧ Hid (wx = w)) (fun _ iv _ => p.length - (intOf iv).toNat)
  case atStart => exact ⟨0, Nat.zero_le _, rfl, rfl, hid rfl⟩
  case round =>
    obtain ⟨k, hk, rfl, rfl, HW⟩ := hrel
    have hww : wr = w := HW.out
    clear HW
    subst hww
    by_cases hlt : k < p.length
    · obtain ⟨b, off, hb, rfl, hc⟩ : ∃ b off, b < wr.heap.size ∧ a = some ⟨b, off, none⟩ ∧ ∀ i, i < p.length → wr.cell? ⟨b, off + i, none⟩ = some (.int .i64 (p[i]?.getD 0)) := by
        rcases Hx.out with h | h
        · rw [h] at hlt; simp at hlt
        · exact h
      have hxr := Hp.out _ (getD_mem hlt)
      obtain ⟨x, hxe⟩ : ∃ x : Nat, (x : Int) = p[k]?.getD 0 := ⟨(p[k]?.getD 0).toNat, by omega⟩
      have hck := hc k hlt
      rw [← hxe] at hck hxr
      have hx6 : x < 6 := by omega
      obtain ⟨m, hm⟩ : ∃ m, m = movN p f k := ⟨_, rfl⟩
      have hm64 : m < 64 := by rw [hm]; exact movN_small Hp.out f hk
      have hor := or_bitsR ⟨m, hm64⟩ ⟨x, hx6⟩
      simp only at hor
      have hbit := bit_one (v := k) hf
      have hms : movN p f (k + 1) = if bitN f k then m ||| 2 ^ x else m := by
        rw [movN, ← hm, ← hxe, Int.toNat_natCast]
      rw [← hm]
      have hi0 : (0 : Int) ≤ (k : Int) := by omega
      have hi1 : (k : Int) < (p.length : Int) := by omega
      have hx0 : (0 : Int) ≤ (x : Int) := by omega
      have Hms := hid hms
      clear hc hxe hm hms
      cases hb1 : bitN f k
      · rw [hb1] at hbit Hms
        simp only [Bool.false_eq_true, if_false] at hbit
        clear hb1 hor
        go_wp2_with fail
        go_roundw
        case rel => exact ⟨k + 1, by omega, by rw [Hms.out]; rfl, by go_num, trivial⟩
        case measure => simp [intOf]; omega
      · rw [hb1] at hbit Hms
        simp only [if_true] at hbit
        clear hb1
        go_wp2_with fail
        go_roundw
        case rel => exact ⟨k + 1, by omega, by rw [Hms.out]; rfl, by go_num, trivial⟩
        case measure => simp [intOf]; omega
    · obtain rfl : k = p.length := by omega
      go_wp2_with fail
      go_ret
      exact ⟨rfl, rfl⟩

end Go.Proofs.Yteikdkcledeefaa

/-! Is a list a renumbering? Both sides. -/
namespace Go.Proofs.Yteikdkcledeefaa
open Go.RowKit

set_option maxRecDepth 100000 in
set_option maxHeartbeats 4000000 in
theorem renI_any (a : Option Addr) (cap : Nat) (p : List Int) (n : Int) (w : World) (hx : SlI w w.heap.size a p) (hl : p.length ≤ 1048576) (hn : 1 ≤ n ∧ n ≤ 6) :
    Calls Try.prog 53 #[.slice a p.length cap, .int .i64 n] w fun e w' => e = .returned (.bool (isRB p n)) ∧ Below w.heap.size w w' := by
  have Hx := hid hx
  have hmm := @run_makeMap Try.prog
  clear hx
  by_cases hlen : (p.length : Int) = n
  · have hd : ((p.length : Int) != n) = false := by simp [hlen]
    have H0 : Hid ((w.alloc (.map #[] 0)).ownsMap Try.prog 2 (plainElem (H := Unit) Try.prog 4) w.heap.size 0 (knownD (p.take 0))) := hid (World.ownsMap_made w Try.prog 2 _)
    have Hlen := hid hlen
    clear hlen
    go_enter Try.func53, Try.ntmps53
    go_wp2_with fail
    clear hmm
    go_loopw [15] (fun iv wx => ∃ k : Nat, k ≤ p.length ∧ iv = .int .i64 k ∧ Hid (OkR p n k) ∧ Hid (wx.ownsMap Try.prog 2 (plainElem (H := Unit) Try.prog 4) w.heap.size k (knownD (p.take k))) ∧ Hid (Below w.heap.size w wx)) (fun iv _ => p.length - (intOf iv).toNat)
    case atStart => exact ⟨0, Nat.zero_le _, rfl, hid (OkR.zero p n), H0, hid ((Below.refl _ w).alloc (Nat.le_refl _) _)⟩
    case round =>
      clear H0
      obtain ⟨k, hk, rfl, HK, HM, HB⟩ := hrel
      by_cases hlt : k < p.length
      · obtain ⟨b, off, hb, rfl, hc⟩ : ∃ b off, b < w.heap.size ∧ a = some ⟨b, off, none⟩ ∧ ∀ i, i < p.length → w.cell? ⟨b, off + i, none⟩ = some (.int .i64 (p[i]?.getD 0)) := by
          rcases Hx.out with h | h
          · rw [h] at hlt; simp at hlt
          · exact h
        obtain ⟨x, hxe⟩ : ∃ x, x = p[k]?.getD 0 := ⟨_, rfl⟩
        have hck : wr.cell? ⟨b, off + k, none⟩ = some (.int .i64 x) := by rw [hxe]; exact (HB.out.cell (p := ⟨b, off + k, none⟩) hb).trans (hc k hlt)
        have hi0 : (0 : Int) ≤ (k : Int) := by omega
        have hi1 : (k : Int) < (p.length : Int) := by omega
        have Hxe := hid hxe
        clear hc hxe
        by_cases h0 : x < 0
        · have He : Hid (isRB p n = false) := hid (not_rng hlt (by rw [← Hxe.out]; omega))
          clear hd
          go_wp2_with fail
          go_ret
          exact ⟨ret_bool He.out.symm, HB.out⟩
        · by_cases h1 : n ≤ x
          · have He : Hid (isRB p n = false) := hid (not_rng hlt (by rw [← Hxe.out]; omega))
            clear hd
            go_wp2_with fail
            go_ret
            exact ⟨ret_bool He.out.symm, HB.out⟩
          · have hwx : (Lit.int .i64 x).wf = true := WalkArith.wf_i64 (by omega)
            have hlk := lookup_known HM.out hwx
            by_cases hm : x ∈ p.take k
            · rw [decide_eq_true hm] at hlk
              have He : Hid (isRB p n = false) := hid (not_inj hlt (by rw [← Hxe.out]; exact hm))
              clear hm hd
              go_wp2_with fail
              go_ret
              exact ⟨ret_bool He.out.symm, HB.out⟩
            · rw [decide_eq_false hm] at hlk
              have HK' := hid (HK.out.succ (by rw [← Hxe.out]; omega) (by rw [← Hxe.out]; exact hm) hlt)
              obtain ⟨wa, hrun1, hwa, hga⟩ := World.ownsMap.update HM.out (Maps.int_keyed Try.underlying2) Try.underlying103 (show k < maxLen by unfold maxLen; omega) (Maps.keyOf_int_mk Try.underlying2 hwx) (plainElem_bool Try.underlying4 true)
              have htk : p.take (k + 1) = p.take k ++ [x] := by rw [take_snoc hlt, Hxe.out]
              rw [← knownD_snoc, ← htk] at hwa
              have Hwa := hid hwa
              have HBa := hid (HB.out.grown hga HB.out.size (fun r e => by cases e; exact Nat.le_refl _))
              clear hm hwa hga htk hd
              go_wp2_with fail
              go_roundw
              case rel => exact ⟨k + 1, by omega, by go_num, HK', Hwa, HBa⟩
              case measure => simp [intOf]; omega
      · obtain rfl : k = p.length := by omega
        have He : Hid (isRB p n = true) := hid (isRB_true (HK.out.all Hlen.out))
        clear hd
        go_wp2_with fail
        go_ret
        exact ⟨ret_bool He.out.symm, HB.out⟩
  · have hd : ((p.length : Int) != n) = true := by simpa using hlen
    have He : Hid (isRB p n = false) := hid (not_len hlen)
    clear hlen
    go_enter Try.func53, Try.ntmps53
    go_wp2_with fail
    go_ret
    exact ⟨ret_bool He.out.symm, Below.refl _ _⟩

theorem info_boolO : (Try.prog.info? 4).map (fun i => (i.zero, i.size, i.bytes)) = some (some (.bool false), 1, 1) := by kernel_rfl
/-- 'make([]bool, n)'. -/
theorem make_boolO {w : World} {ops : Array Oper} {rest : List Oper} {o : Oper} {a : Act} {Q : Exit → Act → World → Prop} (hgd : o.guard = none) {l c : Operand} (hop : o.op = Op.makeSlice 100 l c)
    {n : Nat} (hl : a.eval l = .int .i64 (n : Int)) (hc : a.eval c = .int .i64 (n : Int)) (hn : n ≤ 1048576)
    (hK : ∀ w', w'.ownsRow w.heap.size 4 1 (.slice (some ⟨w.heap.size, 0, none⟩) n n) n (List.replicate n (Value.bool false)) → w.grownBy w' none → Below w.heap.size w w' →
      wpList Try.prog ops Q rest (a.put o.dst (.slice (some ⟨w.heap.size, 0, none⟩) n n)) w') :
    wpList Try.prog ops Q (o :: rest) a w := by
  obtain ⟨i0, hi, hz0, hz1, hz2⟩ := info_parts info_boolO
  refine wpList_make_full w hgd l c 100 hop w.heap.size 4 i0 (.bool false) 1 Try.underlying100 hi hz0 hz1 .i64 .i64 _ _ n hl hc rfl rfl (by rw [hz2]; omega) (by unfold maxLen; omega) (Nat.le_refl _) ?_
  intro w' hown hg
  have e : (madeCells (Value.bool false).cells (n * 1)).toList = List.replicate n (Value.bool false) := by
    rw [Nat.mul_one]
    exact toList_madeCells_one _ _
  rw [e] at hown
  exact hK w' hown hg ((Below.refl _ w).grown hg (Nat.le_refl _) (fun k hk => by cases hk))
def metV (p : List Int) (n k : Nat) : List Value := (List.range n).map fun (j : Nat) => Value.bool (decide ((j : Int) ∈ p.take k))
theorem metV_zero (p : List Int) (n : Nat) : metV p n 0 = List.replicate n (Value.bool false) := by
  unfold metV
  simp
  exact (List.map_const' ..).trans (by simp)
theorem metV_len (p : List Int) (n k : Nat) : (metV p n k).length = n := by simp [metV]
theorem metV_at (p : List Int) {n : Nat} (k : Nat) {x : Nat} (hx : x < n) : (metV p n k)[x]? = some (.bool (decide ((x : Int) ∈ p.take k))) := by simp [metV, hx]
theorem metV_succ {p : List Int} {n k x : Nat} (hk : k < p.length) (hx : (x : Int) = p[k]?.getD 0) : (metV p n k).set x (.bool true) = metV p n (k + 1) := by
  apply List.ext_getElem (by simp [metV])
  intro i h1 h2
  have hi : i < n := by simpa [metV] using h2
  rw [List.getElem_set]
  simp only [metV, List.getElem_map, List.getElem_range]
  rw [take_snoc hk, ← hx]
  by_cases e : x = i
  · subst e
    rw [if_pos rfl]
    simp
  · rw [if_neg e]
    have : ¬ (i : Int) = (x : Int) := by omega
    simp [this]


end Go.Proofs.Yteikdkcledeefaa

/-! Contracts of the laws' small helpers: sizes, copies, comparisons. -/
namespace Go.Proofs.Yteikdkcledeefaa
open Go.RowKit

theorem fill_step {xs : List Int} {k : Nat} (h : k < xs.length) :
    ((xs.take k ++ List.replicate (xs.length - k) (0 : Int)).map (Value.int .i64)).set k (.int .i64 (xs[k]?.getD 0)) = (xs.take (k + 1) ++ List.replicate (xs.length - (k + 1)) (0 : Int)).map (Value.int .i64) := by
  rw [take_snoc h, ← List.map_set]
  congr 1
  have e : xs.length - k = (xs.length - (k + 1)) + 1 := by omega
  rw [e, List.replicate_succ, List.set_append_right _ _ (by simp <;> omega)]
  simp [Nat.min_eq_left (Nat.le_of_lt h)]

set_option maxHeartbeats 400000 in
theorem toInts (a : Option Addr) (cap : Nat) (xs : List Int) (w : World) (hx : SlI w w.heap.size a xs) (hl : xs.length ≤ 1048576) :
    Calls Try.prog 14 #[.slice a xs.length cap] w fun e w' =>
      e = .returned (.slice (some ⟨w.heap.size, 0, none⟩) xs.length xs.length) ∧ w'.ownsRow w.heap.size 2 1 (.slice (some ⟨w.heap.size, 0, none⟩) xs.length xs.length) xs.length (xs.map (Value.int .i64)) ∧ Below w.heap.size w w' := by
  go_enter Try.func14, Try.ntmps14
  go_wp2_with (at_make; refine make_int rfl rfl rfl rfl (by omega) ?_; intro w1 hown hg hB)
  rcases hx with rfl | ⟨b, off, hb, rfl, hc⟩
  · refine wp_loop_rounds 1 ?_; rw [rounds_succ]
    go_wp2
    go_ret
    exact ⟨rfl, hown, hB⟩
  · go_loopw [4] (fun i wr => ∃ k : Nat, k ≤ xs.length ∧ i = .int .i64 k ∧ wr.ownsRow w.heap.size 2 1 (.slice (some ⟨w.heap.size, 0, none⟩) xs.length xs.length) xs.length ((xs.take k ++ List.replicate (xs.length - k) (0 : Int)).map (Value.int .i64)) ∧ Below w.heap.size w wr) (fun i _ => xs.length - (intOf i).toNat)
    case atStart => exact ⟨0, Nat.zero_le _, rfl, by simpa using hown, hB⟩
    case round =>
      obtain ⟨k, hk, rfl, hown, hB⟩ := hrel
      by_cases hlt : k < xs.length
      · obtain ⟨x, hx⟩ : ∃ x, x = xs[k]?.getD 0 := ⟨_, rfl⟩
        have hck : wr.cell? ⟨b, off + k, none⟩ = some (.int .i64 x) := by rw [hx]; exact (hB.cell (p := ⟨b, off + k, none⟩) hb).trans (hc k hlt)
        have hcg : wr.cell? ⟨w.heap.size, k, none⟩ = some (.int .i64 0) := by
          rw [hown.cellAt k (by omega)]
          rw [List.getElem?_map, List.getElem?_append_right (by simp <;> omega)]
          simp [List.getElem?_replicate, Nat.min_eq_left hk]
          omega
        have hfg := hown.frozenAt k
        have Hx := hid hx
        have Hc := hid hc
        clear hx hc
        have hst := hown.stored k (.int .i64 x)
        have Hst := hid hst.1
        clear hst
        go_wp2
        go_roundw
        case rel =>
          refine ⟨k + 1, by omega, by go_num, ?_, hB.setCell (p := ⟨w.heap.size, k, none⟩) (Nat.le_refl _) _⟩
          have h := Hst.out
          rw [Hx.out, fill_step hlt, ← Hx.out] at h
          exact h
        case measure => simp [intOf]; omega
      · go_wp2
        go_ret
        obtain rfl : k = xs.length := by omega
        exact ⟨rfl, by simpa using hown, hB⟩

/-- What is left of a size. -/
def szR (left : Int) (n : Nat) : Int := if left < n then -1 else left - n
theorem szR_big {left : Int} {n : Nat} (h : left < n) : szR left n = -1 := by unfold szR; rw [if_pos h]
theorem szR_fit {left : Int} {n : Nat} (h : ¬ left < n) : szR left n = left - n := by unfold szR; rw [if_neg h]

set_option maxHeartbeats 400000 in
theorem szInts (a : Option Addr) (n cap : Nat) (left : Int) (w : World) (h1 : 0 ≤ left) (h2 : left ≤ 1048576) (hn : n ≤ 9223372036854775807) :
    Calls Try.prog 55 #[.slice a n cap, .int .i64 left] w fun e w' => e = .returned (.int .i64 (szR left n)) ∧ w = w' := by
  by_cases h : left < n
  · have H := hid (szR_big h)
    go_enter Try.func55, Try.ntmps55
    go_wp2
    go_ret
    exact ⟨ret_int (by rw [H.out]), rfl⟩
  · have H := hid (szR_fit h)
    go_enter Try.func55, Try.ntmps55
    go_wp2
    go_ret
    exact ⟨ret_int (by rw [H.out]), rfl⟩

set_option maxHeartbeats 400000 in
theorem szCx (V : Int) (a : Option Addr) (n cap : Nat) (left : Int) (w : World) (h1 : 0 ≤ left) (h2 : left ≤ 1048576) (hn : n ≤ 9223372036854775807) :
    Calls Try.prog 19 #[.agg #[.int .i64 V, .slice a n cap], .int .i64 left] w fun e w' => e = .returned (.int .i64 (szR left n)) ∧ Below w.heap.size w w' := by
  have hr : szR left n = -1 ∨ 0 ≤ szR left n := by
    by_cases h : left < n
    · exact .inl (szR_big h)
    · rw [szR_fit h]; right; omega
  have hr' : szR left n < 0 ∨ 0 ≤ szR left n := by omega
  have hm : szR left n < 0 → szR left n = -1 := by omega
  have Hm := hid hm
  clear hr hm
  obtain ⟨r, hr0⟩ : ∃ r, r = szR left n := ⟨_, rfl⟩
  rw [← hr0] at hr'
  have hr := hr'
  have H := hid hr0
  clear hr0 hr'
  go_enter Try.func19, Try.ntmps19
  go_wp2_with fail
  refine (szInts a n cap left _ h1 h2 hn).mono ?_
  rintro e w' ⟨rfl, rfl⟩
  rw [← H.out]
  rcases hr with hr | hr
  · go_wp2
    go_ret
    exact ⟨ret_int (Hm.out (by rw [← H.out]; exact hr)).symm, (Below.refl _ w).alloc (Nat.le_refl _) _⟩
  · go_wp2
    go_ret
    exact ⟨ret_int H.out, (Below.refl _ w).alloc (Nat.le_refl _) _⟩

set_option maxHeartbeats 400000 in
theorem toCx (V : Int) (a : Option Addr) (cap : Nat) (xs : List Int) (w : World) (hx : SlI w w.heap.size a xs) (hl : xs.length ≤ 1048576) :
    Calls Try.prog 22 #[.agg #[.int .i64 V, .slice a xs.length cap]] w fun e w' =>
      ∃ g, e = .returned (.agg #[.int .i64 V, .slice (some ⟨g, 0, none⟩) xs.length xs.length]) ∧ w'.ownsRow w.heap.size 2 1 (.slice (some ⟨g, 0, none⟩) xs.length xs.length) xs.length (xs.map (Value.int .i64)) ∧ Below w.heap.size w w' := by
  go_enter Try.func22, Try.ntmps22
  go_wp2_with fail
  refine (toInts a cap xs _ (SlI.later hx (?hb : Below w.heap.size w _) ?hs) hl).mono ?_
  case hb => repeat (first | exact Below.refl _ _ | refine Below.alloc ?_ (by simp <;> omega) _ | refine Below.setCell ?_ (by simp <;> omega) _)
  case hs => simp <;> omega
  rintro e w1 ⟨rfl, hown, hB⟩
  have hB1 : Below w.heap.size w w1 := Below.trans (by repeat (first | exact Below.refl _ _ | refine Below.alloc ?_ (by simp <;> omega) _ | refine Below.setCell ?_ (by simp <;> omega) _)) (hB.mono (by simp <;> omega))
  have e0 : w1.cell? ⟨w.heap.size + 1 + 1, 0, none⟩ = some (.int .i64 V) := (hB.cell (p := ⟨w.heap.size + 1 + 1, 0, none⟩) (by simp)).trans (by simp [go_sem])
  have e1 : w1.cell? ⟨w.heap.size + 1 + 1, 1, none⟩ = some (.slice none 0 0) := (hB.cell (p := ⟨w.heap.size + 1 + 1, 1, none⟩) (by simp)).trans (by simp [go_sem])
  have e2 : w1.cell? ⟨w.heap.size + 1, 0, none⟩ = some (.int .i64 0) := (hB.cell (p := ⟨w.heap.size + 1, 0, none⟩) (by simp)).trans (by simp [go_sem])
  have e3 : w1.cell? ⟨w.heap.size + 1, 1, none⟩ = some (.slice none 0 0) := (hB.cell (p := ⟨w.heap.size + 1, 1, none⟩) (by simp)).trans (by simp [go_sem])
  have g1 : w1.frozen? ⟨w.heap.size + 1 + 1, 1, none⟩ = false := (hB.frozen (p := ⟨w.heap.size + 1 + 1, 1, none⟩) (by simp)).trans (by simp [go_sem])
  have g2 : w1.frozen? ⟨w.heap.size + 1, 0, none⟩ = false := (hB.frozen (p := ⟨w.heap.size + 1, 0, none⟩) (by simp)).trans (by simp [go_sem])
  have g3 : w1.frozen? ⟨w.heap.size + 1, 1, none⟩ = false := (hB.frozen (p := ⟨w.heap.size + 1, 1, none⟩) (by simp)).trans (by simp [go_sem])
  have hs1 := hB.size
  simp at hs1
  have Hown := hid (hown)
  clear hown
  go_wp2_with fail
  refine bodyPost_ret (v := .agg #[.int .i64 V, .slice (some ⟨w.heap.size + 1 + 1 + 1, 0, none⟩) xs.length xs.length]) (by simp [results, Try.results22, go_sem, e2, e3]) rfl ⟨w.heap.size + 1 + 1 + 1, rfl, ?_, ?_⟩
  · have h := Hown.out
    simp only [World.size_alloc] at h
    refine ownsRow_set (ownsRow_set (ownsRow_set (ownsRow_base h (by omega)) ?_ _) ?_ _) ?_ _ <;> (simp [Value.ownBlock] <;> omega)
  · exact ((hB1.setCell (by simp; omega) _).setCell (by simp) _).setCell (by simp) _

set_option maxHeartbeats 400000 in
theorem eqInts_any (a1 a2 : Option Addr) (c1 c2 : Nat) (xs ys : List Int) (w : World) (hx : SlI w w.heap.size a1 xs) (hy : SlI w w.heap.size a2 ys) (hl : xs.length ≤ 1048576) (hl2 : ys.length ≤ 1048576) :
    Calls Try.prog 16 #[.slice a1 xs.length c1, .slice a2 ys.length c2] w fun e w' => e = .returned (.bool (decide (xs = ys))) ∧ Below w.heap.size w w' := by
  by_cases hlen : xs.length = ys.length
  · rcases hx with rfl | ⟨b, off, hb, rfl, hc⟩
    · obtain rfl : ys = [] := List.eq_nil_of_length_eq_zero hlen.symm
      go_enter Try.func16, Try.ntmps16
      go_wp2
      refine wp_loop_rounds 1 ?_; rw [rounds_succ]
      go_wp2
      go_ret
      exact ⟨ret_bool (by simp), Below.refl _ _⟩
    · rcases hy with rfl | ⟨b2, off2, hb2, rfl, hc2⟩
      · obtain rfl : xs = [] := List.eq_nil_of_length_eq_zero hlen
        go_enter Try.func16, Try.ntmps16
        go_wp2
        refine wp_loop_rounds 1 ?_; rw [rounds_succ]
        go_wp2
        go_ret
        exact ⟨ret_bool (by simp), Below.refl _ _⟩
      · have Hc := hid hc
        have Hc2 := hid hc2
        have hne : ((xs.length : Int) != (ys.length : Int)) = false := by simp [hlen]
        have Hlen := hid hlen
        have hle : xs.length ≤ ys.length := by omega
        clear hc hc2 hlen
        go_enter Try.func16, Try.ntmps16
        go_wp2
        go_loopw [5] (fun i wr => ∃ k : Nat, k ≤ xs.length ∧ i = .int .i64 k ∧ Hid (∀ j, j < k → xs[j]?.getD 0 = ys[j]?.getD 0) ∧ Below w.heap.size w wr) (fun i _ => xs.length - (intOf i).toNat)
        case atStart => exact ⟨0, Nat.zero_le _, rfl, hid (by omega), Below.refl _ _⟩
        case round =>
          obtain ⟨k, hk, rfl, Hk, hB⟩ := hrel
          by_cases hlt : k < xs.length
          · obtain ⟨x, hx⟩ : ∃ x, x = xs[k]?.getD 0 := ⟨_, rfl⟩
            obtain ⟨y, hy⟩ : ∃ y, y = ys[k]?.getD 0 := ⟨_, rfl⟩
            have hck : wr.cell? ⟨b, off + k, none⟩ = some (.int .i64 x) := by rw [hx]; exact (hB.cell (p := ⟨b, off + k, none⟩) hb).trans (Hc.out k hlt)
            have hck2 : wr.cell? ⟨b2, off2 + k, none⟩ = some (.int .i64 y) := by rw [hy]; exact (hB.cell (p := ⟨b2, off2 + k, none⟩) hb2).trans (Hc2.out k (by omega))
            have Hx := hid hx
            have Hy := hid hy
            clear hx hy
            have hi0 : (0 : Int) ≤ (k : Int) := by omega
            have hi1 : (k : Int) < (xs.length : Int) := by omega
            have hi2 : (k : Int) < (ys.length : Int) := by omega
            by_cases hxy : x = y
            · have hd : (x != y) = false := by simp [hxy]
              have Hxy := hid hxy
              clear hxy
              go_wp2_with fail
              go_quiet (fail)
              go_wp2_with fail
              go_roundw
              case rel =>
                refine ⟨k + 1, by omega, by go_num, hid (fun j hj => ?_), hB.trans ⟨rfl, rfl, rfl, Nat.le_refl _, fun _ _ => rfl⟩⟩
                by_cases hjk : j < k
                · exact Hk.out j hjk
                · obtain rfl : j = k := by omega
                  rw [← Hx.out, ← Hy.out, Hxy.out]
              case measure => simp [intOf]; omega
            · have hd : (x != y) = true := by simp [hxy]
              go_wp2_with fail
              go_quiet (fail)
              go_wp2_with fail
              go_ret
              refine ⟨ret_bool ?_, hB.trans ⟨rfl, rfl, rfl, Nat.le_refl _, fun _ _ => rfl⟩⟩
              symm
              refine decide_eq_false (fun h => hxy ?_)
              rw [Hx.out, Hy.out, h]
          · obtain rfl : k = xs.length := by omega
            go_wp2
            go_ret
            refine ⟨ret_bool ?_, hB⟩
            symm
            refine decide_eq_true (List.ext_getElem Hlen.out (fun j h1 h2 => ?_))
            have := Hk.out j h1
            rw [List.getElem?_eq_getElem h1, List.getElem?_eq_getElem h2] at this
            simpa using this
  · have hne : ((xs.length : Int) != (ys.length : Int)) = true := by simp; omega
    have Hlen := hid hlen
    clear hlen
    go_enter Try.func16, Try.ntmps16
    go_wp2
    go_ret
    refine ⟨ret_bool ?_, Below.refl _ _⟩
    symm
    exact decide_eq_false (fun h => Hlen.out (by rw [h]))

theorem eqInts_yes (a1 a2 : Option Addr) (c1 c2 : Nat) (xs ys : List Int) (w : World) (hx : SlI w w.heap.size a1 xs) (hy : SlI w w.heap.size a2 ys) (hl : xs.length ≤ 1048576) (hl2 : ys.length ≤ 1048576) (h : xs = ys) :
    Calls Try.prog 16 #[.slice a1 xs.length c1, .slice a2 ys.length c2] w fun e w' => e = .returned (.bool true) ∧ Below w.heap.size w w' :=
  (eqInts_any a1 a2 c1 c2 xs ys w hx hy hl hl2).mono fun _ _ ⟨he, hw⟩ => ⟨by rw [he, decide_eq_true h], hw⟩

theorem eqInts_no (a1 a2 : Option Addr) (c1 c2 : Nat) (xs ys : List Int) (w : World) (hx : SlI w w.heap.size a1 xs) (hy : SlI w w.heap.size a2 ys) (hl : xs.length ≤ 1048576) (hl2 : ys.length ≤ 1048576) (h : ¬ xs = ys) :
    Calls Try.prog 16 #[.slice a1 xs.length c1, .slice a2 ys.length c2] w fun e w' => e = .returned (.bool false) ∧ Below w.heap.size w w' :=
  (eqInts_any a1 a2 c1 c2 xs ys w hx hy hl hl2).mono fun _ _ ⟨he, hw⟩ => ⟨by rw [he, decide_eq_false h], hw⟩

set_option maxHeartbeats 400000 in
theorem eqCx_yes (V : Int) (a1 a2 : Option Addr) (c1 c2 : Nat) (xs ys : List Int) (w : World) (hx : SlI w w.heap.size a1 xs) (hy : SlI w w.heap.size a2 ys) (hl : xs.length ≤ 1048576) (hl2 : ys.length ≤ 1048576) (h : xs = ys) :
    Calls Try.prog 26 #[.agg #[.int .i64 V, .slice a1 xs.length c1], .agg #[.int .i64 V, .slice a2 ys.length c2]] w fun e w' => e = .returned (.bool true) ∧ Below w.heap.size w w' := by
  have H := hid h
  clear h
  have hne : (V != V) = false := by simp
  go_enter Try.func26, Try.ntmps26
  go_wp2_with fail
  have hB : Below w.heap.size w ((w.alloc (.cells #[.int .i64 V, .slice a1 xs.length c1] 37)).alloc (.cells #[.int .i64 V, .slice a2 ys.length c2] 37)) := ((Below.refl _ w).alloc (Nat.le_refl _) _).alloc (by simp) _
  refine (eqInts_yes a1 a2 c1 c2 xs ys _ (SlI.later hx hB (by simp <;> omega)) (SlI.later hy hB (by simp <;> omega)) hl hl2 H.out).mono ?_
  rintro e w' ⟨rfl, hb⟩
  go_wp2_with fail
  go_ret
  exact ⟨rfl, hB.trans (hb.mono (by simp <;> omega))⟩

end Go.Proofs.Yteikdkcledeefaa

/-! Marks: what the laws write into results, and find again. -/
namespace Go.Proofs.Yteikdkcledeefaa
open Go.RowKit

/-- k, k + 1, .. -/
def count (k : Int) : Nat → List Int
  | 0 => []
  | n + 1 => count k n ++ [k + n]

theorem count_len (k : Int) : ∀ n, (count k n).length = n
  | 0 => rfl
  | n + 1 => by simp [count, count_len k n]

theorem count_get (k : Int) : ∀ n i, i < n → (count k n)[i]?.getD 0 = k + i
  | 0, i, h => by omega
  | n + 1, i, h => by
    unfold count
    by_cases hi : i < n
    · rw [List.getElem?_append_left (by rw [count_len]; exact hi)]
      exact count_get k n i hi
    · obtain rfl : i = n := by omega
      rw [List.getElem?_append_right (by rw [count_len]; omega), count_len]
      simp

theorem mark_step {k : Int} {xs : List Int} {j : Nat} (h : j < xs.length) :
    ((count k j ++ xs.drop j).map (Value.int .i64)).set j (.int .i64 (k + j)) = (count k (j + 1) ++ xs.drop (j + 1)).map (Value.int .i64) := by
  rw [← List.map_set]
  congr 1
  rw [List.set_append_right _ _ (by rw [count_len]; exact Nat.le_refl _), count_len, Nat.sub_self]
  rw [List.drop_eq_getElem_cons h, List.set_cons_zero]
  simp [count]

set_option maxHeartbeats 400000 in
theorem markInts (base : Nat) (a : Option Addr) (cap : Nat) (xs : List Int) (k : Int) (w : World) (hown : w.ownsRow base 2 1 (.slice a xs.length cap) xs.length (xs.map (Value.int .i64))) (hl : xs.length ≤ 1048576) (h0 : 0 ≤ k) (h1 : k ≤ 1099511627776) :
    Calls Try.prog 17 #[.slice a xs.length cap, .int .i64 k] w fun e w' => e = .returned (.int .i64 (k + xs.length)) ∧
      w'.ownsRow base 2 1 (.slice a xs.length cap) xs.length ((count k xs.length).map (Value.int .i64)) ∧ w.grownBy w' (Value.ownBlock (.slice a xs.length cap)) := by
  rcases hown.2 with ⟨hv, hn⟩ | ⟨g, cap', cur, hv, hb, hg, rest⟩
  · obtain rfl : xs = [] := List.eq_nil_of_length_eq_zero hn
    have Hown := hid hown
    clear hown hv hn
    go_enter Try.func17, Try.ntmps17
    go_wp2
    refine wp_loop_rounds 1 ?_; rw [rounds_succ]
    go_wp2
    go_ret
    exact ⟨ret_int (by simp), Hown.out, ⟨rfl, rfl, rfl, Nat.le_refl _, fun _ _ _ => rfl⟩⟩
  · cases hv
    have Hg := hid (And.intro hb hg)
    clear hb hg rest
    go_enter Try.func17, Try.ntmps17
    go_wp2
    go_loopw [1, 5] (fun m i wr => ∃ j : Nat, j ≤ xs.length ∧ i = .int .i64 j ∧ m = .int .i64 (k + j) ∧ wr.ownsRow base 2 1 (.slice (some ⟨g, 0, none⟩) xs.length cap) xs.length ((count k j ++ xs.drop j).map (Value.int .i64)) ∧ w.grownBy wr (some g)) (fun _ i _ => xs.length - (intOf i).toNat)
    case atStart => exact ⟨0, Nat.zero_le _, rfl, by simp, by simpa [count] using hown, ⟨rfl, rfl, rfl, Nat.le_refl _, fun _ _ _ => rfl⟩⟩
    case round =>
      obtain ⟨j, hj, rfl, rfl, hown, hgr⟩ := hrel
      by_cases hlt : j < xs.length
      · have hcg : ∃ u, wr.cell? ⟨g, j, none⟩ = some (.int .i64 u) := by
          rw [hown.cellAt j (by omega)]
          refine ⟨xs[j]?.getD 0, ?_⟩
          rw [List.getElem?_map, List.getElem?_append_right (by rw [count_len]; exact Nat.le_refl _), count_len, Nat.sub_self]
          simp [hlt]
        obtain ⟨u, hcu⟩ := hcg
        have hfg := hown.frozenAt j
        have hst := hown.stored j (.int .i64 (k + j))
        rw [mark_step hlt] at hst
        have Hst := hid hst
        have Hgr := hid hgr
        clear hst hown hgr
        go_wp2
        go_roundw
        case rel =>
          exact ⟨j + 1, by omega, by go_num, by go_num, Hst.out.1, Hgr.out.trans Hst.out.2⟩
        case measure => simp [intOf]; omega
      · go_wp2
        go_ret
        obtain rfl : j = xs.length := by omega
        exact ⟨rfl, by simpa using hown, hgr⟩

set_option maxHeartbeats 400000 in
theorem heldInts (a : Option Addr) (cap : Nat) (n : Nat) (xs : List Int) (k : Int) (w : World) (hxs : xs = count k n) (hx : SlI w w.heap.size a xs) (hl : n ≤ 1048576) (h0 : 0 ≤ k) (h1 : k ≤ 1099511627776) :
    Calls Try.prog 18 #[.slice a n cap, .int .i64 k] w fun e w' => e = .returned (.int .i64 (k + n)) ∧ Below w.heap.size w w' := by
  have hlen : xs.length = n := by rw [hxs, count_len]
  rcases hx with rfl | ⟨b, off, hb, rfl, hc⟩
  · obtain rfl : n = 0 := by simpa using hlen.symm
    clear hxs hlen
    go_enter Try.func18, Try.ntmps18
    go_wp2
    refine wp_loop_rounds 1 ?_; rw [rounds_succ]
    go_wp2
    go_ret
    exact ⟨ret_int (by simp), Below.refl _ _⟩
  · have Hc := hid hc
    have Hxs := hid hxs
    have Hlen := hid hlen
    clear hc hxs hlen
    go_enter Try.func18, Try.ntmps18
    go_wp2
    go_loop [1, 5] (fun m i => ∃ j : Nat, j ≤ n ∧ i = .int .i64 j ∧ m = .int .i64 (k + j)) (fun _ i => n - (intOf i).toNat)
    case atStart => exact ⟨0, Nat.zero_le _, rfl, by simp⟩
    case round =>
      obtain ⟨j, hj, rfl, rfl⟩ := hrel
      by_cases hlt : j < n
      · have hck : w.cell? ⟨b, off + j, none⟩ = some (.int .i64 (k + j)) := by
          have := Hc.out j (by rw [Hlen.out]; exact hlt)
          rw [Hxs.out, count_get _ _ _ hlt] at this
          exact this
        go_wp2
        go_round
        case rel => exact ⟨j + 1, by omega, by go_num, by go_num⟩
        case measure => simp [intOf]; omega
      · go_wp2
        go_ret
        obtain rfl : j = n := by omega
        exact ⟨rfl, Below.refl _ _⟩

/-! ### What a law keeps of the world: slices of its own, in the order in which they were made, and blocks -/

/-- A slice of int64 that lies in blocks from lo to hi. -/
structure Sl where
  lo : Nat
  hi : Nat
  v : Value
  xs : List Int

structure OwnI (w : World) (p : Sl) : Prop where
  own : w.ownsRow p.lo 2 1 p.v p.xs.length (p.xs.map (Value.int .i64))
  lt : ∀ g, p.v.ownBlock = some g → g < p.hi
  le : p.hi ≤ w.heap.size

structure Facts (w0 : World) (w : World) (A : List (Option Addr × List Int)) (bs : List (Nat × Obj)) (L : List Sl) : Prop where
  from0 : Below w0.heap.size w0 w
  args : ∀ q ∈ A, SlI w w0.heap.size q.1 q.2
  blocks : ∀ b ∈ bs, w.heap[b.1]? = some b.2
  slices : ∀ p ∈ L, OwnI w p

section
variable {w0 w w' : World} {A : List (Option Addr × List Int)} {bs : List (Nat × Obj)} {L : List Sl}

theorem Facts.ge (h : Facts w0 w A bs L) : w0.heap.size ≤ w.heap.size := h.from0.size

theorem Facts.below (h : Facts w0 w A bs L) (hb : Below w.heap.size w w') : Facts w0 w' A bs L where
  from0 := h.from0.trans (hb.mono h.ge)
  args := fun q hq => (h.args q hq).below (hb.mono h.ge)
  blocks := fun b hbm => (hb.block b.1 (Array.getElem?_eq_some_iff.1 (h.blocks b hbm)).1).trans (h.blocks b hbm)
  slices := fun p hp => ⟨ownsRow_below (h.slices p hp).own hb (fun g hg => Nat.lt_of_lt_of_le ((h.slices p hp).lt g hg) (h.slices p hp).le), (h.slices p hp).lt, Nat.le_trans (h.slices p hp).le hb.size⟩

theorem Facts.drew (h : Facts w0 w A bs L) : Facts w0 w.drew A bs L := h.below (Below.refl _ _).drew

theorem Facts.arg (h : Facts w0 w A bs L) {q : Option Addr × List Int} (hq : q ∈ A) : SlI w w.heap.size q.1 q.2 := (h.args q hq).mono h.ge

/-- A new block. -/
theorem Facts.alloc (h : Facts w0 w A bs L) (o : Obj) : Facts w0 (w.alloc o) A ((w.heap.size, o) :: bs) L where
  from0 := h.from0.alloc h.ge o
  args := fun q hq => (h.args q hq).below ((Below.refl _ w).alloc h.ge _)
  blocks := fun b hb => by
    rcases List.mem_cons.1 hb with rfl | hb
    · exact heap_alloc_new w o
    · exact (Below.heap_alloc w o _ (Array.getElem?_eq_some_iff.1 (h.blocks b hb)).1).trans (h.blocks b hb)
  slices := fun p hp => ⟨(h.slices p hp).own.alloc o, (h.slices p hp).lt, by have := (h.slices p hp).le; simp; omega⟩

/-- A new slice, out of a call. -/
theorem Facts.slice (h : Facts w0 w A bs L) {v : Value} {xs : List Int}
    (hown : w'.ownsRow w.heap.size 2 1 v xs.length (xs.map (Value.int .i64))) (hb : Below w.heap.size w w') : Facts w0 w' A bs (⟨w.heap.size, w'.heap.size, v, xs⟩ :: L) :=
  { h.below hb with
    slices := fun p hp => by
      rcases List.mem_cons.1 hp with rfl | hp
      · exact ⟨hown, fun g hg => (hown.lt g hg).2, Nat.le_refl _⟩
      · exact (h.below hb).slices p hp }

/-- A slice is marked: the others stay. -/
theorem Facts.mark {L' : List Sl} (h : Facts w0 w A bs L) {p : Sl} {ys : List Int} (hp : p ∈ L)
    (hown : w'.ownsRow p.lo 2 1 p.v ys.length (ys.map (Value.int .i64))) (hg : w.grownBy w' p.v.ownBlock)
    (hB : w0.heap.size ≤ p.lo) (hbs : ∀ b ∈ bs, b.1 < p.lo ∨ p.hi ≤ b.1) (hL : ∀ q ∈ L', q = { p with xs := ys } ∨ (q ∈ L ∧ (q.hi ≤ p.lo ∨ p.hi ≤ q.lo))) : Facts w0 w' A bs L' where
  from0 := h.from0.grown hg h.ge (fun k e => Nat.le_trans hB ((h.slices p hp).own.lt k e).1)
  args := fun q hq => (h.args q hq).below ((Below.refl _ w).grown hg h.ge (fun k e => Nat.le_trans hB ((h.slices p hp).own.lt k e).1))
  blocks := fun b hb => (hg.block b.1 (Array.getElem?_eq_some_iff.1 (h.blocks b hb)).1 (fun e => by
    have h1 := ((h.slices p hp).own.lt _ e.symm).1
    have h2 := (h.slices p hp).lt _ e.symm
    rcases hbs b hb with h3 | h3 <;> omega)).trans (h.blocks b hb)
  slices := fun q hq => by
    rcases hL q hq with rfl | ⟨hqm, hap⟩
    · exact ⟨hown, (h.slices p hp).lt, Nat.le_trans (h.slices p hp).le hg.size⟩
    · refine ⟨(h.slices q hqm).own.kept hg ?_, (h.slices q hqm).lt, Nat.le_trans (h.slices q hqm).le hg.size⟩
      cases hv : q.v.ownBlock with
      | none => exact .inl rfl
      | some g =>
        refine .inr (fun e => ?_)
        have h1 := ((h.slices p hp).own.lt _ e.symm).1
        have h2 := (h.slices p hp).lt _ e.symm
        have h3 := ((h.slices q hqm).own.lt _ hv).1
        have h4 := (h.slices q hqm).lt _ hv
        rcases hap with h5 | h5 <;> omega

theorem Facts.slI (h : Facts w0 w A bs L) {lo hi : Nat} {a : Option Addr} {m cap : Nat} {xs : List Int} (hp : (⟨lo, hi, .slice a m cap, xs⟩ : Sl) ∈ L) : SlI w w.heap.size a xs :=
  owned_slI (h.slices _ hp).own

theorem Facts.own (h : Facts w0 w A bs L) {lo hi : Nat} {v : Value} {xs : List Int} (hp : (⟨lo, hi, v, xs⟩ : Sl) ∈ L) : w.ownsRow lo 2 1 v xs.length (xs.map (Value.int .i64)) := (h.slices _ hp).own

theorem Facts.two (h : Facts w0 w A bs L) {b t : Nat} {u v : Value} (hb : (b, Obj.cells #[u, v] t (0, 0)) ∈ bs) : w.cell? ⟨b, 0, none⟩ = some u ∧ w.cell? ⟨b, 1, none⟩ = some v := by
  have := h.blocks _ hb
  constructor <;> simp [World.cell?, this]
end

set_option maxHeartbeats 400000 in
theorem markCx (V : Int) (base : Nat) (a : Option Addr) (cap : Nat) (xs : List Int) (k : Int) (w : World) (hown : w.ownsRow base 2 1 (.slice a xs.length cap) xs.length (xs.map (Value.int .i64))) (hl : xs.length ≤ 1048576) (h0 : 0 ≤ k) (h1 : k ≤ 1099511627776) :
    Calls Try.prog 28 #[.agg #[.int .i64 V, .slice a xs.length cap], .int .i64 k] w fun e w' => e = .returned (.int .i64 (k + xs.length)) ∧
      w'.ownsRow base 2 1 (.slice a xs.length cap) xs.length ((count k xs.length).map (Value.int .i64)) ∧ w.grownBy w' (Value.ownBlock (.slice a xs.length cap)) := by
  have Hown := hid (hown.alloc (.cells #[.int .i64 V, .slice a xs.length cap] 37))
  clear hown
  go_enter Try.func28, Try.ntmps28
  go_wp2_with fail
  refine (markInts base a cap xs k _ Hown.out hl h0 h1).mono ?_
  rintro e w1 ⟨rfl, hown1, hgr⟩
  go_wp2_with fail
  go_ret
  exact ⟨rfl, hown1, (World.grownBy_alloc w _ _).trans hgr⟩

set_option maxHeartbeats 400000 in
theorem heldCx (V : Int) (a : Option Addr) (cap n : Nat) (xs : List Int) (k : Int) (w : World) (hxs : xs = count k n) (hx : SlI w w.heap.size a xs) (hl : n ≤ 1048576) (h0 : 0 ≤ k) (h1 : k ≤ 1099511627776) :
    Calls Try.prog 39 #[.agg #[.int .i64 V, .slice a n cap], .int .i64 k] w fun e w' => e = .returned (.int .i64 (k + n)) ∧ Below w.heap.size w w' := by
  have hB : Below w.heap.size w (w.alloc (.cells #[.int .i64 V, .slice a n cap] 37)) := (Below.refl _ w).alloc (Nat.le_refl _) _
  have Hxs := hid hxs
  have Hx := hid (hx.later hB (by simp))
  clear hxs hx
  go_enter Try.func39, Try.ntmps39
  go_wp2_with fail
  refine (heldInts a cap n xs k _ Hxs.out Hx.out hl h0 h1).mono ?_
  rintro e w1 ⟨rfl, hB1⟩
  go_wp2_with fail
  go_ret
  exact ⟨rfl, hB.trans (hB1.mono (by simp))⟩

end Go.Proofs.Yteikdkcledeefaa
