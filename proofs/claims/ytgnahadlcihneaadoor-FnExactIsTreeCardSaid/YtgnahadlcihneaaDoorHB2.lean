import Derived.Deep.RegionHeld3
import Derived.Deep.AppendLies
import Derived.Deep.RegionLaw
import Derived.Laws.ResultCell
import Derived.Lib.QuietBelow
import Derived.Test.YtgnahadlcihneaaDoorHB1
/-! Faces that are wanted: the program's loop over them, whatever it asks. -/
namespace Go.Proofs.YtgnahadlcihneaaDoor
open Go.RowKit

/-- A result: a slice of int64 in new memory. -/
def Res (w w' : World) (v : Value) (xs : List Int) : Prop := w'.ownsRow w.heap.size 2 1 v xs.length (xs.map (Value.int .i64)) ∧ Below w.heap.size w w'

theorem Res.later {w0 w w' : World} {v : Value} {xs : List Int} (h : Res w w' v xs) (h0 : Below w0.heap.size w0 w) : Res w0 w' v xs :=
  ⟨ownsRow_base h.1 h0.size, h0.trans (h.2.mono h0.size)⟩

theorem Res.after {w w' w2 : World} {v : Value} {xs : List Int} (h : Res w w' v xs) (h2 : Below w'.heap.size w' w2) : Res w w2 v xs :=
  ⟨ownsRow_below h.1 h2 (fun g hg => (h.1.lt g hg).2), h.2.trans (h2.mono h.2.size)⟩

theorem res_nil (w w' : World) (h : Below w.heap.size w w') : Res w w' (.slice none 0 0) [] := ⟨World.ownsRow_nil _ _ _ _, h⟩

set_option maxHeartbeats 1000000 in
theorem fw_any (V : Int) (a : Option Addr) (cap : Nat) (fs : List Int) (w : World) (fid : Nat) (c1 : Value) (p : Int → Bool) (hx : SlI w w.heap.size a fs) (hl : fs.length ≤ 1048576)
    (hent : ∀ args w, (callFunc fid args).run Tryd.prog w = .ok (.enter fid args) w)
    (hcl : ∀ W' x, Below w.heap.size w W' → x ∈ fs → Calls Tryd.prog fid #[.int .i64 x, c1] W' fun e w' => e = .returned (.bool (p x)) ∧ Below W'.heap.size W' w') :
    Calls Tryd.prog 101 #[.agg #[.int .i64 V, .slice a fs.length cap], .func (.func fid) #[] #[c1]] w fun e w' => ∃ v, e = .returned v ∧ Res w w' v (fs.filter p) := by
  have hB0 : Below w.heap.size w (w.alloc (.cells #[.int .i64 V, .slice a fs.length cap] 28)) := (Below.refl _ w).alloc (Nat.le_refl _) _
  rcases hx with rfl | ⟨b, off, hb, rfl, hc⟩
  · clear hcl
    go_enter Tryd.func101, Tryd.ntmps101
    go_wp2
    refine wp_loop_rounds 1 ?_; rw [rounds_succ]
    go_wp2
    go_ret
    exact ⟨_, rfl, res_nil _ _ hB0⟩
  · have Hcl := hid hcl
    have Hc := hid hc
    clear hcl hc
    go_enter Tryd.func101, Tryd.ntmps101
    go_wp2
    go_loopw [5, 11] (fun v i wr => ∃ k : Nat, k ≤ fs.length ∧ i = .int .i64 k ∧ wr.ownsRow w.heap.size 2 1 v ((fs.take k).filter p).length (((fs.take k).filter p).map (Value.int .i64)) ∧
        Below w.heap.size w wr) (fun _ i _ => fs.length - (intOf i).toNat)
    case atStart => exact ⟨0, Nat.zero_le _, rfl, World.ownsRow_nil _ _ _ _, hB0⟩
    case round =>
      obtain ⟨k, hk, rfl, hown, hB⟩ := hrel
      by_cases hlt : k < fs.length
      · obtain ⟨x, hx⟩ : ∃ x, x = fs[k]?.getD 0 := ⟨_, rfl⟩
        have hck : wr.cell? ⟨b, off + k, none⟩ = some (.int .i64 x) := by rw [hx]; exact (hB.cell (p := ⟨b, off + k, none⟩) hb).trans (Hc.out k hlt)
        have hxm : x ∈ fs := by rw [hx]; exact getD_mem hlt
        have Hx := hid hx
        have hi0 : (0 : Int) ≤ (k : Int) := by omega
        have hi1 : (k : Int) < (fs.length : Int) := by omega
        have hcall := Hcl.out wr x hB hxm
        have Hcall := hid hcall
        clear hx hcall hxm
        have hsz := hB.size
        have hfl : ((fs.take k).filter p).length ≤ 1048576 := Nat.le_trans (List.length_filter_le _ _) (by simp; omega)
        go_wp2_with fail
        refine Hcall.out.mono ?_
        rintro e w1 ⟨rfl, hB1⟩
        have hB1' : Below w.heap.size w w1 := hB.trans (hB1.mono hsz)
        have hsz1 := hB1'.size
        have hown1 := ownsRow_below hown hB1 (fun g hg => (hown.lt g hg).2)
        have Hp : Hid (∀ c, p x = c → (fs.take (k + 1)).filter p = (fs.take k).filter p ++ (if c then [x] else [])) := hid (fun c hc => by
          rw [take_snoc hlt, List.filter_append, ← Hx.out]
          cases c <;> simp [hc])
        clear hown hck
        by_cases hpx : p x = true
        · have HP := hid (Hp.out true hpx)
          go_wp2_with (at_builtin; refine append_int rfl rfl hown1 hsz1 (by omega) rfl rfl ?_; intro v' w2 hown2 hgrow2 hB2)
          go_roundw
          case rel => exact ⟨k + 1, by omega, by go_num, by rw [HP.out]; exact hown2, hB1'.trans hB2⟩
          case measure => simp [intOf]; omega
        · have hpf : p x = false := by simpa using hpx
          have HP := hid (Hp.out false hpf)
          go_wp2_with fail
          go_roundw
          case rel => exact ⟨k + 1, by omega, by go_num, by rw [HP.out]; simpa using hown1, hB1'⟩
          case measure => simp [intOf]; omega
      · go_wp2
        go_ret
        obtain rfl : k = fs.length := by omega
        exact ⟨_, rfl, by simpa using hown, hB⟩

set_option maxHeartbeats 1000000 in
theorem fw_any2 (V : Int) (a : Option Addr) (cap : Nat) (fs : List Int) (w : World) (fid : Nat) (c1 c2 : Value) (p : Int → Bool) (hx : SlI w w.heap.size a fs) (hl : fs.length ≤ 1048576)
    (hent : ∀ args w, (callFunc fid args).run Tryd.prog w = .ok (.enter fid args) w)
    (hcl : ∀ W' x, Below w.heap.size w W' → x ∈ fs → Calls Tryd.prog fid #[.int .i64 x, c1, c2] W' fun e w' => e = .returned (.bool (p x)) ∧ Below W'.heap.size W' w') :
    Calls Tryd.prog 101 #[.agg #[.int .i64 V, .slice a fs.length cap], .func (.func fid) #[] #[c1, c2]] w fun e w' => ∃ v, e = .returned v ∧ Res w w' v (fs.filter p) := by
  have hB0 : Below w.heap.size w (w.alloc (.cells #[.int .i64 V, .slice a fs.length cap] 28)) := (Below.refl _ w).alloc (Nat.le_refl _) _
  rcases hx with rfl | ⟨b, off, hb, rfl, hc⟩
  · clear hcl
    go_enter Tryd.func101, Tryd.ntmps101
    go_wp2
    refine wp_loop_rounds 1 ?_; rw [rounds_succ]
    go_wp2
    go_ret
    exact ⟨_, rfl, res_nil _ _ hB0⟩
  · have Hcl := hid hcl
    have Hc := hid hc
    clear hcl hc
    go_enter Tryd.func101, Tryd.ntmps101
    go_wp2
    go_loopw [5, 11] (fun v i wr => ∃ k : Nat, k ≤ fs.length ∧ i = .int .i64 k ∧ wr.ownsRow w.heap.size 2 1 v ((fs.take k).filter p).length (((fs.take k).filter p).map (Value.int .i64)) ∧
        Below w.heap.size w wr) (fun _ i _ => fs.length - (intOf i).toNat)
    case atStart => exact ⟨0, Nat.zero_le _, rfl, World.ownsRow_nil _ _ _ _, hB0⟩
    case round =>
      obtain ⟨k, hk, rfl, hown, hB⟩ := hrel
      by_cases hlt : k < fs.length
      · obtain ⟨x, hx⟩ : ∃ x, x = fs[k]?.getD 0 := ⟨_, rfl⟩
        have hck : wr.cell? ⟨b, off + k, none⟩ = some (.int .i64 x) := by rw [hx]; exact (hB.cell (p := ⟨b, off + k, none⟩) hb).trans (Hc.out k hlt)
        have hxm : x ∈ fs := by rw [hx]; exact getD_mem hlt
        have Hx := hid hx
        have hi0 : (0 : Int) ≤ (k : Int) := by omega
        have hi1 : (k : Int) < (fs.length : Int) := by omega
        have hcall := Hcl.out wr x hB hxm
        have Hcall := hid hcall
        clear hx hcall hxm
        have hsz := hB.size
        have hfl : ((fs.take k).filter p).length ≤ 1048576 := Nat.le_trans (List.length_filter_le _ _) (by simp; omega)
        go_wp2_with fail
        refine Hcall.out.mono ?_
        rintro e w1 ⟨rfl, hB1⟩
        have hB1' : Below w.heap.size w w1 := hB.trans (hB1.mono hsz)
        have hsz1 := hB1'.size
        have hown1 := ownsRow_below hown hB1 (fun g hg => (hown.lt g hg).2)
        have Hp : Hid (∀ c, p x = c → (fs.take (k + 1)).filter p = (fs.take k).filter p ++ (if c then [x] else [])) := hid (fun c hc => by
          rw [take_snoc hlt, List.filter_append, ← Hx.out]
          cases c <;> simp [hc])
        clear hown hck
        by_cases hpx : p x = true
        · have HP := hid (Hp.out true hpx)
          go_wp2_with (at_builtin; refine append_int rfl rfl hown1 hsz1 (by omega) rfl rfl ?_; intro v' w2 hown2 hgrow2 hB2)
          go_roundw
          case rel => exact ⟨k + 1, by omega, by go_num, by rw [HP.out]; exact hown2, hB1'.trans hB2⟩
          case measure => simp [intOf]; omega
        · have hpf : p x = false := by simpa using hpx
          have HP := hid (Hp.out false hpf)
          go_wp2_with fail
          go_roundw
          case rel => exact ⟨k + 1, by omega, by go_num, by rw [HP.out]; simpa using hown1, hB1'⟩
          case measure => simp [intOf]; omega
      · go_wp2
        go_ret
        obtain rfl : k = fs.length := by omega
        exact ⟨_, rfl, by simpa using hown, hB⟩

end Go.Proofs.YtgnahadlcihneaaDoor

/-! Numbers of vertices. -/
namespace Go.Proofs.YtgnahadlcihneaaDoor
open Go.RowKit

set_option maxHeartbeats 400000 in
theorem ones_any (f : Nat) (w : World) (hf : f < 64) :
    Calls Tryd.prog 74 #[.int .i64 (f : Int)] w fun e w' => e = .returned (.int .i64 (ones f : Int)) ∧ w = w' := by
  go_enter Tryd.func74, Tryd.ntmps74
  go_wp2
  go_loop [0, 3] (fun x c => ∃ r n : Nat, r ≤ 63 ∧ x = .int .i64 r ∧ c = .int .i64 n ∧ n ≤ 6 ∧ Hid (n + ones r = ones f)) (fun x _ => (intOf x).toNat)
  case atStart => exact ⟨f, 0, by omega, rfl, rfl, by omega, hid (by omega)⟩
  case round =>
    obtain ⟨r, n, hr, rfl, rfl, hn, Hn⟩ := hrel
    by_cases h0 : 0 < r
    · have h1 := ones_half (r := r) (by omega)
      have h2 := ones_le f
      have hn' : n + r % 2 ≤ 6 := by have := Hn.out; omega
      have Hn' : Hid (n + r % 2 + ones (r / 2) = ones f) := hid (by have := Hn.out; omega)
      clear h1 h2 Hn
      go_wp2
      go_round
      case rel => exact ⟨r / 2, n + r % 2, by omega, by go_num, by go_num, hn', Hn'⟩
      case measure => simp [intOf]; omega
    · obtain rfl : r = 0 := by omega
      have Hn' : Hid (n = ones f) := hid (by have := Hn.out; rw [ones_zero] at this; omega)
      go_wp2
      go_ret
      exact ⟨ret_int (by rw [← Hn'.out]), rfl⟩

set_option maxHeartbeats 400000 in
theorem oc_any (f : Nat) (w : World) (hf : f < 64) :
    Calls Tryd.prog 119 #[.int .u64 (f : Int)] w fun e w' => e = .returned (.int .i64 (ones f : Int)) ∧ w = w' := by
  go_enter Tryd.func119, Tryd.ntmps119
  go_wp2
  go_ret
  refine ⟨ret_int ?_, rfl⟩
  clear w
  revert hf
  revert f
  decide +kernel

set_option maxHeartbeats 400000 in
theorem dim_any (f : Nat) (w : World) (hf : f < 64) :
    Calls Tryd.prog 121 #[.int .i64 (f : Int)] w fun e w' => e = .returned (.int .i64 ((ones f : Int) - 1)) ∧ w = w' := by
  have ho := ones_le f
  go_enter Tryd.func121, Tryd.ntmps121
  go_wp2_with fail
  refine (oc_any f _ hf).mono ?_
  rintro e w' ⟨rfl, rfl⟩
  go_wp2_with fail
  go_ret
  exact ⟨rfl, rfl⟩

end Go.Proofs.YtgnahadlcihneaaDoor

/-! 'out.Faces = append(out.Faces, x)' in the model's loops. -/
namespace Go.Proofs.YtgnahadlcihneaaDoor
open Go.RowKit

theorem cell_alloc_drew {W : World} {p : Addr} {v : Value} (h : W.cell? p = some v) (n : Nat) (o : Obj) : ((W.drewN n).alloc o).cell? p = some v :=
  (World.cell?_alloc_some (W.drewN n) p o (show (W.cell? p).isSome = true by rw [h]; rfl)).trans h

theorem step_append_int {w : World} {ops : Array Oper} {o : Oper} {a : Act} {K : Act → World → Prop} {Q : Exit → Act → World → Prop} {E : Prop} (hgd : o.guard = none) {s y : Operand}
    (ho : o.op = .call { callee := .builtin .append, args := #[s, y], argTypes := #[22, 22] })
    {base : Nat} {v : Value} {xs : List Int} {x : Int} {ad : Addr} (hown : w.ownsRow base 2 1 v xs.length (xs.map (Value.int .i64))) (hbase : base ≤ w.heap.size) (hl : xs.length ≤ 1099511627776)
    (hs : a.eval s = v) (hy : a.eval y = .slice (some ad) 1 1) (hc : w.cell? (ad.add 0) = some (.int .i64 x))
    (hK : ∀ g cap w', w'.ownsRow base 2 1 (.slice (some ⟨g, 0, none⟩) (xs ++ [x]).length cap) (xs ++ [x]).length ((xs ++ [x]).map (Value.int .i64)) → w.grownBy w' v.ownBlock →
      K (a.put o.dst (.slice (some ⟨g, 0, none⟩) (xs ++ [x]).length cap)) w') :
    if Region.wanted o (yielded ops a.tmps) = true then Oper.wp Tryd.prog o a w K Q else E := by
  obtain ⟨i0, hi, hz0, hz1, hz2⟩ := info_parts info_i64
  refine step_append_lies w hgd s y 22 ho base 2 i0 (.int .i64 0) 1 8 Tryd.underlying22 hi hz0 hz1 hz2 rfl (by decide) v _ _ hs hown ad 1 1 [.int .i64 x] hy rfl ?_ (by simp [Value.oneCell']) (by decide) (by unfold maxLen; omega) (by omega) hbase _ rfl ?_
  · intro j u hu
    match j, hu with
    | 0, hu => simp at hu; subst hu; exact hc
  · intro g cap w1 hown1 hg _ _
    have e : (xs ++ [x]).length = xs.length + 1 := by simp
    have h := hK g cap w1 (by rw [e]; simpa using hown1) hg
    rw [e] at h
    exact h

/-- What the model's loops keep of the world while they build a complex in block Bo: B is the heap's size when the call began. -/
structure OutW (w W : World) (V : Int) (sl : Value) (Bo : Nat) (xs : List Int) (a : Option Addr) (c : Nat) : Prop where
  below : Below w.heap.size w W
  kbox : W.heap[w.heap.size]? = some (.cells #[.int .i64 V, sl] 28 (0, 0))
  res : W.heap[w.heap.size + 1]? = some (.cells #[.int .i64 0, .slice none 0 0] 28 (0, 0))
  out : W.heap[Bo]? = some (.cells #[.int .i64 V, .slice a xs.length c] 28 (0, 0))
  own : W.ownsRow w.heap.size 2 1 (.slice a xs.length c) xs.length (xs.map (Value.int .i64))
  bo : w.heap.size + 1 < Bo

/-- A block of another type is none of an owned row's. -/
theorem row_ne {W : World} {base e t : Nat} {v : Value} {n : Nat} {xs : List Value} {b : Nat} {cs : Array Value} {fz : Nat × Nat} (h : W.ownsRow base e 1 v n xs) (hb : W.heap[b]? = some (.cells cs t fz)) (hne : e ≠ t) : some b ≠ v.ownBlock := by
  intro he
  rcases h.2 with ⟨rfl, _⟩ | ⟨g, cap, cur, rfl, _, hg, _⟩
  · simp [Value.ownBlock] at he
  · simp [Value.ownBlock] at he
    subst he
    rw [hb] at hg
    simp at hg
    exact hne hg.2.1.symm

theorem lt_get {W : World} {b : Nat} {o : Obj} (h : W.heap[b]? = some o) : b < W.heap.size := (Array.getElem?_eq_some_iff.1 h).1

/-- Draws alone. -/
theorem OutW.drew {w W : World} {V : Int} {sl : Value} {Bo : Nat} {xs : List Int} {a : Option Addr} {c : Nat} (h : OutW w W V sl Bo xs a c) : OutW w W.drew V sl Bo xs a c :=
  ⟨⟨h.below.os, h.below.tape, h.below.output, h.below.size, h.below.block⟩, h.kbox, h.res, h.out, h.own, h.bo⟩

theorem OutW.drewN {w W : World} {V : Int} {sl : Value} {Bo : Nat} {xs : List Int} {a : Option Addr} {c : Nat} (h : OutW w W V sl Bo xs a c) (n : Nat) : OutW w (W.drewN n) V sl Bo xs a c :=
  ⟨⟨h.below.os, h.below.tape, h.below.output, h.below.size, h.below.block⟩, h.kbox, h.res, h.out, h.own, h.bo⟩

/-- Whatever keeps all that lay. -/
theorem OutW.later {w W W' : World} {V : Int} {sl : Value} {Bo : Nat} {xs : List Int} {a : Option Addr} {c : Nat} (h : OutW w W V sl Bo xs a c) (hb : Below W.heap.size W W') : OutW w W' V sl Bo xs a c where
  below := h.below.trans (hb.mono h.below.size)
  kbox := (hb.block _ (lt_get h.kbox)).trans h.kbox
  res := (hb.block _ (lt_get h.res)).trans h.res
  out := (hb.block _ (lt_get h.out)).trans h.out
  own := ownsRow_below h.own hb (fun g hg => (h.own.lt g hg).2)
  bo := h.bo

/-- A face more. -/
theorem OutW.step {w W w2 : World} {V : Int} {sl : Value} {Bo : Nat} {xs : List Int} {a : Option Addr} {c : Nat} (h : OutW w W V sl Bo xs a c) {x : Int} {g cap : Nat} {o : Obj}
    (hown : w2.ownsRow w.heap.size 2 1 (.slice (some ⟨g, 0, none⟩) (xs ++ [x]).length cap) (xs ++ [x]).length ((xs ++ [x]).map (Value.int .i64))) (hg : (W.alloc o).grownBy w2 (Value.ownBlock (.slice a xs.length c))) :
    OutW w (w2.setCell ⟨Bo, 1, none⟩ (.slice (some ⟨g, 0, none⟩) (xs ++ [x]).length cap)) V sl Bo (xs ++ [x]) (some ⟨g, 0, none⟩) cap := by
  have hgr : W.grownBy w2 (Value.ownBlock (.slice a xs.length c)) := (World.grownBy_alloc W o _).trans hg
  have hbo := h.bo
  have k2 := (hgr.block _ (lt_get h.kbox) (row_ne h.own h.kbox (by decide))).trans h.kbox
  have r2 := (hgr.block _ (lt_get h.res) (row_ne h.own h.res (by decide))).trans h.res
  have o2 := (hgr.block _ (lt_get h.out) (row_ne h.own h.out (by decide))).trans h.out
  refine ⟨?_, ?_, ?_, ?_, ?_, h.bo⟩
  · exact (h.below.grown hgr h.below.size (fun k hk => (h.own.lt k hk).1)).setCell (p := ⟨Bo, 1, none⟩) (by simp only; omega) _
  · exact (Below.heap_setCell _ _ _ _ (by simp only; omega)).trans k2
  · exact (Below.heap_setCell _ _ _ _ (by simp only; omega)).trans r2
  · simp only [World.setCell, Array.getElem?_modify, o2]
    simp
  · exact ownsRow_set hown (by
      have := row_ne hown o2 (by decide)
      exact fun e => this e.symm) _

theorem outW_start {w W : World} {V : Int} {sl : Value} (hB : Below w.heap.size w W) (hk : W.heap[w.heap.size]? = some (.cells #[.int .i64 V, sl] 28 (0, 0)))
    (hr : W.heap[w.heap.size + 1]? = some (.cells #[.int .i64 0, .slice none 0 0] 28 (0, 0))) :
    OutW w ((W.alloc (.cells #[] 2)).alloc (.cells #[.int .i64 V, .slice (some ⟨W.heap.size, 0, none⟩) 0 0] 28)) V sl (W.heap.size + 1) [] (some ⟨W.heap.size, 0, none⟩) 0 where
  below := (hB.alloc hB.size _).alloc (by have := hB.size; simp; omega) _
  kbox := (Below.heap_alloc _ _ _ (by have := lt_get hk; simp; omega)).trans ((Below.heap_alloc _ _ _ (lt_get hk)).trans hk)
  res := (Below.heap_alloc _ _ _ (by have := lt_get hr; simp; omega)).trans ((Below.heap_alloc _ _ _ (lt_get hr)).trans hr)
  out := by have := heap_alloc_new (W.alloc (.cells #[] 2)) (.cells #[.int .i64 V, .slice (some ⟨W.heap.size, 0, none⟩) 0 0] 28); rwa [World.size_alloc] at this
  own := by
    have h := World.ownsRow_made (base := w.heap.size) (e := 2) (size := 1) W #[] 0 hB.size (by simp [maxLen]) rfl
    exact h.alloc _
  bo := by have := lt_get hr; omega

/-- The model's loops hand back what they have built. -/
theorem OutW.done {w W : World} {V : Int} {sl : Value} {Bo : Nat} {xs : List Int} {a : Option Addr} {c : Nat} (h : OutW w W V sl Bo xs a c) (u v : Value) :
    Res w ((W.setCell ⟨w.heap.size + 1, 0, none⟩ u).setCell ⟨w.heap.size + 1, 1, none⟩ v) (.slice a xs.length c) xs := by
  have hn := row_ne h.own h.res (by decide)
  exact ⟨ownsRow_set (ownsRow_set h.own (fun e => hn e.symm) _) (fun e => hn e.symm) _, (h.below.setCell (p := ⟨w.heap.size + 1, 0, none⟩) (by simp) _).setCell (p := ⟨w.heap.size + 1, 1, none⟩) (by simp) _⟩

/-- .. where the new element has just been laid. -/
theorem step_append_new {W : World} {H : Nat} {ops : Array Oper} {o : Oper} {a : Act} {K : Act → World → Prop} {Q : Exit → Act → World → Prop} {E : Prop} (hgd : o.guard = none) {s y : Operand}
    (ho : o.op = .call { callee := .builtin .append, args := #[s, y], argTypes := #[22, 22] })
    {base : Nat} {v : Value} {xs : List Int} {x : Int} (hown : W.ownsRow base 2 1 v xs.length (xs.map (Value.int .i64))) (hH : W.heap.size = H) (hbase : base ≤ H) (hl : xs.length ≤ 1099511627776)
    (hs : a.eval s = v) (hy : a.eval y = .slice (some ⟨H, 0, none⟩) 1 1)
    (hK : ∀ g cap w', w'.ownsRow base 2 1 (.slice (some ⟨g, 0, none⟩) (xs ++ [x]).length cap) (xs ++ [x]).length ((xs ++ [x]).map (Value.int .i64)) → (W.alloc (.cells #[.int .i64 x] 2)).grownBy w' v.ownBlock →
      K (a.put o.dst (.slice (some ⟨g, 0, none⟩) (xs ++ [x]).length cap)) w') :
    if Region.wanted o (yielded ops a.tmps) = true then Oper.wp Tryd.prog o a (W.alloc (.cells #[.int .i64 x] 2)) K Q else E := by
  subst hH
  exact step_append_int hgd ho (hown.alloc _) (by simp; omega) hl hs hy (by simp [go_sem, Addr.add]) hK

theorem OutW.stepN {w W w2 : World} {V : Int} {sl : Value} {Bo : Nat} {xs : List Int} {a : Option Addr} {c : Nat} (h : OutW w W V sl Bo xs a c) {x : Int} {g cap : Nat} {o : Obj} {n : Nat}
    (hown : w2.ownsRow w.heap.size 2 1 (.slice (some ⟨g, 0, none⟩) (xs ++ [x]).length cap) (xs ++ [x]).length ((xs ++ [x]).map (Value.int .i64))) (hg : ((W.drewN n).alloc o).grownBy w2 (Value.ownBlock (.slice a xs.length c))) :
    OutW w (w2.setCell ⟨Bo, 1, none⟩ (.slice (some ⟨g, 0, none⟩) (xs ++ [x]).length cap)) V sl Bo (xs ++ [x]) (some ⟨g, 0, none⟩) cap := (h.drewN n).step hown hg

/-- The out block behind an append. -/
theorem OutW.mid {w W w2 : World} {V : Int} {sl : Value} {Bo : Nat} {xs : List Int} {a : Option Addr} {c : Nat} (h : OutW w W V sl Bo xs a c) {n : Nat} {o : Obj} (hg : ((W.drewN n).alloc o).grownBy w2 (Value.ownBlock (.slice a xs.length c))) :
    w2.cell? ⟨Bo, 1, none⟩ = some (.slice a xs.length c) ∧ w2.frozen? ⟨Bo, 1, none⟩ = false := by
  have hgr : (W.drewN n).grownBy w2 (Value.ownBlock (.slice a xs.length c)) := (World.grownBy_alloc _ o _).trans hg
  have o2 := (hgr.block _ (lt_get (h.drewN n).out) (row_ne (h.drewN n).own (h.drewN n).out (by decide))).trans (h.drewN n).out
  constructor <;> simp [World.cell?, World.frozen?, o2]

/-- The given complex's box behind an append. -/
theorem OutW.midK {w W w2 : World} {V : Int} {sl : Value} {Bo : Nat} {xs : List Int} {a : Option Addr} {c : Nat} (h : OutW w W V sl Bo xs a c) {n : Nat} {o : Obj} (hg : ((W.drewN n).alloc o).grownBy w2 (Value.ownBlock (.slice a xs.length c))) :
    w2.cell? ⟨w.heap.size, 1, none⟩ = some sl := by
  have hgr : (W.drewN n).grownBy w2 (Value.ownBlock (.slice a xs.length c)) := (World.grownBy_alloc _ o _).trans hg
  have o2 := (hgr.block _ (lt_get (h.drewN n).kbox) (row_ne (h.drewN n).own (h.drewN n).kbox (by decide))).trans (h.drewN n).kbox
  simp [World.cell?, o2]

/-- What lay before the call, behind an append. -/
theorem OutW.midX {w W w2 : World} {V : Int} {sl : Value} {Bo : Nat} {xs : List Int} {a : Option Addr} {c : Nat} (h : OutW w W V sl Bo xs a c) {n : Nat} {o : Obj} (hg : ((W.drewN n).alloc o).grownBy w2 (Value.ownBlock (.slice a xs.length c))) {p : Addr} (hp : p.block < w.heap.size) :
    w2.cell? p = W.cell? p := by
  have hgr : (W.drewN n).grownBy w2 (Value.ownBlock (.slice a xs.length c)) := (World.grownBy_alloc _ o _).trans hg
  have hlt : p.block < (W.drewN n).heap.size := Nat.lt_of_lt_of_le hp h.below.size
  have h2 : w2.heap[p.block]? = W.heap[p.block]? := hgr.block _ hlt (by
    intro he
    have := (h.own.lt _ he.symm).1
    omega)
  simp only [World.cell?, h2]

end Go.Proofs.YtgnahadlcihneaaDoor

/-! Complexes that are handed back: the ends of bodies with a result in a block, and the program's complexWith. -/
namespace Go.Proofs.YtgnahadlcihneaaDoor
open Go.RowKit

theorem cell_alloc_drew1 {W : World} {p : Addr} {v : Value} (h : W.cell? p = some v) (o : Obj) : (W.alloc o).cell? p = some v := cell_alloc_drew h 0 o

theorem two_of {W : World} {b : Nat} {x y : Value} {t : Nat} (h : W.heap[b]? = some (.cells #[x, y] t (0, 0))) : W.cell? ⟨b, 0, none⟩ = some x ∧ W.cell? ⟨b, 1, none⟩ = some y ∧ W.frozen? ⟨b, 0, none⟩ = false ∧ W.frozen? ⟨b, 1, none⟩ = false := by
  refine ⟨?_, ?_, ?_, ?_⟩ <;> simp [World.cell?, World.frozen?, h]

theorem two_set {W : World} {b : Nat} {x y : Value} {t : Nat} (h : W.heap[b]? = some (.cells #[x, y] t (0, 0))) (u v : Value) : ((W.setCell ⟨b, 0, none⟩ u).setCell ⟨b, 1, none⟩ v).heap[b]? = some (.cells #[u, v] t (0, 0)) := by
  simp only [World.setCell, Array.getElem?_modify, h]
  simp

/-- A result stays where a block of another type is written. -/
theorem Res.set2 {w W : World} {sv : Value} {xs : List Int} (h : Res w W sv xs) {b : Nat} {cs : Array Value} {t : Nat} {fz : Nat × Nat} (hb : W.heap[b]? = some (.cells cs t fz)) (hne : 2 ≠ t) (hw : w.heap.size ≤ b) (u v : Value) :
    Res w ((W.setCell ⟨b, 0, none⟩ u).setCell ⟨b, 1, none⟩ v) sv xs := by
  have hn := row_ne h.1 hb hne
  exact ⟨ownsRow_set (ownsRow_set h.1 (fun e => hn e.symm) _) (fun e => hn e.symm) _, (h.2.setCell (p := ⟨b, 0, none⟩) hw _).setCell (p := ⟨b, 1, none⟩) hw _⟩

theorem new2 (w : World) (A B : Obj) : ((w.alloc A).alloc B).heap[w.heap.size + 1]? = some B := by
  have := heap_alloc_new (w.alloc A) B
  rwa [World.size_alloc] at this

theorem new3 (w : World) (A B C : Obj) : (((w.alloc A).alloc B).alloc C).heap[w.heap.size + 1 + 1]? = some C := by
  have := new2 (w.alloc A) B C
  rwa [World.size_alloc] at this

set_option maxRecDepth 100000 in
theorem load_cx {w : World} {b o : Nat} {x y : Value} (h0 : w.cell? ⟨b, o, none⟩ = some x) (h1 : w.cell? ⟨b, o + 1, none⟩ = some y) :
    (loadVar 28 ⟨b, o, none⟩).run Tryd.prog w = .ok (.agg #[x, y]) w := by
  go_simp

set_option maxRecDepth 100000 in
theorem done_cx {fn : Func} {R : Ending → World → Prop} {a : Act} {w : World} {p u : Tmp} (hr : fn.results = #[.cell p 28, .tmp u]) (hd : a.defers = []) {b o : Nat} {x y c : Value}
    (hp : a.tmps.getD p undef = .pointer (some ⟨b, o, none⟩)) (h0 : w.cell? ⟨b, o, none⟩ = some x) (h1 : w.cell? ⟨b, o + 1, none⟩ = some y) (hu : a.tmps.getD u undef = c) (hR : R (.returned (.tuple #[.agg #[x, y], c])) w) : bodyPost Tryd.prog fn R .ret a w := by
  refine bodyPost_ret (v := .tuple #[.agg #[x, y], c]) ?_ hd hR
  rw [results_cell_tmp hr, hp, hu]
  show ((loadVar 28 ⟨b, o, none⟩).run Tryd.prog w).andThen _ = _
  rw [load_cx h0 h1]
  rfl

set_option maxRecDepth 100000 in
theorem done_cx1 {fn : Func} {R : Ending → World → Prop} {a : Act} {w : World} {p : Tmp} (hr : fn.results = #[.cell p 28]) (hd : a.defers = []) {b o : Nat} {x y : Value}
    (hp : a.tmps.getD p undef = .pointer (some ⟨b, o, none⟩)) (h0 : w.cell? ⟨b, o, none⟩ = some x) (h1 : w.cell? ⟨b, o + 1, none⟩ = some y) (hR : R (.returned (.agg #[x, y])) w) : bodyPost Tryd.prog fn R .ret a w := by
  refine bodyPost_ret (v := .agg #[x, y]) ?_ hd hR
  have hp' : a.tmps[p]?.getD undef = .pointer (some ⟨b, o, none⟩) := by simpa using hp
  simp [results, hr, hp', asAddr, load_cx h0 h1]

theorem cx_mono {P : Program} {f : FuncId} {args : Array Value} {w : World} {r : Int × List Int × Int} {U : Int} {xs : List Int} {c : Int} (hr : r = (U, xs, c))
    (h : Calls P f args w fun e w' => ∃ v, e = .returned (.tuple #[.agg #[.int .i64 U, v], .int .i64 c]) ∧ Res w w' v xs) : Calls P f args w fun e w' => ∃ v, e = .returned (.tuple #[.agg #[.int .i64 r.1, v], .int .i64 r.2.2]) ∧ Res w w' v r.2.1 := by
  subst hr; exact h


end Go.Proofs.YtgnahadlcihneaaDoor

/-! The faces as keys of a map: the program's facesHaving. -/
namespace Go.Proofs.YtgnahadlcihneaaDoor
open Go.RowKit

theorem wf_face {x : Int} (h0 : 1 ≤ x) (h1 : x ≤ 63) : (Lit.int .i64 x).wf = true := WalkArith.wf_i64 (by omega)

/-- The map of faces. -/
def MapW (w' : World) (b n : Nat) (fs : List Int) : Prop := w'.ownsMap Tryd.prog 2 (plainElem (H := Unit) Tryd.prog 4) b n (knownD fs)

theorem MapW.later {w w' : World} {b n : Nat} {fs : List Int} (h : MapW w b n fs) (hB : Below w.heap.size w w') : MapW w' b n fs :=
  World.ownsMap.kept h (row := none) ⟨hB.os, hB.tape, hB.output, hB.size, fun k hk _ => hB.block k hk⟩ (by simp)

theorem MapW.lt {w : World} {b n : Nat} {fs : List Int} (h : MapW w b n fs) : b < w.heap.size := World.ownsMap.lt h


/-! The model's test of a face. -/

end Go.Proofs.YtgnahadlcihneaaDoor

/-! The model's games: what is told, the table of what is known. -/
namespace Go.Proofs.YtgnahadlcihneaaDoor
open Go.RowKit

set_option maxRecDepth 100000 in
set_option maxHeartbeats 1000000 in
theorem counts_any (V : Int) (a0 : Option Addr) (cap : Nat) (fs : List Int) (h : Nat) (w : World) (hx : SlI w w.heap.size a0 fs) (hl : fs.length ≤ 1048576) :
    Calls Tryd.prog 103 #[.agg #[.int .i64 V, .slice a0 fs.length cap], .int .i64 (h : Int)] w fun e w' => e = .returned (.bool (cnt fs h)) ∧ Below w.heap.size w w' := by
  obtain ⟨W0, hW0⟩ : ∃ W0, W0 = w.alloc (.cells #[.int .i64 V, .slice a0 fs.length cap] 28) := ⟨_, rfl⟩
  have hB0 : Below w.heap.size w W0 := by rw [hW0]; exact (Below.refl _ w).alloc (Nat.le_refl _) _
  have HB0 := hid hB0
  have HH := hid (has_any V (h : Int) a0 cap fs W0 (hx.later hB0 hB0.size) hl)
  rw [hW0] at HH
  clear hx hB0
  by_cases h0 : h = 0
  · subst h0
    go_enter Tryd.func103, Tryd.ntmps103
    go_wp2_with fail
    go_ret
    rw [← hW0]
    exact ⟨rfl, HB0.out⟩
  · have hd : ((h : Int) == 0) = false := by simpa using h0
    have Hc : Hid (cnt fs h = decide ((h : Int) ∈ fs)) := hid (by unfold cnt; simp [h0])
    clear h0
    go_enter Tryd.func103, Tryd.ntmps103
    go_wp2_with fail
    refine HH.out.mono ?_
    rintro e w1 ⟨rfl, hB1⟩
    rw [← hW0] at hB1
    have HB1 := hid (HB0.out.trans (hB1.mono HB0.out.size))
    clear hB1
    go_wp2_with fail
    go_ret
    exact ⟨ret_bool Hc.out.symm, HB1.out⟩

/-- What the model is told: 1: all count, 0: none does. -/
def toldI (fs : List Int) (V a o : Nat) : Int := if allC fs V a o then 1 else if noneC fs V a o then 0 else -1
theorem toldI_neg {fs : List Int} {V a o : Nat} : decide (toldI fs V a o < 0) = !toldB fs V a o := by
  unfold toldI toldB
  cases allC fs V a o <;> cases noneC fs V a o <;> rfl
def someTo (fs : List Int) (V a o k : Nat) : Bool := (List.range k).any fun h => inS V a o h && cnt fs h
def allTo (fs : List Int) (V a o k : Nat) : Bool := (List.range k).all fun h => !inS V a o h || cnt fs h
theorem someTo_succ (fs : List Int) (V a o k : Nat) : someTo fs V a o (k + 1) = (someTo fs V a o k || (inS V a o k && cnt fs k)) := by unfold someTo; rw [List.range_succ, List.any_append]; simp
theorem allTo_succ (fs : List Int) (V a o k : Nat) : allTo fs V a o (k + 1) = (allTo fs V a o k && (!inS V a o k || cnt fs k)) := by unfold allTo; rw [List.range_succ, List.all_append]; simp
theorem allTo_full {fs : List Int} {V a o : Nat} (hV : V ≤ 6) : allTo fs V a o (2 ^ V) = allC fs V a o := by
  rw [Bool.eq_iff_iff, allC_iff hV]
  unfold allTo
  rw [List.all_eq_true]
  constructor
  · intro H h hi
    have := H h (by simpa using (inS_iff.1 hi).1)
    simpa [hi] using this
  · intro H h _
    cases e : inS V a o h
    · simp
    · simp [H h e]
theorem someTo_full {fs : List Int} {V a o : Nat} (hV : V ≤ 6) : someTo fs V a o (2 ^ V) = !noneC fs V a o := by
  have h1 : noneC fs V a o = !someTo fs V a o (2 ^ V) := by
    rw [Bool.eq_iff_iff, noneC_iff hV]
    unfold someTo
    rw [Bool.not_eq_true', List.any_eq_false]
    constructor
    · intro H h _
      cases e : inS V a o h
      · simp
      · simp [H h e]
    · intro H h hi
      have := H h (by simpa using (inS_iff.1 hi).1)
      simpa [hi] using this
  rw [h1, Bool.not_not]

set_option maxRecDepth 100000 in
set_option maxHeartbeats 2000000 in
theorem toldS_any (V : Nat) (a0 : Option Addr) (cap : Nat) (fs : List Int) (a o : Nat) (w : World) (hx : SlI w w.heap.size a0 fs) (hl : fs.length ≤ 1048576) (h6 : V ≤ 6) (ha : a < 64) (ho : o < 64) :
    Calls Tryd.prog 84 #[.agg #[.int .i64 (V : Int), .slice a0 fs.length cap], .int .i64 (a : Int), .int .i64 (o : Int)] w fun e w' => e = .returned (.int .i64 (toldI fs V a o)) ∧ Below w.heap.size w w' := by
  obtain ⟨W0, hW0⟩ : ∃ W0, W0 = w.alloc (.cells #[.int .i64 (V : Int), .slice a0 fs.length cap] 28) := ⟨_, rfl⟩
  have hB0 : Below w.heap.size w W0 := by rw [hW0]; exact (Below.refl _ w).alloc (Nat.le_refl _) _
  have Hk : Hid (W0.heap[w.heap.size]? = some (.cells #[.int .i64 (V : Int), .slice a0 fs.length cap] 28 (0, 0))) := hid (by rw [hW0]; exact heap_alloc_new _ _)
  have HB0 := hid hB0
  have HC := hid (fun W (h : Below w.heap.size w W) x => counts_any (V : Int) a0 cap fs x W (hx.later h h.size) hl)
  have hP64 : 2 ^ V ≤ 64 := show 2 ^ V ≤ 2 ^ 6 from Nat.pow_le_pow_right (by decide) h6
  have hsh : wrap64 (2 ^ V) = ((2 ^ V : Nat) : Int) := by
    rw [wrap64, show ((2 : Int) ^ V) = ((2 ^ V : Nat) : Int) by simp]
    generalize 2 ^ V = z at hP64
    omega
  have HA := hid (allTo_full (fs := fs) (V := V) (a := a) (o := o) h6)
  have HN := hid (someTo_full (fs := fs) (V := V) (a := a) (o := o) h6)
  have HR : Hid (toldI fs V a o = if allC fs V a o then 1 else if noneC fs V a o then 0 else -1) := hid rfl
  obtain ⟨R, hR⟩ : ∃ R, R = toldI fs V a o := ⟨_, rfl⟩
  rw [← hR] at HR ⊢
  clear hR
  obtain ⟨P, hP⟩ : ∃ P, P = 2 ^ V := ⟨_, rfl⟩
  have Hi : Hid (∀ h, h < P → inS V a o h = ((h &&& a == a) && (h &&& o == 0))) := hid (fun h hh => by unfold inS; rw [decide_eq_true (by rw [← hP]; exact hh), Bool.true_and])
  rw [← hP] at hsh hP64 HA HN
  have hV0 : (0 : Int) ≤ (V : Int) := by omega
  clear hx hB0 hP
  go_enter Tryd.func84, Tryd.ntmps84
  go_wp2_with fail
  rw [← hW0]
  clear hW0
  go_loopw [7, 8, 9] (fun sv av iv wx => ∃ k : Nat, k ≤ P ∧ sv = .bool (someTo fs V a o k) ∧ av = .bool (allTo fs V a o k) ∧ iv = .int .i64 (k : Int) ∧ Hid (Below w.heap.size w wx) ∧ Hid (wx.heap[w.heap.size]? = some (.cells #[.int .i64 (V : Int), .slice a0 fs.length cap] 28 (0, 0)))) (fun _ _ iv _ => P - (RowKit.intOf iv).toNat)
  case atStart => exact ⟨0, Nat.zero_le _, rfl, rfl, rfl, HB0, Hk⟩
  case round =>
    clear HB0 Hk
    obtain ⟨k, hk, rfl, rfl, rfl, HB, Hk⟩ := hrel
    obtain ⟨k0, k1, _, _⟩ := two_of Hk.out
    by_cases hlt : k < P
    · have hj1 : (k : Int) < (P : Int) := by omega
      have hin := Hi.out k hlt
      have e1 := and_int6 (show k < 64 by omega) ha
      have e2 := and_int6 (show k < 64 by omega) ho
      have HS1 := hid (someTo_succ fs V a o k)
      have HS2 := hid (allTo_succ fs V a o k)
      obtain ⟨s, hs⟩ : ∃ s, s = someTo fs V a o k := ⟨_, rfl⟩
      obtain ⟨t, ht⟩ : ∃ t, t = allTo fs V a o k := ⟨_, rfl⟩
      rw [← hs] at HS1 ⊢
      rw [← ht] at HS2 ⊢
      rw [hin] at HS1 HS2
      clear hin hs ht
      obtain ⟨x1, hx1⟩ : ∃ x, x = k &&& a := ⟨_, rfl⟩
      obtain ⟨x2, hx2⟩ : ∃ x, x = k &&& o := ⟨_, rfl⟩
      rw [← hx1] at e1 HS1 HS2
      rw [← hx2] at e2 HS1 HS2
      clear hx1 hx2
      by_cases h1 : x1 = a
      · have hd1 : ((x1 : Int) != (a : Int)) = false := by simp [h1]
        by_cases h2 : x2 = 0
        · subst h2
          have Hn1 : Hid (someTo fs V a o (k + 1) = (s || cnt fs k)) := hid (by rw [HS1.out, h1]; simp)
          have Hn2 : Hid (allTo fs V a o (k + 1) = (t && cnt fs k)) := hid (by rw [HS2.out, h1]; simp)
          have HCk := hid (HC.out wr HB.out k)
          obtain ⟨c, hc⟩ : ∃ c, c = cnt fs k := ⟨_, rfl⟩
          rw [← hc] at Hn1 Hn2 HCk
          clear h1 hc HS1 HS2
          go_wp2_with fail
          refine HCk.out.mono ?_
          rintro e w2 ⟨rfl, hB2⟩
          have HB2 := hid (HB.out.trans (hB2.mono HB.out.size))
          have Hk2 := hid ((hB2.block _ (lt_get Hk.out)).trans Hk.out)
          clear hB2 k0 k1
          cases c
          · go_wp2_with fail
            go_roundw
            case rel => exact ⟨k + 1, by omega, by rw [Hn1.out, Bool.or_false], by rw [Hn2.out, Bool.and_false], by go_num, HB2, Hk2⟩
            case measure => simp [RowKit.intOf]; omega
          · go_wp2_with fail
            go_roundw
            case rel => exact ⟨k + 1, by omega, by rw [Hn1.out, Bool.or_true], by rw [Hn2.out, Bool.and_true], by go_num, HB2, Hk2⟩
            case measure => simp [RowKit.intOf]; omega
        · have hd2 : ((x2 : Int) != 0) = true := by simpa using h2
          have Hn1 : Hid (someTo fs V a o (k + 1) = s) := hid (by rw [HS1.out]; simp [h2])
          have Hn2 : Hid (allTo fs V a o (k + 1) = t) := hid (by rw [HS2.out]; simp [h2])
          clear h1 h2 HS1 HS2
          go_wp2_with fail
          go_roundw
          case rel => exact ⟨k + 1, by omega, by rw [Hn1.out], by rw [Hn2.out], by go_num, HB, Hk⟩
          case measure => simp [RowKit.intOf]; omega
      · have hd1 : ((x1 : Int) != (a : Int)) = true := by simp; omega
        have Hn1 : Hid (someTo fs V a o (k + 1) = s) := hid (by rw [HS1.out]; simp [h1])
        have Hn2 : Hid (allTo fs V a o (k + 1) = t) := hid (by rw [HS2.out]; simp [h1])
        clear h1 HS1 HS2
        go_wp2_with fail
        go_roundw
        case rel => exact ⟨k + 1, by omega, by rw [Hn1.out], by rw [Hn2.out], by go_num, HB, Hk⟩
        case measure => simp [RowKit.intOf]; omega
    · obtain rfl : k = P := by omega
      rw [HA.out, HN.out]
      cases h1 : allC fs V a o
      · rw [h1] at HR
        cases h2 : noneC fs V a o
        · rw [h2] at HR
          clear h1 h2
          go_wp2_with fail
          go_ret
          exact ⟨ret_int HR.out.symm, HB.out⟩
        · rw [h2] at HR
          clear h1 h2
          go_wp2_with fail
          go_ret
          exact ⟨ret_int HR.out.symm, HB.out⟩
      · rw [h1] at HR
        clear h1
        go_wp2_with fail
        go_ret
        exact ⟨ret_int HR.out.symm, HB.out⟩

set_option maxHeartbeats 400000 in
theorem place_any (a o : Nat) (w : World) (ha : a < 64) (ho : o < 64) :
    Calls Tryd.prog 83 #[.int .i64 (a : Int), .int .i64 (o : Int)] w fun e w' => e = .returned (.int .i64 ((a * 64 + o : Nat) : Int)) ∧ w = w' := by
  go_enter Tryd.func83, Tryd.ntmps83
  go_wp2_with fail
  go_ret
  refine ⟨ret_int ?_, by trivial⟩
  first | omega | (simp only [wrap64]; omega) | (simp only [IntKind.wrap_i64]; omega)

/-- The table, laid with -1 up to place k. -/
def laidT (k : Nat) : List Int := List.replicate k (-1) ++ List.replicate (4096 - k) 0
theorem laidT_len {k : Nat} (h : k ≤ 4096) : (laidT k).length = 4096 := by unfold laidT; simp; omega
theorem laidT_set {k : Nat} (h : k < 4096) : ((laidT k).map (Value.int .i64)).set k (.int .i64 (-1)) = (laidT (k + 1)).map (Value.int .i64) := by
  rw [← List.map_set]
  congr 1
  unfold laidT
  rw [show 4096 - k = (4096 - (k + 1)) + 1 by omega, List.replicate_succ, List.set_append_right _ _ (by simp)]
  simp
  rw [List.replicate_succ', List.append_assoc]
  rfl

set_option maxRecDepth 100000 in
set_option maxHeartbeats 1000000 in
theorem table_any (w : World) : Calls Tryd.prog 50 #[] w fun e w' => ∃ g, e = .returned (.slice (some ⟨g, 0, none⟩) 4096 4096) ∧ Res w w' (.slice (some ⟨g, 0, none⟩) 4096 4096) (List.replicate 4096 (-1)) := by
  go_enter Tryd.func50, Tryd.ntmps50
  go_wp2_with (refine make_int (n := 4096) rfl rfl rfl rfl (by omega) ?_; intro w1 hown1 hg1 hB1)
  have H1 := hid hown1
  have HB1 := hid hB1
  clear hown1 hg1 hB1
  go_loopw [2] (fun iv wx => ∃ k : Nat, k ≤ 4096 ∧ iv = .int .i64 (k : Int) ∧ Hid (wx.ownsRow w.heap.size 2 1 (.slice (some ⟨w.heap.size, 0, none⟩) 4096 4096) 4096 ((laidT k).map (Value.int .i64))) ∧ Hid (Below w.heap.size w wx)) (fun iv _ => 4096 - (RowKit.intOf iv).toNat)
  case atStart => exact ⟨0, Nat.zero_le _, rfl, H1, HB1⟩
  case round =>
    clear H1 HB1
    obtain ⟨k, hk, rfl, HO, HB⟩ := hrel
    by_cases hlt : k < 4096
    · have hck := HO.out.cellAt k (by omega)
      have hfz := HO.out.frozenAt k
      have hst := HO.out.stored k (.int .i64 (-1))
      rw [laidT_set hlt] at hst
      have Hst := hid hst.1
      have HBa := hid (HB.out.grown hst.2 HB.out.size (fun r e => by cases e; exact Nat.le_refl _))
      rw [List.getElem?_map, List.getElem?_eq_getElem (by rw [laidT_len hk]; exact hlt)] at hck
      simp only [Option.map_some] at hck
      have hi0 : (0 : Int) ≤ (k : Int) := by omega
      have hi1 : (k : Int) < 4096 := by omega
      clear hst
      go_wp2_with fail
      go_roundw
      case rel => exact ⟨k + 1, by omega, by go_num, Hst, HBa⟩
      case measure => simp [RowKit.intOf]; omega
    · obtain rfl : k = 4096 := by omega
      go_wp2_with fail
      go_ret
      exact ⟨_, rfl, by have h := HO.out; unfold laidT at h; simpa using h, HB.out⟩

end Go.Proofs.YtgnahadlcihneaaDoor

/-! The model's table of known numbers, through calls that write into it. -/
namespace Go.Proofs.YtgnahadlcihneaaDoor
open Go.RowKit

/-- What is known is right. -/
def Vld (f : Nat → Nat → Nat → Nat) (V : Nat) (T : List Int) : Prop := T.length = 4096 ∧ ∀ m a o, St V m a o → T[a * 64 + o]?.getD 0 = -1 ∨ T[a * 64 + o]?.getD 0 = (f m a o : Int)
theorem vld_start (f : Nat → Nat → Nat → Nat) (V : Nat) : Vld f V (List.replicate 4096 (-1)) := ⟨List.length_replicate, fun m a o h => .inl (by
  have h1 := h.alt
  have h2 := h.olt
  rw [List.getElem?_replicate, if_pos (by omega)]
  rfl)⟩
theorem Vld.set {f : Nat → Nat → Nat → Nat} {V m a o : Nat} {T : List Int} (h : Vld f V T) (hs : St V m a o) : Vld f V (T.set (a * 64 + o) (f m a o : Int)) := ⟨by rw [List.length_set, h.1], fun m' a' o' hs' => by
  have h1 := hs.alt
  have h2 := hs.olt
  have h3 := hs'.alt
  have h4 := hs'.olt
  by_cases e : a * 64 + o = a' * 64 + o'
  · obtain rfl : a = a' := by omega
    obtain rfl : o = o' := by omega
    obtain rfl : m = m' := by have := hs.cnt; have := hs'.cnt; omega
    refine .inr ?_
    rw [List.getElem?_set_self (by rw [h.1]; omega)]
    rfl
  · rw [List.getElem?_set_ne e]
    exact h.2 m' a' o' hs'⟩

structure Tab (f : Nat → Nat → Nat → Nat) (V kb : Nat) (w W : World) : Prop where
  keep : w.grownBy W (some kb)
  tab : ∃ T, W.ownsRow 0 2 1 (.slice (some ⟨kb, 0, none⟩) 4096 4096) 4096 (T.map (Value.int .i64)) ∧ Vld f V T
theorem Tab.lt {f : Nat → Nat → Nat → Nat} {V kb : Nat} {w W : World} (h : Tab f V kb w W) : kb < W.heap.size := by
  obtain ⟨T, h1, _⟩ := h.tab
  exact (h1.lt kb rfl).2
theorem Tab.trans {f : Nat → Nat → Nat → Nat} {V kb : Nat} {w W W' : World} (h : Tab f V kb w W) (h' : Tab f V kb W W') : Tab f V kb w W' := ⟨h.keep.trans h'.keep, h'.tab⟩
theorem below_kept {w w' : World} (h : Below w.heap.size w w') (row : Option Nat) : w.grownBy w' row := ⟨h.os, h.tape, h.output, h.size, fun k hk _ => h.block k hk⟩
theorem Tab.below {f : Nat → Nat → Nat → Nat} {V kb : Nat} {w W W' : World} (h : Tab f V kb w W) (hB : Below W.heap.size W W') : Tab f V kb w W' := by
  obtain ⟨T, h1, h2⟩ := h.tab
  exact ⟨h.keep.trans (below_kept hB _), T, h1.kept (below_kept hB none) (.inr (by simp [Value.ownBlock])), h2⟩
theorem Tab.block {f : Nat → Nat → Nat → Nat} {V kb : Nat} {w W : World} (h : Tab f V kb w W) {k : Nat} {o : Obj} (hk : w.heap[k]? = some o) (hn : k ≠ kb) : W.heap[k]? = some o :=
  (h.keep.block k (lt_get hk) (by simpa using hn)).trans hk
theorem Tab.sl {f : Nat → Nat → Nat → Nat} {V kb : Nat} {w W : World} (h : Tab f V kb w W) {a : Option Addr} {xs : List Int} (hs : SlI w kb a xs) : SlI W kb a xs := by
  rcases hs with rfl | ⟨b, off, hb, rfl, hc⟩
  · exact .inl rfl
  · exact .inr ⟨b, off, hb, rfl, fun i hi => h.keep.cell (hc i hi) (by simp; omega)⟩
theorem Tab.look {f : Nat → Nat → Nat → Nat} {V kb m a o : Nat} {w W : World} (h : Tab f V kb w W) (hs : St V m a o) : ∃ t, W.cell? ⟨kb, a * 64 + o, none⟩ = some (.int .i64 t) ∧ W.frozen? ⟨kb, a * 64 + o, none⟩ = false ∧ (t = -1 ∨ t = (f m a o : Int)) := by
  obtain ⟨T, h1, h2⟩ := h.tab
  have ha := hs.alt
  have ho := hs.olt
  have hc := h1.cellAt (a * 64 + o) (by omega)
  rw [List.getElem?_map, List.getElem?_eq_getElem (by rw [h2.1]; omega)] at hc
  simp only [Option.map_some] at hc
  refine ⟨_, hc, h1.frozenAt _, ?_⟩
  have h3 := h2.2 m a o hs
  rw [List.getElem?_eq_getElem (by rw [h2.1]; omega)] at h3
  exact h3
theorem Tab.store {f : Nat → Nat → Nat → Nat} {V kb m a o : Nat} {w W : World} (h : Tab f V kb w W) (hs : St V m a o) : Tab f V kb w (W.setCell ⟨kb, a * 64 + o, none⟩ (.int .i64 (f m a o : Int))) := by
  obtain ⟨T, h1, h2⟩ := h.tab
  have hst := h1.stored (a * 64 + o) (.int .i64 (f m a o : Int))
  rw [← List.map_set] at hst
  exact ⟨h.keep.trans hst.2, _, hst.1, h2.set hs⟩

/-- .. and a box of the call's own. -/
structure TabX (f : Nat → Nat → Nat → Nat) (V kb : Nat) (s : Value) (w W : World) : Prop where
  tab : Tab f V kb w W
  box : W.heap[w.heap.size]? = some (.cells #[.int .i64 (V : Int), s] 28 (0, 0))
theorem TabX.c0 {f : Nat → Nat → Nat → Nat} {V kb : Nat} {s : Value} {w W : World} (h : TabX f V kb s w W) : W.cell? ⟨w.heap.size, 0, none⟩ = some (.int .i64 (V : Int)) := (two_of h.box).1
theorem TabX.c1 {f : Nat → Nat → Nat → Nat} {V kb : Nat} {s : Value} {w W : World} (h : TabX f V kb s w W) : W.cell? ⟨w.heap.size, 1, none⟩ = some s := (two_of h.box).2.1
theorem TabX.below {f : Nat → Nat → Nat → Nat} {V kb : Nat} {s : Value} {w W W' : World} (h : TabX f V kb s w W) (hB : Below W.heap.size W W') : TabX f V kb s w W' :=
  ⟨h.tab.below hB, (hB.block _ (lt_get h.box)).trans h.box⟩
theorem TabX.step {f : Nat → Nat → Nat → Nat} {V kb : Nat} {s : Value} {w W W' : World} (h : TabX f V kb s w W) (hk : kb < w.heap.size) (h' : Tab f V kb W W') : TabX f V kb s w W' :=
  ⟨h.tab.trans h', h'.block h.box (by omega)⟩
theorem TabX.drew {f : Nat → Nat → Nat → Nat} {V kb : Nat} {s : Value} {w W : World} (h : TabX f V kb s w W) : TabX f V kb s w W.drew := h.below ⟨rfl, rfl, rfl, Nat.le_refl _, fun _ _ => rfl⟩

theorem free_and {x v : Nat} : (x &&& 2 ^ v == 0) = !x.testBit v := by
  rw [Bool.eq_iff_iff]
  simp only [beq_iff_eq, Bool.not_eq_true']
  constructor
  · intro h
    have := congrArg (fun y => y.testBit v) h
    simpa [Nat.testBit_and, tb_two] using this
  · intro h
    apply Nat.eq_of_testBit_eq
    intro i
    rw [Nat.testBit_and, tb_two, Nat.zero_testBit]
    by_cases e : v = i
    · subst e; rw [h]; rfl
    · simp [e]

end Go.Proofs.YtgnahadlcihneaaDoor

/-! The model's number of questions that are needed. -/
namespace Go.Proofs.YtgnahadlcihneaaDoor
open Go.RowKit

theorem min_maxS {n1 n2 n3 : Nat} (h1 : n1 ≤ 1000) (h2 : n2 ≤ 1000) (_h3 : n3 ≤ 1000) : (if IntKind.i64.wrap (1 + if n1 < n2 then (n2 : Int) else (n1 : Int)) < (n3 : Int) then IntKind.i64.wrap (1 + if n1 < n2 then (n2 : Int) else (n1 : Int)) else (n3 : Int)) = ((min n3 (1 + max n1 n2) : Nat) : Int) := by
  have e : IntKind.i64.wrap (1 + if n1 < n2 then (n2 : Int) else (n1 : Int)) = ((1 + max n1 n2 : Nat) : Int) := by
    rw [IntKind.wrap_i64]
    split <;> omega
  rw [e]
  split <;> omega

set_option maxRecDepth 100000 in
set_option maxHeartbeats 4000000 in
theorem needS_round (V : Nat) (a0 : Option Addr) (cap : Nat) (fs : List Int) (kb m a o : Nat) (w : World) (hx : SlI w kb a0 fs) (hl : fs.length ≤ 1048576) (hs : St V m a o) (ht : Tab (need fs V) V kb w w)
    (H : ∀ k a' o' W, m = k + 1 → St V k a' o' → Tab (need fs V) V kb w W → Calls Tryd.prog 49 #[.agg #[.int .i64 (V : Int), .slice a0 fs.length cap], .int .i64 (a' : Int), .int .i64 (o' : Int), .slice (some ⟨kb, 0, none⟩) 4096 4096] W fun e W' => e = .returned (.int .i64 (need fs V k a' o' : Int)) ∧ Tab (need fs V) V kb W W') :
    Calls Tryd.prog 49 #[.agg #[.int .i64 (V : Int), .slice a0 fs.length cap], .int .i64 (a : Int), .int .i64 (o : Int), .slice (some ⟨kb, 0, none⟩) 4096 4096] w fun e w' => e = .returned (.int .i64 (need fs V m a o : Int)) ∧ Tab (need fs V) V kb w w' := by
  have h6 := hs.le
  have hkb := ht.lt
  obtain ⟨W0, hW0⟩ : ∃ W0, W0 = w.alloc (.cells #[.int .i64 (V : Int), .slice a0 fs.length cap] 28) := ⟨_, rfl⟩
  have hB0 : Below w.heap.size w W0 := by rw [hW0]; exact (Below.refl _ w).alloc (Nat.le_refl _) _
  have HX0 : Hid (TabX (need fs V) V kb (.slice a0 fs.length cap) w W0) := hid ⟨ht.below hB0, by rw [hW0]; exact heap_alloc_new _ _⟩
  have HP := hid (place_any a o W0 hs.alt hs.olt)
  obtain ⟨t, c0, f0, ht0⟩ := HX0.out.tab.look hs
  have Hs := hid hs
  have Hx := hid hx
  have HH := hid H
  have hat : a * 64 + o < 4096 := by have := hs.alt; have := hs.olt; omega
  obtain ⟨p, hp⟩ : ∃ p, p = a * 64 + o := ⟨_, rfl⟩
  have HSt := hid (fun W (h : Tab (need fs V) V kb w W) => h.store hs)
  have HLk := hid (fun W (h : Tab (need fs V) V kb w W) => h.look hs)
  rw [← hp] at c0 f0 HP hat
  rw [← hp] at HSt HLk
  have hi0 : (0 : Int) ≤ (p : Int) := by omega
  have hi1 : (p : Int) < 4096 := by omega
  rw [hW0] at HP
  have HT := hid (toldS_any V a0 cap fs a o W0 ((HX0.out.tab.sl hx).mono (by have := hB0.size; omega)) hl h6 hs.alt hs.olt)
  obtain ⟨R, hR⟩ : ∃ R, R = need fs V m a o := ⟨_, rfl⟩
  rw [← hR] at ht0 HSt HLk ⊢
  have HRe := hid hR
  clear hs hx H ht hB0 hp hR
  rcases ht0 with rfl | rfl
  · have htn := toldI_neg (fs := fs) (V := V) (a := a) (o := o)
    obtain ⟨ti, hti⟩ : ∃ ti, ti = toldI fs V a o := ⟨_, rfl⟩
    rw [← hti] at HT htn
    clear hti
    cases hb : toldB fs V a o
    · have hm : ∃ k, m = k + 1 := by
        cases m with
        | zero => rw [told_zero Hs.out] at hb; exact absurd hb (by decide)
        | succ k => exact ⟨k, rfl⟩
      obtain ⟨k, rfl⟩ := hm
      have HR := hid (HRe.out.trans (need_full (m := k) hb))
      rw [hb] at htn
      simp only [Bool.not_false] at htn
      clear hb HRe
      go_enter Tryd.func49, Tryd.ntmps49
      go_wp2_with fail
      refine HP.out.mono ?_
      rintro e w1 ⟨rfl, rfl⟩
      rw [← hW0]
      clear hW0
      have b0 := HX0.out.c0
      have b1 := HX0.out.c1
      go_wp2_with fail
      refine HT.out.mono ?_
      rintro e w1 ⟨rfl, hB1⟩
      have HX1 := hid (HX0.out.below hB1)
      clear hB1 b0 b1 c0 f0
      have b0 := HX1.out.c0
      have b1 := HX1.out.c1
      go_wp2_with fail
      clear b0 b1
      go_loopw [10, 11] (fun bv iv wx => ∃ j : Nat, j ≤ V ∧ bv = .int .i64 (needTo fs V k a o j : Int) ∧ iv = .int .i64 (j : Int) ∧ Hid (TabX (need fs V) V kb (.slice a0 fs.length cap) w wx)) (fun _ iv _ => V - (RowKit.intOf iv).toNat)
      case atStart => exact ⟨0, Nat.zero_le _, rfl, rfl, HX1⟩
      case round =>
        clear HX1 HX0
        obtain ⟨j, hj, rfl, rfl, HX⟩ := hrel
        have b0 := HX.out.c0
        have b1 := HX.out.c1
        by_cases hlt : j < V
        · have hj1 : (j : Int) < (V : Int) := by omega
          have hj0 : (0 : Int) ≤ (j : Int) := by omega
          have h2 : 2 ^ j < 64 := Nat.lt_of_lt_of_le (two_lt (show j < 6 by omega)) (by decide)
          have hsh : wrap64 (2 ^ j) = ((2 ^ j : Nat) : Int) := by
            rw [wrap64, show ((2 : Int) ^ j) = ((2 ^ j : Nat) : Int) by simp]
            generalize 2 ^ j = z at h2
            omega
          have hor := or_int6 Hs.out.alt Hs.out.olt
          have hand := and_int6 Hs.out.olt2 h2
          have hfa := free_and (x := a ||| o) (v := j)
          have ho1 := or_int6 Hs.out.alt h2
          have ho2 := or_int6 Hs.out.olt h2
          have hN := needTo_succ fs V k a o j
          cases hf : (a ||| o).testBit j
          · obtain ⟨k', hk', s1, s2⟩ := Hs.out.step hlt hf
            obtain rfl : k' = k := by omega
            have HR1 := hid (fun W (h : TabX (need fs V) V kb (.slice a0 fs.length cap) w W) => (HH.out k' _ _ W rfl s1 h.tab).mono fun _ _ ⟨he, h'⟩ => And.intro he (h.step hkb h'))
            have HR2 := hid (fun W (h : TabX (need fs V) V kb (.slice a0 fs.length cap) w W) => (HH.out k' _ _ W rfl s2 h.tab).mono fun _ _ ⟨he, h'⟩ => And.intro he (h.step hkb h'))
            rw [hf, if_neg (by decide)] at hN
            have HN := hid hN
            have hq1 := need_le fs V k' (a ||| 2 ^ j) o
            have hq2 := need_le fs V k' a (o ||| 2 ^ j)
            have hq3 := needTo_le fs V k' a o j
            obtain ⟨n1, hn1⟩ : ∃ n, n = need fs V k' (a ||| 2 ^ j) o := ⟨_, rfl⟩
            obtain ⟨n2, hn2⟩ : ∃ n, n = need fs V k' a (o ||| 2 ^ j) := ⟨_, rfl⟩
            obtain ⟨n3, hn3⟩ : ∃ n, n = needTo fs V k' a o j := ⟨_, rfl⟩
            rw [← hn1] at HR1 HN hq1
            rw [← hn2] at HR2 HN hq2
            rw [← hn3] at HN hq3 ⊢
            rw [hf] at hfa
            obtain ⟨z, hz⟩ : ∃ z, z = 2 ^ j := ⟨_, rfl⟩
            obtain ⟨y, hy⟩ : ∃ y, y = (a ||| o) &&& z := ⟨_, rfl⟩
            rw [← hz] at hsh hand hfa ho1 ho2 HR1 HR2
            rw [← hy] at hand hfa
            have hd : ((y : Int) == 0) = true := by simpa using hfa
            have HD := hid HX.out.drew
            clear hf hk' s1 s2 hn1 hn2 hn3 hfa hN hz hy h2
            go_wp2_with fail
            go_region_held3 (fun w' => w'.cell? ⟨w.heap.size, 0, none⟩ = some (.int .i64 (V : Int)) ∧ w'.cell? ⟨w.heap.size, 1, none⟩ = some (.slice a0 fs.length cap)) (go_keep) (first
              | (go_at_call 49; have hz := HD1.out; clear HD1; refine (HR2.out _ hz).mono ?_; rintro e w5 ⟨rfl, hd⟩; have n50 := hd.c0; have n51 := hd.c1; have HD2 := hid hd; clear hd hz)
              | (go_at_call 49; refine (HR1.out _ HD.out).mono ?_; rintro e w4 ⟨rfl, hd⟩; have n40 := hd.c0; have n41 := hd.c1; have HD1 := hid hd; clear hd)
              | fail)
            go_wp2_with fail
            go_roundw
            case rel => exact ⟨j + 1, by omega, by rw [HN.out]; exact congrArg _ (min_maxS (by omega) (by omega) (by omega)), by go_num, HD2⟩
            case measure => simp [RowKit.intOf]; omega
          · rw [hf, if_pos rfl] at hN
            have HN := hid hN
            rw [hf] at hfa
            obtain ⟨z, hz⟩ : ∃ z, z = 2 ^ j := ⟨_, rfl⟩
            obtain ⟨y, hy⟩ : ∃ y, y = (a ||| o) &&& z := ⟨_, rfl⟩
            rw [← hz] at hsh hand hfa
            rw [← hy] at hand hfa
            have hd : ((y : Int) == 0) = false := by simpa using hfa
            clear hf hfa hN hz hy h2 ho1 ho2
            go_wp2_with fail
            go_roundw
            case rel => exact ⟨j + 1, by omega, by rw [HN.out], by go_num, HX⟩
            case measure => simp [RowKit.intOf]; omega
        · obtain rfl : j = V := by omega
          obtain ⟨t, c0, f0, _⟩ := HLk.out wr HX.out.tab
          rw [← HR.out]
          have HE := hid (HSt.out wr HX.out.tab)
          go_wp2_with fail
          go_ret
          exact ⟨rfl, HE.out⟩
    · have HR : Hid (R = 0) := hid (HRe.out.trans (need_told hb))
      rw [hb] at htn
      simp only [Bool.not_true] at htn
      obtain rfl := HR.out
      clear hb
      go_enter Tryd.func49, Tryd.ntmps49
      go_wp2_with fail
      refine HP.out.mono ?_
      rintro e w1 ⟨rfl, rfl⟩
      rw [← hW0]
      clear hW0
      have b0 := HX0.out.c0
      have b1 := HX0.out.c1
      go_wp2_with fail
      refine HT.out.mono ?_
      rintro e w1 ⟨rfl, hB1⟩
      have HX1 := hid (HX0.out.below hB1)
      clear hB1 b0 b1 c0 f0
      obtain ⟨t, c0, f0, _⟩ := HLk.out w1 HX1.out.tab
      have HE := hid (HSt.out w1 HX1.out.tab)
      go_wp2_with fail
      go_ret
      exact ⟨rfl, HE.out⟩
  · have hge : decide ((R : Int) ≥ 0) = true := decide_eq_true (by omega)
    go_enter Tryd.func49, Tryd.ntmps49
    go_wp2_with fail
    refine HP.out.mono ?_
    rintro e w1 ⟨rfl, rfl⟩
    rw [← hW0]
    clear hW0
    go_wp2_with fail
    go_ret
    exact ⟨rfl, HX0.out.tab⟩

theorem needS_any (V : Nat) (a0 : Option Addr) (cap : Nat) (fs : List Int) (kb : Nat) (hl : fs.length ≤ 1048576) : ∀ (m a o : Nat) (w : World), SlI w kb a0 fs → St V m a o → Tab (need fs V) V kb w w →
    Calls Tryd.prog 49 #[.agg #[.int .i64 (V : Int), .slice a0 fs.length cap], .int .i64 (a : Int), .int .i64 (o : Int), .slice (some ⟨kb, 0, none⟩) 4096 4096] w fun e w' => e = .returned (.int .i64 (need fs V m a o : Int)) ∧ Tab (need fs V) V kb w w'
  | 0, a, o, w, hx, hs, ht => needS_round V a0 cap fs kb 0 a o w hx hl hs ht (fun k _ _ _ h => absurd h (by omega))
  | m + 1, a, o, w, hx, hs, ht => needS_round V a0 cap fs kb (m + 1) a o w hx hl hs ht (fun k a' o' W h h1 h2 => by
    obtain rfl : k = m := by omega
    exact needS_any V a0 cap fs kb hl k a' o' W (h2.sl hx) h1 ⟨.refl _ _, h2.tab⟩)

theorem own_zero {w : World} {base e size n : Nat} {v : Value} {xs : List Value} (h : w.ownsRow base e size v n xs) : w.ownsRow 0 e size v n xs := by
  refine ⟨h.1, ?_⟩
  rcases h.2 with hn | ⟨g, cap, cur, hv, _, rest⟩
  · exact .inl hn
  · exact .inr ⟨g, cap, cur, hv, Nat.zero_le _, rest⟩
/-- A new table: nothing is known. -/
theorem tab_new {f : Nat → Nat → Nat → Nat} {V g : Nat} {w W : World} (h : Res w W (.slice (some ⟨g, 0, none⟩) 4096 4096) (List.replicate 4096 (-1))) : Tab f V g W W := ⟨.refl _ _, _, by
  have h1 := h.1
  rw [List.length_replicate] at h1
  exact own_zero h1, vld_start f V⟩
theorem tab_base {g : Nat} {w W : World} (h : Res w W (.slice (some ⟨g, 0, none⟩) 4096 4096) (List.replicate 4096 (-1))) : w.heap.size ≤ g := (h.1.lt g rfl).1
/-- A table of a caller's own, beside its box. -/
structure TabN (f : Nat → Nat → Nat → Nat) (V g : Nat) (s : Value) (w W : World) : Prop where
  below : Below w.heap.size w W
  lt : w.heap.size < g
  tab : Tab f V g W W
  box : W.heap[w.heap.size]? = some (.cells #[.int .i64 (V : Int), s] 28 (0, 0))
theorem TabN.c0 {f : Nat → Nat → Nat → Nat} {V g : Nat} {s : Value} {w W : World} (h : TabN f V g s w W) : W.cell? ⟨w.heap.size, 0, none⟩ = some (.int .i64 (V : Int)) := (two_of h.box).1
theorem TabN.c1 {f : Nat → Nat → Nat → Nat} {V g : Nat} {s : Value} {w W : World} (h : TabN f V g s w W) : W.cell? ⟨w.heap.size, 1, none⟩ = some s := (two_of h.box).2.1
theorem TabN.step {f : Nat → Nat → Nat → Nat} {V g : Nat} {s : Value} {w W W' : World} (h : TabN f V g s w W) (h' : Tab f V g W W') : TabN f V g s w W' :=
  ⟨h.below.grown h'.keep h.below.size (fun k e => by cases e; exact Nat.le_of_lt h.lt), h.lt, ⟨.refl _ _, h'.tab⟩, h'.block h.box (by have := h.lt; omega)⟩
theorem TabN.more {f : Nat → Nat → Nat → Nat} {V g : Nat} {s : Value} {w W W' : World} (h : TabN f V g s w W) (h' : Below W.heap.size W W') : TabN f V g s w W' := h.step ((Tab.below ⟨.refl _ _, h.tab.tab⟩ h'))
theorem TabN.sl {f : Nat → Nat → Nat → Nat} {V g : Nat} {s : Value} {w W : World} (h : TabN f V g s w W) {a : Option Addr} {xs : List Int} (hs : SlI w w.heap.size a xs) : SlI W g a xs := (hs.below h.below).mono (Nat.le_of_lt h.lt)
theorem tableN_any (f : Nat → Nat → Nat → Nat) (V : Nat) (s : Value) (w W : World) (hB : Below w.heap.size w W) (hk : W.heap[w.heap.size]? = some (.cells #[.int .i64 (V : Int), s] 28 (0, 0))) :
    Calls Tryd.prog 50 #[] W fun e W' => ∃ g, e = .returned (.slice (some ⟨g, 0, none⟩) 4096 4096) ∧ TabN f V g s w W' :=
  (table_any W).mono fun _ _ ⟨g, he, hr⟩ => ⟨g, he, hB.trans (hr.2.mono hB.size), Nat.lt_of_lt_of_le (lt_get hk) (tab_base hr), tab_new hr, (hr.2.block _ (lt_get hk)).trans hk⟩

end Go.Proofs.YtgnahadlcihneaaDoor

/-! The program's games: what is told, what is left behind an answer. -/
namespace Go.Proofs.YtgnahadlcihneaaDoor
open Go.RowKit Go.Sort

/-- The table of the hidden sets that have a number. -/
def HidW (w : World) : Prop := ∀ i, i < 6 → w.cell? ⟨0, i, none⟩ = some (.int .u64 (wN i : Int))
theorem below_dn' (w : World) (n : Nat) : Below w.heap.size w (w.drewN n) := ⟨rfl, rfl, rfl, Nat.le_refl _, fun _ _ => rfl⟩
theorem HidW.lt {w : World} (h : HidW w) : 0 < w.heap.size := World.block_lt_of_cell? w _ (h 0 (by decide))
theorem HidW.later {w W : World} {B : Nat} (h : HidW w) (hB : Below B w W) (hb : w.heap.size ≤ B) : HidW W := fun i hi => (hB.cell (p := ⟨0, i, none⟩) (Nat.lt_of_lt_of_le h.lt hb)).trans (h i hi)

set_option maxRecDepth 100000 in
set_option maxHeartbeats 1000000 in
theorem told_any (V : Int) (C L : Nat) (w : World) (hC : C < 2 ^ 64) (hL : L < 2 ^ 64) :
    Calls Tryd.prog 86 #[.agg #[.int .i64 V, .int .u64 (C : Int)], .int .u64 (L : Int)] w fun e w' => e = .returned (.bool ((L &&& C == 0) || (andN L C == 0))) ∧ Below w.heap.size w w' := by
  have hB : Below w.heap.size w (w.alloc (.cells #[.int .i64 V, .int .u64 (C : Int)] 58)) := (Below.refl _ w).alloc (Nat.le_refl _) _
  have e1 := and_u64 hL hC
  have e2 := andN_u64 hL hC
  have HB := hid hB
  obtain ⟨x, hx⟩ : ∃ x, x = L &&& C := ⟨_, rfl⟩
  obtain ⟨y, hy⟩ : ∃ y, y = andN L C := ⟨_, rfl⟩
  rw [← hx] at e1 ⊢
  rw [← hy] at e2 ⊢
  clear hB hx hy hC hL
  by_cases h0 : x = 0
  · subst h0
    go_enter Tryd.func86, Tryd.ntmps86
    go_wp2_with fail
    go_ret
    exact ⟨rfl, HB.out⟩
  · have hd : ((x : Int) == 0) = false := by simpa using h0
    have Hn : Hid ((x == 0) = false) := hid (by simpa using h0)
    have Hy : Hid (((y : Int) == 0) = (y == 0)) := hid (by rw [Bool.eq_iff_iff]; simp)
    clear h0
    go_enter Tryd.func86, Tryd.ntmps86
    go_wp2_with fail
    go_ret
    exact ⟨ret_bool (by rw [Hn.out, Bool.false_or, ← Hy.out]), HB.out⟩

set_option maxRecDepth 100000 in
set_option maxHeartbeats 1000000 in
theorem split_any (L v : Nat) (w : World) (hL : L < 2 ^ 64) (hv : v < 6) (hW : HidW w) :
    Calls Tryd.prog 75 #[.int .u64 (L : Int), .int .i64 (v : Int)] w fun e w' => e = .returned (.tuple #[.int .u64 (andN L (wN v) : Int), .int .u64 ((L &&& wN v : Nat) : Int)]) ∧ Below w.heap.size w w' := by
  have e1 := and_u64 hL (wN_lt ⟨v, hv⟩)
  have e2 := andN_u64 hL (wN_lt ⟨v, hv⟩)
  simp only at e1 e2
  have c0 := hW v hv
  obtain ⟨x, hx⟩ : ∃ x, x = wN v := ⟨_, rfl⟩
  rw [← hx] at e1 e2 c0 ⊢
  have hi0 : (0 : Int) ≤ (v : Int) := by omega
  have hi1 : (v : Int) < 6 := by omega
  clear hx hW hL
  go_enter Tryd.func75, Tryd.ntmps75
  go_wp2_with fail
  go_quiet (fail)
  go_wp2_with fail
  go_ret2
  exact ⟨rfl, below_dn' w _⟩

end Go.Proofs.YtgnahadlcihneaaDoor

/-! The program's number of questions that are needed. -/
namespace Go.Proofs.YtgnahadlcihneaaDoor
open Go.RowKit Go.Sort

theorem min_max {n1 n2 n3 : Nat} (h1 : n1 ≤ 1000) (h2 : n2 ≤ 1000) (_h3 : n3 ≤ 1000) : (if IntKind.i64.wrap (1 + if n2 < n1 then (n1 : Int) else (n2 : Int)) < (n3 : Int) then IntKind.i64.wrap (1 + if n2 < n1 then (n1 : Int) else (n2 : Int)) else (n3 : Int)) = ((min n3 (1 + max n1 n2) : Nat) : Int) := by
  have e : IntKind.i64.wrap (1 + if n2 < n1 then (n1 : Int) else (n2 : Int)) = ((1 + max n1 n2 : Nat) : Int) := by
    rw [IntKind.wrap_i64]
    split <;> omega
  rw [e]
  split <;> omega

set_option maxRecDepth 100000 in
set_option maxHeartbeats 4000000 in
theorem qn_round (fs : List Int) (V C : Nat) (hC : IsK fs C) (m a o L : Nat) (w : World) (hs : St V m a o) (hL : IsL V a o L) (hW : HidW w)
    (H : ∀ k a' o' L' W, m = k + 1 → St V k a' o' → IsL V a' o' L' → Below w.heap.size w W → Calls Tryd.prog 53 #[.agg #[.int .i64 (V : Int), .int .u64 (C : Int)], .int .u64 (L' : Int)] W fun e w' => e = .returned (.int .i64 (need fs V k a' o' : Int)) ∧ Below W.heap.size W w') :
    Calls Tryd.prog 53 #[.agg #[.int .i64 (V : Int), .int .u64 (C : Int)], .int .u64 (L : Int)] w fun e w' => e = .returned (.int .i64 (need fs V m a o : Int)) ∧ Below w.heap.size w w' := by
  have h6 := hs.le
  obtain ⟨W0, hW0⟩ : ∃ W0, W0 = w.alloc (.cells #[.int .i64 (V : Int), .int .u64 (C : Int)] 58) := ⟨_, rfl⟩
  have hB0 : Below w.heap.size w W0 := by rw [hW0]; exact (Below.refl _ w).alloc (Nat.le_refl _) _
  have Hk : Hid (W0.heap[w.heap.size]? = some (.cells #[.int .i64 (V : Int), .int .u64 (C : Int)] 58 (0, 0))) := hid (by rw [hW0]; exact heap_alloc_new _ _)
  have HT := hid (told_any (V : Int) C L W0 hC.1 hL.1)
  rw [hW0] at HT
  have ht : ((L &&& C == 0) || (andN L C == 0)) = toldB fs V a o := by rw [told_none h6 hL hC, told_all h6 hL hC]; unfold toldB; rw [Bool.or_comm]
  rw [ht] at HT
  have HB0 := hid hB0
  have Hs := hid hs
  have HL := hid hL
  have HW := hid hW
  have HH := hid H
  have Hwz := hid hW.lt
  clear hB0 ht hC hL hW H
  cases hb : toldB fs V a o
  · have hm : ∃ k, m = k + 1 := by
      cases m with
      | zero => rw [told_zero hs] at hb; exact absurd hb (by decide)
      | succ k => exact ⟨k, rfl⟩
    obtain ⟨k, rfl⟩ := hm
    have HR := hid (need_full (m := k) hb)
    obtain ⟨R, hR⟩ : ∃ R, R = need fs V (k + 1) a o := ⟨_, rfl⟩
    rw [← hR] at HR ⊢
    rw [hb] at HT
    clear hb hs hR
    go_enter Tryd.func53, Tryd.ntmps53
    go_wp2_with fail
    refine HT.out.mono ?_
    rintro e w1 ⟨rfl, hB1⟩
    rw [← hW0] at hB1
    have Hk1 := hid ((hB1.block _ (lt_get Hk.out)).trans Hk.out)
    have HB1 := hid (HB0.out.trans (hB1.mono HB0.out.size))
    obtain ⟨k0, k1, _, _⟩ := two_of Hk1.out
    clear hB1
    go_wp2_with fail
    clear k0 k1
    go_loopw [5, 16] (fun bv iv wx => ∃ j : Nat, j ≤ V ∧ bv = .int .i64 (needTo fs V k a o j : Int) ∧ iv = .int .i64 (j : Int) ∧ Hid (Below w1.heap.size w1 wx)) (fun _ iv _ => V - (RowKit.intOf iv).toNat)
    case atStart => exact ⟨0, Nat.zero_le _, rfl, rfl, hid (Below.refl _ _)⟩
    case round =>
      obtain ⟨j, hj, rfl, rfl, HB⟩ := hrel
      have HBw := hid (HB1.out.trans (HB.out.mono HB1.out.size))
      have Hkr := hid ((HB.out.block _ (lt_get Hk1.out)).trans Hk1.out)
      by_cases hlt : j < V
      · have HS := hid (split_any L j wr HL.out.1 (by omega) (HW.out.later HBw.out (Nat.le_refl _)))
        have hj1 : (j : Int) < (V : Int) := by omega
        cases hf : (a ||| o).testBit j
        · have hfr := split_free Hs.out HL.out hlt hf
          obtain ⟨k', hk', s1, s2⟩ := Hs.out.step hlt hf
          obtain rfl : k' = k := by omega
          have HC1 := hid (fun W (h : Below w.heap.size w W) => HH.out k' _ _ _ W rfl s2 (HL.out.no (v := j) (by omega)) h)
          have HC2 := hid (fun W (h : Below w.heap.size w W) => HH.out k' _ _ _ W rfl s1 (HL.out.yes (v := j) (by omega)) h)
          have HN : Hid (needTo fs V k' a o (j + 1) = min (needTo fs V k' a o j) (1 + max (need fs V k' (a ||| 2 ^ j) o) (need fs V k' a (o ||| 2 ^ j)))) := hid (by rw [needTo_succ, hf]; rfl)
          have hq1 := need_le fs V k' (a ||| 2 ^ j) o
          have hq2 := need_le fs V k' a (o ||| 2 ^ j)
          have hq3 := needTo_le fs V k' a o j
          obtain ⟨n1, hn1⟩ : ∃ n, n = need fs V k' (a ||| 2 ^ j) o := ⟨_, rfl⟩
          obtain ⟨n2, hn2⟩ : ∃ n, n = need fs V k' a (o ||| 2 ^ j) := ⟨_, rfl⟩
          obtain ⟨n3, hn3⟩ : ∃ n, n = needTo fs V k' a o j := ⟨_, rfl⟩
          obtain ⟨x1, hx1⟩ : ∃ x, x = andN L (wN j) := ⟨_, rfl⟩
          obtain ⟨x2, hx2⟩ : ∃ x, x = L &&& wN j := ⟨_, rfl⟩
          rw [← hn1] at HC2 HN hq1
          rw [← hn2] at HC1 HN hq2
          rw [← hn3] at HN hq3 ⊢
          rw [← hx1] at HC1 HS hfr
          rw [← hx2] at HC2 HS hfr
          have hd1 : ((x1 : Int) != 0) = true := by simpa using hfr.1
          have hd2 : ((x2 : Int) != 0) = true := by simpa using hfr.2
          clear hf hk' s1 s2 hn1 hn2 hn3 hx1 hx2 hfr
          go_wp2_with fail
          refine HS.out.mono ?_
          rintro e w2 ⟨rfl, hB2⟩
          have HB2 := hid (HB.out.trans (hB2.mono HB.out.size))
          have HBw2 := hid (HB1.out.trans (HB2.out.mono HB1.out.size))
          obtain ⟨k0, k1, _, _⟩ := two_of ((HB2.out.block _ (lt_get Hk1.out)).trans Hk1.out)
          have r0 := cell_regrown k0
          have r1 := cell_regrown k1
          have C1 := hid (fun d os => Calls.regrown_of (HC1.out (grow (redrawn w2 d) os) (HBw2.out.trans ((below_regrown w2 d os).mono HBw2.out.size))))
          have C2 := hid (fun d os => Calls.regrown_of (HC2.out (grow (redrawn w2 d) os) (HBw2.out.trans ((below_regrown w2 d os).mono HBw2.out.size))))
          clear hB2 k0 k1
          go_wp2_with fail
          refine wp_region_quiet_below (by kernel_rfl) (by kernel_rfl) ?_
          iterate 3 (with_reducible refine wpQuiet_step (fun K hK => ?_); have HK := hid hK; clear hK; go_simp; (first | with_reducible refine HK.out _ ?_ | (rw [if_neg (by decide)]; with_reducible refine HK.out _ ?_)); clear HK K)
          (with_reducible refine wpQuiet_step (fun K hK => ?_); have HK := hid hK; clear hK; go_simp; apply Exists.intro; with_reducible refine ⟨fun _ => ?_, HK.out _ ?_⟩; exact C1.out _ _; clear HK K)
          iterate 2 (with_reducible refine wpQuiet_step (fun K hK => ?_); have HK := hid hK; clear hK; go_simp; (first | with_reducible refine HK.out _ ?_ | (rw [if_neg (by decide)]; with_reducible refine HK.out _ ?_)); clear HK K)
          (with_reducible refine wpQuiet_step (fun K hK => ?_); have HK := hid hK; clear hK; go_simp; apply Exists.intro; with_reducible refine ⟨fun _ => ?_, HK.out _ ?_⟩; exact C2.out _ _; clear HK K)
          iterate 4 (with_reducible refine wpQuiet_step (fun K hK => ?_); have HK := hid hK; clear hK; go_simp; (first | with_reducible refine HK.out _ ?_ | (rw [if_neg (by decide)]; with_reducible refine HK.out _ ?_)); clear HK K)
          with_reducible refine wpQuiet_nil ?_
          intro _ hw'
          obtain ⟨⟨dq, osq⟩, hw''⟩ := hw'
          subst hw''
          go_wp2_with fail
          go_roundw
          case rel =>
            refine ⟨j + 1, by omega, ?_, by go_num, hid (HB2.out.trans ((below_regrown w2 dq osq).mono HB2.out.size))⟩
            rw [HN.out]
            exact congrArg _ (min_max (by omega) (by omega) (by omega))
          case measure => simp [RowKit.intOf]; omega
        · have hno := split_not Hs.out HL.out hlt hf
          have HN : Hid (needTo fs V k a o (j + 1) = needTo fs V k a o j) := hid (by rw [needTo_succ, hf]; rfl)
          obtain ⟨x1, hx1⟩ : ∃ x, x = andN L (wN j) := ⟨_, rfl⟩
          obtain ⟨x2, hx2⟩ : ∃ x, x = L &&& wN j := ⟨_, rfl⟩
          rw [← hx1] at HS hno
          rw [← hx2] at HS hno
          clear hf hx1 hx2
          by_cases h1 : x1 = 0
          · subst h1
            clear hno
            go_wp2_with fail
            refine HS.out.mono ?_
            rintro e w2 ⟨rfl, hB2⟩
            have HB2 := hid (HB.out.trans (hB2.mono HB.out.size))
            clear hB2
            go_wp2_with fail
            go_roundw
            case rel => exact ⟨j + 1, by omega, by rw [HN.out], by go_num, HB2⟩
            case measure => simp [RowKit.intOf]; omega
          · obtain rfl : x2 = 0 := by omega
            have hd1 : ((x1 : Int) != 0) = true := by simpa using h1
            clear hno h1
            go_wp2_with fail
            refine HS.out.mono ?_
            rintro e w2 ⟨rfl, hB2⟩
            have HB2 := hid (HB.out.trans (hB2.mono HB.out.size))
            clear hB2
            go_wp2_with fail
            go_roundw
            case rel => exact ⟨j + 1, by omega, by rw [HN.out], by go_num, HB2⟩
            case measure => simp [RowKit.intOf]; omega
      · obtain rfl : j = V := by omega
        go_wp2_with fail
        go_ret
        exact ⟨ret_int (by rw [HR.out]), HBw.out⟩
  · have HR : Hid (need fs V m a o = 0) := hid (need_told hb)
    rw [hb] at HT
    clear hb
    go_enter Tryd.func53, Tryd.ntmps53
    go_wp2_with fail
    refine HT.out.mono ?_
    rintro e w1 ⟨rfl, hB1⟩
    rw [← hW0] at hB1
    go_wp2_with fail
    go_ret
    exact ⟨ret_int (by rw [HR.out]; rfl), HB0.out.trans (hB1.mono HB0.out.size)⟩

theorem qn_any (fs : List Int) (V C : Nat) (hC : IsK fs C) : ∀ (m a o L : Nat) (w : World), St V m a o → IsL V a o L → HidW w →
    Calls Tryd.prog 53 #[.agg #[.int .i64 (V : Int), .int .u64 (C : Int)], .int .u64 (L : Int)] w fun e w' => e = .returned (.int .i64 (need fs V m a o : Int)) ∧ Below w.heap.size w w'
  | 0, a, o, L, w, hs, hL, hW => qn_round fs V C hC 0 a o L w hs hL hW (fun k _ _ _ _ h => absurd h (by omega))
  | m + 1, a, o, L, w, hs, hL, hW => qn_round fs V C hC (m + 1) a o L w hs hL hW (fun k a' o' L' W h h1 h2 hB => by
    obtain rfl : k = m := by omega
    exact qn_any fs V C hC k a' o' L' W h1 h2 (hW.later hB (Nat.le_refl _)))

/-- The hidden sets that count, as digits, over the first k faces. -/
def gameC (fs : List Int) : Nat → Nat
  | 0 => 1
  | k + 1 => gameC fs k ||| 2 ^ (fs[k]?.getD 0).toNat
theorem gameC_bit {fs : List Int} (hf : ∀ x ∈ fs, 1 ≤ x ∧ x ≤ 63) : ∀ k, k ≤ fs.length → gameC fs k < 2 ^ 64 ∧ ∀ h, (gameC fs k).testBit h = (h == 0 || decide ((h : Int) ∈ fs.take k))
  | 0, _ => ⟨(by decide : 1 < 2 ^ 64), fun h => by
    show (2 ^ 0).testBit h = _
    rw [tb_two]
    by_cases e : h = 0
    · subst e; rfl
    · have e2 : ¬ 0 = h := fun x => e x.symm
      simp [e, e2]⟩
  | k + 1, hk => by
    obtain ⟨h1, h2⟩ := gameC_bit hf k (by omega)
    have hx := hf _ (getD_mem (xs := fs) (show k < fs.length by omega))
    refine ⟨Nat.or_lt_two_pow h1 (Nat.pow_lt_pow_right (by decide) (by omega)), fun h => ?_⟩
    rw [gameC, Nat.testBit_or, h2, tb_two, take_snoc (by omega), Bool.eq_iff_iff]
    simp only [Bool.or_eq_true, decide_eq_true_eq, List.mem_append, List.mem_singleton, beq_iff_eq]
    constructor
    · rintro ((h | h) | h)
      · exact .inl h
      · exact .inr (.inl h)
      · exact .inr (.inr (by omega))
    · rintro (h | h | h)
      · exact .inl (.inl h)
      · exact .inl (.inr h)
      · exact .inr (by omega)
theorem gameC_is {fs : List Int} (hf : ∀ x ∈ fs, 1 ≤ x ∧ x ≤ 63) : IsK fs (gameC fs fs.length) := ⟨(gameC_bit hf _ (Nat.le_refl _)).1, fun h _ => by rw [(gameC_bit hf _ (Nat.le_refl _)).2, List.take_length]; rfl⟩

set_option maxRecDepth 100000 in
theorem load_game {w : World} {b o : Nat} {x y : Value} (h0 : w.cell? ⟨b, o, none⟩ = some x) (h1 : w.cell? ⟨b, o + 1, none⟩ = some y) :
    (loadVar 58 ⟨b, o, none⟩).run Tryd.prog w = .ok (.agg #[x, y]) w := by
  go_simp
set_option maxRecDepth 100000 in
theorem done_game {fn : Func} {R : Ending → World → Prop} {a : Act} {w : World} {p : Tmp} (hr : fn.results = #[.cell p 58]) (hd : a.defers = []) {b o : Nat} {x y : Value}
    (hp : a.tmps.getD p undef = .pointer (some ⟨b, o, none⟩)) (h0 : w.cell? ⟨b, o, none⟩ = some x) (h1 : w.cell? ⟨b, o + 1, none⟩ = some y) (hR : R (.returned (.agg #[x, y])) w) : bodyPost Tryd.prog fn R .ret a w := by
  refine bodyPost_ret (v := .agg #[x, y]) ?_ hd hR
  have hp' : a.tmps[p]?.getD undef = .pointer (some ⟨b, o, none⟩) := by simpa using hp
  simp [results, hr, hp', asAddr, load_game h0 h1]

set_option maxRecDepth 100000 in
set_option maxHeartbeats 2000000 in
theorem game_any (V : Int) (a0 : Option Addr) (cap : Nat) (fs : List Int) (w : World) (hx : SlI w w.heap.size a0 fs) (hl : fs.length ≤ 1048576) (hf : ∀ x ∈ fs, 1 ≤ x ∧ x ≤ 63) :
    Calls Tryd.prog 52 #[.agg #[.int .i64 V, .slice a0 fs.length cap]] w fun e w' => e = .returned (.agg #[.int .i64 V, .int .u64 (gameC fs fs.length : Int)]) ∧ Below w.heap.size w w' := by
  obtain ⟨W0, hW0⟩ : ∃ W0, W0 = (w.alloc (.cells #[.int .i64 V, .slice a0 fs.length cap] 28)).alloc (.cells #[.int .i64 0, .int .u64 0] 58) := ⟨_, rfl⟩
  have hB0 : Below w.heap.size w W0 := by rw [hW0]; exact ((Below.refl _ w).alloc (Nat.le_refl _) _).alloc (by simp) _
  have Hk : Hid (W0.heap[w.heap.size]? = some (.cells #[.int .i64 V, .slice a0 fs.length cap] 28 (0, 0))) := hid (by rw [hW0]; exact (Below.heap_alloc _ _ _ (by simp)).trans (heap_alloc_new _ _))
  have Hr : Hid (W0.heap[w.heap.size + 1]? = some (.cells #[.int .i64 0, .int .u64 0] 58 (0, 0))) := hid (by rw [hW0]; exact new2 _ _ _)
  have Hx := hid hx
  have HB0 := hid hB0
  have Hf := hid hf
  have HG := hid (fun k (h : k ≤ fs.length) => (gameC_bit hf k h).1)
  obtain ⟨k0, k1, _, _⟩ := two_of Hk.out
  clear hx hB0 hf
  go_enter Tryd.func52, Tryd.ntmps52
  go_wp2_with fail
  rw [← hW0]
  have HW0 := hid hW0
  clear k0 k1 hW0
  go_loopw [3, 9] (fun cv iv wx => ∃ k : Nat, k ≤ fs.length ∧ cv = .int .u64 (gameC fs k : Int) ∧ iv = .int .i64 (k : Int) ∧ wx = W0) (fun _ iv _ => fs.length - (RowKit.intOf iv).toNat)
  case atStart => exact ⟨0, Nat.zero_le _, rfl, rfl, rfl⟩
  case round =>
    obtain ⟨k, hk, rfl, rfl, rfl⟩ := hrel
    by_cases hlt : k < fs.length
    · obtain ⟨b, off, hb, rfl, hcl⟩ : ∃ b off, b < w.heap.size ∧ a0 = some ⟨b, off, none⟩ ∧ ∀ i, i < fs.length → w.cell? ⟨b, off + i, none⟩ = some (.int .i64 (fs[i]?.getD 0)) := by
        rcases Hx.out with h | h
        · rw [h] at hlt; simp at hlt
        · exact h
      have hxr := Hf.out _ (getD_mem hlt)
      have hsn : gameC fs (k + 1) = gameC fs k ||| 2 ^ (fs[k]?.getD 0).toNat := rfl
      obtain ⟨x, hxe⟩ : ∃ x : Nat, (x : Int) = fs[k]?.getD 0 := ⟨(fs[k]?.getD 0).toNat, by omega⟩
      have hck : wr.cell? ⟨b, off + k, none⟩ = some (.int .i64 (x : Int)) := by rw [hxe]; exact (HB0.out.cell (p := ⟨b, off + k, none⟩) hb).trans (hcl k hlt)
      rw [← hxe, Int.toNat_natCast] at hsn
      have hg := HG.out k hk
      obtain ⟨c, hc⟩ : ∃ c, c = gameC fs k := ⟨_, rfl⟩
      rw [← hc] at hsn hg ⊢
      have Hsn := hid hsn
      have hx64 : x < 64 := by omega
      have hp : (2 : Nat) ^ x < 2 ^ 64 := Nat.pow_lt_pow_right (by decide) hx64
      have hor := or_u64 hg hp
      have hsh : IntKind.u64.wrap (2 ^ x) = ((2 ^ x : Nat) : Int) := by
        rw [IntKind.wrap_u64, show ((2 : Int) ^ x) = ((2 ^ x : Nat) : Int) by simp]
        generalize 2 ^ x = z at hp
        omega
      obtain ⟨z, hz⟩ : ∃ z, z = 2 ^ x := ⟨_, rfl⟩
      rw [← hz] at hor hsn Hsn hsh
      have hi0 : (0 : Int) ≤ (k : Int) := by omega
      have hi1 : (k : Int) < (fs.length : Int) := by omega
      clear hcl hxe hsn hg hp hz hc hxr
      go_wp2_with fail
      go_roundw
      case rel => exact ⟨k + 1, by omega, by rw [Hsn.out], by go_num, by trivial⟩
      case measure => simp [RowKit.intOf]; omega
    · obtain rfl : k = fs.length := by omega
      obtain ⟨k0, k1, _, _⟩ := two_of Hk.out
      obtain ⟨r0, r1, g0, g1⟩ := two_of Hr.out
      go_wp2_with fail
      have R3 := two_of (two_set Hr.out (.int .i64 V) (.int .u64 (gameC fs fs.length : Int)))
      refine done_game (p := 2) (by kernel_rfl) rfl rfl R3.1 R3.2.1 ⟨rfl, ?_⟩
      exact (HB0.out.setCell (Nat.le_succ _) _).setCell (Nat.le_succ _) _

/-- All hidden sets of V numbers. -/
def allL (V : Nat) : Nat := 2 ^ 2 ^ V - 1
theorem allL_is {V : Nat} (hV : V ≤ 6) : IsL V 0 0 (allL V) := by
  have h64 : 2 ^ V ≤ 64 := show 2 ^ V ≤ 2 ^ 6 from Nat.pow_le_pow_right (by decide) hV
  refine ⟨?_, fun h _ => ?_⟩
  · unfold allL
    have h1 : 2 ^ 2 ^ V ≤ 2 ^ 64 := Nat.pow_le_pow_right (by decide) h64
    have h2 := Nat.two_pow_pos (2 ^ V)
    omega
  · unfold allL
    rw [Nat.testBit_two_pow_sub_one, Bool.eq_iff_iff, decide_eq_true_eq, inS_iff]
    simp
set_option maxRecDepth 100000 in
set_option maxHeartbeats 1000000 in
theorem allH_any (V : Nat) (w : World) (h1 : 1 ≤ V) (h2 : V ≤ 6) :
    Calls Tryd.prog 54 #[.int .i64 (V : Int)] w fun e w' => e = .returned (.int .u64 (allL V : Int)) ∧ w = w' := by
  have hc : V = 1 ∨ V = 2 ∨ V = 3 ∨ V = 4 ∨ V = 5 ∨ V = 6 := by omega
  clear h1 h2
  rcases hc with rfl | rfl | rfl | rfl | rfl | rfl
  all_goals
    go_enter Tryd.func54, Tryd.ntmps54
    go_wp2_with fail
    go_ret
    exact ⟨ret_int (by unfold allL; decide +kernel), rfl⟩

end Go.Proofs.YtgnahadlcihneaaDoor

/-! The program's least number of evaders: mathematics, and the number of digits 1. -/
namespace Go.Proofs.YtgnahadlcihneaaDoor
open Go.RowKit Go.Sort

def swar1 (x : Int) : Int := IntKind.u64.wrap (bits .and .u64 (x / 2) 6148914691236517205 + bits .and .u64 x 6148914691236517205)
def swar2 (x : Int) : Int := IntKind.u64.wrap (bits .and .u64 (x / 4) 3689348814741910323 + bits .and .u64 x 3689348814741910323)
def swar3 (x : Int) : Int := bits .and .u64 (IntKind.u64.wrap (x / 16 + x)) 1085102592571150095
def swar4 (x : Int) : Int := IntKind.u64.wrap (x + x / 256)
def swar5 (x : Int) : Int := IntKind.u64.wrap (x + x / 65536)
def swar6 (x : Int) : Int := IntKind.u64.wrap (x + x / 4294967296)
def swar7 (x : Int) : Int := bits .and .i64 (wrap64 x) 127
def swar (x : Int) : Int := swar7 (swar6 (swar5 (swar4 (swar3 (swar2 (swar1 x))))))
set_option maxRecDepth 100000 in
set_option maxHeartbeats 1000000 in
theorem oc_swar (x : Nat) (w : World) :
    Calls Tryd.prog 119 #[.int .u64 (x : Int)] w fun e w' => e = .returned (.int .i64 (swar (x : Int))) ∧ w = w' := by
  go_enter Tryd.func119, Tryd.ntmps119
  go_wp2
  go_ret
  exact ⟨rfl, by trivial⟩

/-- The hidden sets that are left, as digits. -/
def cubeN (V a o : Nat) : Nat → Nat
  | 0 => 0
  | k + 1 => if inS V a o k then cubeN V a o k ||| 2 ^ k else cubeN V a o k
theorem cubeN_bit (V a o : Nat) : ∀ k, k ≤ 64 → cubeN V a o k < 2 ^ 64 ∧ ∀ h, (cubeN V a o k).testBit h = (decide (h < k) && inS V a o h)
  | 0, _ => ⟨(by decide : 0 < 2 ^ 64), fun h => by simp [cubeN]⟩
  | k + 1, hk => by
    obtain ⟨h1, h2⟩ := cubeN_bit V a o k (by omega)
    unfold cubeN
    cases e : inS V a o k
    · refine ⟨by simpa using h1, fun h => ?_⟩
      rw [if_neg (by decide), h2, Bool.eq_iff_iff]
      simp only [Bool.and_eq_true, decide_eq_true_eq]
      constructor
      · rintro ⟨x, y⟩; exact ⟨by omega, y⟩
      · rintro ⟨x, y⟩
        by_cases hh : h = k
        · subst hh; rw [e] at y; exact absurd y (by decide)
        · exact ⟨by omega, y⟩
    · refine ⟨by rw [if_pos rfl]; exact Nat.or_lt_two_pow h1 (Nat.pow_lt_pow_right (by decide) (by omega)), fun h => ?_⟩
      rw [if_pos rfl, Nat.testBit_or, h2, tb_two, Bool.eq_iff_iff]
      simp only [Bool.or_eq_true, Bool.and_eq_true, decide_eq_true_eq]
      constructor
      · rintro (⟨x, y⟩ | x)
        · exact ⟨by omega, y⟩
        · subst x; exact ⟨by omega, e⟩
      · rintro ⟨x, y⟩
        by_cases hh : h = k
        · exact .inr hh.symm
        · exact .inl ⟨by omega, y⟩
theorem cube_eq {V a o L : Nat} (h : IsL V a o L) : L = cubeN V a o 64 := by
  obtain ⟨h1, h2⟩ := cubeN_bit V a o 64 (Nat.le_refl _)
  apply Nat.eq_of_testBit_eq
  intro i
  by_cases hi : i < 64
  · rw [h.2 i hi, h2, decide_eq_true hi, Bool.true_and]
  · rw [Nat.testBit_lt_two_pow (Nat.lt_of_lt_of_le h.1 (Nat.pow_le_pow_right (by decide) (by omega))), Nat.testBit_lt_two_pow (Nat.lt_of_lt_of_le h1 (Nat.pow_le_pow_right (by decide) (by omega)))]
def cubeOk (V a o : Nat) : Bool := !(a &&& o == 0 && decide (a ||| o < 2 ^ V)) || (swar (cubeN V a o 64 : Nat) == 1) == (ones (a ||| o) == V)
theorem cube_all : ∀ V : Fin 7, ∀ a : Fin 64, ∀ o : Fin 64, cubeOk V.val a.val o.val = true := by decide +kernel
theorem pop_one {V m a o L : Nat} (hs : St V m a o) (h : IsL V a o L) : (swar (L : Int) == 1) = (m == 0) := by
  have h6 := hs.le
  have h1 := cube_all ⟨V, by omega⟩ ⟨a, hs.alt⟩ ⟨o, hs.olt⟩
  simp only at h1
  have h2 : (a &&& o == 0) = true := by
    rw [beq_iff_eq]
    apply Nat.eq_of_testBit_eq
    intro i
    rw [Nat.testBit_and, Nat.zero_testBit]
    cases e : a.testBit i
    · rfl
    · rw [hs.dis i e]; rfl
  unfold cubeOk at h1
  rw [h2, decide_eq_true hs.lt, ← cube_eq h] at h1
  simp only [Bool.and_self, Bool.not_true, Bool.false_or, beq_iff_eq] at h1
  rw [h1, Bool.eq_iff_iff, beq_iff_eq, beq_iff_eq]
  have := hs.cnt
  omega

/-- The least of some numbers. -/
def minTo (f : Nat → Nat) (p : Nat → Bool) (b : Nat) (k : Nat) : Nat := (List.range k).foldl (fun b v => if p v then b else min b (f v)) b
theorem minTo_zero (f : Nat → Nat) (p : Nat → Bool) (b : Nat) : minTo f p b 0 = b := rfl
theorem minTo_succ (f : Nat → Nat) (p : Nat → Bool) (b k : Nat) : minTo f p b (k + 1) = if p k then minTo f p b k else min (minTo f p b k) (f k) := by
  unfold minTo
  rw [List.range_succ, List.foldl_append]
  rfl
theorem minTo_le (f : Nat → Nat) (p : Nat → Bool) (b : Nat) : ∀ k, minTo f p b k ≤ b ∧ ∀ v, v < k → p v = false → minTo f p b k ≤ f v
  | 0 => ⟨Nat.le_refl _, fun v h => absurd h (by omega)⟩
  | k + 1 => by
    obtain ⟨h1, h2⟩ := minTo_le f p b k
    rw [minTo_succ]
    cases e : p k
    · rw [if_neg (by decide)]
      refine ⟨by omega, fun v hv hp => ?_⟩
      by_cases hk : v = k
      · subst hk; omega
      · have := h2 v (by omega) hp; omega
    · rw [if_pos rfl]
      refine ⟨h1, fun v hv hp => ?_⟩
      by_cases hk : v = k
      · subst hk; rw [e] at hp; exact absurd hp (by decide)
      · exact h2 v (by omega) hp
theorem minTo_is (f : Nat → Nat) (p : Nat → Bool) (b : Nat) : ∀ k, minTo f p b k = b ∨ ∃ v, v < k ∧ p v = false ∧ minTo f p b k = f v
  | 0 => .inl rfl
  | k + 1 => by
    rw [minTo_succ]
    have ih := minTo_is f p b k
    cases e : p k
    · rw [if_neg (by decide)]
      rcases Nat.le_total (minTo f p b k) (f k) with h | h
      · rw [Nat.min_eq_left h]
        rcases ih with h1 | ⟨v, h1, h2, h3⟩
        · exact .inl h1
        · exact .inr ⟨v, by omega, h2, h3⟩
      · rw [Nat.min_eq_right h]
        exact .inr ⟨k, by omega, e, rfl⟩
    · rw [if_pos rfl]
      rcases ih with h1 | ⟨v, h1, h2, h3⟩
      · exact .inl h1
      · exact .inr ⟨v, by omega, h2, h3⟩
/-- The bound from which it begins does not matter. -/
theorem minTo_eq {f : Nat → Nat} {p : Nat → Bool} {b c k v : Nat} (hv : v < k) (hp : p v = false) (hb : ∀ v, v < k → p v = false → f v ≤ b) (hc : ∀ v, v < k → p v = false → f v ≤ c) : minTo f p b k = minTo f p c k := by
  have half : ∀ {b c : Nat}, (∀ v, v < k → p v = false → f v ≤ c) → minTo f p b k ≤ minTo f p c k := by
    intro b c hc
    rcases minTo_is f p c k with h | ⟨u, h1, h2, h3⟩
    · have h1 := (minTo_le f p b k).2 v hv hp
      have h2 := hc v hv hp
      omega
    · have := (minTo_le f p b k).2 u h1 h2
      omega
  exact Nat.le_antisymm (half hc) (half hb)

theorem free_ex : ∀ V : Fin 7, ∀ x : Fin 64, x.val < 2 ^ V.val → ones x.val < V.val → ∃ v : Fin 6, v.val < V.val ∧ x.val.testBit v.val = false := by decide +kernel
theorem St.free {V m a o : Nat} (h : St V (m + 1) a o) : ∃ v, v < V ∧ (a ||| o).testBit v = false := by
  have h6 := h.le
  obtain ⟨v, h1, h2⟩ := free_ex ⟨V, by omega⟩ ⟨a ||| o, h.olt2⟩ h.lt (by have := h.cnt; simp only; omega)
  exact ⟨v.val, h1, h2⟩

/-- The evaders behind both answers to a question. -/
def evB (fs : List Int) (V m a o v : Nat) : Nat := if toldB fs V a o then 0 else if m = 0 then 2 else least fs V m (a ||| 2 ^ v) o + least fs V m a (o ||| 2 ^ v)
theorem least_le {fs : List Int} {V : Nat} : ∀ {m a o : Nat}, St V m a o → least fs V m a o ≤ 2 ^ m
  | 0, a, o, _ => Nat.zero_le _
  | m + 1, a, o, h => by
    unfold least
    split
    · exact Nat.zero_le _
    · split
      · rename_i h0; subst h0; exact Nat.le_refl _
      · obtain ⟨v, hv, hf⟩ := h.free
        obtain ⟨k, hk, s1, s2⟩ := h.step hv hf
        obtain rfl : k = m := by omega
        have h1 := (minTo_le (fun v => least fs V k (a ||| 2 ^ v) o + least fs V k a (o ||| 2 ^ v)) (fun v => (a ||| o).testBit v) 64 V).2 v hv hf
        have h2 := least_le (fs := fs) s1
        have h3 := least_le (fs := fs) s2
        have e : 2 ^ (k + 1) = 2 ^ k + 2 ^ k := by rw [Nat.pow_succ]; omega
        unfold minTo at h1
        simp only at h1
        rw [e]
        exact Nat.le_trans h1 (by omega)
theorem evB_le {fs : List Int} {V m a o v : Nat} (h : St V (m + 1) a o) (hv : v < V) (hf : (a ||| o).testBit v = false) : evB fs V m a o v ≤ 64 := by
  unfold evB
  split
  · omega
  · split
    · omega
    · obtain ⟨k, hk, s1, s2⟩ := h.step hv hf
      obtain rfl : k = m := by omega
      have h2 := least_le (fs := fs) s1
      have h3 := least_le (fs := fs) s2
      have h5 : 2 ^ k ≤ 2 ^ 5 := Nat.pow_le_pow_right (by decide) (by have := h.cnt; have := h.le; omega)
      omega
theorem least_full {fs : List Int} {V m a o : Nat} (h : toldB fs V a o = false) (h0 : ¬ m = 0) : least fs V (m + 1) a o = minTo (fun v => least fs V m (a ||| 2 ^ v) o + least fs V m a (o ||| 2 ^ v)) (fun v => (a ||| o).testBit v) 64 V := by
  rw [least, h, if_neg (by decide), if_neg h0]
  rfl
theorem least_last {fs : List Int} {V a o : Nat} (h : toldB fs V a o = false) : least fs V (0 + 1) a o = 2 := by
  rw [least, h]
  rfl
def bigB : Nat := 9223372036854775807
theorem least_min {fs : List Int} {V m a o : Nat} (h : St V (m + 1) a o) : minTo (evB fs V m a o) (fun v => (a ||| o).testBit v) bigB V = least fs V (m + 1) a o := by
  obtain ⟨v, hv, hf⟩ := h.free
  rw [minTo_eq (c := 64) hv hf (fun u hu hp => Nat.le_trans (evB_le h hu hp) (by decide)) (fun u hu hp => evB_le h hu hp)]
  cases ht : toldB fs V a o
  · by_cases h0 : m = 0
    · subst h0
      rw [least_last ht]
      have e : ∀ u, evB fs V 0 a o u = 2 := fun u => by unfold evB; rw [ht]; rfl
      have h1 := (minTo_le (evB fs V 0 a o) (fun v => (a ||| o).testBit v) 64 V).2 v hv hf
      rw [e] at h1
      rcases minTo_is (evB fs V 0 a o) (fun v => (a ||| o).testBit v) 64 V with h2 | ⟨u, _, _, h2⟩
      · omega
      · rw [h2, e]
    · have e : evB fs V m a o = fun v => least fs V m (a ||| 2 ^ v) o + least fs V m a (o ||| 2 ^ v) := by
        funext u; unfold evB; rw [ht, if_neg (by decide), if_neg h0]
      rw [least_full ht h0, e]
  · rw [least_told ht]
    show minTo (evB fs V m a o) _ 64 V = 0
    have h1 := (minTo_le (evB fs V m a o) (fun v => (a ||| o).testBit v) 64 V).2 v hv hf
    have e : evB fs V m a o v = 0 := by unfold evB; rw [ht]; rfl
    rw [e] at h1
    exact Nat.le_zero.1 h1

/-- The first best question so far, and its number. -/
def bestTo (fs : List Int) (V m a o : Nat) : Nat → Nat
  | 0 => 0
  | k + 1 => if (a ||| o).testBit k then bestTo fs V m a o k else if evB fs V m a o k < minTo (evB fs V m a o) (fun v => (a ||| o).testBit v) bigB k then k else bestTo fs V m a o k

end Go.Proofs.YtgnahadlcihneaaDoor

/-! The program's best question and least number of evaders. -/
namespace Go.Proofs.YtgnahadlcihneaaDoor
open Go.RowKit Go.Sort

/-- The contract of bestQuestion with m + 1 numbers left. -/
def BestOk (fs : List Int) (V C m : Nat) (w : World) : Prop := ∀ a o L W, St V (m + 1) a o → IsL V a o L → Below w.heap.size w W →
  Calls Tryd.prog 73 #[.agg #[.int .i64 (V : Int), .int .u64 (C : Int)], .int .u64 (L : Int)] W fun e W' => e = .returned (.tuple #[.int .i64 (bestTo fs V m a o V : Int), .int .i64 (least fs V (m + 1) a o : Int)]) ∧ Below W.heap.size W W'
theorem or_split {V a o L v : Nat} (h : IsL V a o L) (hv : v < 6) : andN L (wN v) ||| (L &&& wN v) = L := by
  apply Nat.eq_of_testBit_eq
  intro i
  rw [Nat.testBit_or, Nat.testBit_and]
  by_cases hi : i < 64
  · rw [andN_bit (wN_lt ⟨v, hv⟩) hi]
    cases L.testBit i <;> cases (wN v).testBit i <;> rfl
  · have h1 : L.testBit i = false := Nat.testBit_lt_two_pow (Nat.lt_of_lt_of_le h.1 (Nat.pow_le_pow_right (by decide) (by omega)))
    have h2 : (andN L (wN v)).testBit i = false := Nat.testBit_lt_two_pow (Nat.lt_of_lt_of_le (andN_lt h.1) (Nat.pow_le_pow_right (by decide) (by omega)))
    rw [h1, h2]
    rfl

set_option maxRecDepth 100000 in
set_option maxHeartbeats 4000000 in
theorem ev_any (fs : List Int) (V C : Nat) (hC : IsK fs C) (m a o v L : Nat) (w : World) (hs : St V (m + 1) a o) (hL : IsL V a o L) (hv : v < V) (hf : (a ||| o).testBit v = false)
    (H : ∀ k, m = k + 1 → BestOk fs V C k w) :
    Calls Tryd.prog 96 #[.agg #[.int .i64 (V : Int), .int .u64 (C : Int)], .int .u64 (andN L (wN v) : Int), .int .u64 ((L &&& wN v : Nat) : Int)] w fun e w' => e = .returned (.int .i64 (evB fs V m a o v : Int)) ∧ Below w.heap.size w w' := by
  have h6 := hs.le
  obtain ⟨W0, hW0⟩ : ∃ W0, W0 = w.alloc (.cells #[.int .i64 (V : Int), .int .u64 (C : Int)] 58) := ⟨_, rfl⟩
  have hB0 : Below w.heap.size w W0 := by rw [hW0]; exact (Below.refl _ w).alloc (Nat.le_refl _) _
  have Hk : Hid (W0.heap[w.heap.size]? = some (.cells #[.int .i64 (V : Int), .int .u64 (C : Int)] 58 (0, 0))) := hid (by rw [hW0]; exact heap_alloc_new _ _)
  have HT := hid (told_any (V : Int) C L W0 hC.1 hL.1)
  rw [hW0] at HT
  have ht : ((L &&& C == 0) || (andN L C == 0)) = toldB fs V a o := by rw [told_none h6 hL hC, told_all h6 hL hC]; unfold toldB; rw [Bool.or_comm]
  rw [ht] at HT
  have HB0 := hid hB0
  obtain ⟨k, hk, s1, s2⟩ := hs.step hv hf
  obtain rfl : k = m := by omega
  have hm5 : k + 1 ≤ 6 := by have := hs.cnt; omega
  have hno := hL.no (v := v) (by omega)
  have hye := hL.yes (v := v) (by omega)
  have hor := or_u64 hno.1 hye.1
  rw [or_split hL (by omega)] at hor
  have hpop := pop_one s2 hno
  have Hno := hid hno
  have Hye := hid hye
  obtain ⟨x1, hx1⟩ : ∃ x, x = andN L (wN v) := ⟨_, rfl⟩
  obtain ⟨x2, hx2⟩ : ∃ x, x = L &&& wN v := ⟨_, rfl⟩
  rw [← hx1] at hor hpop Hno ⊢
  rw [← hx2] at hor Hye ⊢
  have HP := hid (fun W => oc_swar x1 W)
  obtain ⟨sw, hsw⟩ : ∃ s, s = swar (x1 : Int) := ⟨_, rfl⟩
  rw [← hsw] at hpop HP
  have HH := hid H
  have S1 := hid s1
  have S2 := hid s2
  clear ht hx1 hx2 hsw hno hye hB0 hL hs hC H hf s1 s2
  cases hb : toldB fs V a o
  · rw [hb] at HT
    by_cases h0 : k = 0
    · subst h0
      have HE : Hid (evB fs V 0 a o v = 2) := hid (by unfold evB; rw [hb]; rfl)
      obtain ⟨R, hR⟩ : ∃ R, R = evB fs V 0 a o v := ⟨_, rfl⟩
      rw [← hR] at HE ⊢
      have hp1 : (sw == 1) = true := hpop
      clear hb hpop hR
      go_enter Tryd.func96, Tryd.ntmps96
      go_wp2_with fail
      refine HT.out.mono ?_
      rintro e w1 ⟨rfl, hB1⟩
      rw [← hW0] at hB1
      have HB1 := hid (HB0.out.trans (hB1.mono HB0.out.size))
      clear hB1
      go_wp2_with fail
      refine (HP.out w1).mono ?_
      rintro e w2 ⟨rfl, rfl⟩
      go_wp2_with fail
      go_ret
      exact ⟨ret_int (by rw [HE.out]; rfl), HB1.out⟩
    · obtain ⟨k', rfl⟩ : ∃ k', k = k' + 1 := ⟨k - 1, by omega⟩
      have HE : Hid (evB fs V (k' + 1) a o v = least fs V (k' + 1) (a ||| 2 ^ v) o + least fs V (k' + 1) a (o ||| 2 ^ v)) := hid (by unfold evB; rw [hb]; rfl)
      have hp1 : (sw == 1) = false := by rw [hpop]; rfl
      have hq1 := least_le (fs := fs) S1.out
      have hq2 := least_le (fs := fs) S2.out
      have h5 : 2 ^ (k' + 1) ≤ 2 ^ 5 := Nat.pow_le_pow_right (by decide) (by omega)
      have HC1 := hid (fun W (h : Below w.heap.size w W) => HH.out k' rfl _ _ _ W S2.out Hno.out h)
      have HC2 := hid (fun W (h : Below w.heap.size w W) => HH.out k' rfl _ _ _ W S1.out Hye.out h)
      obtain ⟨n1, hn1⟩ : ∃ n, n = least fs V (k' + 1) (a ||| 2 ^ v) o := ⟨_, rfl⟩
      obtain ⟨n2, hn2⟩ : ∃ n, n = least fs V (k' + 1) a (o ||| 2 ^ v) := ⟨_, rfl⟩
      obtain ⟨R, hR⟩ : ∃ R, R = evB fs V (k' + 1) a o v := ⟨_, rfl⟩
      rw [← hn1] at HC2 HE hq1
      rw [← hn2] at HC1 HE hq2
      rw [← hR] at HE ⊢
      have h1l : n1 ≤ 32 := Nat.le_trans hq1 h5
      have h2l : n2 ≤ 32 := Nat.le_trans hq2 h5
      clear hb hpop hR hn1 hn2 hq1 hq2 h5 h0 hk hm5
      go_enter Tryd.func96, Tryd.ntmps96
      go_wp2_with fail
      refine HT.out.mono ?_
      rintro e w1 ⟨rfl, hB1⟩
      rw [← hW0] at hB1
      have HB1 := hid (HB0.out.trans (hB1.mono HB0.out.size))
      have Hk1 := hid ((hB1.block _ (lt_get Hk.out)).trans Hk.out)
      obtain ⟨k0, k1, _, _⟩ := two_of Hk1.out
      clear hB1
      go_wp2_with fail
      refine (HP.out w1).mono ?_
      rintro e w2 ⟨rfl, rfl⟩
      go_wp2_with fail
      refine (HC1.out w1 HB1.out).mono ?_
      rintro e w3 ⟨rfl, hB3⟩
      have HB3 := hid (HB1.out.trans (hB3.mono HB1.out.size))
      clear k0 k1
      obtain ⟨k0, k1, _, _⟩ := two_of ((hB3.block _ (lt_get Hk1.out)).trans Hk1.out)
      clear hB3
      go_wp2_with fail
      refine (HC2.out w3 HB3.out).mono ?_
      rintro e w4 ⟨rfl, hB4⟩
      have HB4 := hid (HB3.out.trans (hB4.mono HB3.out.size))
      clear hB4
      go_wp2_with fail
      go_ret
      exact ⟨ret_int (by rw [HE.out]; first | omega | (simp only [wrap64]; omega)), HB4.out⟩
  · rw [hb] at HT
    have HE : Hid (evB fs V k a o v = 0) := hid (by unfold evB; rw [hb]; rfl)
    obtain ⟨R, hR⟩ : ∃ R, R = evB fs V k a o v := ⟨_, rfl⟩
    rw [← hR] at HE ⊢
    clear hb hpop hR
    go_enter Tryd.func96, Tryd.ntmps96
    go_wp2_with fail
    refine HT.out.mono ?_
    rintro e w1 ⟨rfl, hB1⟩
    rw [← hW0] at hB1
    go_wp2_with fail
    go_ret
    exact ⟨ret_int (by rw [HE.out]; rfl), HB0.out.trans (hB1.mono HB0.out.size)⟩

theorem bestTo_lt (fs : List Int) (V m a o : Nat) (hV : 1 ≤ V) : ∀ k, k ≤ V → bestTo fs V m a o k < V
  | 0, _ => by unfold bestTo; omega
  | k + 1, h => by
    have := bestTo_lt fs V m a o hV k (by omega)
    unfold bestTo
    split
    · exact this
    · split <;> omega
theorem minTo_big {fs : List Int} {V m a o : Nat} : ∀ k, minTo (evB fs V m a o) (fun v => (a ||| o).testBit v) bigB k ≤ 9223372036854775807 := fun k => (minTo_le _ _ bigB k).1

set_option maxRecDepth 100000 in
set_option maxHeartbeats 4000000 in
theorem best_round (fs : List Int) (V C : Nat) (hC : IsK fs C) (m a o L : Nat) (w : World) (hs : St V (m + 1) a o) (hL : IsL V a o L) (hW : HidW w) (H : ∀ k, m = k + 1 → BestOk fs V C k w) :
    Calls Tryd.prog 73 #[.agg #[.int .i64 (V : Int), .int .u64 (C : Int)], .int .u64 (L : Int)] w fun e W' => e = .returned (.tuple #[.int .i64 (bestTo fs V m a o V : Int), .int .i64 (least fs V (m + 1) a o : Int)]) ∧ Below w.heap.size w W' := by
  have h6 := hs.le
  obtain ⟨W0, hW0⟩ : ∃ W0, W0 = w.alloc (.cells #[.int .i64 (V : Int), .int .u64 (C : Int)] 58) := ⟨_, rfl⟩
  have hB0 : Below w.heap.size w W0 := by rw [hW0]; exact (Below.refl _ w).alloc (Nat.le_refl _) _
  have Hk : Hid (W0.heap[w.heap.size]? = some (.cells #[.int .i64 (V : Int), .int .u64 (C : Int)] 58 (0, 0))) := hid (by rw [hW0]; exact heap_alloc_new _ _)
  have HB0 := hid hB0
  have Hs := hid hs
  have HL := hid hL
  have HW := hid hW
  have HH := hid H
  have HC := hid hC
  have HM := hid (least_min (fs := fs) hs)
  obtain ⟨R, hR⟩ : ∃ R, R = least fs V (m + 1) a o := ⟨_, rfl⟩
  rw [← hR] at HM ⊢
  clear hB0 hC hL hW H hs hR
  go_enter Tryd.func73, Tryd.ntmps73
  obtain ⟨k0, k1, _, _⟩ := two_of Hk.out
  go_wp2_with fail
  rw [← hW0]
  clear k0 k1 hW0
  go_loopw [4, 5, 12] (fun bv fv iv wx => ∃ j : Nat, j ≤ V ∧ bv = .int .i64 (bestTo fs V m a o j : Int) ∧ fv = .int .i64 (minTo (evB fs V m a o) (fun v => (a ||| o).testBit v) bigB j : Int) ∧ iv = .int .i64 (j : Int) ∧ Hid (Below w.heap.size w wx) ∧ Hid (wx.heap[w.heap.size]? = some (.cells #[.int .i64 (V : Int), .int .u64 (C : Int)] 58 (0, 0)))) (fun _ _ iv _ => V - (RowKit.intOf iv).toNat)
  case atStart => exact ⟨0, Nat.zero_le _, rfl, rfl, rfl, HB0, Hk⟩
  case round =>
    clear HB0 Hk
    obtain ⟨j, hj, rfl, rfl, rfl, HB, Hk⟩ := hrel
    by_cases hlt : j < V
    · have HS := hid (split_any L j wr HL.out.1 (by omega) (HW.out.later HB.out (Nat.le_refl _)))
      have hj1 : (j : Int) < (V : Int) := by omega
      have hM1 := minTo_succ (evB fs V m a o) (fun v => (a ||| o).testBit v) bigB j
      have hb1 : bestTo fs V m a o (j + 1) = if (a ||| o).testBit j then bestTo fs V m a o j else if evB fs V m a o j < minTo (evB fs V m a o) (fun v => (a ||| o).testBit v) bigB j then j else bestTo fs V m a o j := rfl
      obtain ⟨x1, hx1⟩ : ∃ x, x = andN L (wN j) := ⟨_, rfl⟩
      obtain ⟨x2, hx2⟩ : ∃ x, x = L &&& wN j := ⟨_, rfl⟩
      cases hf : (a ||| o).testBit j
      · have hfr := split_free Hs.out HL.out hlt hf
        have HE := hid (fun W (h : Below w.heap.size w W) => ev_any fs V C HC.out m a o j L W Hs.out HL.out hlt hf (fun k hk a' o' L' W' h1 h2 h3 => HH.out k hk a' o' L' W' h1 h2 (h.trans (h3.mono h.size))))
        rw [hf, if_neg (by decide)] at hM1 hb1
        rw [← hx1] at HE HS hfr
        rw [← hx2] at HE HS hfr
        have hd1 : ((x1 : Int) == 0) = false := by simpa using hfr.1
        have hd2 : ((x2 : Int) == 0) = false := by simpa using hfr.2
        obtain ⟨ev, hev⟩ : ∃ e, e = evB fs V m a o j := ⟨_, rfl⟩
        obtain ⟨mn, hmn⟩ : ∃ e, e = minTo (evB fs V m a o) (fun v => (a ||| o).testBit v) bigB j := ⟨_, rfl⟩
        obtain ⟨bn, hbn⟩ : ∃ e, e = bestTo fs V m a o j := ⟨_, rfl⟩
        rw [← hev] at HE
        rw [← hev, ← hmn] at hM1 hb1
        rw [← hbn] at hb1
        rw [← hmn, ← hbn]
        have HM1 := hid hM1
        have Hb1 := hid hb1
        clear hf hfr hM1 hb1 hev hmn hbn hx1 hx2
        by_cases hlt2 : ev < mn
        · have HM2 : Hid (minTo (evB fs V m a o) (fun v => (a ||| o).testBit v) bigB (j + 1) = ev) := hid (by rw [HM1.out]; omega)
          have Hb2 : Hid (bestTo fs V m a o (j + 1) = j) := hid (by rw [Hb1.out, if_pos hlt2])
          have hc : (ev : Int) < (mn : Int) := by omega
          clear hlt2
          go_wp2_with fail
          refine HS.out.mono ?_
          rintro e w2 ⟨rfl, hB2⟩
          have HB2 := hid (HB.out.trans (hB2.mono HB.out.size))
          have Hk2 := hid ((hB2.block _ (lt_get Hk.out)).trans Hk.out)
          obtain ⟨k0, k1, _, _⟩ := two_of Hk2.out
          clear hB2
          go_wp2_with fail
          refine (HE.out w2 HB2.out).mono ?_
          rintro e w3 ⟨rfl, hB3⟩
          have HB3 := hid (HB2.out.trans (hB3.mono HB2.out.size))
          have Hk3 := hid ((hB3.block _ (lt_get Hk2.out)).trans Hk2.out)
          clear hB3 k0 k1
          go_wp2_with fail
          go_roundw
          case rel => exact ⟨j + 1, by omega, by rw [Hb2.out], by rw [HM2.out], by go_num, HB3, Hk3⟩
          case measure => simp [RowKit.intOf]; omega
        · have HM2 : Hid (minTo (evB fs V m a o) (fun v => (a ||| o).testBit v) bigB (j + 1) = mn) := hid (by rw [HM1.out]; omega)
          have Hb2 : Hid (bestTo fs V m a o (j + 1) = bn) := hid (by rw [Hb1.out, if_neg hlt2])
          have hc : ¬ (ev : Int) < (mn : Int) := by omega
          clear hlt2
          go_wp2_with fail
          refine HS.out.mono ?_
          rintro e w2 ⟨rfl, hB2⟩
          have HB2 := hid (HB.out.trans (hB2.mono HB.out.size))
          have Hk2 := hid ((hB2.block _ (lt_get Hk.out)).trans Hk.out)
          obtain ⟨k0, k1, _, _⟩ := two_of Hk2.out
          clear hB2
          go_wp2_with fail
          refine (HE.out w2 HB2.out).mono ?_
          rintro e w3 ⟨rfl, hB3⟩
          have HB3 := hid (HB2.out.trans (hB3.mono HB2.out.size))
          have Hk3 := hid ((hB3.block _ (lt_get Hk2.out)).trans Hk2.out)
          clear hB3 k0 k1
          go_wp2_with fail
          go_roundw
          case rel => exact ⟨j + 1, by omega, by rw [Hb2.out], by rw [HM2.out], by go_num, HB3, Hk3⟩
          case measure => simp [RowKit.intOf]; omega
      · have hno := split_not Hs.out HL.out hlt hf
        rw [hf, if_pos rfl] at hM1 hb1
        rw [← hx1] at HS hno
        rw [← hx2] at HS hno
        obtain ⟨mn, hmn⟩ : ∃ e, e = minTo (evB fs V m a o) (fun v => (a ||| o).testBit v) bigB j := ⟨_, rfl⟩
        obtain ⟨bn, hbn⟩ : ∃ e, e = bestTo fs V m a o j := ⟨_, rfl⟩
        rw [← hmn] at hM1
        rw [← hbn] at hb1
        rw [← hmn, ← hbn]
        have HM1 := hid hM1
        have Hb1 := hid hb1
        clear hf hM1 hb1 hx1 hx2 hmn hbn
        by_cases h1 : x1 = 0
        · subst h1
          clear hno
          go_wp2_with fail
          refine HS.out.mono ?_
          rintro e w2 ⟨rfl, hB2⟩
          have HB2 := hid (HB.out.trans (hB2.mono HB.out.size))
          have Hk2 := hid ((hB2.block _ (lt_get Hk.out)).trans Hk.out)
          clear hB2
          go_wp2_with fail
          go_roundw
          case rel => exact ⟨j + 1, by omega, by rw [Hb1.out], by rw [HM1.out], by go_num, HB2, Hk2⟩
          case measure => simp [RowKit.intOf]; omega
        · obtain rfl : x2 = 0 := by omega
          have hd1 : ((x1 : Int) == 0) = false := by simpa using h1
          clear hno h1
          go_wp2_with fail
          refine HS.out.mono ?_
          rintro e w2 ⟨rfl, hB2⟩
          have HB2 := hid (HB.out.trans (hB2.mono HB.out.size))
          have Hk2 := hid ((hB2.block _ (lt_get Hk.out)).trans Hk.out)
          clear hB2
          go_wp2_with fail
          go_roundw
          case rel => exact ⟨j + 1, by omega, by rw [Hb1.out], by rw [HM1.out], by go_num, HB2, Hk2⟩
          case measure => simp [RowKit.intOf]; omega
    · obtain rfl : j = V := by omega
      rw [HM.out]
      go_wp2_with fail
      go_ret2
      exact ⟨rfl, HB.out⟩

theorem best_any (fs : List Int) (V C : Nat) (hC : IsK fs C) : ∀ (m : Nat) (w : World), HidW w → BestOk fs V C m w
  | 0, _, hW => fun a o L W hs hL hB => best_round fs V C hC 0 a o L W hs hL (hW.later hB (Nat.le_refl _)) (fun k h => absurd h (by omega))
  | m + 1, _, hW => fun a o L W hs hL hB => best_round fs V C hC (m + 1) a o L W hs hL (hW.later hB (Nat.le_refl _)) (fun k h => by
    obtain rfl : k = m := by omega
    exact best_any fs V C hC k W (hW.later hB (Nat.le_refl _)))

end Go.Proofs.YtgnahadlcihneaaDoor
