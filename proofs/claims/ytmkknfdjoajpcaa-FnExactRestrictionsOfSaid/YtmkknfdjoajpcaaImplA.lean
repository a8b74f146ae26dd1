import Derived.Test.YtmkknfdjoajpcaaSetMap
/-! The program's test whether something is a complex. -/
namespace Go.Proofs.Ytmkknfdjoajpcaa
open Go.RowKit Go.Shelf

attribute [local go_sem] Oper.semAt_some

set_option maxHeartbeats 400000 in
theorem vc_any (n : Int) (w : World) :
    Calls Try.prog 87 #[.int .i64 n] w fun e w' => e = .returned (.bool (decide (1 ≤ n) && decide (n ≤ 6))) ∧ w = w' := by
  go_enter Try.func87, Try.ntmps87
  go_wp2
  · have h : 1 ≤ n := by assumption
    go_ret
    exact ⟨ret_bool (by simp [h]), rfl⟩
  · have h : n < 1 := by assumption
    go_ret
    exact ⟨ret_bool (by rw [decide_eq_false (show ¬ 1 ≤ n by omega)]; rfl), rfl⟩
theorem vc_yes (n : Int) (w : World) (h1 : 1 ≤ n) (h2 : n ≤ 6) :
    Calls Try.prog 87 #[.int .i64 n] w fun e w' => e = .returned (.bool true) ∧ w = w' :=
  (vc_any n w).mono fun _ _ ⟨he, hw⟩ => ⟨by rw [he]; simp [h1, h2], hw⟩
theorem vc_no (n : Int) (w : World) (h : ¬ (1 ≤ n ∧ n ≤ 6)) :
    Calls Try.prog 87 #[.int .i64 n] w fun e w' => e = .returned (.bool false) ∧ w = w' :=
  (vc_any n w).mono fun _ _ ⟨he, hw⟩ => by
    refine ⟨?_, hw⟩
    rw [he]
    by_cases hx : 1 ≤ n
    · rw [decide_eq_false (show ¬ n ≤ 6 from fun h' => h ⟨hx, h'⟩)]; simp
    · rw [decide_eq_false hx]; simp

set_option maxHeartbeats 400000 in
theorem av_any (V : Int) (w : World) (h1 : 0 ≤ V) (h2 : V ≤ 6) :
    Calls Try.prog 52 #[.int .i64 V] w fun e w' => e = .returned (.int .i64 (allV V)) ∧ w = w' := by
  go_enter Try.func52, Try.ntmps52
  go_wp2
  go_ret
  exact ⟨ret_int (all_wrap h1 h2), rfl⟩

/-- What the walk of IsComplex keeps of the world: B is the heap's size when the call began. -/
structure IcW (w W : World) (V : Int) (sl : Value) (pre : List Int) (Ds : List Nat) : Prop where
  below : Below w.heap.size w W
  kbox : W.heap[w.heap.size]? = some (.cells #[.int .i64 V, sl] 26 (0, 0))
  res : W.heap[w.heap.size + 1]? = some (.cells #[.bool false] 4 (0, 0))
  own : W.ownsMap Try.prog 2 (plainElem (H := Unit) Try.prog 4) (w.heap.size + 1 + 1) pre.length (knownD pre)
  mbox : W.heap[w.heap.size + 1 + 1 + 1]? = some (.cells #[.map (some (w.heap.size + 1 + 1))] 76 (0, 0))
  nodup : Ds.Nodup
  marks : ∀ D ∈ Ds, w.heap.size + 4 ≤ D ∧ W.heap[D]? = some (.deferred (some []))

theorem lt_of_get {W : World} {b : Nat} {o : Obj} (h : W.heap[b]? = some o) : b < W.heap.size := (Array.getElem?_eq_some_iff.1 h).1

theorem IcW.size {w W : World} {V : Int} {sl : Value} {pre : List Int} {Ds : List Nat} (h : IcW w W V sl pre Ds) : w.heap.size + 4 ≤ W.heap.size := by
  have := lt_of_get h.mbox; omega

theorem IcW.turn {w W W' : World} {V : Int} {sl : Value} {pre : List Int} {Ds : List Nat} (h : IcW w W V sl pre Ds) {row : Option Nat} (hg : W.grownBy W' row)
    (hr : ∀ r, row = some r → w.heap.size + 4 ≤ r ∧ r ∉ Ds) : IcW w W' V sl pre Ds where
  below := h.below.grown hg h.below.size (fun k e => by have := (hr k e).1; omega)
  kbox := (hg.block _ (lt_of_get h.kbox) (fun e => by have := (hr _ e.symm).1; omega)).trans h.kbox
  res := (hg.block _ (lt_of_get h.res) (fun e => by have := (hr _ e.symm).1; omega)).trans h.res
  own := h.own.kept hg (fun e => by have := (hr _ e.symm).1; omega)
  mbox := (hg.block _ (lt_of_get h.mbox) (fun e => by have := (hr _ e.symm).1; omega)).trans h.mbox
  nodup := h.nodup
  marks := fun D hD => ⟨(h.marks D hD).1, (hg.block _ (lt_of_get (h.marks D hD).2) (fun e => (hr _ e.symm).2 hD)).trans (h.marks D hD).2⟩

theorem icw_own {β : Type} {w : World} {V : Int} {sl : Value} {pre : List Int} {Ds : List Nat} {B : Nat} (hB : w.heap.size + 4 ≤ B) (hD : ∀ D ∈ Ds, D < B) : OwnFrom B (fun (_ : β) W => IcW w W V sl pre Ds) :=
  fun _ _ _ _ hs hg hr => hs.turn hg (fun r e => ⟨by have := (hr r e).1; omega, fun hm => by have := hD r hm; have := (hr r e).1; omega⟩)

/-- A further mark. -/
theorem IcW.mark {w W : World} {V : Int} {sl : Value} {pre : List Int} {Ds : List Nat} (h : IcW w W V sl pre Ds) {D : Nat} (hD : W.heap[D]? = some (.deferred (some []))) (hb : w.heap.size + 4 ≤ D) (hn : D ∉ Ds) : IcW w W V sl pre (D :: Ds) where
  below := h.below
  kbox := h.kbox
  res := h.res
  own := h.own
  mbox := h.mbox
  nodup := List.nodup_cons.2 ⟨hn, h.nodup⟩
  marks := fun E hE => by
    rcases List.mem_cons.1 hE with rfl | hE
    · exact ⟨hb, hD⟩
    · exact h.marks E hE

/-- A face more in the map. -/
theorem IcW.put {w W w1 : World} {V : Int} {sl : Value} {pre : List Int} {Ds : List Nat} (h : IcW w W V sl pre Ds) {x : Int} {n : Nat} (hn : n = pre.length)
    (hown : w1.ownsMap Try.prog 2 (plainElem (H := Unit) Try.prog 4) (w.heap.size + 1 + 1) (n + 1) ((knownD pre).put (.int .i64 x) (.lit (.bool true)))) (hg : W.grownBy w1 (some (w.heap.size + 1 + 1))) : IcW w w1 V sl (pre ++ [x]) Ds where
  below := h.below.grown hg h.below.size (fun k e => by cases e; omega)
  kbox := (hg.block _ (lt_of_get h.kbox) (fun e => by simp at e <;> omega)).trans h.kbox
  res := (hg.block _ (lt_of_get h.res) (fun e => by simp at e <;> omega)).trans h.res
  own := by rw [knownD_snoc]; simpa [hn] using hown
  mbox := (hg.block _ (lt_of_get h.mbox) (fun e => by simp at e)).trans h.mbox
  nodup := h.nodup
  marks := fun D hD => ⟨(h.marks D hD).1, (hg.block _ (lt_of_get (h.marks D hD).2) (fun e => by have := (h.marks D hD).1; simp at e; omega)).trans (h.marks D hD).2⟩

/-- The result's cell holds false: so it does when false is stored. -/
theorem IcW.store {w W : World} {V : Int} {sl : Value} {pre : List Int} {Ds : List Nat} (h : IcW w W V sl pre Ds) : IcW w (W.setCell ⟨w.heap.size + 1, 0, none⟩ (.bool false)) V sl pre Ds where
  below := h.below.setCell (p := ⟨w.heap.size + 1, 0, none⟩) (by simp) _
  kbox := (Below.heap_setCell _ _ _ _ (by simp)).trans h.kbox
  res := one_setCell h.res
  own := h.own.setCell (by simp <;> omega) _
  mbox := (Below.heap_setCell _ _ _ _ (by simp <;> omega)).trans h.mbox
  nodup := h.nodup
  marks := fun D hD => ⟨(h.marks D hD).1, (Below.heap_setCell _ _ _ _ (by have := (h.marks D hD).1; simp <;> omega)).trans (h.marks D hD).2⟩

def leastOf (pre : List Int) : Int := match pre.getLast? with | none => 1 | some y => y + 1

theorem leastOf_snoc (pre : List Int) (x : Int) : leastOf (pre ++ [x]) = x + 1 := by simp [leastOf]
theorem leastOf_ok {V : Int} {pre : List Int} (h : IsC V pre) {x : Int} (hx : leastOf pre ≤ x) : (∀ y ∈ pre, y < x) ∧ 1 ≤ x := by
  rcases List.eq_nil_or_concat pre with rfl | ⟨l, z, rfl⟩
  · simp [leastOf] at hx; exact ⟨by simp, hx⟩
  · simp only [List.concat_eq_append] at *
    rw [leastOf_snoc] at hx
    have hz := h.range63 z (by simp)
    refine ⟨fun y hy => ?_, by omega⟩
    rcases List.mem_append.1 hy with hy | hy
    · have := (List.pairwise_append.1 h.asc).2.2 y hy z (by simp); omega
    · simp at hy; omega
theorem leastOf_bad {V : Int} {pre : List Int} {x : Int} {rest : List Int} (h : IsC V (pre ++ x :: rest)) : leastOf pre ≤ x := by
  have h1 := isC_head h
  rcases List.eq_nil_or_concat pre with rfl | ⟨l, z, rfl⟩
  · simpa [leastOf] using h1.2.1
  · simp only [List.concat_eq_append] at *
    rw [leastOf_snoc]
    have := h1.1 z (by simp)
    omega
theorem leastOf_lt {V : Int} {pre : List Int} (h : IsC V pre) : leastOf pre ≤ 64 ∧ 1 ≤ leastOf pre := by
  rcases List.eq_nil_or_concat pre with rfl | ⟨l, z, rfl⟩
  · simp [leastOf]
  · simp only [List.concat_eq_append] at *
    rw [leastOf_snoc]
    have := h.range63 z (by simp)
    omega

theorem not_isC_take {V : Int} {fs : List Int} {k : Nat} (hk : k < fs.length) (h : IsC V fs) : IsC V (fs.take k ++ fs[k]?.getD 0 :: fs.drop (k + 1)) := by
  rw [← split_at hk]; exact h

set_option maxHeartbeats 400000 in
/-- IsComplex hands back false, out of whatever loop. -/
theorem ic_leave {w W : World} {V : Int} {fs : List Int} {sl : Value} {pre : List Int} {Ds : List Nat} (h : IcW w W V sl pre Ds) (c : Bool) (hc : isCB V fs = c) {tmps : Array Value} (ht : tmps[2]?.getD undef = .pointer (some ⟨w.heap.size + 1, 0, none⟩)) :
    LeavesInM Fence.wide 10 Try.prog Try.f51 tmps (fun e w' => e = .returned (.bool (isCB V fs)) ∧ Below w.heap.size w w') (marks Ds) .returning (W.setCell ⟨w.heap.size + 1, 0, none⟩ (.bool c)) := by
  have hs := h.size
  refine leaves_marks (by simp) Ds _ h.nodup (fun D hD => (Below.heap_setCell _ _ _ _ (by have := (h.marks D hD).1; simp <;> omega)).trans (h.marks D hD).2) (fun w' hw' => ?_)
  have hres : w'.cell? ⟨w.heap.size + 1, 0, none⟩ = some (.bool c) := by
    rw [World.cell?_of_block (hw'.block _ (fun hm => by have := (h.marks _ hm).1; simp at this <;> omega))]
    exact World.cell?_setCell_same' _ _ _ (by rw [(box_cell h.res).1]; rfl)
  have hB : Below w.heap.size w w' := (h.below.setCell (p := ⟨w.heap.size + 1, 0, none⟩) (by simp) _).trans (hw'.below (fun D hD => by have := (h.marks D hD).1; omega))
  refine ⟨.bool c, ?_, ret_bool hc.symm, hB⟩
  simp [results, Try.results51, go_sem, ht, hres]

set_option maxHeartbeats 400000 in
theorem ic_leave0 {w W : World} {V : Int} {fs : List Int} {sl : Value} {pre : List Int} {Ds : List Nat} (h : IcW w W V sl pre Ds) (hc : isCB V fs = false) {tmps : Array Value} (ht : tmps[2]?.getD undef = .pointer (some ⟨w.heap.size + 1, 0, none⟩)) :
    LeavesInM Fence.wide 10 Try.prog Try.f51 tmps (fun e w' => e = .returned (.bool (isCB V fs)) ∧ Below w.heap.size w w') (marks Ds) .returning W := by
  refine leaves_marks (by simp) Ds _ h.nodup (fun D hD => (h.marks D hD).2) (fun w' hw' => ?_)
  have hres : w'.cell? ⟨w.heap.size + 1, 0, none⟩ = some (.bool false) := by
    rw [World.cell?_of_block (w := W) (hw'.block _ (fun hm => by have := (h.marks _ hm).1; simp at this <;> omega))]
    exact (box_cell h.res).1
  have hB : Below w.heap.size w w' := h.below.trans (hw'.below (fun D hD => by have := (h.marks D hD).1; omega))
  refine ⟨.bool false, ?_, ret_bool hc.symm, hB⟩
  simp [results, Try.results51, go_sem, ht, hres]

set_option maxRecDepth 100000 in
set_option maxHeartbeats 4000000 in
theorem isc_in (V : Int) (b off : Nat) (cap : Nat) (fs : List Int) (w : World) (h1 : 1 ≤ V) (h2 : V ≤ 6) (hb : b < w.heap.size)
    (hc : ∀ i, i < fs.length → w.cell? ⟨b, off + i, none⟩ = some (.int .i64 (fs[i]?.getD 0))) (hl : fs.length ≤ 1048576) :
    CallsIn Fence.wide 10 Try.prog 51 #[.agg #[.int .i64 V, .slice (some ⟨b, off, none⟩) fs.length cap]] w fun e w' => e = .returned (.bool (isCB V fs)) ∧ Below w.heap.size w w' := by
  have hmm := @run_makeMap Try.prog
  refine callsIn_of_wp_marks Try.func51 rfl trivial ?_ rfl
  simp only [Try.ntmps51, List.size_toArray, List.length_cons, List.length_nil, Nat.reduceAdd, Nat.reduceSub, Array.replicate_succ, Array.replicate_zero, List.push_toArray, List.append_toArray, List.nil_append, List.cons_append]
  gi_wp2_with (first
    | (refine ⟨trivial, ?_⟩; gi_at_call 87; refine (callsIn_wide.2 (vc_yes V _ h1 h2)).mono ?_; rintro e w' ⟨rfl, rfl⟩))
  clear hmm
  refine wpIn_loop (fun a' W => ∃ (k : Nat) (c6 c7 c17 c18 c19 c20 c21 c22 c23 c24 c25 c26 c27 c28 c29 c30 c31 c32 c33 c34 c35 c36 c37 c38 c39 c40 c41 : Value) (Ds : List Nat),
      a' = { tmps := #[.agg #[.int .i64 V, .slice (some ⟨b, off, none⟩) fs.length cap], .pointer (some ⟨w.heap.size, 0, none⟩), .pointer (some ⟨w.heap.size + 1, 0, none⟩), .pointer (some ⟨w.heap.size + 1 + 1 + 1, 0, none⟩),
          .int .i64 (leastOf (fs.take k)), undef, c6, c7, .pointer (some ⟨w.heap.size, 0, none⟩), .int .i64 V, .bool true, .bool false, .map (some (w.heap.size + 1 + 1)), .pointer (some ⟨w.heap.size, 1, none⟩), .slice (some ⟨b, off, none⟩) fs.length cap, .int .i64 fs.length,
          .int .i64 k, c17, c18, c19, c20, c21, c22, c23, c24, c25, c26, c27, c28, c29, c30, c31, c32, c33, c34, c35, c36, c37, c38, c39, c40, c41], defers := marks Ds } ∧
      k ≤ fs.length ∧ IsC V (fs.take k) ∧ IcW w W V (.slice (some ⟨b, off, none⟩) fs.length cap) (fs.take k) Ds)
    (fun a' _ => fs.length - (intOf (a'.tmps.getD 16 undef)).toNat) ?start ?round
  case start =>
    refine ⟨0, _, _, _, _, _, _, _, _, _, _, _, _, _, _, _, _, _, _, _, _, _, _, _, _, _, _, _, [], rfl, Nat.zero_le _, isC_nil h1 h2, ?_⟩
    have e0 := World.alloc_heap_new w (.cells #[.int .i64 V, .slice (some ⟨b, off, none⟩) fs.length cap] 26)
    have e1 := World.alloc_heap_new (w.alloc (.cells #[.int .i64 V, .slice (some ⟨b, off, none⟩) fs.length cap] 26)) (.cells #[.bool false] 4)
    have e3 := World.alloc_heap_new (((w.alloc (.cells #[.int .i64 V, .slice (some ⟨b, off, none⟩) fs.length cap] 26)).alloc (.cells #[.bool false] 4)).alloc (.map #[] 0)) (.cells #[.map (some (w.heap.size + 1 + 1))] 76)
    have hown := World.ownsMap_made ((w.alloc (.cells #[.int .i64 V, .slice (some ⟨b, off, none⟩) fs.length cap] 26)).alloc (.cells #[.bool false] 4)) Try.prog 2 (plainElem (H := Unit) Try.prog 4)
    simp only [World.size_alloc] at e1 e3 hown
    exact {
      below := (((((Below.refl _ w).alloc (Nat.le_refl _) _).alloc (by simp) _).alloc (by simp <;> omega) _).alloc (by simp <;> omega) _)
      kbox := (Below.heap_alloc _ _ _ (by simp <;> omega)).trans ((Below.heap_alloc _ _ _ (by simp <;> omega)).trans ((Below.heap_alloc _ _ _ (by simp)).trans e0))
      res := (Below.heap_alloc _ _ _ (by simp <;> omega)).trans ((Below.heap_alloc _ _ _ (by simp)).trans e1)
      own := hown.alloc _
      mbox := e3
      nodup := by simp
      marks := by simp }
  case round =>
    rintro a W ⟨k, c6, c7, c17, c18, c19, c20, c21, c22, c23, c24, c25, c26, c27, c28, c29, c30, c31, c32, c33, c34, c35, c36, c37, c38, c39, c40, c41, Ds, rfl, hk, hC, hW⟩
    have hsz := hW.size
    have k0 : W.cell? ⟨w.heap.size, 0, none⟩ = some (.int .i64 V) := by simp [World.cell?, hW.kbox]
    have r0 : W.cell? ⟨w.heap.size + 1, 0, none⟩ = some (.bool false) := (box_cell hW.res).1
    have r1 : W.frozen? ⟨w.heap.size + 1, 0, none⟩ = false := (box_cell hW.res).2
    have m0 : W.cell? ⟨w.heap.size + 1 + 1 + 1, 0, none⟩ = some (.map (some (w.heap.size + 1 + 1))) := (box_cell hW.mbox).1
    have hll := leastOf_lt hC
    obtain ⟨lo, hlo⟩ : ∃ lo, lo = leastOf (fs.take k) := ⟨_, rfl⟩
    rw [← hlo] at hll ⊢
    have Hlo := hid hlo
    have HC := hid hC
    have HW := hid hW
    clear hlo hC hW
    by_cases hlt : k < fs.length
    · obtain ⟨x, hx⟩ : ∃ x, x = fs[k]?.getD 0 := ⟨_, rfl⟩
      have hck : W.cell? ⟨b, off + k, none⟩ = some (.int .i64 x) := by rw [hx]; exact (HW.out.below.cell (p := ⟨b, off + k, none⟩) hb).trans (hc k hlt)
      have Hx := hid hx
      have hi0 : (0 : Int) ≤ (k : Int) := by omega
      have hi1 : (k : Int) < (fs.length : Int) := by omega
      clear hx
      have Hc := hid hc
      clear hc
      by_cases hb1 : x < lo
      · gi_wp2_with (refine ⟨(trivial : Fence.wide.fn 52), ?_⟩)
        refine ic_leave HW.out false (isCB_false fun h => ?_) rfl
        have := leastOf_bad (not_isC_take hlt h)
        rw [← Hlo.out, ← Hx.out] at this
        omega
      · have hge : lo ≤ x := by omega
        by_cases hb2 : allV V < x
        · gi_wp2_with (first
            | (refine ⟨trivial, ?_⟩; gi_at_call 52; refine (callsIn_wide.2 (av_any V _ (by omega) h2)).mono ?_; rintro e w' ⟨rfl, rfl⟩))
          refine ic_leave HW.out false (isCB_false fun h => ?_) rfl
          have := (isC_head (not_isC_take hlt h)).2.2
          rw [← Hx.out] at this
          omega
        · have hle : x ≤ allV V := by omega
          have h63 := allV_le h2
          obtain ⟨f, rfl⟩ : ∃ f : Nat, x = f := ⟨x.toNat, by omega⟩
          have hf : f < 64 := by omega
          have hwf : (Lit.int .i64 (f : Int)).wf = true := WalkArith.wf_i64 (by omega)
          have hkm : (fs.take k).length < maxLen := by unfold maxLen; simp; omega
          gi_wp2_with (first
            | (refine ⟨trivial, ?_⟩; gi_at_call 52; refine (callsIn_wide.2 (av_any V _ (by omega) h2)).mono ?_; rintro e w' ⟨rfl, rfl⟩)
            | (gi_at_mapUpdate; refine wpListIn_mapUpdate_own _ rfl _ _ _ 76 rfl 2 4 (Maps.int_keyed Try.underlying2) Try.underlying76 _ (w.heap.size + 1 + 1) _ _ rfl HW.out.own hkm _ _ _ rfl rfl (Maps.keyOf_int_mk Try.underlying2 hwf) _ [] (plainElem_bool Try.underlying4 true) ?_; intro w1 hown1 hgrow1)
            | (refine ⟨trivial, ?_⟩; gi_at_call 89; refine (parts_in _ _ trivial rfl _ _).mono ?_; rintro e w' ⟨rfl, rfl⟩))
          obtain ⟨fs', hfs'⟩ : ∃ fs', fs' = fs.take k ++ [(f : Int)] := ⟨_, rfl⟩
          have hW1 : IcW w w1 V (.slice (some ⟨b, off, none⟩) fs.length cap) fs' Ds := by rw [hfs']; exact HW.out.put rfl hown1 hgrow1
          have hW2 : IcW w (w1.alloc (.cells #[.int .i64 (f : Int)] 2)) V (.slice (some ⟨b, off, none⟩) fs.length cap) fs' Ds := hW1.turn (World.grownBy_alloc w1 _ none) (fun r e => by cases e)
          have Hfs' := hid hfs'
          have hsz1 := hW1.size
          have hDlt : ∀ D ∈ Ds, D < (w1.alloc (.cells #[.int .i64 (f : Int)] 2)).heap.size := fun D hD => lt_of_get (hW2.marks D hD).2
          refine wpIn_rangeFunc_ownG rfl (by decide) (gf := 116) (lb := #[.pointer (some ⟨w1.heap.size, 0, none⟩)]) rfl trivial (enters_of Try.func116 (by kernel_rfl) rfl)
            (parts_stops Fence.wide 9 trivial rfl (by decide) w1.heap.size f hf _ (by simp) (World.alloc_heap_new w1 _)) keepB_t (keepB_b (by simp)) (Below.refl _ _) (fun _ => rfl)
            (fun pre W => (∀ p ∈ pre, ((p.val : Nat) : Int) ∈ fs') ∧ IcW w W V (.slice (some ⟨b, off, none⟩) fs.length cap) fs' Ds)
            (fun c pre W => (c = .ret ∧ ∃ p ∈ pre, ((p.val : Nat) : Int) ∉ fs') ∧ IcW w W V (.slice (some ⟨b, off, none⟩) fs.length cap) fs' Ds)
            (OwnFrom.and (ownFrom_pure _ _) (icw_own (by simp; omega) hDlt)) (fun c => OwnFrom.and (ownFrom_pure _ _) (icw_own (by simp; omega) hDlt))
            ⟨by simp, hW2⟩
            (fun x => { tmps := #[.agg #[.int .i64 V, .slice (some ⟨b, off, none⟩) fs.length cap], .pointer (some ⟨w.heap.size, 0, none⟩), .pointer (some ⟨w.heap.size + 1, 0, none⟩), .pointer (some ⟨w.heap.size + 1 + 1 + 1, 0, none⟩),
              .int .i64 ((f : Int) + 1), undef, .int .i64 f, .int .i64 (x.val : Int), .pointer (some ⟨w.heap.size, 0, none⟩), .int .i64 V, .bool true, .bool false, .map (some (w.heap.size + 1 + 1)), .pointer (some ⟨w.heap.size, 1, none⟩), .slice (some ⟨b, off, none⟩) fs.length cap, .int .i64 fs.length,
              .int .i64 k, .bool true, .pointer (some ⟨b, off + k, none⟩), .int .i64 f, .int .i64 f, .int .i64 lo, .bool false, .bool false, .int .i64 f, .pointer (some ⟨w.heap.size, 0, none⟩), .int .i64 V, .int .i64 (allV V), .bool (decide (allV V < (f : Int))), .bool (decide (allV V < (f : Int))), .int .i64 f, .int .i64 ((f : Int) + 1),
              .map (some (w.heap.size + 1 + 1)), .int .i64 f, .int .i64 f, .func (.func 116) #[] #[.pointer (some ⟨w1.heap.size, 0, none⟩)], .int .i64 (x.val : Int), c37, c38, c39, c40, c41], defers := [] }) ?assign ?body ?done ?stop
          case assign =>
            intro l x W3 K hK
            gi_wp2
            exact hK
          case body =>
            rintro l pre x W3 ⟨hp, hW3⟩ _
            have m3 : W3.cell? ⟨w.heap.size + 1 + 1 + 1, 0, none⟩ = some (.map (some (w.heap.size + 1 + 1))) := (box_cell hW3.mbox).1
            have r3 : W3.cell? ⟨w.heap.size + 1, 0, none⟩ = some (.bool false) := (box_cell hW3.res).1
            have r4 : W3.frozen? ⟨w.heap.size + 1, 0, none⟩ = false := (box_cell hW3.res).2
            have hxl := x.isLt
            have hwx : (Lit.int .i64 (x.val : Int)).wf = true := WalkArith.wf_i64 (by omega)
            have HW3 := hid hW3
            have Hp := hid hp
            clear hW3 hp
            by_cases hm : ((x.val : Nat) : Int) ∈ fs'
            · have Hm := hid hm
              clear hm
              gi_wp2_with (gi_at_lookup; refine at_known rfl rfl HW3.out.own hwx rfl rfl (decide_eq_true Hm.out) ?_)
              refine ⟨KeepsFrom.refl _ _, rfl, fun p hp' => ?_, HW3.out⟩
              rcases List.mem_append.1 hp' with hp' | hp'
              · exact Hp.out p hp'
              · simp at hp'; rw [hp']; exact Hm.out
            · have Hm := hid hm
              clear hm
              gi_wp2_with (gi_at_lookup; refine at_known rfl rfl HW3.out.own hwx rfl rfl (decide_eq_false Hm.out) ?_)
              exact ⟨(KeepsOthers.setCell _ _ _).from _, ⟨rfl, x, by simp, Hm.out⟩, HW3.out.store⟩
          case done =>
            rintro D ys W3 hD rfl ⟨hp, hW3⟩ hK
            have hDb : w.heap.size + 4 ≤ D := by simp at hD; omega
            have hDn : D ∉ Ds := fun hm => by have := hDlt D hm; omega
            have HW4 := hid (hW3.mark hK hDb hDn)
            have htk : fs.take (k + 1) = fs' := by rw [take_snoc hlt, ← Hx.out, Hfs'.out]
            have hC' : IsC V fs' := by
              have h := leastOf_ok HC.out (x := (f : Int)) (by rw [← Hlo.out]; exact hge)
              rw [Hfs'.out]
              refine isC_snoc HC.out h.1 h.2 hle (fun p hp0 hpf => ?_)
              rw [Int.toNat_natCast] at hpf
              rw [← Hfs'.out]
              have hp64 : p < 64 := by have := and_le_left' _ _ hpf; omega
              exact hp ⟨p, hp64⟩ ((mem_subsF hf).2 ⟨hp0, hpf⟩)
            have hlo' : (f : Int) + 1 = leastOf (fs.take (k + 1)) := by rw [htk, Hfs'.out, leastOf_snoc]
            have HC' := hid hC'
            have Hlo' := hid hlo'
            have Htk := hid htk
            clear hp hW3 hC' hlo' htk
            gi_wp2
            refine ⟨⟨k + 1, ?_⟩, ?_⟩
            · (repeat apply Exists.intro)
              refine ⟨?e, ?_⟩
              case e =>
                rw [← Hlo'.out, show ((k + 1 : Nat) : Int) = (k : Int) + 1 by omega, show ({ target := .collected D, args := #[] } :: marks Ds : List Deferred) = marks (D :: Ds) from rfl]
              exact ⟨by omega, by rw [Htk.out]; exact HC'.out, by rw [Htk.out]; exact HW4.out⟩
            · simp [intOf]; omega
          case stop =>
            rintro D c pre W3 hD hpre ⟨⟨rfl, p, hpm, hpn⟩, hW3⟩ hK
            have hDb : w.heap.size + 4 ≤ D := by simp at hD; omega
            have hDn : D ∉ Ds := fun hm => by have := hDlt D hm; omega
            have HW4 := hid (hW3.mark hK hDb hDn)
            have hps := (mem_subsF hf).1 (hpre.subset hpm)
            have Hbad : Hid (isCB V fs = false) := hid (isCB_false fun h => hpn (by
              have := isC_parts (not_isC_take hlt h) hps.1 (by rw [← Hx.out, Int.toNat_natCast]; exact hps.2)
              rwa [← Hx.out, ← Hfs'.out] at this))
            clear hW3 hpn hpm hps
            gi_wp2
            exact ic_leave0 HW4.out Hbad.out rfl
    · have Hend : Hid (isCB V fs = true) := hid (isCB_true (by have := HC.out; rwa [List.take_of_length_le (by omega)] at this))
      gi_wp2
      exact ic_leave HW.out true Hend.out rfl

end Go.Proofs.Ytmkknfdjoajpcaa
