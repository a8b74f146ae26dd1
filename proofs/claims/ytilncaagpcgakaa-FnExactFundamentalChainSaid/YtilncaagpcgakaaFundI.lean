import Derived.Test.YtilncaagpcgakaaBoundI
import Derived.Test.YtilncaagpcgakaaCountImpl
/-! FundamentalChain, the program's. -/
namespace Go.Proofs.Ytilncaagpcgakaa
open Go.RowKit Go.Shelf

theorem bdL_nil (fs : List Int) : bdL fs [] = [] := by unfold bdL; simp [par, sidesAll]

set_option maxRecDepth 100000 in
set_option maxHeartbeats 1000000 in
theorem bd_nil (V : Int) (a : Option Addr) (cap : Nat) (fs : List Int) (a1 : Option Addr) (c2 : Nat) (w : World) (hx : SlI w w.heap.size a fs) (hl : fs.length ≤ 1048576) (hf : ∀ x ∈ fs, 1 ≤ x ∧ x ≤ 63) :
    CallsIn Fence.wide 10 Try.prog 69 #[.agg #[.int .i64 V, .slice a fs.length cap], .slice a1 0 c2] w fun e w' => ∃ v, e = .returned v ∧ Res w w' v [] := by
  have hmm := @run_makeMap Try.prog
  have hB0 : Below w.heap.size w (((w.alloc (.cells #[.int .i64 V, .slice a fs.length cap] 30)).alloc (.map #[] 0)).alloc (.cells #[.map (some (w.heap.size + 1))] 64)) := (((Below.refl _ w).alloc (Nat.le_refl _) _).alloc (by simp) _).alloc (by simp <;> omega) _
  have e3 := heap_alloc_new ((w.alloc (.cells #[.int .i64 V, .slice a fs.length cap] 30)).alloc (.map #[] 0)) (.cells #[.map (some (w.heap.size + 1))] 64)
  rw [World.size_alloc, World.size_alloc] at e3
  have e2 := (World.ownsMap_made (H := Unit) (w.alloc (.cells #[.int .i64 V, .slice a fs.length cap] 30)) Try.prog 2 (plainElem (H := Unit) Try.prog 4)).alloc (.cells #[.map (some (w.heap.size + 1))] 64)
  rw [World.size_alloc] at e2
  obtain ⟨W, hW⟩ : ∃ W, W = (((w.alloc (.cells #[.int .i64 V, .slice a fs.length cap] 30)).alloc (.map #[] 0)).alloc (.cells #[.map (some (w.heap.size + 1))] 64)) := ⟨_, rfl⟩
  have q0 : W.heap[w.heap.size]? = some (.cells #[.int .i64 V, .slice a fs.length cap] 30 (0, 0)) := by
    rw [hW]; exact (Below.heap_alloc _ _ _ (by simp <;> omega)).trans ((Below.heap_alloc _ _ _ (by simp)).trans (heap_alloc_new _ _))
  obtain ⟨k0, k1, _, _⟩ := two_of q0
  rw [← hW] at e2 e3 hB0
  have HFW : Hid (Calls Try.prog 55 #[.agg #[.int .i64 V, .slice a fs.length cap], .func (.func 101) #[] #[.pointer (some ⟨w.heap.size + 1 + 1, 0, none⟩)]] W fun e w' => ∃ v, e = .returned v ∧ Res W w' v []) := hid (by
    have h := fw_any V a cap fs W 101 (.pointer (some ⟨w.heap.size + 1 + 1, 0, none⟩)) (fun x => par x []) (hx.later hB0 hB0.size) hl (enters_of Try.func101 (by kernel_rfl) rfl) (fun W' x hW' hxm => by
      have hr := hf x hxm
      have hkeep : W.grownBy W' none := ⟨hW'.os, hW'.tape, hW'.output, hW'.size, fun k hk _ => hW'.block k hk⟩
      exact oddWanted [] _ _ _ x W' hr.1 hr.2 ((hW'.cell (p := ⟨w.heap.size + 1 + 1, 0, none⟩) (lt_of_get e3)).trans (box_cell e3).1) (World.ownsMap.kept e2 hkeep (by simp)))
    have e : (fs.filter fun x => par x []) = [] := by simp [par]
    rwa [e] at h)
  have HW := hid hW
  have HB0 := hid hB0
  clear hx hf hB0 e2 e3 hW q0
  refine callsIn_of_wp_marks Try.func69 rfl trivial ?_ rfl
  simp only [Try.ntmps69, List.size_toArray, List.length_cons, List.length_nil, Nat.reduceAdd, Nat.reduceSub, Array.replicate_succ, Array.replicate_zero, List.push_toArray, List.append_toArray, List.nil_append, List.cons_append]
  gi_wp2
  clear hmm
  rw [← HW.out]
  refine wpIn_loop_rounds 1 ?_
  rw [roundsIn_succ]
  gi_wp2_with (refine ⟨trivial, ?_⟩; gi_at_call 55; refine (callsIn_wide.2 HFW.out).mono ?_; rintro e w2 ⟨v, rfl, hr⟩)
  refine ⟨v, ?_, v, rfl, hr.later HB0.out⟩
  simp [results, Try.results69, go_sem]

theorem bd_any (V : Int) (a0 : Option Addr) (cap : Nat) (fs : List Int) (a1 : Option Addr) (c2 : Nat) (ch : List Int) (w : World) (hx : SlI w w.heap.size a0 fs) (hx1 : SlI w w.heap.size a1 ch) (hl : fs.length ≤ 1048576) (hf : ∀ x ∈ fs, 1 ≤ x ∧ x ≤ 63) (hch : ∀ x ∈ ch, 1 ≤ x ∧ x ≤ 63) (hcl : ch.length ≤ 1048576) :
    Calls Try.prog 69 #[.agg #[.int .i64 V, .slice a0 fs.length cap], .slice a1 ch.length c2] w fun e w' => ∃ v, e = .returned v ∧ Res w w' v (bdL fs ch) := by
  rcases hx1 with rfl | ⟨b, off, hb, rfl, hc⟩
  · rw [bdL_nil]
    exact callsIn_wide.1 (bd_nil V a0 cap fs a1 c2 w hx hl hf)
  · exact callsIn_wide.1 (bd_in V a0 cap fs b off c2 ch w hx hl hf hb hc hch hcl)

theorem fodWanted (d : Int) (bd : Nat) (x : Int) (w : World) (hx0 : 1 ≤ x) (hx1 : x ≤ 63) (hd : w.cell? ⟨bd, 0, none⟩ = some (.int .i64 d)) :
    Calls Try.prog 100 #[.int .i64 x, .pointer (some ⟨bd, 0, none⟩)] w fun e w' => e = .returned (.bool (decide ((ones x.toNat : Int) = d + 1))) ∧ Below w.heap.size w w' := by
  obtain ⟨f, rfl⟩ : ∃ f : Nat, x = f := ⟨x.toNat, by omega⟩
  have hf : f < 64 := by omega
  rw [Int.toNat_natCast]
  have ho := ones_le f
  have He : Hid (((ones f : Int) - 1 == d) = decide ((ones f : Int) = d + 1)) := hid (by rw [Bool.eq_iff_iff]; simp; omega)
  go_enter Try.func100, Try.ntmps100
  go_wp2_with fail
  go_quiet ((go_at_call 59; exact quiet_of_eq (dim_any f _ hf)))
  go_wp2_with fail
  go_ret
  exact ⟨ret_bool He.out, ⟨rfl, rfl, rfl, Nat.le_refl _, fun _ _ => rfl⟩⟩

set_option maxRecDepth 100000 in
set_option maxHeartbeats 1000000 in
theorem fod_any (V : Int) (a : Option Addr) (cap : Nat) (fs : List Int) (d : Int) (w : World) (hx : SlI w w.heap.size a fs) (hl : fs.length ≤ 1048576) (hf : ∀ x ∈ fs, 1 ≤ x ∧ x ≤ 63) :
    Calls Try.prog 68 #[.agg #[.int .i64 V, .slice a fs.length cap], .int .i64 d] w fun e w' => ∃ v, e = .returned v ∧ Res w w' v (ofDim fs d) := by
  have hB0 : Below w.heap.size w ((w.alloc (.cells #[.int .i64 V, .slice a fs.length cap] 30)).alloc (.cells #[.int .i64 d] 2)) := ((Below.refl _ w).alloc (Nat.le_refl _) _).alloc (by simp) _
  have e1 : ((w.alloc (.cells #[.int .i64 V, .slice a fs.length cap] 30)).alloc (.cells #[.int .i64 d] 2)).heap[w.heap.size + 1]? = some (.cells #[.int .i64 d] 2 (0, 0)) := new2 _ _ _
  have HFW := hid (fw_any V a cap fs _ 100 (.pointer (some ⟨w.heap.size + 1, 0, none⟩)) (fun x => decide ((ones x.toNat : Int) = d + 1)) (hx.later hB0 hB0.size) hl (enters_of Try.func100 (by kernel_rfl) rfl) (fun W' x hW' hxm => fodWanted d _ x W' (hf x hxm).1 (hf x hxm).2 ((hW'.cell (p := ⟨w.heap.size + 1, 0, none⟩) (lt_of_get e1)).trans (box_cell e1).1)))
  clear hx hf e1
  go_enter Try.func68, Try.ntmps68
  go_wp2_with fail
  refine HFW.out.mono ?_
  rintro e w2 ⟨v, rfl, hr⟩
  go_wp2_with fail
  go_ret
  exact ⟨v, rfl, hr.later hB0⟩

/-- What FundamentalChain hands back. -/
noncomputable def fundR (V : Int) (fs : List Int) : List Int × Int := if isCB V fs then (if (ofDim fs (top fs)).length = 0 ∨ (bdL fs (ofDim fs (top fs))).length ≠ 0 then ([], 5) else (ofDim fs (top fs), 0)) else ([], 1)

theorem fundR_len (V : Int) (fs : List Int) (h : fs.length ≤ 1048576) : (fundR V fs).1.length ≤ 1048576 := by
  unfold fundR
  split
  · split
    · simp
    · exact Nat.le_trans (List.length_filter_le _ _) h
  · simp

theorem res_monoF {P : Program} {f : FuncId} {args : Array Value} {w : World} {r : List Int × Int} {xs : List Int} {c : Int} (hr : r = (xs, c))
    (h : Calls P f args w fun e w' => ∃ v, e = .returned (.tuple #[v, .int .i64 c]) ∧ Res w w' v xs) : Calls P f args w fun e w' => ∃ v, e = .returned (.tuple #[v, .int .i64 r.2]) ∧ Res w w' v r.1 := by
  subst hr; exact h

theorem ofDim_sub {fs : List Int} {d x : Int} (h : x ∈ ofDim fs d) : x ∈ fs := (List.mem_filter.1 h).1

set_option maxRecDepth 100000 in
set_option maxHeartbeats 4000000 in
theorem implFundamentalChain (V : Int) (a0 : Option Addr) (cap : Nat) (fs : List Int) (w : World) (hx : SlI w w.heap.size a0 fs) (hl : fs.length ≤ 1048576) :
    Calls Try.prog 32 #[.agg #[.int .i64 V, .slice a0 fs.length cap]] w fun e w' => ∃ v, e = .returned (.tuple #[v, .int .i64 (fundR V fs).2]) ∧ Res w w' v (fundR V fs).1 := by
  have hB0 : Below w.heap.size w (w.alloc (.cells #[.int .i64 V, .slice a0 fs.length cap] 30)) := (Below.refl _ w).alloc (Nat.le_refl _) _
  have Hx := hid (hx.later hB0 hB0.size)
  have Hx0 := hid hx
  clear hx
  by_cases hC : IsC V fs
  · have Hf := hid hC.range63
    have HC := hid hC
    obtain ⟨d, hd⟩ : ∃ d, d = top fs := ⟨_, rfl⟩
    have hR : fundR V fs = if (ofDim fs d).length = 0 ∨ (bdL fs (ofDim fs d)).length ≠ 0 then ([], 5) else (ofDim fs d, 0) := by unfold fundR; rw [isCB_true hC, if_pos rfl, hd]
    have HD := hid hd
    have HLr : Hid (∀ x ∈ ofDim fs d, 1 ≤ x ∧ x ≤ 63) := hid (fun x hx => hC.range63 x (ofDim_sub hx))
    have HLl : Hid ((ofDim fs d).length ≤ 1048576) := hid (Nat.le_trans (List.length_filter_le _ _) hl)
    obtain ⟨L, hL⟩ : ∃ L, L = ofDim fs d := ⟨_, rfl⟩
    rw [← hL] at hR HLr HLl
    have HL := hid hL
    obtain ⟨B, hB⟩ : ∃ B, B = bdL fs L := ⟨_, rfl⟩
    rw [← hB] at hR
    have HB := hid hB
    rw [hR]
    clear hR hd hL hB hC
    have key : ∀ (xs : List Int) (c : Int), (if L.length = 0 ∨ B.length ≠ 0 then (([], 5) : List Int × Int) else (L, 0)) = (xs, c) →
        Calls Try.prog 32 #[.agg #[.int .i64 V, .slice a0 fs.length cap]] w fun e w' => ∃ v, e = .returned (.tuple #[v, .int .i64 c]) ∧ Res w w' v xs := by
      intro xs c hxc
      have Hxc := hid hxc
      clear hxc
      go_enter Try.func32, Try.ntmps32
      go_wp2_with fail
      refine (isc_yes V a0 cap fs _ Hx.out hl HC.out).mono ?_
      rintro e w1 ⟨rfl, hB1⟩
      have k0 : w1.cell? ⟨w.heap.size, 0, none⟩ = some (.int .i64 V) := (hB1.cell (p := ⟨w.heap.size, 0, none⟩) (by simp)).trans (by simp [go_sem])
      have k1 : w1.cell? ⟨w.heap.size, 1, none⟩ = some (.slice a0 fs.length cap) := (hB1.cell (p := ⟨w.heap.size, 1, none⟩) (by simp)).trans (by simp [go_sem])
      have HB1 := hid (hB0.trans (hB1.mono (by simp)))
      have hs1 : w.heap.size < w1.heap.size := by have := hB1.size; simp at this; omega
      have Hs1 := hid hs1
      have HBd : Hid (Below w.heap.size w w1.drew) := hid (HB1.out.trans ⟨rfl, rfl, rfl, Nat.le_refl _, fun _ _ => rfl⟩)
      have HT := hid (dimI_any V a0 cap fs w1.drew (Hx0.out.later HBd.out HBd.out.size) hl Hf.out)
      rw [← HD.out] at HT
      clear hB1 hs1
      go_wp2_with fail
      go_region_held3 (fun w' => w'.cell? ⟨w.heap.size, 0, none⟩ = some (.int .i64 V) ∧ w'.cell? ⟨w.heap.size, 1, none⟩ = some (.slice a0 fs.length cap)) (go_keep) (first
        | (go_at_call 58; (with_reducible_and_instances refine HT.out.mono ?_); rintro e w2 ⟨rfl, hB2⟩; have n0 := (hB2.cell (p := ⟨w.heap.size, 0, none⟩) Hs1.out).trans k0; have n1 := (hB2.cell (p := ⟨w.heap.size, 1, none⟩) Hs1.out).trans k1; have HB2 := hid (HBd.out.trans (hB2.mono HBd.out.size)); have Hs2 : Hid (w.heap.size < w2.heap.size) := hid (Nat.lt_of_lt_of_le Hs1.out hB2.size); have HO := hid (fod_any V a0 cap fs d w2 (Hx0.out.later HB2.out HB2.out.size) hl Hf.out); clear hB2)
        | (go_at_call 68; (with_reducible_and_instances refine HO.out.mono ?_); rintro e w3 ⟨v, rfl, hr⟩; have hb3 : Below w2.heap.size w2 w3 := hr.2; have o0 := (hb3.cell (p := ⟨w.heap.size, 0, none⟩) Hs2.out).trans n0; have o1 := (hb3.cell (p := ⟨w.heap.size, 1, none⟩) Hs2.out).trans n1; have HR := hid hr; clear hr hb3))
      all_goals
        have hb3 : Below w2.heap.size w2 w3 := HR.out.2
        have HB3 := hid (HB2.out.trans (hb3.mono HB2.out.size))
        have hr1 := HR.out.1
        rw [← HL.out] at hr1
        have HR1 := hid (ownsRow_base hr1 HB2.out.size)
        obtain ⟨_, av, cv, rfl, hs⟩ := ownsRow_slI hr1
        have Hs := hid hs
        clear hr1 hs hb3 HR
        by_cases hl0 : L.length = 0
        · have hd0 : ((L.length : Int) == 0) = true := by simp [hl0]
          have Hx2 := hid ((if_pos (Or.inl hl0)).symm.trans Hxc.out)
          clear hl0
          go_wp2_with fail
          go_ret2
          have := Hx2.out
          simp only [Prod.mk.injEq] at this
          obtain ⟨rfl, rfl⟩ := this
          exact ⟨_, rfl, res_nil _ _ HB3.out⟩
        · have hd0 : ((L.length : Int) == 0) = false := beq_eq_false_iff_ne.2 (by omega)
          have HBD := hid (bd_any V a0 cap fs av cv L w3 (Hx0.out.later HB3.out HB3.out.size) Hs.out hl Hf.out HLr.out HLl.out)
          rw [← HB.out] at HBD
          by_cases hb0 : B.length = 0
          · have Hx2 := hid ((if_neg (fun h => h.elim hl0 (fun h => h hb0))).symm.trans Hxc.out)
            have hd1 : decide ((0 : Int) < (B.length : Int)) = false := by simp [hb0]
            have hle : ¬ (0 : Int) < (B.length : Int) := by omega
            clear hl0 hb0
            go_wp2_with (go_at_call 69; refine HBD.out.mono ?_; rintro e w4 ⟨vb, rfl, hr4⟩; obtain ⟨_, ab, cb, rfl, _⟩ := ownsRow_slI hr4.1; have HR4 := hid hr4; clear hr4)
            go_ret2
            have := Hx2.out
            simp only [Prod.mk.injEq] at this
            obtain ⟨rfl, rfl⟩ := this
            have hb4 : Below w3.heap.size w3 w4 := HR4.out.2
            exact ⟨_, rfl, ownsRow_below HR1.out hb4 (fun g hg => (HR1.out.lt g hg).2), HB3.out.trans (hb4.mono HB3.out.size)⟩
          · have Hx2 := hid ((if_pos (Or.inr hb0)).symm.trans Hxc.out)
            have hlt : (0 : Int) < (B.length : Int) := by omega
            clear hl0 hb0
            go_wp2_with (go_at_call 69; refine HBD.out.mono ?_; rintro e w4 ⟨vb, rfl, hr4⟩; obtain ⟨_, ab, cb, rfl, _⟩ := ownsRow_slI hr4.1; have HR4 := hid hr4; clear hr4)
            go_ret2
            have := Hx2.out
            simp only [Prod.mk.injEq] at this
            obtain ⟨rfl, rfl⟩ := this
            have hb4 : Below w3.heap.size w3 w4 := HR4.out.2
            exact ⟨_, rfl, res_nil _ _ (HB3.out.trans (hb4.mono HB3.out.size))⟩
    exact key _ _ rfl
  · refine res_monoF (show fundR V fs = ([], 1) by unfold fundR; rw [isCB_false hC, if_neg (by simp)]) ?_
    go_enter Try.func32, Try.ntmps32
    go_wp2_with fail
    refine (isc_no V a0 cap fs _ Hx.out hl hC).mono ?_
    rintro e w1 ⟨rfl, hB1⟩
    go_wp2_with fail
    go_ret2
    exact ⟨_, rfl, res_nil _ _ (hB0.trans (hB1.mono (by simp)))⟩

end Go.Proofs.Ytilncaagpcgakaa
