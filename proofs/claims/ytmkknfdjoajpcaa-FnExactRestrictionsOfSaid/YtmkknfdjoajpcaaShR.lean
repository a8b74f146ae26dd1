import Derived.Test.YtmkknfdjoajpcaaShL
/-! RestrictionsOf's doors. -/
namespace Go.Proofs.Ytmkknfdjoajpcaa
open Go.RowKit Go.Shelf

noncomputable def restrR (V : Int) (fs os : List Int) : List Int × Int := if isCB V fs then (if pureB (facetsL fs) && shB (facetsL fs) os then (shL os os.length, 0) else ([], 5)) else ([], 1)
theorem restrR_len (V : Int) (fs os : List Int) (_ : fs.length ≤ 1048576) (hl1 : os.length ≤ 1048576) : (restrR V fs os).1.length ≤ 1048576 := by
  unfold restrR
  split
  · split
    · simp only; rw [shL_len]; exact hl1
    · simp
  · simp

theorem list_monoR {fn : FuncId} {args : Array Value} {w : World} {P : Program} {R : List Int × Int} {xs : List Int} {c : Int} (hR : R = (xs, c))
    (h : Calls P fn args w fun e w' => ∃ v, e = .returned (.tuple #[v, .int .i64 c]) ∧ Res w w' v xs) :
    Calls P fn args w fun e w' => ∃ v, e = .returned (.tuple #[v, .int .i64 R.2]) ∧ Res w w' v R.1 := by
  subst hR
  exact h
theorem res_nilR {w w' : World} (h : Below w.heap.size w w') : Res w w' (.slice none 0 0) [] := ⟨World.ownsRow_nil _ _ _ _, h⟩
theorem Res.base {w w1 w' : World} {v : Value} {xs : List Int} (h : Res w1 w' v xs) (hb : Below w.heap.size w w1) : Res w w' v xs := ⟨ownsRow_base h.1 hb.size, hb.trans (h.2.mono hb.size)⟩

/-- The restrictions of the chain are the model's. -/
theorem restr_eq {V : Int} {fs : List Int} (hC : IsC V fs) {os : List Int} (h : shB (facetsL fs) os = true) : ∀ k, k ≤ os.length → (rsL (chN (os.map Int.toNat) k)).reverse = shL os k
  | 0, _ => rfl
  | k + 1, hk => by
    have ih := restr_eq hC h k (by omega)
    have hi : k < os.length := by omega
    unfold shB at h
    rw [Bool.and_eq_true, decide_eq_true_eq] at h
    have hkn : ∀ i, i < os.length → shK (facetsL fs) os i = true := fun i hi => by
      have := List.all_eq_true.1 h.2 i (by simpa using hi)
      rw [Bool.and_eq_true] at this
      exact this.1
    have hmem : ∀ x ∈ os, x ∈ facetsL fs := fun y hy => by
      obtain ⟨i, hi, rfl⟩ := List.getElem_of_mem hy
      have := (shK_iff.1 (hkn i hi)).1
      rwa [List.getElem?_eq_getElem hi] at this
    have hrg : ∀ x ∈ os, 1 ≤ x ∧ x ≤ 63 := fun x hx => hC.range63 x (List.mem_filter.1 (hmem x hx)).1
    obtain ⟨f, hf⟩ : ∃ f : Nat, os[k]?.getD 0 = (f : Int) := ⟨(os[k]?.getD 0).toNat, by have := hrg _ (getD_mem hi); omega⟩
    have hfm : (f : Int) ∈ facetsL fs := by rw [← hf]; exact hmem _ (getD_mem hi)
    have hf64 : f < 64 := by have := hrg _ (getD_mem hi); omega
    have hfn : (os.map Int.toNat)[k]?.getD 0 = f := by
      rw [List.getElem?_map]
      rw [List.getElem?_eq_getElem hi] at hf ⊢
      simp at hf ⊢
      omega
    have hin : k ≤ (os.map Int.toNat).length := by simp; omega
    have ht : os.take k = ((os.map Int.toNat).take k).map (fun o : Nat => (o : Int)) := by rw [List.map_take, map_nat hrg]
    have ho : ∀ o ∈ (os.map Int.toNat).take k, o < 64 ∧ o &&& f ≠ f := fun o ho => by
      have hot : (o : Int) ∈ os.take k := by rw [ht]; exact List.mem_map.2 ⟨o, ho, rfl⟩
      have hoo := List.mem_of_mem_take hot
      refine ⟨by have := hrg _ hoo; omega, fun e => ?_⟩
      have he := facet_max hC hfm (List.mem_filter.1 (hmem _ hoo)).1 e
      exact (shK_iff.1 (hkn k hi)).2 _ hot (by rw [hf, he])
    have hR : shR (os[k]?.getD 0) (os.take k) 6 = (fR f (chN (os.map Int.toNat) k) : Int) := by
      rw [hf, ht, shR_nat hf64 (fun o h => (ho o h).1) 6 (by decide), rN_fR hf64 (fun o => chN_fst (os.map Int.toNat) k hin o) ho]
    rw [shL_succ, ← ih, hR, chN, hfn]
    simp [rsL]

set_option maxRecDepth 1000000 in
set_option maxHeartbeats 2000000 in
theorem specRestrictionsOf (V : Int) (a : Option Addr) (cap : Nat) (fs : List Int) (a1 : Option Addr) (cap1 : Nat) (os : List Int) (w : World) (hx : SlI w w.heap.size a fs) (hx1 : SlI w w.heap.size a1 os) (hl : fs.length ≤ 1048576) (hl1 : os.length ≤ 1048576) (hcap : os.length ≤ cap1) :
    Calls Try.prog 42 #[.agg #[.int .i64 V, .slice a fs.length cap], .slice a1 os.length cap1] w fun e w' => ∃ v, e = .returned (.tuple #[v, .int .i64 (restrR V fs os).2]) ∧ Res w w' v (restrR V fs os).1 := by
  have hB0 : Below w.heap.size w (w.alloc (.cells #[.int .i64 V, .slice a fs.length cap] 26)) := (Below.refl _ w).alloc (Nat.le_refl _) _
  have Hx := hid (hx.later hB0 hB0.size)
  have Hxw := hid hx
  have Hyw := hid hx1
  have HB0 := hid hB0
  clear hx hx1 hB0
  by_cases hC : IsC V fs
  · have HC := hid hC
    have Hp := hid (fun W (h : Below w.heap.size w W) => pureS_any V a cap fs W (Hxw.out.later h h.size) hl hC)
    have Hs := hid (fun W (h : Below w.heap.size w W) => shS_any V a cap fs a1 cap1 os W (Hxw.out.later h h.size) (Hyw.out.later h h.size) hC hl1 hcap)
    obtain ⟨b, hb⟩ : ∃ b, b = pureB (facetsL fs) := ⟨_, rfl⟩
    rw [← hb] at Hp
    obtain ⟨g, hg⟩ : ∃ g, g = shB (facetsL fs) os := ⟨_, rfl⟩
    rw [← hg] at Hs
    have HR : Hid (restrR V fs os = if b && g then (shL os os.length, 0) else ([], 5)) := hid (by rw [restrR, isCB_true hC, if_pos rfl, ← hb, ← hg])
    clear hC hb hg
    cases g
    · refine list_monoR (show restrR V fs os = ([], 5) by rw [HR.out, Bool.and_false]; rfl) ?_
      go_enter Try.func42, Try.ntmps42
      go_wp2_with fail
      refine (is_yes V a cap fs _ Hx.out hl HC.out).mono ?_
      rintro e w1 ⟨rfl, hB1⟩
      have kb1 := (hB1.block w.heap.size (by simp)).trans (heap_alloc_new w (.cells #[.int .i64 V, .slice a fs.length cap] 26))
      obtain ⟨k0, k1, _, _⟩ := two_of kb1
      have HB1 := hid (HB0.out.trans (hB1.mono (by simp <;> omega)))
      clear hB1 kb1
      go_wp2_with fail
      refine (Hs.out w1 HB1.out).mono ?_
      rintro e w2 ⟨v2, xs2, rfl, hr2, _⟩
      have HB2 := hid (HB1.out.trans (Below.mono (w := w1) hr2.2 HB1.out.size))
      clear hr2
      go_wp2_with fail
      go_ret2
      exact ⟨_, rfl, res_nilR HB2.out⟩
    · cases b
      all_goals
        first
          | refine list_monoR (show restrR V fs os = ([], 5) by rw [HR.out]; rfl) ?_
          | refine list_monoR (show restrR V fs os = (shL os os.length, 0) by rw [HR.out]; rfl) ?_
        go_enter Try.func42, Try.ntmps42
        go_wp2_with fail
        refine (is_yes V a cap fs _ Hx.out hl HC.out).mono ?_
        rintro e w1 ⟨rfl, hB1⟩
        have kb1 := (hB1.block w.heap.size (by simp)).trans (heap_alloc_new w (.cells #[.int .i64 V, .slice a fs.length cap] 26))
        obtain ⟨k0, k1, _, _⟩ := two_of kb1
        have HB1 := hid (HB0.out.trans (hB1.mono (by simp <;> omega)))
        have Kb1 := hid kb1
        clear hB1 kb1
        go_wp2_with fail
        refine (Hs.out w1 HB1.out).mono ?_
        rintro e w2 ⟨v2, xs2, rfl, hr2, hxs2⟩
        have HB21 := hid (show Below w1.heap.size w1 w2 from hr2.2)
        have HB2 := hid (HB1.out.trans (HB21.out.mono HB1.out.size))
        have Hr2 := hid hr2
        have Hxs2 := hid (hxs2 trivial)
        have kb2 := (HB21.out.block w.heap.size (lt_of_get Kb1.out)).trans Kb1.out
        clear k0 k1 hr2 hxs2
        obtain ⟨k0, k1, _, _⟩ := two_of kb2
        clear kb2
        go_wp2_with fail
        refine (Hp.out w2 HB2.out).mono ?_
        rintro e w3 ⟨rfl, hB3⟩
        have HB3 := hid (HB2.out.trans (hB3.mono HB2.out.size))
        have Hrow3 := hid (ownsRow_below Hr2.out.1 hB3 (fun g hg => (Hr2.out.1.lt g hg).2))
        clear hB3
        go_wp2_with fail
        go_ret2
        first
          | exact ⟨_, rfl, res_nilR HB3.out⟩
          | exact ⟨v2, rfl, by rw [← Hxs2.out]; exact ownsRow_base Hrow3.out HB1.out.size, HB3.out⟩
  · refine list_monoR (show restrR V fs os = ([], 1) by unfold restrR; rw [isCB_false hC, if_neg (by simp)]) ?_
    have HC := hid hC
    clear hC
    go_enter Try.func42, Try.ntmps42
    go_wp2_with fail
    refine (is_no V a cap fs _ Hx.out hl HC.out).mono ?_
    rintro e w1 ⟨rfl, hB1⟩
    go_wp2_with fail
    go_ret2
    exact ⟨_, rfl, res_nilR (HB0.out.trans (hB1.mono (by simp <;> omega)))⟩

set_option maxRecDepth 1000000 in
set_option maxHeartbeats 2000000 in
theorem implRestrictionsOf (V : Int) (a : Option Addr) (cap : Nat) (fs : List Int) (a1 : Option Addr) (cap1 : Nat) (os : List Int) (w : World) (hx : SlI w w.heap.size a fs) (hx1 : SlI w w.heap.size a1 os) (hl : fs.length ≤ 1048576) (hl1 : os.length ≤ 1048576) :
    Calls Try.prog 43 #[.agg #[.int .i64 V, .slice a fs.length cap], .slice a1 os.length cap1] w fun e w' => ∃ v, e = .returned (.tuple #[v, .int .i64 (restrR V fs os).2]) ∧ Res w w' v (restrR V fs os).1 := by
  obtain ⟨W, hW⟩ : ∃ W, W = w.alloc (.cells #[.int .i64 V, .slice a fs.length cap] 26) := ⟨_, rfl⟩
  have hB0 : Below w.heap.size w W := by rw [hW]; exact (Below.refl _ w).alloc (Nat.le_refl _) _
  have HP := hid (pureFacets_any V a cap fs W (hx.later hB0 hB0.size) hl)
  have Hyw := hid hx1
  have HB0 := hid hB0
  have HW := hid hW
  clear hx hx1 hB0 hW
  by_cases h0 : (pureFacetsR V fs).2 = 0
  · have hC : IsC V fs := Classical.byContradiction fun hn => by
      unfold pureFacetsR at h0
      rw [isCB_false hn, if_neg (by simp)] at h0
      simp at h0
    have hp : pureB (facetsL fs) = true := by
      cases hb : pureB (facetsL fs)
      · unfold pureFacetsR at h0
        rw [isCB_true hC, if_pos rfl, hb, if_neg (by simp)] at h0
        simp at h0
      · rfl
    have hR : pureFacetsR V fs = (facetsL fs, 0) := by unfold pureFacetsR; rw [isCB_true hC, if_pos rfl, hp, if_pos rfl]
    rw [hR] at HP
    have Hs := hid (fun W av cv (h : Below w.heap.size w W) (hs : SlI W W.heap.size av (facetsL fs)) => shBy_any av cv (facetsL fs) a1 cap1 os W hs (Hyw.out.later h h.size) (fun x hx => hC.range63 x (List.mem_filter.1 hx).1) (by have := facetsL_len hC; omega) hl1)
    rw [← sh_eq hC] at Hs
    have HL : Hid (shB (facetsL fs) os = true → (rsL (chN (os.map Int.toNat) os.length)).reverse = shL os os.length) := hid (fun h => restr_eq hC h os.length (Nat.le_refl _))
    obtain ⟨g, hg⟩ : ∃ g, g = shB (facetsL fs) os := ⟨_, rfl⟩
    rw [← hg] at Hs HL
    have HR : Hid (restrR V fs os = if g then (shL os os.length, 0) else ([], 5)) := hid (by rw [restrR, isCB_true hC, if_pos rfl, hp, Bool.true_and, ← hg])
    obtain ⟨F, hF⟩ : ∃ F, F = facetsL fs := ⟨_, rfl⟩
    rw [← hF] at Hs HP
    obtain ⟨C, hCh⟩ : ∃ C, C = chN (os.map Int.toNat) os.length := ⟨_, rfl⟩
    have hCl : C.length ≤ 1048576 := by
      have : ∀ (ns : List Nat) k, (chN ns k).length = k := fun ns k => by
        induction k with
        | zero => rfl
        | succ k ih => simp [chN, ih]
      rw [hCh, this]; exact hl1
    rw [← hCh] at Hs HL
    clear h0 hC hp hR hg hF hCh
    cases g
    · refine list_monoR (show restrR V fs os = ([], 5) by rw [HR.out]; rfl) ?_
      go_enter Try.func43, Try.ntmps43
      go_wp2_with fail
      rw [← HW.out]
      refine HP.out.mono ?_
      rintro e w1 ⟨v1, rfl, hr1⟩
      have hb1 := hr1.2
      obtain ⟨_, av, cv, rfl, hs1⟩ := ownsRow_slI hr1.1
      have HB1 := hid (HB0.out.trans (hb1.mono HB0.out.size))
      have Hs1 := hid hs1
      clear hr1 hb1 hs1
      go_wp2_with fail
      refine (Hs.out w1 av cv HB1.out Hs1.out).mono ?_
      rintro e w2 ⟨q, rfl, _, hB2⟩
      have HB2 := hid (HB1.out.trans (hB2.mono HB1.out.size))
      clear hB2
      go_wp2_with fail
      go_ret2
      exact ⟨_, rfl, res_nilR HB2.out⟩
    · refine list_monoR (show restrR V fs os = (shL os os.length, 0) by rw [HR.out]; rfl) ?_
      go_enter Try.func43, Try.ntmps43
      go_wp2_with fail
      rw [← HW.out]
      refine HP.out.mono ?_
      rintro e w1 ⟨v1, rfl, hr1⟩
      have hb1 := hr1.2
      obtain ⟨_, av, cv, rfl, hs1⟩ := ownsRow_slI hr1.1
      have HB1 := hid (HB0.out.trans (hb1.mono HB0.out.size))
      have Hs1 := hid hs1
      clear hr1 hb1 hs1
      go_wp2_with fail
      refine (Hs.out w1 av cv HB1.out Hs1.out).mono ?_
      rintro e w2 ⟨q, rfl, hch, hB2⟩
      have HB2 := hid (HB1.out.trans (hB2.mono HB1.out.size))
      have Hch := hid (hch trivial)
      clear hB2 hch
      go_wp2_with fail
      refine (listed_any q C w2 Hch.out hCl).mono ?_
      rintro e w3 ⟨v2, v3, rfl, hr3⟩
      have Hr3 := hid hr3
      clear hr3
      go_wp2_with fail
      go_ret2
      exact ⟨_, rfl, by rw [← HL.out trivial]; exact Hr3.out.base HB2.out⟩
  · obtain ⟨c, hc⟩ : ∃ c, c = (pureFacetsR V fs).2 := ⟨_, rfl⟩
    obtain ⟨xs, hxs⟩ : ∃ xs, xs = (pureFacetsR V fs).1 := ⟨_, rfl⟩
    have hR : restrR V fs os = ([], c) := by
      rw [hc]
      unfold restrR pureFacetsR
      by_cases hC : IsC V fs
      · rw [isCB_true hC, if_pos rfl, if_pos rfl]
        cases hb : pureB (facetsL fs)
        · rfl
        · exfalso
          apply h0
          unfold pureFacetsR
          rw [isCB_true hC, if_pos rfl, hb, if_pos rfl]
      · rw [isCB_false hC, if_neg (by simp), if_neg (by simp)]
    refine list_monoR hR ?_
    rw [← hc, ← hxs] at HP
    rw [← hc] at h0
    have hcn : (c != 0) = true := by simpa using h0
    clear hc hxs hR h0
    go_enter Try.func43, Try.ntmps43
    go_wp2_with fail
    rw [← HW.out]
    refine HP.out.mono ?_
    rintro e w1 ⟨v1, rfl, hr1⟩
    have hb1 := hr1.2
    have HB1 := hid (HB0.out.trans (hb1.mono HB0.out.size))
    clear hr1 hb1
    go_wp2_with fail
    go_ret2
    exact ⟨_, rfl, res_nilR HB1.out⟩

end Go.Proofs.Ytmkknfdjoajpcaa
