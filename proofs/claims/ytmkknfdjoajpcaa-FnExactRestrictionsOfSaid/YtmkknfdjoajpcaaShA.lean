import Derived.Test.YtmkknfdjoajpcaaShB
/-! IsShelling's doors. -/
namespace Go.Proofs.Ytmkknfdjoajpcaa
open Go.RowKit Go.Shelf

/-- What IsShelling hands back; J: is the list a shelling. -/
noncomputable def isShR (J : List Int → List Int → Bool) (V : Int) (fs os : List Int) : Bool × Int := if isCB V fs then (if pureB (facetsL fs) then (J (facetsL fs) os, 0) else (false, 5)) else (false, 1)

theorem facetsL_len {V : Int} {fs : List Int} (hC : IsC V fs) : (facetsL fs).length ≤ 63 := by
  have := List.length_filter_le (fun x => decide ((aboveL fs x.toNat).length = 0)) fs
  have := hC.len63
  unfold facetsL
  omega

set_option maxRecDepth 1000000 in
set_option maxHeartbeats 2000000 in
theorem specIsShelling (V : Int) (a : Option Addr) (cap : Nat) (fs : List Int) (a1 : Option Addr) (cap1 : Nat) (os : List Int) (w : World) (hx : SlI w w.heap.size a fs) (hx1 : SlI w w.heap.size a1 os) (hl : fs.length ≤ 1048576) (hl1 : os.length ≤ 1048576) (hcap : os.length ≤ cap1) :
    Calls Try.prog 37 #[.agg #[.int .i64 V, .slice a fs.length cap], .slice a1 os.length cap1] w fun e w' => e = .returned (.tuple #[.bool (isShR shB V fs os).1, .int .i64 (isShR shB V fs os).2]) ∧ Below w.heap.size w w' := by
  have hB0 : Below w.heap.size w (w.alloc (.cells #[.int .i64 V, .slice a fs.length cap] 26)) := (Below.refl _ w).alloc (Nat.le_refl _) _
  have Hx := hid (hx.later hB0 hB0.size)
  have Hxw := hid hx
  have Hyw := hid hx1
  have HB0 := hid hB0
  clear hx hx1 hB0
  by_cases hC : IsC V fs
  · have HC := hid hC
    have Hp := hid (fun W (h : Below w.heap.size w W) => pureS_any V a cap fs W (Hxw.out.later h h.size) hl hC)
    have Hs := hid (fun W (h : Below w.heap.size w W) => shS_any V a cap fs a1 cap1 os W (Hxw.out.later h h.size) (Hyw.out.later h h.size) hC hl1 hcap)
    obtain ⟨b, hb⟩ : ∃ b, b = pureB (facetsL fs) := ⟨_, rfl⟩
    rw [← hb] at Hp
    obtain ⟨g, hg⟩ : ∃ g, g = shB (facetsL fs) os := ⟨_, rfl⟩
    rw [← hg] at Hs
    have HR : Hid (isShR shB V fs os = if b then (g, 0) else (false, 5)) := hid (by rw [isShR, isCB_true hC, if_pos rfl, ← hb, ← hg])
    clear hC hb hg
    cases b
    · refine bool_mono' (show isShR shB V fs os = (false, 5) by rw [HR.out]; rfl) ?_
      go_enter Try.func37, Try.ntmps37
      go_wp2_with fail
      refine (is_yes V a cap fs _ Hx.out hl HC.out).mono ?_
      rintro e w1 ⟨rfl, hB1⟩
      have k0 : w1.cell? ⟨w.heap.size, 0, none⟩ = some (.int .i64 V) := (hB1.cell (p := ⟨w.heap.size, 0, none⟩) (by simp <;> omega)).trans (by simp [go_sem])
      have k1 : w1.cell? ⟨w.heap.size, 1, none⟩ = some (.slice a fs.length cap) := (hB1.cell (p := ⟨w.heap.size, 1, none⟩) (by simp <;> omega)).trans (by simp [go_sem])
      have HB1 := hid (HB0.out.trans (hB1.mono (by simp <;> omega)))
      clear hB1
      go_wp2_with fail
      refine (Hp.out w1 HB1.out).mono ?_
      rintro e w2 ⟨rfl, hB2⟩
      have HB2 := hid (HB1.out.trans (hB2.mono HB1.out.size))
      go_wp2_with fail
      go_ret2
      exact ⟨rfl, HB2.out⟩
    · refine bool_mono' (show isShR shB V fs os = (g, 0) by rw [HR.out]; rfl) ?_
      go_enter Try.func37, Try.ntmps37
      go_wp2_with fail
      refine (is_yes V a cap fs _ Hx.out hl HC.out).mono ?_
      rintro e w1 ⟨rfl, hB1⟩
      have kb1 := (hB1.block w.heap.size (by simp)).trans (heap_alloc_new w (.cells #[.int .i64 V, .slice a fs.length cap] 26))
      obtain ⟨k0, k1, _, _⟩ := two_of kb1
      have HB1 := hid (HB0.out.trans (hB1.mono (by simp <;> omega)))
      have Kb1 := hid kb1
      clear hB1 kb1
      go_wp2_with fail
      refine (Hp.out w1 HB1.out).mono ?_
      rintro e w2 ⟨rfl, hB2⟩
      have HB2 := hid (HB1.out.trans (hB2.mono HB1.out.size))
      have kb2 := (hB2.block w.heap.size (lt_of_get Kb1.out)).trans Kb1.out
      clear k0 k1
      obtain ⟨k0, k1, _, _⟩ := two_of kb2
      clear hB2 kb2
      go_wp2_with fail
      refine (Hs.out w2 HB2.out).mono ?_
      rintro e w3 ⟨v3, xs3, rfl, hr3, _⟩
      have hb3 := hr3.2
      have HB3 := hid (HB2.out.trans (hb3.mono HB2.out.size))
      clear hr3 hb3
      go_wp2_with fail
      go_ret2
      exact ⟨rfl, HB3.out⟩
  · refine bool_mono' (show isShR shB V fs os = (false, 1) by unfold isShR; rw [isCB_false hC, if_neg (by simp)]) ?_
    have HC := hid hC
    clear hC
    go_enter Try.func37, Try.ntmps37
    go_wp2_with fail
    refine (is_no V a cap fs _ Hx.out hl HC.out).mono ?_
    rintro e w1 ⟨rfl, hB1⟩
    go_wp2_with fail
    go_ret2
    exact ⟨rfl, HB0.out.trans (hB1.mono (by simp <;> omega))⟩

set_option maxRecDepth 1000000 in
set_option maxHeartbeats 2000000 in
theorem implIsShellingI (V : Int) (a : Option Addr) (cap : Nat) (fs : List Int) (a1 : Option Addr) (cap1 : Nat) (os : List Int) (w : World) (hx : SlI w w.heap.size a fs) (hx1 : SlI w w.heap.size a1 os) (hl : fs.length ≤ 1048576) (hl1 : os.length ≤ 1048576) :
    Calls Try.prog 39 #[.agg #[.int .i64 V, .slice a fs.length cap], .slice a1 os.length cap1] w fun e w' => e = .returned (.tuple #[.bool (isShR shI V fs os).1, .int .i64 (isShR shI V fs os).2]) ∧ Below w.heap.size w w' := by
  obtain ⟨W, hW⟩ : ∃ W, W = w.alloc (.cells #[.int .i64 V, .slice a fs.length cap] 26) := ⟨_, rfl⟩
  have hB0 : Below w.heap.size w W := by rw [hW]; exact (Below.refl _ w).alloc (Nat.le_refl _) _
  have HP := hid (pureFacets_any V a cap fs W (hx.later hB0 hB0.size) hl)
  have Hyw := hid hx1
  have HB0 := hid hB0
  have HW := hid hW
  clear hx hx1 hB0 hW
  by_cases h0 : (pureFacetsR V fs).2 = 0
  · have hC : IsC V fs := Classical.byContradiction fun hn => by
      unfold pureFacetsR at h0
      rw [isCB_false hn, if_neg (by simp)] at h0
      simp at h0
    have hp : pureB (facetsL fs) = true := by
      cases hb : pureB (facetsL fs)
      · unfold pureFacetsR at h0
        rw [isCB_true hC, if_pos rfl, hb, if_neg (by simp)] at h0
        simp at h0
      · rfl
    have hR : pureFacetsR V fs = (facetsL fs, 0) := by unfold pureFacetsR; rw [isCB_true hC, if_pos rfl, hp, if_pos rfl]
    rw [hR] at HP
    have Hs := hid (fun W av cv (h : Below w.heap.size w W) (hs : SlI W W.heap.size av (facetsL fs)) => shBy_any av cv (facetsL fs) a1 cap1 os W hs (Hyw.out.later h h.size) (fun x hx => hC.range63 x (List.mem_filter.1 hx).1) (by have := facetsL_len hC; omega) hl1)
    refine bool_mono' (show isShR shI V fs os = (shI (facetsL fs) os, 0) by rw [isShR, isCB_true hC, if_pos rfl, hp, if_pos rfl]) ?_
    obtain ⟨g, hg⟩ : ∃ g, g = shI (facetsL fs) os := ⟨_, rfl⟩
    rw [← hg] at Hs
    rw [← hg]
    obtain ⟨F, hF⟩ : ∃ F, F = facetsL fs := ⟨_, rfl⟩
    rw [← hF] at Hs HP
    clear h0 hC hp hR hg hF
    go_enter Try.func39, Try.ntmps39
    go_wp2_with fail
    rw [← HW.out]
    refine HP.out.mono ?_
    rintro e w1 ⟨v1, rfl, hr1⟩
    have hb1 := hr1.2
    obtain ⟨_, av, cv, rfl, hs1⟩ := ownsRow_slI hr1.1
    have HB1 := hid (HB0.out.trans (hb1.mono HB0.out.size))
    have Hs1 := hid hs1
    clear hr1 hb1 hs1
    go_wp2_with fail
    refine (Hs.out w1 av cv HB1.out Hs1.out).mono ?_
    rintro e w2 ⟨q, rfl, _, hB2⟩
    have HB2 := hid (HB1.out.trans (hB2.mono HB1.out.size))
    clear hB2
    go_wp2_with fail
    go_ret2
    exact ⟨rfl, HB2.out⟩
  · obtain ⟨c, hc⟩ : ∃ c, c = (pureFacetsR V fs).2 := ⟨_, rfl⟩
    obtain ⟨xs, hxs⟩ : ∃ xs, xs = (pureFacetsR V fs).1 := ⟨_, rfl⟩
    have hR : isShR shI V fs os = (false, c) := by
      rw [hc]
      unfold isShR pureFacetsR
      by_cases hC : IsC V fs
      · rw [isCB_true hC, if_pos rfl, if_pos rfl]
        cases hb : pureB (facetsL fs)
        · rfl
        · exfalso
          apply h0
          unfold pureFacetsR
          rw [isCB_true hC, if_pos rfl, hb, if_pos rfl]
      · rw [isCB_false hC, if_neg (by simp), if_neg (by simp)]
    refine bool_mono' hR ?_
    rw [← hc, ← hxs] at HP
    rw [← hc] at h0
    have hcn : (c != 0) = true := by simpa using h0
    clear hc hxs hR h0
    go_enter Try.func39, Try.ntmps39
    go_wp2_with fail
    rw [← HW.out]
    refine HP.out.mono ?_
    rintro e w1 ⟨v1, rfl, hr1⟩
    have hb1 := hr1.2
    have HB1 := hid (HB0.out.trans (hb1.mono HB0.out.size))
    clear hr1 hb1
    go_wp2_with fail
    go_ret2
    exact ⟨rfl, HB1.out⟩

end Go.Proofs.Ytmkknfdjoajpcaa
