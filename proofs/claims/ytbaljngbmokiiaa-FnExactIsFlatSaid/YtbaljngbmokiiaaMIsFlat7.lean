import Derived.Test.YtbaljngbmokiiaaMIsFlat1
import Derived.Test.YtbaljngbmokiiaaMIsFlat2
import Derived.Test.YtbaljngbmokiiaaMIsFlat3
import Derived.Test.YtbaljngbmokiiaaMIsFlat4
import Derived.Test.YtbaljngbmokiiaaMIsFlat5
import Derived.Test.YtbaljngbmokiiaaMIsFlat6
/-! fallingPairs. -/
namespace Go.Proofs.Ytbaljngbmokiiaa
open Go.RowKit

set_option maxRecDepth 100000 in
set_option maxHeartbeats 1000000 in
theorem idx_nil (bm : Nat) (w : World) :
    Calls Try.prog 195 #[.slice none 0 0, .func (.func 132) #[] #[.pointer (some ⟨bm, 0, none⟩)]] w fun e w' => e = .returned (.int .i64 (-1)) ∧ w = w' := by
  go_enter Try.func195, Try.ntmps195
  go_wp2
  refine wp_loop_rounds 1 ?_; rw [rounds_succ]
  go_wp2
  go_ret
  exact ⟨rfl, rfl⟩

set_option maxRecDepth 100000 in
set_option maxHeartbeats 1000000 in
theorem del_nil (bm : Nat) (w : World) :
    Calls Try.prog 131 #[.slice none 0 0, .func (.func 132) #[] #[.pointer (some ⟨bm, 0, none⟩)]] w fun e w' => e = .returned (.slice none 0 0) ∧ w = w' := by
  go_enter Try.func131, Try.ntmps131
  go_wp2_with fail
  refine (idx_nil bm w).mono ?_
  rintro e w1 ⟨rfl, rfl⟩
  go_wp2_with fail
  go_ret
  exact ⟨rfl, rfl⟩

theorem del_row (base n : Nat) (v : Value) (ps : List Int) (bm b : Nat) (fs gs : List Int) (w : World) (hn : n ≤ 1048576) (hown : w.ownsRow base 55 2 v n (ps.map (Value.int .i64)))
    (hm : NumM w b fs gs fs.length) (hg : gs.length = fs.length) (hbm : w.cell? ⟨bm, 0, none⟩ = some (.map (some b))) (hlt : bm < base) (hlt2 : b < base) (hbw : base ≤ w.heap.size) (hwp : ∀ x ∈ ps, (Lit.int .i64 x).wf = true) :
    Calls Try.prog 131 #[v, .func (.func 132) #[] #[.pointer (some ⟨bm, 0, none⟩)]] w fun e w' => ∃ (q : Nat) (v' : Value), e = .returned v' ∧ (keepL fs gs ps n).length = 2 * q ∧ w'.ownsRow base 55 2 v' q ((keepL fs gs ps n).map (Value.int .i64)) ∧ Below base w w' := by
  rcases hown.2 with ⟨rfl, rfl⟩ | ⟨g, cap, cur, rfl, hbg, _⟩
  · refine (del_nil bm w).mono ?_
    rintro e w1 ⟨rfl, rfl⟩
    exact ⟨0, _, rfl, rfl, World.ownsRow_nil _ _ _ _, (Below.refl _ _)⟩
  · obtain ⟨hgl, _, _⟩ := own_pairs hown
    refine (del_any base g n cap ps bm b fs gs w hn hown hm hg hbm (by omega) hwp (by omega) (by omega)).mono ?_
    rintro e w1 ⟨q, rfl, h1, h2, h3⟩
    exact ⟨q, _, rfl, h1, h2, ⟨h3.os, h3.tape, h3.output, h3.size, fun k hk => h3.block k (by omega) (by simp; omega)⟩⟩

set_option maxRecDepth 1000000 in
set_option maxHeartbeats 4000000 in
theorem fp_any (V : Int) (a0 : Option Addr) (cap : Nat) (fs : List Int) (a1 : Option Addr) (cap1 : Nat) (gs : List Int) (w : World) (hx : SlI w w.heap.size a0 fs) (hx1 : SlI w w.heap.size a1 gs) (hC : IsC V fs) (hg : gs.length = fs.length) (hwg : ∀ x ∈ gs, (Lit.int .i64 x).wf = true) :
    Calls Try.prog 69 #[.agg #[.int .i64 V, .slice a0 fs.length cap], .slice a1 gs.length cap1] w fun e w' => ∃ v, e = .returned v ∧ ResP w w' v (fnP fs gs fs.length) := by
  have h63 := hC.len63
  have hr := hC.range63
  obtain ⟨vn, rfl⟩ : ∃ vn : Nat, V = (vn : Int) := ⟨V.toNat, by have := hC.lo; omega⟩
  have hkf := keep_fn gs hC
  rw [Int.toNat_natCast] at hkf
  have hvn : vn ≤ 6 := by have := hC.hi; omega
  have hpl := pairsL_len fs vn fs.length (Nat.le_refl _)
  have hpl2 : (pairsL fs vn fs.length).length ≤ 1048576 := by
    have : fs.length * vn ≤ 63 * 6 := Nat.mul_le_mul h63 hvn
    omega
  have hwp : ∀ x ∈ flatP (pairsL fs vn fs.length), (Lit.int .i64 x).wf = true := by
    intro x hx
    obtain ⟨p, hp, hx⟩ := List.mem_flatMap.1 hx
    have hm := (mem_pairsL hC p.1 p.2).1 (by rw [Int.toNat_natCast]; exact hp)
    unfold pairB at hm
    simp only [Bool.and_eq_true, decide_eq_true_eq] at hm
    have h1 := hr _ hm.1.1.1
    have h2 := hr _ hm.1.1.2
    simp at hx
    rcases hx with rfl | rfl
    · exact WalkArith.wf_i64 (by omega)
    · exact WalkArith.wf_i64 (by omega)
  have hB0 : Below w.heap.size w (w.alloc (.cells #[.int .i64 vn, .slice a0 fs.length cap] 26)) := (Below.refl _ w).alloc (Nat.le_refl _) _
  have hk0 : (w.alloc (.cells #[.int .i64 vn, .slice a0 fs.length cap] 26)).cell? ⟨w.heap.size, 0, none⟩ = some (.int .i64 vn) := by simp [go_sem]
  have hk1 : (w.alloc (.cells #[.int .i64 vn, .slice a0 fs.length cap] 26)).cell? ⟨w.heap.size, 1, none⟩ = some (.slice a0 fs.length cap) := by simp [go_sem]
  have HN := hid (numbers_any vn a0 cap fs a1 cap1 gs _ (hx.later hB0 hB0.size) (hx1.later hB0 hB0.size) (by omega) hg (isC_distinct hC) (fun x hm => WalkArith.wf_i64 (by have := hr x hm; omega)) hwg)
  have HP := hid (fun W' (h : Below w.heap.size w W') => pairsOf_any vn a0 cap fs W' (hx.later h h.size) (by omega) hC)
  have HB0 := hid hB0
  have Hk0 := hid hk0
  have Hk1 := hid hk1
  have Hkf := hid hkf
  have Hwp := hid hwp
  have Hg := hid hg
  clear hB0 hk0 hk1 hkf hwp hpl h63 hr hx hx1 hC hwg hg
  go_enter Try.func69, Try.ntmps69
  go_wp2_with fail
  refine HN.out.mono ?_
  rintro e w1 ⟨rfl, hm, hB1⟩
  rw [World.size_alloc] at hm hB1 ⊢
  have HM1 := hid hm
  have HB1 := hid (HB0.out.trans (hB1.mono (by omega)))
  have hs1 : w.heap.size + 1 + 1 < w1.heap.size := hm.lt
  have K0 := hid ((hB1.cell (p := ⟨w.heap.size, 0, none⟩) (by simp)).trans Hk0.out)
  have K1 := hid ((hB1.cell (p := ⟨w.heap.size, 1, none⟩) (by simp)).trans Hk1.out)
  clear hm hB1 HN
  obtain ⟨W2, hW2⟩ : ∃ W2, W2 = w1.alloc (.cells #[.map (some (w.heap.size + 1 + 1))] 87) := ⟨_, rfl⟩
  have hB2 : Below w1.heap.size w1 W2 := by rw [hW2]; exact (Below.refl _ _).alloc (Nat.le_refl _) _
  have hs2 : W2.heap.size = w1.heap.size + 1 := by rw [hW2]; simp
  have HM2 := hid (HM1.out.kept (row := none) (W' := W2) ⟨hB2.os, hB2.tape, hB2.output, hB2.size, fun q hq _ => hB2.block q hq⟩ (by simp))
  have hbx : W2.cell? ⟨w1.heap.size, 0, none⟩ = some (.map (some (w.heap.size + 1 + 1))) := by rw [hW2]; simp [go_sem]
  have Hbx := hid hbx
  have HB2 := hid (HB1.out.trans (hB2.mono HB1.out.size))
  have hk0 := (hB2.cell (p := ⟨w.heap.size, 0, none⟩) (by simp only; omega)).trans K0.out
  have hk1 := (hB2.cell (p := ⟨w.heap.size, 1, none⟩) (by simp only; omega)).trans K1.out
  have HP2 := hid (HP.out W2 HB2.out)
  clear HP hB2 hbx
  rw [hW2] at hk0 hk1
  go_wp2_with fail
  rw [← hW2]
  refine HP2.out.mono ?_
  rintro e w3 ⟨v, rfl, hown, hB3⟩
  have HDel := hid (del_row W2.heap.size _ v _ w1.heap.size _ fs gs w3 hpl2 (ownsRow_base hown (by omega)) (HM2.out.kept (row := none) ⟨hB3.os, hB3.tape, hB3.output, hB3.size, fun q hq _ => hB3.block q hq⟩ (by simp)) Hg.out ((hB3.cell (p := ⟨w1.heap.size, 0, none⟩) (by simp only; omega)).trans Hbx.out) (by omega) (by omega) hB3.size Hwp.out)
  have HB3 := hid (HB2.out.trans (hB3.mono HB2.out.size))
  have hsz3 := hB3.size
  clear hB3 hown HP2
  go_wp2_with fail
  refine HDel.out.mono ?_
  rintro e w4 ⟨q, v', rfl, hq, ho, hB4⟩
  rw [Hkf.out] at hq ho
  have hql : q = (fnP fs gs fs.length).length := by rw [flatP_len] at hq; omega
  subst hql
  have Ho := hid (ownsRow_base (base' := w.heap.size) ho (by omega))
  have HB4 := hid (HB3.out.trans (hB4.mono (by omega)))
  clear ho hB4
  go_wp2_with fail
  go_ret
  exact ⟨_, rfl, Ho.out, HB4.out⟩

end Go.Proofs.Ytbaljngbmokiiaa

/-! PairingOfFunction's doors. -/
namespace Go.Proofs.Ytbaljngbmokiiaa
open Go.RowKit

noncomputable def pairFnR (V : Int) (fs gs : List Int) : List (Int × Int) × Int := if mcode4R V fs [gs] = 0 then (fnP fs gs fs.length, 0) else ([], mcode4R V fs [gs])
theorem mcode4_zero {V : Int} {fs gs : List Int} (h : mcode4R V fs [gs] = 0) : IsC V fs ∧ isFnB fs gs = true := by
  refine code4_zero (Classical.byContradiction fun hn => ?_)
  rw [mcode4R, if_neg hn] at h
  exact hn h

set_option maxRecDepth 1000000 in
set_option maxHeartbeats 2000000 in
theorem specPairingOfFunction (V : Int) (a0 : Option Addr) (cap : Nat) (fs : List Int) (a1 : Option Addr) (cap1 : Nat) (gs : List Int) (w : World) (hx : SlI w w.heap.size a0 fs) (hx1 : SlI w w.heap.size a1 gs) (hl : fs.length ≤ 1048576) (hg : gs.length ≤ 1048576) :
    Calls Try.prog 70 #[.agg #[.int .i64 V, .slice a0 fs.length cap], .slice a1 gs.length cap1] w fun e w' => ∃ v, e = .returned (.tuple #[v, .int .i64 (pairFnR V fs gs).2]) ∧ ResP w w' v (pairFnR V fs gs).1 := by
  obtain ⟨W0, hW0⟩ : ∃ W0, W0 = (w.alloc (.cells #[.int .i64 V, .slice a0 fs.length cap] 26)).alloc (.cells #[.slice a1 gs.length cap1] 22) := ⟨_, rfl⟩
  have hB0 : Below w.heap.size w W0 := by rw [hW0]; exact ((Below.refl _ w).alloc (Nat.le_refl _) _).alloc (by simp) _
  have hs0 : W0.heap.size = w.heap.size + 2 := by rw [hW0]; simp
  have hk0 : W0.cell? ⟨w.heap.size, 0, none⟩ = some (.int .i64 V) := by rw [hW0]; simp [go_sem]
  have hk1 : W0.cell? ⟨w.heap.size, 1, none⟩ = some (.slice a0 fs.length cap) := by rw [hW0]; simp [go_sem]
  have hk2 : W0.cell? ⟨w.heap.size + 1, 0, none⟩ = some (.slice a1 gs.length cap1) := by rw [hW0]; simp [go_sem]
  have HK : Hid (Calls Try.prog 65 #[.agg #[.int .i64 V, .slice a0 fs.length cap], .slice (some ⟨w.heap.size + 1, 0, none⟩) 1 1] W0 fun e w' => e = .returned (.int .i64 (code4R V fs [gs])) ∧ Below W0.heap.size W0 w') :=
    hid (code4_any V a0 cap fs (w.heap.size + 1) [(a1, cap1, gs)] W0 (hx.later hB0 hB0.size) hl (by omega) (fun i hi => by
      have : i = 0 := by simpa using hi
      subst this
      exact ⟨a1, cap1, gs, rfl, hk2⟩) (fun q hq => by
      have : q = (a1, cap1, gs) := by simpa using hq
      subst this
      exact ⟨hx1.later hB0 hB0.size, hg⟩) (by simp))
  have Hx := hid hx
  have Hy := hid hx1
  have HB0 := hid hB0
  have Hk0 := hid hk0
  have Hk1 := hid hk1
  clear hx hx1 hB0 hk0 hk1 hk2
  by_cases h0 : code4R V fs [gs] = 0
  · obtain ⟨hC, hfn⟩ := code4_zero h0
    have hmc : mcode4R V fs [gs] = if morseB fs gs fs.length = true then 0 else 5 := by rw [mcode4R, if_pos h0]; simp
    have hfe := fnPairs_eq hC (isFn_len hfn) fs.length (Nat.le_refl _)
    rw [h0] at HK
    have HM := hid (fun w1 (h : Below w.heap.size w w1) => fnPairs_any V a0 cap fs a1 cap1 gs w1 (Hx.out.later h h.size) (Hy.out.later h h.size) hC (isFn_len hfn))
    rw [hfe] at HM
    clear h0 hC hfn hfe
    have Hmc := hid hmc
    clear hmc
    rw [hW0] at HK
    go_enter Try.func70, Try.ntmps70
    go_wp2_with fail
    refine HK.out.mono ?_
    rintro e w1 ⟨rfl, hB1⟩
    rw [← hW0] at hB1
    have k0 := (hB1.cell (p := ⟨w.heap.size, 0, none⟩) (by simp only; omega)).trans Hk0.out
    have k1 := (hB1.cell (p := ⟨w.heap.size, 1, none⟩) (by simp only; omega)).trans Hk1.out
    have HB1 := hid (HB0.out.trans (hB1.mono HB0.out.size))
    clear hB1
    go_wp2_with fail
    refine (HM.out w1 HB1.out).mono ?_
    rintro e w2 ⟨n2, v2, rfl, hn2, ho2, hB2⟩
    have hql : n2 = (fnP fs gs fs.length).length := by rw [flatP_len] at hn2; omega
    subst hql
    have Ho2 := hid (ownsRow_base (base' := w.heap.size) ho2 HB1.out.size)
    have HB2 := hid (HB1.out.trans (hB2.mono HB1.out.size))
    clear hB2 ho2 hn2
    cases hb : morseB fs gs fs.length
    · have Hr : Hid (pairFnR V fs gs = ([], 5)) := hid (by rw [pairFnR, Hmc.out, hb]; simp)
      clear hb
      go_wp2_with fail
      go_ret2
      rw [Hr.out]
      exact ⟨_, rfl, resP_nil _ _ HB2.out⟩
    · have Hr : Hid (pairFnR V fs gs = (fnP fs gs fs.length, 0)) := hid (by rw [pairFnR, Hmc.out, hb]; simp)
      clear hb
      go_wp2_with fail
      go_ret2
      rw [Hr.out]
      exact ⟨_, rfl, Ho2.out, HB2.out⟩
  · obtain ⟨c, hc⟩ : ∃ c, c = code4R V fs [gs] := ⟨_, rfl⟩
    have hmc : mcode4R V fs [gs] = c := by rw [mcode4R, if_neg h0, hc]
    have Hr : Hid (pairFnR V fs gs = ([], c)) := hid (by rw [pairFnR, hmc, if_neg (by rw [hc]; exact h0)])
    clear hmc
    rw [← hc] at h0 HK
    have hcn : (c != 0) = true := by simpa using h0
    clear hc h0
    rw [hW0] at HK
    go_enter Try.func70, Try.ntmps70
    go_wp2_with fail
    refine HK.out.mono ?_
    rintro e w1 ⟨rfl, hB1⟩
    rw [← hW0] at hB1
    go_wp2_with fail
    go_ret2
    rw [Hr.out]
    exact ⟨_, rfl, resP_nil _ _ (HB0.out.trans (hB1.mono HB0.out.size))⟩

set_option maxRecDepth 1000000 in
set_option maxHeartbeats 2000000 in
theorem implPairingOfFunction (V : Int) (a0 : Option Addr) (cap : Nat) (fs : List Int) (a1 : Option Addr) (cap1 : Nat) (gs : List Int) (w : World) (hx : SlI w w.heap.size a0 fs) (hx1 : SlI w w.heap.size a1 gs) (hl : fs.length ≤ 1048576) (hg : gs.length ≤ 1048576) :
    Calls Try.prog 78 #[.agg #[.int .i64 V, .slice a0 fs.length cap], .slice a1 gs.length cap1] w fun e w' => ∃ v, e = .returned (.tuple #[v, .int .i64 (pairFnR V fs gs).2]) ∧ ResP w w' v (pairFnR V fs gs).1 := by
  obtain ⟨W0, hW0⟩ : ∃ W0, W0 = (w.alloc (.cells #[.int .i64 V, .slice a0 fs.length cap] 26)).alloc (.cells #[.slice a1 gs.length cap1] 22) := ⟨_, rfl⟩
  have hB0 : Below w.heap.size w W0 := by rw [hW0]; exact ((Below.refl _ w).alloc (Nat.le_refl _) _).alloc (by simp) _
  have hs0 : W0.heap.size = w.heap.size + 2 := by rw [hW0]; simp
  have hk0 : W0.cell? ⟨w.heap.size, 0, none⟩ = some (.int .i64 V) := by rw [hW0]; simp [go_sem]
  have hk1 : W0.cell? ⟨w.heap.size, 1, none⟩ = some (.slice a0 fs.length cap) := by rw [hW0]; simp [go_sem]
  have hk2 : W0.cell? ⟨w.heap.size + 1, 0, none⟩ = some (.slice a1 gs.length cap1) := by rw [hW0]; simp [go_sem]
  have HK : Hid (Calls Try.prog 67 #[.agg #[.int .i64 V, .slice a0 fs.length cap], .slice (some ⟨w.heap.size + 1, 0, none⟩) 1 1] W0 fun e w' => e = .returned (.int .i64 (mcode4R V fs [gs])) ∧ Below W0.heap.size W0 w') :=
    hid (mcode_any V a0 cap fs (w.heap.size + 1) [(a1, cap1, gs)] W0 (hx.later hB0 hB0.size) hl (by omega) (fun i hi => by
      have : i = 0 := by simpa using hi
      subst this
      exact ⟨a1, cap1, gs, rfl, hk2⟩) (fun q hq => by
      have : q = (a1, cap1, gs) := by simpa using hq
      subst this
      exact ⟨hx1.later hB0 hB0.size, hg⟩) (by simp))
  have Hx := hid hx
  have Hy := hid hx1
  have HB0 := hid hB0
  have Hk0 := hid hk0
  have Hk1 := hid hk1
  clear hx hx1 hB0 hk0 hk1 hk2
  by_cases h0 : mcode4R V fs [gs] = 0
  · obtain ⟨hC, hfn⟩ := mcode4_zero h0
    have Hr : Hid (pairFnR V fs gs = (fnP fs gs fs.length, 0)) := hid (by rw [pairFnR, if_pos h0])
    rw [h0] at HK
    have HM := hid (fun w1 (h : Below w.heap.size w w1) => fp_any V a0 cap fs a1 cap1 gs w1 (Hx.out.later h h.size) (Hy.out.later h h.size) hC (isFn_len hfn) (fn_wf hfn))
    clear h0 hC hfn
    rw [hW0] at HK
    go_enter Try.func78, Try.ntmps78
    go_wp2_with fail
    refine HK.out.mono ?_
    rintro e w1 ⟨rfl, hB1⟩
    rw [← hW0] at hB1
    have k0 := (hB1.cell (p := ⟨w.heap.size, 0, none⟩) (by simp only; omega)).trans Hk0.out
    have k1 := (hB1.cell (p := ⟨w.heap.size, 1, none⟩) (by simp only; omega)).trans Hk1.out
    have HB1 := hid (HB0.out.trans (hB1.mono HB0.out.size))
    clear hB1
    go_wp2_with fail
    refine (HM.out w1 HB1.out).mono ?_
    rintro e w2 ⟨v2, rfl, ho2, hB2⟩
    have Ho2 := hid (ownsRow_base (base' := w.heap.size) ho2 HB1.out.size)
    have HB2 := hid (HB1.out.trans (hB2.mono HB1.out.size))
    clear hB2 ho2
    go_wp2_with fail
    go_ret2
    rw [Hr.out]
    exact ⟨_, rfl, Ho2.out, HB2.out⟩
  · obtain ⟨c, hc⟩ : ∃ c, c = mcode4R V fs [gs] := ⟨_, rfl⟩
    have Hr : Hid (pairFnR V fs gs = ([], c)) := hid (by rw [pairFnR, if_neg h0, hc])
    rw [← hc] at h0 HK
    have hcn : (c != 0) = true := by simpa using h0
    clear hc h0
    rw [hW0] at HK
    go_enter Try.func78, Try.ntmps78
    go_wp2_with fail
    refine HK.out.mono ?_
    rintro e w1 ⟨rfl, hB1⟩
    rw [← hW0] at hB1
    go_wp2_with fail
    go_ret2
    rw [Hr.out]
    exact ⟨_, rfl, resP_nil _ _ (HB0.out.trans (hB1.mono HB0.out.size))⟩

theorem pairFnR_len (V : Int) (fs gs : List Int) : (pairFnR V fs gs).1.length ≤ 1048576 := by
  unfold pairFnR
  split
  · next h =>
    obtain ⟨hC, hfn⟩ := mcode4_zero h
    have h63 := hC.len63
    obtain ⟨m, h1, h2⟩ := fnPairs_even fs gs h63 fs.length
    rw [fnPairs_eq hC (isFn_len hfn) fs.length (Nat.le_refl _), flatP_len] at h1
    simp only
    omega
  · simp

end Go.Proofs.Ytbaljngbmokiiaa

/-! `==` on pairs. -/
namespace Go.Proofs.Ytbaljngbmokiiaa
open Go.RowKit

set_option maxRecDepth 100000 in
theorem eq_pairF (x y x' y' : Int) (w : World) : (Op.equalIn 10000 55 (.agg #[.int .i64 x, .int .i64 y]) (.agg #[.int .i64 x', .int .i64 y'])).run Try.prog w = .ok (x == x' && y == y') w := by
  have hu := Try.underlying2
  have hi := Try.isAgg2
  have hs := Try.sizeOf2
  rw [show (10000 : Nat) = 9999 + 1 from rfl, Op.equalIn]
  simp only [Sem.run_bind, run_underlying Try.underlying55, Result.andThen_ok]
  simp only [Std.Legacy.Range.forIn_eq_forIn_range', Std.Legacy.Range.size, Nat.sub_zero, Nat.add_sub_cancel, Nat.div_one, List.range'_succ, List.range'_zero, List.forIn_cons, List.forIn_nil]
  go_simp
  by_cases e1 : x = x' <;> by_cases e2 : y = y' <;> simp [e1, e2]

theorem and_int64 {x y : Nat} (hx : x < 64) (hy : y < 64) : bits BinOp.and IntKind.i64 (x : Int) (y : Int) = ((x &&& y : Nat) : Int) := (bits_nat .i64 6 (by decide) (fun n h0 h1 => by rw [IntKind.wrap_i64]; omega) x y (by omega) (by omega)).1

end Go.Proofs.Ytbaljngbmokiiaa

/-! Flat functions: the program's condition, and the mathematics. -/
namespace Go.Proofs.Ytbaljngbmokiiaa
open Go.RowKit Go.Shelf

attribute [local go_sem] Oper.semAt_some

/-- No face in f has a greater number. -/
def flatIn (fs gs : List Int) (f : Nat) : Bool := (subsF f).all fun p => decide (numAt fs gs ((p.val : Nat) : Int) ≤ numAt fs gs (f : Int))
def flatB (fs gs : List Int) (k : Nat) : Bool := (List.range k).all fun i => flatIn fs gs (fs[i]?.getD 0).toNat
theorem flatB_succ (fs gs : List Int) (k : Nat) : flatB fs gs (k + 1) = (flatB fs gs k && flatIn fs gs (fs[k]?.getD 0).toNat) := by unfold flatB; rw [List.range_succ, List.all_append]; simp
theorem flatB_at {fs gs : List Int} {n i : Nat} (hi : i < n) (h : flatIn fs gs (fs[i]?.getD 0).toNat = false) : flatB fs gs n = false := by
  unfold flatB
  rw [List.all_eq_false]
  exact ⟨i, by simpa using hi, by rw [h]; decide⟩

/-- What IsFlat hands back. -/
noncomputable def flatR (V : Int) (fs gs : List Int) : Bool × Int := if mcode4R V fs [gs] = 0 then (flatB fs gs fs.length, 0) else (false, mcode4R V fs [gs])

theorem bool_mono5 {fn : FuncId} {args : Array Value} {w : World} {B : Nat} {P : Program} {R : Bool × Int} {b : Bool} {c : Int} (hR : R = (b, c))
    (h : Calls P fn args w fun e w' => e = .returned (.tuple #[.bool b, .int .i64 c]) ∧ Below B w w') :
    Calls P fn args w fun e w' => e = .returned (.tuple #[.bool R.1, .int .i64 R.2]) ∧ Below B w w' := by
  subst hR
  exact h

theorem numAt_at {V : Int} {fs gs : List Int} (hC : IsC V fs) (hg : gs.length = fs.length) {i : Nat} (hi : i < fs.length) : numAt fs gs (fs[i]?.getD 0) = gs[i]?.getD 0 :=
  numAt_some (by omega) rfl (fun j hj e => isC_distinct hC j i hj hi e)

theorem bad_flat {V : Int} {fs gs : List Int} (hC : IsC V fs) (hg : gs.length = fs.length) {i j : Nat} (hi : i < fs.length) (hj : j < fs.length) {a b : Nat} (ha : fs[i]?.getD 0 = (a : Int)) (hb : fs[j]?.getD 0 = (b : Int)) (hab : a &&& b = a) (hgt : gs[j]?.getD 0 < gs[i]?.getD 0) : flatB fs gs fs.length = false := by
  refine flatB_at hj ?_
  have hra := hC.range63 _ (getD_mem hi)
  have hrb := hC.range63 _ (getD_mem hj)
  rw [ha] at hra
  rw [hb] at hrb
  unfold flatIn
  rw [hb, Int.toNat_natCast, List.all_eq_false]
  refine ⟨⟨a, by omega⟩, (mem_subsF (by omega)).2 ⟨by simp only; omega, hab⟩, ?_⟩
  simp only
  rw [← ha, ← hb, numAt_at hC hg hi, numAt_at hC hg hj]
  simp
  omega

theorem good_flat {V : Int} {fs gs : List Int} (hC : IsC V fs) (hg : gs.length = fs.length) (h : ∀ i j, i < fs.length → j < fs.length → ∀ a b : Nat, fs[i]?.getD 0 = (a : Int) → fs[j]?.getD 0 = (b : Int) → a &&& b = a → gs[i]?.getD 0 ≤ gs[j]?.getD 0) : flatB fs gs fs.length = true := by
  unfold flatB
  rw [List.all_eq_true]
  intro j hj
  have hj : j < fs.length := by simpa using hj
  unfold flatIn
  rw [List.all_eq_true]
  intro p hp
  have hr := hC.range63 _ (getD_mem hj)
  obtain ⟨b, hb⟩ : ∃ b : Nat, fs[j]?.getD 0 = (b : Int) := ⟨(fs[j]?.getD 0).toNat, by omega⟩
  rw [hb, Int.toNat_natCast] at hp ⊢
  rw [hb] at hr
  obtain ⟨hp0, hpb⟩ := (mem_subsF (by omega)).1 hp
  have hm : ((p.val : Nat) : Int) ∈ fs := hC.closed (b : Int) (by rw [← hb]; exact getD_mem hj) p.val hp0 (by rw [Int.toNat_natCast]; exact hpb)
  obtain ⟨i, hi, hpi⟩ := List.getElem_of_mem hm
  have hpi' : fs[i]?.getD 0 = ((p.val : Nat) : Int) := by rw [List.getElem?_eq_getElem hi]; exact hpi
  have h1 := h i j hi hj p.val b hpi' hb hpb
  rw [← numAt_at hC hg hi, ← numAt_at hC hg hj, hpi', hb] at h1
  simpa using h1

theorem eq_of_len {L : List Int} (h : L.length < 2) {y z : Int} (hy : y ∈ L) (hz : z ∈ L) : y = z := by
  match L, h, hy, hz with
  | [], _, hy, _ => simp at hy
  | [x], _, hy, hz => simp at hy hz; rw [hy, hz]

theorem high_flat {L : List (Int × Int)} {a b : Int} (hu : ∀ y, (a, y) ∈ L → y = b) (h : (a, b) ∈ L) : highOf (flatP L) L.length a = b := by
  obtain ⟨i, hi, he⟩ := List.getElem_of_mem h
  unfold highOf
  cases hf : (List.range L.length).find? (fun i => decide (at0 (flatP L) (i * 2) = a)) with
  | none =>
    exfalso
    rw [List.find?_eq_none] at hf
    have := hf i (by simpa using hi)
    rw [(flatP_at L i hi).1, List.getElem?_eq_getElem hi] at this
    simp [he] at this
  | some m =>
    have hm := List.find?_some hf
    have hml := List.mem_of_find?_eq_some hf
    simp at hm hml
    obtain ⟨e1, e2⟩ := flatP_at L m hml
    rw [e1, List.getElem?_eq_getElem hml] at hm
    simp only
    rw [e2, List.getElem?_eq_getElem hml]
    refine hu _ ?_
    simp only [Option.getD_some] at hm ⊢
    have : L[m] ∈ L := List.getElem_mem hml
    rwa [show L[m] = (a, (L[m]).2) by rw [← hm]] at this

theorem high_mem {L : List (Int × Int)} {a b : Int} (h : highOf (flatP L) L.length a = b) (hb : b ≠ 0) : (a, b) ∈ L := by
  unfold highOf at h
  cases hf : (List.range L.length).find? (fun i => decide (at0 (flatP L) (i * 2) = a)) with
  | none =>
    rw [hf] at h
    exact absurd h.symm hb
  | some m =>
    rw [hf] at h
    have hm := List.find?_some hf
    have hml := List.mem_of_find?_eq_some hf
    simp at hm hml
    obtain ⟨e1, e2⟩ := flatP_at L m hml
    rw [e1, List.getElem?_eq_getElem hml] at hm
    simp only at h
    rw [e2, List.getElem?_eq_getElem hml] at h
    simp only [Option.getD_some] at hm h
    have : L[m] ∈ L := List.getElem_mem hml
    rwa [show L[m] = (a, b) by rw [← hm, ← h]] at this

/-- Where numbers do not fall inside, a face with a vertex more has the same number just if the pairing has the two. -/
theorem flat_high {V : Int} {fs gs : List Int} (hC : IsC V fs) (hg : gs.length = fs.length) (hM : morseB fs gs fs.length = true) {i j : Nat} (hi : i < fs.length) (hj : j < fs.length) {a b : Nat} (ha : fs[i]?.getD 0 = (a : Int)) (hb : fs[j]?.getD 0 = (b : Int)) (hab : a &&& b = a) (ho : ones b = ones a + 1) (hle : gs[i]?.getD 0 ≤ gs[j]?.getD 0) :
    (gs[i]?.getD 0 == gs[j]?.getD 0) = (highOf (flatP (fnP fs gs fs.length)) (fnP fs gs fs.length).length (a : Int) == (b : Int)) := by
  have hna : numAt fs gs (a : Int) = gs[i]?.getD 0 := by rw [← ha]; exact numAt_at hC hg hi
  have hnb : numAt fs gs (b : Int) = gs[j]?.getD 0 := by rw [← hb]; exact numAt_at hC hg hj
  have hbm : (b : Int) ∈ fs := by rw [← hb]; exact getD_mem hj
  have ham : (a : Int) ∈ fs := by rw [← ha]; exact getD_mem hi
  have hb0 : (b : Int) ≠ 0 := by have := hC.range63 _ hbm; omega
  have hba : (b : Int) ∈ aboveL fs a := by
    unfold aboveL
    exact List.mem_filter.2 ⟨hbm, by rw [Int.toNat_natCast]; exact decide_eq_true ⟨by rw [Nat.and_comm]; exact hab, ho⟩⟩
  have mem : ∀ y, ((a : Int), y) ∈ fnP fs gs fs.length ↔ (y ∈ aboveL fs a ∧ numAt fs gs y ≤ gs[i]?.getD 0) := by
    intro y
    unfold fnP fallsTo
    rw [List.take_length]
    constructor
    · intro h
      obtain ⟨x, hx, h⟩ := List.mem_flatMap.1 h
      obtain ⟨y', hy', e⟩ := List.mem_map.1 h
      injection e with e1 e2
      subst e1
      subst e2
      obtain ⟨h1, h2⟩ := List.mem_filter.1 hy'
      rw [Int.toNat_natCast] at h1
      rw [hna] at h2
      exact ⟨h1, by simpa using h2⟩
    · rintro ⟨h1, h2⟩
      refine List.mem_flatMap.2 ⟨(a : Int), ham, List.mem_map.2 ⟨y, List.mem_filter.2 ⟨by rw [Int.toNat_natCast]; exact h1, ?_⟩, rfl⟩⟩
      rw [hna]
      simpa using h2
  have uniq : ∀ y z, ((a : Int), y) ∈ fnP fs gs fs.length → ((a : Int), z) ∈ fnP fs gs fs.length → y = z := by
    intro y z hy hz
    have hf := List.all_eq_true.1 hM i (by simpa using hi)
    unfold fallsB at hf
    rw [ha, Int.toNat_natCast] at hf
    simp only [Bool.and_eq_true, decide_eq_true_eq] at hf
    have hf := hf.1
    unfold cntUp at hf
    rw [List.take_length, List.countP_eq_length_filter] at hf
    obtain ⟨y1, y2⟩ := (mem y).1 hy
    obtain ⟨z1, z2⟩ := (mem z).1 hz
    exact eq_of_len hf (List.mem_filter.2 ⟨y1, decide_eq_true y2⟩) (List.mem_filter.2 ⟨z1, decide_eq_true z2⟩)
  by_cases e : gs[i]?.getD 0 = gs[j]?.getD 0
  · have hin : ((a : Int), (b : Int)) ∈ fnP fs gs fs.length := (mem _).2 ⟨hba, by rw [hnb, e]; exact Int.le_refl _⟩
    rw [high_flat (fun y hy => uniq _ _ hy hin) hin]
    simp [e]
  · have hne : highOf (flatP (fnP fs gs fs.length)) (fnP fs gs fs.length).length (a : Int) ≠ (b : Int) := fun h => e (by
      have h1 := ((mem _).1 (high_mem h hb0)).2
      rw [hnb] at h1
      omega)
    rw [beq_eq_false_iff_ne.2 e, beq_eq_false_iff_ne.2 hne]

/-- What the walk of isGreatestInside keeps of the world. -/
structure GrW (w W : World) (b f : Nat) : Prop where
  below : Below w.heap.size w W
  abox : W.heap[w.heap.size]? = some (.cells #[.map (some b)] 87 (0, 0))
  fbox : W.heap[w.heap.size + 1]? = some (.cells #[.int .i64 (f : Int)] 2 (0, 0))
  res : W.heap[w.heap.size + 1 + 1]? = some (.cells #[.bool false] 4 (0, 0))

theorem GrW.size {w W : World} {b f : Nat} (h : GrW w W b f) : w.heap.size + 3 ≤ W.heap.size := by
  have := lt_of_get h.res; omega

theorem GrW.turn {w W W' : World} {b f : Nat} (h : GrW w W b f) {row : Option Nat} (hg : W.grownBy W' row) (hr : ∀ r, row = some r → w.heap.size + 3 ≤ r) : GrW w W' b f where
  below := h.below.grown hg h.below.size (fun k e => by have := hr k e; omega)
  abox := (hg.block _ (lt_of_get h.abox) (fun e => by have := hr _ e.symm; omega)).trans h.abox
  fbox := (hg.block _ (lt_of_get h.fbox) (fun e => by have := hr _ e.symm; omega)).trans h.fbox
  res := (hg.block _ (lt_of_get h.res) (fun e => by have := hr _ e.symm; omega)).trans h.res

theorem grw_own {β : Type} {w : World} {b f : Nat} {B : Nat} (hB : w.heap.size + 3 ≤ B) : OwnFrom B (fun (_ : β) W => GrW w W b f) :=
  fun _ _ _ _ hs hg hr => hs.turn hg (fun r e => by have := (hr r e).1; omega)

theorem GrW.store {w W : World} {b f : Nat} (h : GrW w W b f) : GrW w (W.setCell ⟨w.heap.size + 1 + 1, 0, none⟩ (.bool false)) b f where
  below := h.below.setCell (p := ⟨w.heap.size + 1 + 1, 0, none⟩) (by simp; omega) _
  abox := (Below.heap_setCell _ _ _ _ (by simp <;> omega)).trans h.abox
  fbox := (Below.heap_setCell _ _ _ _ (by simp)).trans h.fbox
  res := by
    have := h.res
    simp only [World.setCell, Array.getElem?_modify, this]
    simp

theorem gr_end {w W : World} {b f : Nat} (h : GrW w W b f) {D : Nat} (hD : w.heap.size + 3 ≤ D) (hK : W.heap[D]? = some (.deferred (some []))) (r c : Bool) (hb : r = c) {tmps : Array Value} (ht : tmps[4]?.getD undef = .pointer (some ⟨w.heap.size + 1 + 1, 0, none⟩)) :
    LeavesInM Fence.wide 10 Try.prog Try.f133 tmps (fun e w' => e = .returned (.bool r) ∧ Below w.heap.size w w') (marks [D]) .returning (W.setCell ⟨w.heap.size + 1 + 1, 0, none⟩ (.bool c)) := by
  have hs := h.size
  refine leaves_marks (by simp) [D] _ (by simp) (fun E hE => by
    simp at hE
    subst hE
    exact (Below.heap_setCell _ _ _ _ (by simp <;> omega)).trans hK) (fun w' hw' => ?_)
  have hres : w'.cell? ⟨w.heap.size + 1 + 1, 0, none⟩ = some (.bool c) := by
    rw [World.cell?_of_block (hw'.block _ (fun hm => by simp at hm; omega))]
    exact World.cell?_setCell_same' _ _ _ (by rw [(box_cell h.res).1]; rfl)
  have hB : Below w.heap.size w w' := (h.below.setCell (p := ⟨w.heap.size + 1 + 1, 0, none⟩) (by simp; omega) _).trans (hw'.below (fun E hE => by simp at hE; omega))
  refine ⟨.bool c, ?_, by rw [hb], hB⟩
  simp [results, Try.results133, go_sem, ht, hres]

theorem gr_end0 {w W : World} {b f : Nat} (h : GrW w W b f) {D : Nat} (hD : w.heap.size + 3 ≤ D) (hK : W.heap[D]? = some (.deferred (some []))) (r : Bool) (hb : r = false) {tmps : Array Value} (ht : tmps[4]?.getD undef = .pointer (some ⟨w.heap.size + 1 + 1, 0, none⟩)) :
    LeavesInM Fence.wide 10 Try.prog Try.f133 tmps (fun e w' => e = .returned (.bool r) ∧ Below w.heap.size w w') (marks [D]) .returning W := by
  refine leaves_marks (by simp) [D] _ (by simp) (fun E hE => by
    simp at hE
    subst hE
    exact hK) (fun w' hw' => ?_)
  have hres : w'.cell? ⟨w.heap.size + 1 + 1, 0, none⟩ = some (.bool false) := by
    rw [World.cell?_of_block (w := W) (hw'.block _ (fun hm => by simp at hm; omega))]
    exact (box_cell h.res).1
  have hB : Below w.heap.size w w' := h.below.trans (hw'.below (fun E hE => by simp at hE; omega))
  refine ⟨.bool false, ?_, by rw [hb], hB⟩
  simp [results, Try.results133, go_sem, ht, hres]

set_option maxRecDepth 100000 in
set_option maxHeartbeats 4000000 in
theorem greatest_in (b : Nat) (fs gs : List Int) (f : Nat) (w : World) (hm : NumM w b fs gs fs.length) (hg : gs.length = fs.length) (hf : f < 64) :
    CallsIn Fence.wide 10 Try.prog 133 #[.map (some b), .int .i64 (f : Int)] w fun e w' => e = .returned (.bool (flatIn fs gs f)) ∧ Below w.heap.size w w' := by
  have htk : gs.take fs.length = gs := List.take_of_length_le (by omega)
  have hbw : b < w.heap.size := hm.lt
  have HL := hid (fun (W : World) (h : Below w.heap.size w W) (p : Nat) (hp : p < 64) => by
    have := (hm.same (h.block b hbw)).look (p := (p : Int)) (WalkArith.wf_i64 (by omega))
    rwa [htk] at this)
  clear hm
  refine callsIn_of_wp_marks Try.func133 rfl trivial ?_ rfl
  simp only [Try.ntmps133, List.size_toArray, List.length_cons, List.length_nil, Nat.reduceAdd, Nat.reduceSub, Array.replicate_succ, Array.replicate_zero, List.push_toArray, List.append_toArray, List.nil_append, List.cons_append]
  gi_wp2_with (first
    | (refine ⟨trivial, ?_⟩; gi_at_call 125; refine (parts_in _ _ trivial rfl _ _).mono ?_; rintro e w' ⟨rfl, rfl⟩))
  obtain ⟨W0, hW0⟩ : ∃ W0, W0 = ((w.alloc (.cells #[.map (some b)] 87)).alloc (.cells #[.int .i64 (f : Int)] 2)).alloc (.cells #[.bool false] 4) := ⟨_, rfl⟩
  have hsz0 : W0.heap.size = w.heap.size + 1 + 1 + 1 := by rw [hW0]; simp
  have hgr : GrW w W0 b f := {
    below := by rw [hW0]; exact (((Below.refl _ w).alloc (Nat.le_refl _) _).alloc (by simp) _).alloc (by simp <;> omega) _
    abox := by rw [hW0]; exact (Below.heap_alloc _ _ _ (by simp <;> omega)).trans ((Below.heap_alloc _ _ _ (by simp)).trans (heap_alloc_new _ _))
    fbox := by
      have := heap_alloc_new (w.alloc (.cells #[.map (some b)] 87)) (.cells #[.int .i64 (f : Int)] 2)
      rw [World.size_alloc] at this
      rw [hW0]; exact (Below.heap_alloc _ _ _ (by simp)).trans this
    res := by
      have := heap_alloc_new ((w.alloc (.cells #[.map (some b)] 87)).alloc (.cells #[.int .i64 (f : Int)] 2)) (.cells #[.bool false] 4)
      rw [World.size_alloc, World.size_alloc] at this
      rw [hW0]; exact this }
  rw [← hW0]
  have Hgr := hid hgr
  clear hgr hW0
  have hW2 : GrW w (W0.alloc (.cells #[.int .i64 (f : Int)] 2)) b f := Hgr.out.turn (World.grownBy_alloc W0 _ none) (fun r e => by cases e)
  have hsb : (W0.alloc (.cells #[.int .i64 (f : Int)] 2)).heap[W0.heap.size]? = some (.cells #[.int .i64 (f : Int)] 2 (0, 0)) := heap_alloc_new _ _
  rw [hsz0] at hsb
  refine wpIn_rangeFunc_ownG rfl (by decide) (gf := 182) (lb := #[.pointer (some ⟨w.heap.size + 1 + 1 + 1, 0, none⟩)]) rfl trivial (enters_of Try.func182 (by kernel_rfl) rfl)
    (parts_stops Fence.wide 9 trivial rfl (by decide) (w.heap.size + 1 + 1 + 1) f hf _ (by simp; omega) hsb) keepB_t (keepB_b (by simp; omega)) (Below.refl _ _) (fun _ => rfl)
    (fun pre W => (∀ p ∈ pre, numAt fs gs ((p.val : Nat) : Int) ≤ numAt fs gs (f : Int)) ∧ GrW w W b f)
    (fun c pre W => (c = .ret ∧ ∃ p ∈ pre, ¬ numAt fs gs ((p.val : Nat) : Int) ≤ numAt fs gs (f : Int)) ∧ GrW w W b f)
    (OwnFrom.and (ownFrom_pure _ _) (grw_own (by simp; omega))) (fun c => OwnFrom.and (ownFrom_pure _ _) (grw_own (by simp; omega)))
    ⟨by simp, hW2⟩
    (fun x => { tmps := #[.map (some b), .int .i64 f, .pointer (some ⟨w.heap.size, 0, none⟩), .pointer (some ⟨w.heap.size + 1, 0, none⟩), .pointer (some ⟨w.heap.size + 1 + 1, 0, none⟩), .int .i64 (x.val : Int), .int .i64 f, .func (.func 182) #[] #[.pointer (some ⟨w.heap.size + 1 + 1 + 1, 0, none⟩)], .int .i64 (x.val : Int),
      undef, undef, undef, undef, undef, undef, undef], defers := [] }) ?assign ?body ?done ?stop
  case assign =>
    intro l x W3 K hK
    gi_wp2
    exact hK
  case body =>
    rintro l pre x W3 ⟨hp, hW3⟩ _
    obtain ⟨k0, _⟩ := box_cell hW3.abox
    obtain ⟨k1, _⟩ := box_cell hW3.fbox
    have r3 : W3.cell? ⟨w.heap.size + 1 + 1, 0, none⟩ = some (.bool false) := (box_cell hW3.res).1
    have r4 : W3.frozen? ⟨w.heap.size + 1 + 1, 0, none⟩ = false := (box_cell hW3.res).2
    have hlx := HL.out W3 hW3.below x.val x.isLt
    have hlf := HL.out W3 hW3.below f hf
    have HW3 := hid hW3
    have Hp := hid hp
    clear hW3 hp
    by_cases hle : numAt fs gs ((x.val : Nat) : Int) ≤ numAt fs gs (f : Int)
    · have Hle := hid hle
      obtain ⟨zx, hzx⟩ : ∃ z, z = numAt fs gs ((x.val : Nat) : Int) := ⟨_, rfl⟩
      obtain ⟨zf, hzf⟩ : ∃ z, z = numAt fs gs (f : Int) := ⟨_, rfl⟩
      rw [← hzx] at hlx hle
      rw [← hzf] at hlf hle
      have hd : decide (zf < zx) = false := decide_eq_false (by omega)
      clear hzx hzf hle
      gi_wp2
      refine ⟨KeepsFrom.refl _ _, rfl, fun p hp' => ?_, HW3.out⟩
      rcases List.mem_append.1 hp' with hp' | hp'
      · exact Hp.out p hp'
      · simp at hp'; rw [hp']; exact Hle.out
    · have Hle := hid hle
      obtain ⟨zx, hzx⟩ : ∃ z, z = numAt fs gs ((x.val : Nat) : Int) := ⟨_, rfl⟩
      obtain ⟨zf, hzf⟩ : ∃ z, z = numAt fs gs (f : Int) := ⟨_, rfl⟩
      rw [← hzx, ← hzf] at hle
      rw [← hzx] at hlx
      rw [← hzf] at hlf
      have hd : decide (zf < zx) = true := decide_eq_true (by omega)
      clear hzx hzf hle
      gi_wp2
      exact ⟨(KeepsOthers.setCell _ _ _).from _, ⟨rfl, x, by simp, Hle.out⟩, HW3.out.store⟩
  case done =>
    rintro D ys W3 hD rfl ⟨hp, hW3⟩ hK
    have hDb : w.heap.size + 3 ≤ D := by simp at hD; omega
    have r3 : W3.cell? ⟨w.heap.size + 1 + 1, 0, none⟩ = some (.bool false) := (box_cell hW3.res).1
    have r4 : W3.frozen? ⟨w.heap.size + 1 + 1, 0, none⟩ = false := (box_cell hW3.res).2
    have HE : Hid (flatIn fs gs f = true) := hid (List.all_eq_true.2 (fun p hp' => decide_eq_true (hp p hp')))
    have HW3 := hid hW3
    have HK := hid hK
    clear hW3 hp hK
    gi_wp2
    exact gr_end HW3.out hDb HK.out _ true HE.out rfl
  case stop =>
    rintro D c pre W3 hD hpre ⟨⟨rfl, p, hpm, hpn⟩, hW3⟩ hK
    have hDb : w.heap.size + 3 ≤ D := by simp at hD; omega
    have HE : Hid (flatIn fs gs f = false) := hid (by
      unfold flatIn
      rw [List.all_eq_false]
      exact ⟨p, hpre.subset hpm, by simpa using hpn⟩)
    have HW3 := hid hW3
    have HK := hid hK
    clear hW3 hpn hpm hK
    gi_wp2
    exact gr_end0 HW3.out hDb HK.out _ HE.out rfl

end Go.Proofs.Ytbaljngbmokiiaa

/-! IsFlat: the program's. -/
namespace Go.Proofs.Ytbaljngbmokiiaa
open Go.RowKit Go.Shelf

attribute [local go_sem] Oper.semAt_some

/-- The condition. -/
def condF : Array Value := #[.func (.func 133) #[] #[]]
theorem condF_any (w : World) : Calls Try.prog 74 #[] w fun e w' => e = .returned (.slice (some ⟨w.heap.size, 0, none⟩) 1 1) ∧ w' = w.alloc (.cells condF 135) := by
  go_enter Try.func74, Try.ntmps74
  go_wp2_with fail
  go_ret
  exact ⟨rfl, rfl⟩

set_option maxRecDepth 1000000 in
set_option maxHeartbeats 4000000 in
theorem holdF_any (V : Int) (a0 : Option Addr) (cap : Nat) (fs : List Int) (a1 : Option Addr) (cap1 : Nat) (gs : List Int) (bc : Nat) (w : World) (hx : SlI w w.heap.size a0 fs) (hx1 : SlI w w.heap.size a1 gs) (hC : IsC V fs) (hg : gs.length = fs.length) (hwg : ∀ x ∈ gs, (Lit.int .i64 x).wf = true) (hbc : w.heap[bc]? = some (.cells condF 135 (0, 0))) :
    Calls Try.prog 73 #[.agg #[.int .i64 V, .slice a0 fs.length cap], .slice a1 gs.length cap1, .slice (some ⟨bc, 0, none⟩) 1 1] w fun e w' => e = .returned (.bool (flatB fs gs fs.length)) ∧ Below w.heap.size w w' := by
  have hent1 : ∀ args w, (callFunc 133 args).run Try.prog w = .ok (.enter 133 args) w := enters_of Try.func133 (by kernel_rfl) rfl
  have h63 := hC.len63
  have hB0 : Below w.heap.size w (w.alloc (.cells #[.int .i64 V, .slice a0 fs.length cap] 26)) := (Below.refl _ w).alloc (Nat.le_refl _) _
  have HNu := hid (numbers_any V a0 cap fs a1 cap1 gs _ (hx.later hB0 hB0.size) (hx1.later hB0 hB0.size) (by omega) hg (isC_distinct hC) (fun x hx => WalkArith.wf_i64 (by have := hC.range63 x hx; omega)) hwg)
  obtain ⟨E, hE⟩ : ∃ E, E = flatB fs gs fs.length := ⟨_, rfl⟩
  have HE := hid hE
  rw [← hE]
  have Hx := hid hx
  have HC := hid hC
  have Hg := hid hg
  have HB0 := hid hB0
  have Hbc := hid hbc
  clear hx hx1 hC hg hwg hbc hB0 hE
  go_enter Try.func73, Try.ntmps73
  go_wp2_with fail
  refine HNu.out.mono ?_
  rintro e w1 ⟨rfl, hM, hB1⟩
  have HBw := hid (HB0.out.trans (hB1.mono HB0.out.size))
  have K1 := hid ((hB1.cell (p := ⟨w.heap.size, 1, none⟩) (by simp)).trans (by simp [go_sem] : (w.alloc (.cells #[.int .i64 V, .slice a0 fs.length cap] 26)).cell? ⟨w.heap.size, 1, none⟩ = some (.slice a0 fs.length cap)))
  have hwz : w.heap.size < w1.heap.size := by have := hB1.size; simp at this; omega
  have hbcz : bc < w.heap.size := lt_of_get Hbc.out
  rw [World.size_alloc] at hM
  have HM := hid hM
  have C0 : Hid (∀ W, Below w1.heap.size w1 W → W.cell? ⟨bc, 0, none⟩ = some (.func (.func 133) #[] #[])) := hid (fun W h => by
    exact (box_cell (v := condF[0]!) ((h.block bc (by omega)).trans ((HBw.out.block bc hbcz).trans Hbc.out))).1)
  clear hM hB1
  go_wp2_with fail
  refine wp_loop_rounds 2 ?_
  rw [rounds_succ]
  have e0 := C0.out w1 (Below.refl _ _)
  have k1 := K1.out
  go_wp2_with fail
  go_loopw [24] (fun i wx => ∃ k : Nat, k ≤ fs.length ∧ i = .int .i64 k ∧ Hid (flatB fs gs k = true) ∧ Below w1.heap.size w1 wx) (fun i _ => fs.length - (intOf i).toNat)
  case atStart => exact ⟨0, Nat.zero_le _, rfl, hid rfl, Below.refl _ _⟩
  case round =>
    obtain ⟨k, hk, rfl, Hk, hB⟩ := hrel
    by_cases hlt : k < fs.length
    · obtain ⟨b0, off0, hb0, hae, hc0⟩ : ∃ b off, b < w.heap.size ∧ a0 = some ⟨b, off, none⟩ ∧ ∀ i, i < fs.length → w.cell? ⟨b, off + i, none⟩ = some (.int .i64 (fs[i]?.getD 0)) := by
        rcases Hx.out with h | h
        · rw [h] at hlt; simp at hlt
        · exact h
      subst hae
      obtain ⟨fn, hfn⟩ : ∃ fn : Nat, fs[k]?.getD 0 = (fn : Int) := ⟨(fs[k]?.getD 0).toNat, by have := HC.out.range63 _ (getD_mem hlt); omega⟩
      have hf64 : fn < 64 := by have := HC.out.range63 _ (getD_mem hlt); omega
      have d0 := ((HBw.out.trans (hB.mono HBw.out.size)).cell (p := ⟨b0, off0 + k, none⟩) hb0).trans (hc0 k hlt)
      rw [hfn] at d0
      have HF := hid (callsIn_wide.1 (greatest_in (w.heap.size + 1 + 1) fs gs fn wr (HM.out.same (hB.block _ HM.out.lt)) Hg.out hf64))
      obtain ⟨c, hcc⟩ : ∃ c, c = flatIn fs gs fn := ⟨_, rfl⟩
      rw [← hcc] at HF
      have Hs : Hid (flatB fs gs (k + 1) = c) := hid (by rw [flatB_succ, Hk.out, hfn, Int.toNat_natCast, ← hcc]; rfl)
      have Hn : Hid (c = false → E = false) := hid (fun e => by rw [HE.out]; exact flatB_at hlt (by rw [hfn, Int.toNat_natCast, ← hcc, e]))
      have hi0 : (0 : Int) ≤ (k : Int) := by omega
      have hi1 : (k : Int) < (fs.length : Int) := by omega
      have HB := hid hB
      have hkl : k + 1 ≤ fs.length := hlt
      clear hc0 hfn hcc hB
      cases c
      · have He : Hid (E = false) := hid (Hn.out rfl)
        go_wp2_with (go_at_call 133; refine HF.out.mono ?_; rintro e w' ⟨rfl, hBf⟩; have HBf := hid hBf; clear hBf)
        go_ret
        exact ⟨ret_bool (by rw [He.out]), HBw.out.trans ((HB.out.trans (HBf.out.mono HB.out.size)).mono HBw.out.size)⟩
      · go_wp2_with (go_at_call 133; refine HF.out.mono ?_; rintro e w' ⟨rfl, hBf⟩; have HBf := hid hBf; clear hBf)
        go_roundw
        case rel => exact ⟨k + 1, hkl, by go_num, Hs, HB.out.trans (HBf.out.mono HB.out.size)⟩
        case measure => simp [intOf]; omega
    · obtain rfl : k = fs.length := by omega
      have HB := hid hB
      have He : Hid (E = true) := hid (by rw [HE.out, Hk.out])
      clear hB
      go_wp2_with fail
      rw [rounds_succ]
      go_wp2_with fail
      go_ret
      exact ⟨ret_bool (by rw [He.out]), HBw.out.trans (HB.out.mono HBw.out.size)⟩

set_option maxRecDepth 1000000 in
set_option maxHeartbeats 2000000 in
theorem implIsFlat (V : Int) (a0 : Option Addr) (cap : Nat) (fs : List Int) (a1 : Option Addr) (cap1 : Nat) (gs : List Int) (w : World) (hx : SlI w w.heap.size a0 fs) (hx1 : SlI w w.heap.size a1 gs) (hl : fs.length ≤ 1048576) (hg : gs.length ≤ 1048576) :
    Calls Try.prog 28 #[.agg #[.int .i64 V, .slice a0 fs.length cap], .slice a1 gs.length cap1] w fun e w' => e = .returned (.tuple #[.bool (flatR V fs gs).1, .int .i64 (flatR V fs gs).2]) ∧ Below w.heap.size w w' := by
  obtain ⟨W0, hW0⟩ : ∃ W0, W0 = (w.alloc (.cells #[.int .i64 V, .slice a0 fs.length cap] 26)).alloc (.cells #[.slice a1 gs.length cap1] 22) := ⟨_, rfl⟩
  have hB0 : Below w.heap.size w W0 := by rw [hW0]; exact ((Below.refl _ w).alloc (Nat.le_refl _) _).alloc (by simp) _
  have hs0 : W0.heap.size = w.heap.size + 2 := by rw [hW0]; simp
  have hkb : W0.heap[w.heap.size]? = some (.cells #[.int .i64 V, .slice a0 fs.length cap] 26 (0, 0)) := by rw [hW0]; exact (Below.heap_alloc _ _ _ (by simp)).trans (heap_alloc_new _ _)
  have hk2 : W0.cell? ⟨w.heap.size + 1, 0, none⟩ = some (.slice a1 gs.length cap1) := by rw [hW0]; simp [go_sem]
  have HK : Hid (Calls Try.prog 67 #[.agg #[.int .i64 V, .slice a0 fs.length cap], .slice (some ⟨w.heap.size + 1, 0, none⟩) 1 1] W0 fun e w' => e = .returned (.int .i64 (mcode4R V fs [gs])) ∧ Below W0.heap.size W0 w') :=
    hid (mcode_any V a0 cap fs (w.heap.size + 1) [(a1, cap1, gs)] W0 (hx.later hB0 hB0.size) hl (by omega) (fun i hi => by
      have : i = 0 := by simpa using hi
      subst this
      exact ⟨a1, cap1, gs, rfl, hk2⟩) (fun q hq => by
      have : q = (a1, cap1, gs) := by simpa using hq
      subst this
      exact ⟨hx1.later hB0 hB0.size, hg⟩) (by simp))
  have Hx := hid hx
  have Hy := hid hx1
  have HB0 := hid hB0
  have Hkb := hid hkb
  clear hx hx1 hB0 hkb hk2
  by_cases h0 : mcode4R V fs [gs] = 0
  · obtain ⟨hC, hfn⟩ := mcode4_zero h0
    refine bool_mono5 (show flatR V fs gs = (flatB fs gs fs.length, 0) by rw [flatR, if_pos h0]) ?_
    rw [h0] at HK
    obtain ⟨R, hR⟩ : ∃ R, R = flatB fs gs fs.length := ⟨_, rfl⟩
    rw [← hR]
    have HM : Hid (∀ W, Below w.heap.size w W → ∀ bc, W.heap[bc]? = some (.cells condF 135 (0, 0)) → Calls Try.prog 73 #[.agg #[.int .i64 V, .slice a0 fs.length cap], .slice a1 gs.length cap1, .slice (some ⟨bc, 0, none⟩) 1 1] W fun e w' => e = .returned (.bool R) ∧ Below W.heap.size W w') :=
      hid (fun W h bc hbc => by rw [hR]; exact holdF_any V a0 cap fs a1 cap1 gs bc W (Hx.out.later h h.size) (Hy.out.later h h.size) hC (isFn_len hfn) (fn_wf hfn) hbc)
    clear h0 hC hfn hR
    rw [hW0] at HK
    go_enter Try.func28, Try.ntmps28
    go_wp2_with fail
    refine HK.out.mono ?_
    rintro e w1 ⟨rfl, hB1⟩
    rw [← hW0] at hB1
    have kb1 := (hB1.block w.heap.size (by omega)).trans Hkb.out
    obtain ⟨k0, k1, _, _⟩ := two_of kb1
    have hBw := HB0.out.trans (hB1.mono HB0.out.size)
    have hBc : Below w.heap.size w (w1.drew.alloc (.cells condF 135)) := (hBw.trans ((below_drewN (Below.refl _ _) 1).mono hBw.size)).alloc hBw.size _
    have hwz := lt_of_get kb1
    have hkb2 : (w1.drew.alloc (.cells condF 135)).heap[w.heap.size]? = some (.cells #[.int .i64 V, .slice a0 fs.length cap] 26 (0, 0)) := (Below.heap_alloc _ _ _ hwz).trans kb1
    obtain ⟨n0, n1, _, _⟩ := two_of hkb2
    have HCo : Hid (Calls Try.prog 74 #[] w1.drew fun e w' => e = .returned (.slice (some ⟨w1.heap.size, 0, none⟩) 1 1) ∧ w' = w1.drew.alloc (.cells condF 135)) := hid (condF_any w1.drew)
    have HH := hid (HM.out _ hBc w1.heap.size (heap_alloc_new w1.drew _))
    have HBc := hid hBc
    clear hB1 kb1 hBw hBc hkb2
    go_wp2_with fail
    go_region_with (first
      | (go_at_call 74; refine HCo.out.mono ?_; rintro e w' ⟨rfl, rfl⟩)
      | (go_at_call 73; refine HH.out.mono ?_; rintro e w2 ⟨rfl, hB2⟩; have HB2 := hid hB2; clear hB2))
    all_goals
      go_wp2_with fail
      go_ret2
      exact ⟨rfl, HBc.out.trans (HB2.out.mono HBc.out.size)⟩
  · obtain ⟨c, hc⟩ : ∃ c, c = mcode4R V fs [gs] := ⟨_, rfl⟩
    refine bool_mono5 (show flatR V fs gs = (false, c) by rw [flatR, if_neg h0, hc]) ?_
    rw [← hc] at h0 HK
    have hcn : (c != 0) = true := by simpa using h0
    clear hc h0
    rw [hW0] at HK
    go_enter Try.func28, Try.ntmps28
    go_wp2_with fail
    refine HK.out.mono ?_
    rintro e w1 ⟨rfl, hB1⟩
    rw [← hW0] at hB1
    go_wp2_with fail
    go_ret2
    exact ⟨rfl, HB0.out.trans (hB1.mono HB0.out.size)⟩

end Go.Proofs.Ytbaljngbmokiiaa

/-! IsFlat: the model's. -/
namespace Go.Proofs.Ytbaljngbmokiiaa
open Go.RowKit

/-- No number of the k-th face is greater than that of the m-th one, if the one lies in the other. -/
def GoodF (fs gs : List Int) (k m : Nat) : Prop := ∀ a b : Nat, fs[k]?.getD 0 = (a : Int) → fs[m]?.getD 0 = (b : Int) → a &&& b = a → gs[k]?.getD 0 ≤ gs[m]?.getD 0

theorem quiet_of_eq2 {P : Program} {f : FuncId} {args : Array Value} {w : World} {m n : Nat} {v : Value}
    (h : Calls P f args (w.drewN (m + n)) fun e w' => e = .returned v ∧ w.drewN (m + n) = w') : Calls P f args (w.drewN (m + n)) fun e w'' => e = .returned v ∧ ∃ k, w'' = w.drewN (m + k) :=
  h.mono fun _ _ ⟨he, hm⟩ => ⟨he, n, hm.symm⟩
theorem ones_six : ∀ x : Fin 64, ones x.val ≤ 6 := by decide +kernel

set_option maxRecDepth 1000000 in
set_option maxHeartbeats 4000000 in
theorem specIsFlat (V : Int) (a0 : Option Addr) (cap : Nat) (fs : List Int) (a1 : Option Addr) (cap1 : Nat) (gs : List Int) (w : World) (hx : SlI w w.heap.size a0 fs) (hx1 : SlI w w.heap.size a1 gs) (hl : fs.length ≤ 1048576) (hg : gs.length ≤ 1048576) :
    Calls Try.prog 27 #[.agg #[.int .i64 V, .slice a0 fs.length cap], .slice a1 gs.length cap1] w fun e w' => e = .returned (.tuple #[.bool (flatR V fs gs).1, .int .i64 (flatR V fs gs).2]) ∧ Below w.heap.size w w' := by
  obtain ⟨W0, hW0⟩ : ∃ W0, W0 = w.alloc (.cells #[.int .i64 V, .slice a0 fs.length cap] 26) := ⟨_, rfl⟩
  have hB0 : Below w.heap.size w W0 := by rw [hW0]; exact (Below.refl _ w).alloc (Nat.le_refl _) _
  have hs0 : W0.heap.size = w.heap.size + 1 := by rw [hW0]; simp
  have hkb : W0.heap[w.heap.size]? = some (.cells #[.int .i64 V, .slice a0 fs.length cap] 26 (0, 0)) := by rw [hW0]; exact heap_alloc_new _ _
  have HK := hid (specPairingOfFunction V a0 cap fs a1 cap1 gs W0 (hx.later hB0 hB0.size) (hx1.later hB0 hB0.size) hl hg)
  have Hx := hid hx
  have Hy := hid hx1
  have HB0 := hid hB0
  have Hkb := hid hkb
  clear hx hx1 hB0 hkb
  by_cases h0 : mcode4R V fs [gs] = 0
  · obtain ⟨hC, hfn⟩ := mcode4_zero h0
    have hM : morseB fs gs fs.length = true := by
      have h1 := h0
      rw [mcode4R] at h1
      by_cases h2 : code4R V fs [gs] = 0
      · rw [if_pos h2] at h1
        cases hb : morseB fs gs fs.length
        · simp [hb] at h1
        · rfl
      · rw [if_neg h2] at h1
        exact absurd h1 h2
    have hgl := isFn_len hfn
    rw [show pairFnR V fs gs = (fnP fs gs fs.length, 0) by rw [pairFnR, if_pos h0]] at HK
    refine bool_mono5 (show flatR V fs gs = (flatB fs gs fs.length, 0) by rw [flatR, if_pos h0]) ?_
    obtain ⟨R, hR⟩ : ∃ R, R = flatB fs gs fs.length := ⟨_, rfl⟩
    rw [← hR]
    have HBad : Hid (∀ {i j : Nat}, i < fs.length → j < fs.length → ∀ {a b : Nat}, fs[i]?.getD 0 = (a : Int) → fs[j]?.getD 0 = (b : Int) → a &&& b = a → gs[j]?.getD 0 < gs[i]?.getD 0 → R = false) := hid (fun hi hj _ _ ha hb hab hgt => hR.trans (bad_flat hC hgl hi hj ha hb hab hgt))
    have HGood : Hid ((∀ i j, i < fs.length → j < fs.length → GoodF fs gs i j) → R = true) := hid (fun h => hR.trans (good_flat hC hgl h))
    obtain ⟨L, hL⟩ : ∃ L, L = fnP fs gs fs.length := ⟨_, rfl⟩
    have HHigh : Hid (∀ {i j : Nat}, i < fs.length → j < fs.length → ∀ {a b : Nat}, fs[i]?.getD 0 = (a : Int) → fs[j]?.getD 0 = (b : Int) → a &&& b = a → ones b = ones a + 1 → gs[i]?.getD 0 ≤ gs[j]?.getD 0 → (gs[i]?.getD 0 == gs[j]?.getD 0) = (highOf (flatP L) L.length (a : Int) == (b : Int))) := hid (fun hi hj _ _ ha hb hab ho hle => by rw [hL]; exact flat_high hC hgl hM hi hj ha hb hab ho hle)
    have hLl : L.length ≤ 1048576 := by
      obtain ⟨m, h1, h2⟩ := fnPairs_even fs gs hC.len63 fs.length
      rw [fnPairs_eq hC hgl fs.length (Nat.le_refl _), flatP_len, ← hL] at h1
      have := hC.len63
      omega
    rw [← hL] at HK
    have HC := hid hC
    have Hgl := hid hgl
    have h63 := hC.len63
    clear h0 hC hfn hM hR hL hgl
    rw [hW0] at HK
    go_enter Try.func27, Try.ntmps27
    go_wp2_with fail
    refine HK.out.mono ?_
    rintro e w1 ⟨v1, rfl, hr1⟩
    rw [← hW0] at hr1
    have hB1 := hr1.2
    obtain ⟨_, av, cv, rfl, hs1⟩ := pairs_slI hr1.1
    have Kb1 := hid ((hB1.block w.heap.size (by omega)).trans Hkb.out)
    have HB1 := hid (HB0.out.trans (hB1.mono HB0.out.size))
    have Hs1 := hid hs1
    have HHi := hid (fun (W : World) (h : Below w1.heap.size w1 W) (a : Int) => high_any av L.length cv (flatP L) a W (Hs1.out.later h h.size) (by rw [flatP_len]) hLl)
    have Hwz := hid (lt_get Kb1.out)
    obtain ⟨k0, k1, _, _⟩ := two_of Kb1.out
    clear hB1 hr1 hs1
    go_wp2_with fail
    clear k0 k1
    go_loopw [8] (fun i wr => ∃ k : Nat, k ≤ fs.length ∧ i = .int .i64 k ∧ Hid (∀ i, i < k → ∀ j, j < fs.length → GoodF fs gs i j) ∧ Hid (Below w1.heap.size w1 wr)) (fun i _ => fs.length - (RowKit.intOf i).toNat)
    case atStart => exact ⟨0, Nat.zero_le _, rfl, hid (by intro i h; omega), hid (Below.refl _ _)⟩
    case round =>
      obtain ⟨k, hk, rfl, Hk, HB⟩ := hrel
      obtain ⟨k0, k1, _, _⟩ := two_of ((HB.out.block _ Hwz.out).trans Kb1.out)
      by_cases hlt : k < fs.length
      · have hi1 : (k : Int) < (fs.length : Int) := by omega
        go_wp2_with fail
        clear k0 k1
        go_loopw [9] (fun j wx => ∃ m : Nat, m ≤ fs.length ∧ j = .int .i64 m ∧ Hid (∀ j, j < m → GoodF fs gs k j) ∧ Hid (Below w1.heap.size w1 wx)) (fun j _ => fs.length - (RowKit.intOf j).toNat)
        case atStart => exact ⟨0, Nat.zero_le _, rfl, hid (by intro i h; omega), HB⟩
        case round =>
          clear HB
          obtain ⟨m, hm, rfl, Hm, HB⟩ := hrel
          obtain ⟨k0, k1, _, _⟩ := two_of ((HB.out.block _ Hwz.out).trans Kb1.out)
          by_cases hlm : m < fs.length
          · have hBw := HB1.out.trans (HB.out.mono HB1.out.size)
            obtain ⟨b0, off0, hb0, hae, hc0⟩ : ∃ b off, b < w.heap.size ∧ a0 = some ⟨b, off, none⟩ ∧ ∀ i, i < fs.length → w.cell? ⟨b, off + i, none⟩ = some (.int .i64 (fs[i]?.getD 0)) := by
              rcases Hx.out with h | h
              · rw [h] at hlt; simp at hlt
              · exact h
            obtain ⟨b1, off1, hb1, hae1, hc1⟩ : ∃ b off, b < w.heap.size ∧ a1 = some ⟨b, off, none⟩ ∧ ∀ i, i < gs.length → w.cell? ⟨b, off + i, none⟩ = some (.int .i64 (gs[i]?.getD 0)) := by
              rcases Hy.out with h | h
              · have := Hgl.out; rw [h] at this; simp at this; omega
              · exact h
            subst hae
            subst hae1
            obtain ⟨a, ha⟩ : ∃ fn : Nat, fs[k]?.getD 0 = (fn : Int) := ⟨(fs[k]?.getD 0).toNat, by have := HC.out.range63 _ (getD_mem hlt); omega⟩
            have ha64 : a < 64 := by have := HC.out.range63 _ (getD_mem hlt); omega
            obtain ⟨b, hb⟩ : ∃ fn : Nat, fs[m]?.getD 0 = (fn : Int) := ⟨(fs[m]?.getD 0).toNat, by have := HC.out.range63 _ (getD_mem hlm); omega⟩
            have hb64 : b < 64 := by have := HC.out.range63 _ (getD_mem hlm); omega
            have c1 := (hBw.cell (p := ⟨b0, off0 + k, none⟩) hb0).trans (hc0 k hlt)
            have c2 := (hBw.cell (p := ⟨b0, off0 + m, none⟩) hb0).trans (hc0 m hlm)
            have c3 := (hBw.cell (p := ⟨b1, off1 + k, none⟩) hb1).trans (hc1 k (by have := Hgl.out; omega))
            have c4 := (hBw.cell (p := ⟨b1, off1 + m, none⟩) hb1).trans (hc1 m (by have := Hgl.out; omega))
            rw [ha] at c1
            rw [hb] at c2
            obtain ⟨x, hx⟩ : ∃ x, x = gs[k]?.getD 0 := ⟨_, rfl⟩
            obtain ⟨y, hy⟩ : ∃ y, y = gs[m]?.getD 0 := ⟨_, rfl⟩
            rw [← hx] at c3
            rw [← hy] at c4
            have HgoodS : Hid ((a &&& b = a → x ≤ y) → ∀ j, j < m + 1 → GoodF fs gs k j) := hid (fun h j hj => by
              by_cases e : j < m
              · exact Hm.out j e
              · obtain rfl : j = m := by omega
                intro a' b' ha' hb' hab
                have e1 : a' = a := by have := ha'.symm.trans ha; omega
                have e2 : b' = b := by have := hb'.symm.trans hb; omega
                subst e1
                subst e2
                rw [← hx, ← hy]
                exact h hab)
            have HbadS : Hid (a &&& b = a → y < x → R = false) := hid (fun hab hgt => HBad.out hlt hlm ha hb hab (by rw [← hx, ← hy]; exact hgt))
            have HhighS : Hid (a &&& b = a → ones b = ones a + 1 → x ≤ y → (x == y) = (highOf (flatP L) L.length (a : Int) == (b : Int))) := hid (fun hab ho hle => by rw [hx, hy] at hle ⊢; exact HHigh.out hlt hlm ha hb hab ho hle)
            have HeqS : Hid (a = b → x ≤ y) := hid (fun e => by
              have hkm : k = m := by
                rcases Nat.lt_trichotomy k m with h | h | h
                · exact absurd (by rw [ha, hb, e]) (isC_distinct HC.out k m h hlm)
                · exact h
                · exact absurd (by rw [ha, hb, e]) (isC_distinct HC.out m k h hlt)
              rw [hx, hy, hkm]
              exact Int.le_refl _)
            have hi0 : (0 : Int) ≤ (k : Int) := by omega
            have hj0 : (0 : Int) ≤ (m : Int) := by omega
            have hj1 : (m : Int) < (fs.length : Int) := by omega
            have hg1 : (k : Int) < (gs.length : Int) := by have := Hgl.out; omega
            have hg2 : (m : Int) < (gs.length : Int) := by have := Hgl.out; omega
            have hand := and_int64 ha64 hb64
            clear hc0 hc1 ha hb hx hy hBw
            by_cases hab : a = b
            · have hd1 : ((a : Int) == (b : Int)) = true := by simp [hab]
              have He : Hid (∀ j, j < m + 1 → GoodF fs gs k j) := hid (HgoodS.out (fun _ => HeqS.out hab))
              clear hab
              go_wp2_with fail
              go_quiet (fail)
              go_wp2_with fail
              go_roundw
              case rel => exact ⟨m + 1, by omega, by go_num, He, hid ⟨HB.out.os, HB.out.tape, HB.out.output, HB.out.size, HB.out.block⟩⟩
              case measure => simp [RowKit.intOf]; omega
            · have hd1 : ((a : Int) == (b : Int)) = false := by simp; omega
              by_cases hsub : a &&& b = a
              · have hd2 : (((a &&& b : Nat) : Int) != (a : Int)) = false := by simp; omega
                by_cases hgt : y < x
                · have hd3 : decide (y < x) = true := decide_eq_true hgt
                  have He := hid (HbadS.out hsub hgt)
                  clear hab hsub hgt
                  go_wp2_with fail
                  go_quiet (fail)
                  go_wp2_with fail
                  go_quiet (fail)
                  go_wp2_with fail
                  go_ret2
                  rw [He.out]
                  exact ⟨rfl, HB1.out.trans (Below.mono (w := w1) ⟨HB.out.os, HB.out.tape, HB.out.output, HB.out.size, HB.out.block⟩ HB1.out.size)⟩
                · have hd3 : decide (y < x) = false := decide_eq_false hgt
                  have He : Hid (∀ j, j < m + 1 → GoodF fs gs k j) := hid (HgoodS.out (fun _ => by omega))
                  have ho6 := ones_six ⟨a, ha64⟩
                  simp only at ho6
                  have HHw := hid (fun W (h : Below wr.heap.size wr W) => HHi.out W (HB.out.trans (h.mono HB.out.size)) (a : Int))
                  by_cases ho : ones b = ones a + 1
                  · have hd4 : ((ones b : Int) == (ones a : Int) + 1) = true := by simp; omega
                    obtain ⟨g, hg5⟩ : ∃ g, (x == y) = g := ⟨_, rfl⟩
                    have hg6 := HhighS.out hsub ho (by omega)
                    rw [hg5] at hg6
                    obtain ⟨hi, hhi⟩ : ∃ z, z = highOf (flatP L) L.length (a : Int) := ⟨_, rfl⟩
                    rw [← hhi] at hg6 HHw
                    have hg7 := hg6.symm
                    clear hab hsub hgt ho hg6 hhi
                    cases g
                    all_goals
                      go_wp2_with fail
                      go_quiet (fail)
                      go_wp2_with fail
                      go_quiet (first
                        | (go_at_call 71; exact quiet_of_eq2 (ones_any _ _ (by assumption)))
                        | (go_at_call 72; exact quiet_of_eq2 (HHw.out _ (below_drewN (Below.refl _ _) _))))
                      go_wp2_with fail
                      go_roundw
                      case rel => exact ⟨m + 1, by omega, by go_num, He, hid ⟨HB.out.os, HB.out.tape, HB.out.output, HB.out.size, HB.out.block⟩⟩
                      case measure => simp [RowKit.intOf]; omega
                  · have hd4 : ((ones b : Int) == (ones a : Int) + 1) = false := by simp; omega
                    clear hab hsub hgt ho
                    go_wp2_with fail
                    go_quiet (fail)
                    go_wp2_with fail
                    go_quiet (first
                      | (go_at_call 71; exact quiet_of_eq2 (ones_any _ _ (by assumption))))
                    go_wp2_with fail
                    go_roundw
                    case rel => exact ⟨m + 1, by omega, by go_num, He, hid ⟨HB.out.os, HB.out.tape, HB.out.output, HB.out.size, HB.out.block⟩⟩
                    case measure => simp [RowKit.intOf]; omega
              · have hd2 : (((a &&& b : Nat) : Int) != (a : Int)) = true := by simp; omega
                have He : Hid (∀ j, j < m + 1 → GoodF fs gs k j) := hid (HgoodS.out (fun h => absurd h hsub))
                clear hab hsub
                go_wp2_with fail
                go_quiet (fail)
                go_wp2_with fail
                go_roundw
                case rel => exact ⟨m + 1, by omega, by go_num, He, hid ⟨HB.out.os, HB.out.tape, HB.out.output, HB.out.size, HB.out.block⟩⟩
                case measure => simp [RowKit.intOf]; omega
          · have He : Hid (∀ i, i < k + 1 → ∀ j, j < fs.length → GoodF fs gs i j) := hid (fun i hi j hj => by
              by_cases e : i < k
              · exact Hk.out i e j hj
              · obtain rfl : i = k := by omega
                exact Hm.out j (by omega))
            go_wp2_with fail
            go_roundw
            case rel => exact ⟨k + 1, by omega, by go_num, He, HB⟩
            case measure => simp [RowKit.intOf]; omega
      · have He := hid (HGood.out (fun i j hi hj => Hk.out i (by omega) j hj))
        go_wp2_with fail
        go_ret2
        rw [He.out]
        exact ⟨rfl, HB1.out.trans (HB.out.mono HB1.out.size)⟩
  · obtain ⟨c, hc⟩ : ∃ c, c = mcode4R V fs [gs] := ⟨_, rfl⟩
    refine bool_mono5 (show flatR V fs gs = (false, c) by rw [flatR, if_neg h0, hc]) ?_
    rw [show pairFnR V fs gs = ([], c) by rw [pairFnR, if_neg h0, hc]] at HK
    rw [← hc] at h0
    have hcn : (c != 0) = true := by simpa using h0
    clear hc h0
    rw [hW0] at HK
    go_enter Try.func27, Try.ntmps27
    go_wp2_with fail
    refine HK.out.mono ?_
    rintro e w1 ⟨v1, rfl, hr1⟩
    rw [← hW0] at hr1
    have HB1 := hid (HB0.out.trans (hr1.2.mono HB0.out.size))
    clear hr1
    go_wp2_with fail
    go_ret2
    exact ⟨rfl, HB1.out⟩

end Go.Proofs.Ytbaljngbmokiiaa

/-! The law on IsFlat, walked. -/
namespace Go.Proofs.Ytbaljngbmokiiaa
open Go.RowKit

set_option maxRecDepth 100000 in
set_option maxHeartbeats 8000000 in
theorem law_IsFlat (V0 : Int) (a0 : Option Addr) (cap0 : Nat) (xs0 : List Int) (a1 : Option Addr) (cap1 : Nat) (gs1 : List Int) (w : World) (hx0 : SlI w w.heap.size a0 xs0) (hx1 : SlI w w.heap.size a1 gs1)  (hn0 : xs0.length ≤ 9223372036854775807)  :
    Calls Try.prog 5 #[.agg #[.int .i64 V0, .slice a0 xs0.length cap0], .slice a1 gs1.length cap1] w fun e w' => e = .returned (.bool true) ∧ Below w.heap.size w w' := by
  have F0 : Book w w [(a0, xs0), (a1, gs1)] [] [] := ⟨Below.refl _ _, by simp; exact ⟨hx0, hx1⟩, by simp, by simp⟩
  have F0 := F0.alloc (.cells #[.int .i64 V0, .slice a0 xs0.length cap0] 24)
  (try simp only [World.size_alloc] at F0)
  have B0 := hid F0
  clear F0 hx0 hx1
  obtain ⟨r0, hr0⟩ : ∃ r, r = szR 1048576 xs0.length := ⟨_, rfl⟩
  have Hr0 := hid hr0
  by_cases hbL1 : 1048576 < gs1.length
  · clear hr0
    have hbi1 : (gs1.length : Int) > 1048576 := by omega
    go_enter Try.func5, Try.ntmps5
    go_wp2_with fail
    go_ret
    exact ⟨rfl, B0.out.from0⟩
  have hl1 : gs1.length ≤ 1048576 := by omega
  have hbi1 : ¬ (gs1.length : Int) > 1048576 := by omega
  by_cases hb0 : 1048576 < xs0.length
  · have hm0 : r0 = -1 := by rw [hr0]; exact szR_big (by omega)
    clear hb0
    clear hr0
    go_enter Try.func5, Try.ntmps5
    go_wp2_with fail
    refine (szCx V0 a0 xs0.length cap0 1048576 _ (by omega) (by omega) hn0).mono ?_
    rintro e s0 ⟨rfl, hB⟩
    have zs0 := hB.size
    (try simp only [World.size_alloc] at zs0)
    have B0 := hid (B0.out.below hB)
    clear hB
    rw [← Hr0.out]
    go_wp2_with fail
    go_ret
    exact ⟨rfl, B0.out.from0⟩
  · have hv0 : r0 = 1048576 - xs0.length := by rw [hr0, szR_fit (by omega)]
    have hg0 : 0 ≤ r0 := by omega
    have hu0 : r0 ≤ 1048576 := by omega
    have hl0 : xs0.length ≤ 1048576 := by omega
    clear hr0 hb0
    have Hv0 := hid hv0
    clear hv0
    obtain ⟨R, hR⟩ : ∃ R, R = flatR V0 xs0 gs1 := ⟨_, rfl⟩
    obtain ⟨bb, c⟩ := R
    have HS : Hid (∀ a0 cap0 a1 cap1 w', SlI w' w'.heap.size a0 xs0 → SlI w' w'.heap.size a1 gs1 → Calls Try.prog 27 #[.agg #[.int .i64 V0, .slice a0 xs0.length cap0], .slice a1 gs1.length cap1] w' fun e w'' => e = .returned (.tuple #[.bool bb, .int .i64 c]) ∧ Below w'.heap.size w' w'') :=
      hid (fun a0 cap0 a1 cap1 w' hs0 hs1 => by have := specIsFlat V0 a0 cap0 xs0 a1 cap1 gs1 w' hs0 hs1 hl0 hl1; rwa [← hR] at this)
    have HI : Hid (∀ a0 cap0 a1 cap1 w', SlI w' w'.heap.size a0 xs0 → SlI w' w'.heap.size a1 gs1 → Calls Try.prog 28 #[.agg #[.int .i64 V0, .slice a0 xs0.length cap0], .slice a1 gs1.length cap1] w' fun e w'' => e = .returned (.tuple #[.bool bb, .int .i64 c]) ∧ Below w'.heap.size w' w'') :=
      hid (fun a0 cap0 a1 cap1 w' hs0 hs1 => by have := implIsFlat V0 a0 cap0 xs0 a1 cap1 gs1 w' hs0 hs1 hl0 hl1; rwa [← hR] at this)
    have hcc : (c != c) = false := by simp
    clear hR
    go_enter Try.func5, Try.ntmps5
    go_wp2_with fail
    refine (szCx V0 a0 xs0.length cap0 1048576 _ (by omega) (by omega) hn0).mono ?_
    rintro e s0 ⟨rfl, hB⟩
    have zs0 := hB.size
    (try simp only [World.size_alloc] at zs0)
    have B0 := hid (B0.out.below hB)
    clear hB
    rw [← Hr0.out]
    obtain ⟨q0, q1⟩ := B0.out.two (.head _)
    go_wp2_with fail
    clear q0 q1
    refine (toCx V0 a0 cap0 xs0 _ (B0.out.arg (.head _)) hl0).mono ?_
    rintro e u0 ⟨gu0, rfl, hown, hB⟩
    have zu0 := hB.size
    (try simp only [World.size_alloc] at zu0)
    have B0 := hid (B0.out.row hown hB)
    clear hown hB
    (try simp only [World.size_alloc] at B0)
    go_wp2_with fail
    refine (toInts a1 cap1 gs1 _ (B0.out.arg (.tail _ (.head _))) hl1).mono ?_
    rintro e u1 ⟨rfl, hown, hB⟩
    have zu1 := hB.size
    (try simp only [World.size_alloc] at zu1)
    have B0 := hid (B0.out.row hown hB)
    clear hown hB
    (try simp only [World.size_alloc] at B0)
    go_wp2_with fail
    refine (HS.out _ _ _ _ _ (B0.out.slI (.tail _ (.head _))) (B0.out.slI (.head _))).mono ?_
    rintro e u9 ⟨rfl, hB⟩
    have zu9 := hB.size
    (try simp only [World.size_alloc] at zu9)
    have B0 := hid (B0.out.below hB)
    clear hB
    obtain ⟨q0, q1⟩ := B0.out.two (.head _)
    go_wp2_with fail
    clear q0 q1
    refine (toCx V0 a0 cap0 xs0 _ (B0.out.arg (.head _)) hl0).mono ?_
    rintro e x0 ⟨gx0, rfl, hown, hB⟩
    have zx0 := hB.size
    (try simp only [World.size_alloc] at zx0)
    have B0 := hid (B0.out.row hown hB)
    clear hown hB
    (try simp only [World.size_alloc] at B0)
    have B0 := hid (B0.out.alloc (.cells #[.int .i64 V0, .slice (some ⟨gx0, 0, none⟩) xs0.length xs0.length] 26))
    go_wp2_with fail
    refine (toInts a1 cap1 gs1 _ (B0.out.arg (.tail _ (.head _))) hl1).mono ?_
    rintro e x1 ⟨rfl, hown, hB⟩
    have zx1 := hB.size
    (try simp only [World.size_alloc] at zx1)
    have B0 := hid (B0.out.row hown hB)
    clear hown hB
    (try simp only [World.size_alloc] at B0)
    obtain ⟨p00, p01⟩ := B0.out.two (.head _)
    go_wp2_with fail
    clear p00 p01
    refine (HI.out _ _ _ _ _ (B0.out.slI (.tail _ (.head _))) (B0.out.slI (.head _))).mono ?_
    rintro e v9 ⟨rfl, hB⟩
    have zv9 := hB.size
    (try simp only [World.size_alloc] at zv9)
    have B0 := hid (B0.out.below hB)
    clear hB
    clear HS HI
    cases bb
    all_goals
      obtain ⟨lxb00, lxb01⟩ := B0.out.two (.head _)
      obtain ⟨lk00, lk01⟩ := B0.out.two (.tail _ (.head _))
      go_wp2_with fail
      go_region_with (first
        | (go_at_call 17; refine (toCx V0 a0 cap0 xs0 _ (B0.out.drew.arg (.head _)) hl0).mono ?_; rintro e f0 ⟨gf0, rfl, hown, hB⟩; have zf0 := hB.size; have C0 := hid (B0.out.drew.row hown hB); clear hown hB; obtain ⟨m00, m01⟩ := C0.out.two (.head _))
        | (go_at_call 20; refine (eqCx_yes V0 _ _ _ _ xs0 xs0 _ (C0.out.slI (.tail _ (.tail _ (.head _)))) (C0.out.slI (.head _)) hl0 hl0 rfl).mono ?_; rintro e h0 ⟨rfl, hB⟩))
      all_goals
        have zh0 := hB.size
        have D0 := hid (C0.out.below hB)
        clear hB C0 B0 m00 m01
        clear lxb00 lxb01
        clear lk00 lk01
        have B0 := D0
        clear D0
        skip
        go_wp2_with fail
        refine (toInts a1 cap1 gs1 _ (B0.out.arg (.tail _ (.head _))) hl1).mono ?_
        rintro e f1 ⟨rfl, hown, hB⟩
        have zf1 := hB.size
        (try simp only [World.size_alloc] at zf1)
        have B0 := hid (B0.out.row hown hB)
        clear hown hB
        (try simp only [World.size_alloc] at B0)
        go_wp2_with fail
        refine (eqInts_yes _ _ _ _ gs1 gs1 _ (B0.out.slI (.tail _ (.tail _ (.head _)))) (B0.out.slI (.head _)) hl1 hl1 rfl).mono ?_
        rintro e h1 ⟨rfl, hB⟩
        have zh1 := hB.size
        (try simp only [World.size_alloc] at zh1)
        have B0 := hid (B0.out.below hB)
        clear hB
        go_wp2_with fail
        go_ret
        exact ⟨rfl, B0.out.from0⟩

end Go.Proofs.Ytbaljngbmokiiaa
