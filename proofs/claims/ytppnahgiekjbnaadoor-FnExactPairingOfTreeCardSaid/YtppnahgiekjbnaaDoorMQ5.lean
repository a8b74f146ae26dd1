import Derived.Test.YtppnahgiekjbnaaDoorRows
import Derived.ProofKit
import Derived.OpenShut
import Derived.ShutString
import Derived.ChangeOld
import Derived.Below
import Derived.Lib.SmallJoins
import Derived.Test.YtppnahgiekjbnaaDoorTie
import Derived.Test.YtppnahgiekjbnaaDoorCards
import Derived.OpenVars
import Derived.LaidMore
import Derived.MakeChecks
import Derived.Stop.LaidErr
import Derived.SevenTiedAt
import Derived.Lib.LaidTab
import Derived.LaidSub
import Derived.Test.YtppnahgiekjbnaaDoorMQ1
import Derived.Test.YtppnahgiekjbnaaDoorMQ4
/-! QuestionsFor, on both sides. -/
namespace Go.Proofs.YtppnahgiekjbnaaDoor
open Go.RowKit Go.Shelf

/-- What QuestionsFor answers. -/
noncomputable def qfR (V : Int) (fs T : List Int) (h : Int) : List Int × Int :=
  if codeT V fs T = 0 then (if 0 ≤ h ∧ h ≤ allV V then (wayL T h.toNat (neededN fs V.toNat T h.toNat), 0) else ([], 2)) else ([], codeT V fs T)
theorem codeT_zero {V : Int} {fs T : List Int} (h : codeT V fs T = 0) : IsC V fs ∧ IsT V.toNat T := by
  unfold codeT at h
  cases h1 : isCB V fs
  · rw [h1] at h; simp at h
  · rw [h1] at h
    cases h2 : isTB V.toNat T
    · rw [h2] at h; simp at h
    · exact ⟨isCB_iff.1 h1, isTB_iff.1 h2⟩
theorem codeT_not {V : Int} {fs T : List Int} (h : codeT V fs T ≠ 0) : codeT V fs T = 1 ∨ codeT V fs T = 2 := by
  unfold codeT at h ⊢
  cases h1 : isCB V fs
  · simp
  · cases h2 : isTB V.toNat T
    · simp
    · rw [h1, h2] at h; simp at h
theorem qfR_len (V : Int) (fs T : List Int) (h : Int) (_ : fs.length ≤ 1048576) (_ : T.length ≤ 1048576) : (qfR V fs T h).1.length ≤ 1048576 := by
  unfold qfR
  split
  · rename_i h0
    have h6 := (codeT_zero h0).1.hi
    split
    · rw [wayL_len]
      have := needed_le fs V.toNat T h.toNat
      omega
    · simp
  · simp
theorem slI_pre {w : World} {B : Nat} {a : Option Addr} {xs : List Int} (h : SlI w B a xs) (k : Nat) : SlI w B a (xs.take k) := by
  rcases h with rfl | ⟨b, off, hb, ha, hc⟩
  · left; simp
  · right
    refine ⟨b, off, hb, ha, fun i hi => ?_⟩
    simp at hi
    rw [hc i (by omega), List.getElem?_take_of_lt (by omega)]
/-- The load of a whole row, as a step. -/
theorem exec_load_row {P : Program} {o : Oper} {a : Act} {w : World} (ty : TypeId) (x : Operand) (ho : o.op = .load ty x) (g : Nat) (hx : a.eval x = .pointer (some ⟨g, 0, none⟩)) (t : TypeId) (cs : Array Value) (fr : Nat × Nat) (d : TypeDesc) (hg : w.heap[g]? = some (.cells cs t fr))
    (hu : P.underlying ty = some d) (hd : (match d with | .struct _ | .array _ _ => true | _ => false) = true) (hi : (P.info? ty).map (·.size) = some cs.size) : (execOp a.eval o).run P w = .ok (.value (.agg cs)) w := by
  unfold execOp
  simp only [ho, hx, Instr.loadAt, Instr.sureAddr, Sem.run_bind, Sem.run_pure, Result.andThen_ok, run_loadVar_row w g t ty cs fr d hg hu hd hi]
theorem shl_all {n : Nat} (h : n ≤ 6) : wrap64 (2 ^ n) = ((2 ^ n : Nat) : Int) ∧ wrap64 (((2 ^ n : Nat) : Int) - 1) = allV (n : Int) := by
  have : n = 0 ∨ n = 1 ∨ n = 2 ∨ n = 3 ∨ n = 4 ∨ n = 5 ∨ n = 6 := by omega
  rcases this with rfl | rfl | rfl | rfl | rfl | rfl | rfl <;> exact ⟨by rw [wrap64]; first | rfl | decide | omega, by rw [wrap64]; first | rfl | decide | omega⟩

set_option maxRecDepth 100000 in
set_option maxHeartbeats 2000000 in
theorem specQuestionsFor (V : Int) (a0 : Option Addr) (cap : Nat) (fs : List Int) (a : Option Addr) (cap1 : Nat) (T : List Int) (h : Int) (w : World) (hx : SlI w w.heap.size a0 fs) (hx1 : SlI w w.heap.size a T) (hl : fs.length ≤ 1048576) (hl1 : T.length ≤ 1048576) (_ : (Lit.int .i64 h).wf = true) :
    Calls Tryd.prog 9 #[.agg #[.int .i64 V, .slice a0 fs.length cap], .slice a T.length cap1, .int .i64 h] w fun e w' => ∃ v, e = .returned (.tuple #[v, .int .i64 (qfR V fs T h).2]) ∧ Res w w' v (qfR V fs T h).1 := by
  obtain ⟨W0, hW0⟩ : ∃ W0, W0 = w.alloc (.cells #[.int .i64 V, .slice a0 fs.length cap] 28) := ⟨_, rfl⟩
  have hB0 : Below w.heap.size w W0 := by rw [hW0]; exact (Below.refl _ w).alloc (Nat.le_refl _) _
  have Hk : Hid (W0.heap[w.heap.size]? = some (.cells #[.int .i64 V, .slice a0 fs.length cap] 28 (0, 0))) := hid (by rw [hW0]; exact heap_alloc_new _ _)
  have Hx := hid hx
  have Hx1 := hid hx1
  have HB0 := hid hB0
  have HC := hid (codeS_any V a0 cap fs a cap1 T W0 (hx.later hB0 hB0.size) hl (hx1.later hB0 hB0.size) hl1)
  rw [hW0] at HC
  obtain ⟨k0, k1, _, _⟩ := two_of Hk.out
  rw [hW0] at k0 k1
  clear hx hx1 hB0
  obtain ⟨c, hc⟩ : ∃ c, c = codeT V fs T := ⟨_, rfl⟩
  by_cases h0 : c = 0
  · obtain ⟨hC, hT⟩ := codeT_zero (hc.symm.trans h0)
    have hlo := hC.lo
    have hhi := hC.hi
    rw [← hc, h0] at HC
    obtain ⟨n, rfl⟩ : ∃ n : Nat, V = (n : Int) := ⟨V.toNat, by omega⟩
    rw [Int.toNat_natCast] at hT
    have hn1 : 1 ≤ n := by omega
    have hn6 : n ≤ 6 := by omega
    obtain ⟨hsh, hs1⟩ := shl_all hn6
    obtain ⟨M, hM⟩ : ∃ M, M = allV (n : Int) := ⟨_, rfl⟩
    rw [← hM] at hs1
    have hM63 : M ≤ 63 := by rw [hM]; exact allV_le hhi
    have Hsh : Hid (wrap64 (wrap64 (2 ^ n) - 1) = M) := hid (by rw [hsh]; exact hs1)
    have hn0 : (0 : Int) ≤ (n : Int) := by omega
    by_cases hr : 0 ≤ h ∧ h ≤ M
    · have HR : Hid (qfR (n : Int) fs T h = (wayL T h.toNat (neededN fs n T h.toNat), 0)) := hid (by unfold qfR; rw [if_pos (hc.symm.trans h0), if_pos (by rw [← hM]; exact hr), Int.toNat_natCast])
      have HI : Hid (∀ W X, X = M → Calls Tryd.prog 31 #[.int .i64 h, .int .i64 0, .int .i64 X] W fun e w' => e = .returned (.bool true) ∧ W = w') := hid (fun W X hX => by
        have := in_any h 0 X W
        rw [hX, decide_eq_true hr.1, decide_eq_true hr.2] at this
        rw [hX]
        exact this)
      obtain ⟨q, rfl⟩ : ∃ q : Nat, h = (q : Int) := ⟨h.toNat, by omega⟩
      rw [Int.toNat_natCast] at HR
      have hq : q < 64 := by omega
      have HW := hid (fun W (hb : Below w.heap.size w W) => wayS_any n q a cap1 T W (Hx1.out.later hb hb.size) hT hn1 hn6 hq)
      have HN := hid (fun W (hb : Below w.heap.size w W) => neededS_any n q a0 cap fs a cap1 T W (Hx.out.later hb hb.size) hl (Hx1.out.later hb hb.size) hT hn1 hn6 hq)
      obtain ⟨N, hN⟩ : ∃ N, N = neededN fs n T q := ⟨_, rfl⟩
      have hNle : N ≤ n := by rw [hN]; exact needed_le ..
      rw [← hN] at HN HR
      have HTk : Hid ((wayL T q n).take N = wayL T q N) := hid (wayL_take T q hNle)
      have hxl : (wayL T q n).length = n := wayL_len ..
      obtain ⟨xs, hxs⟩ : ∃ xs, xs = wayL T q n := ⟨_, rfl⟩
      rw [← hxs] at HTk hxl HW
      clear hc hC hT hM hN hsh hs1 hr hxs
      go_enter Tryd.func9, Tryd.ntmps9
      go_wp2_with fail
      refine HC.out.mono ?_
      rintro e w1 ⟨rfl, hB1⟩
      rw [← hW0] at hB1
      have HB1 := hid (HB0.out.trans (hB1.mono HB0.out.size))
      have Hk1 := hid ((hB1.block _ (lt_get Hk.out)).trans Hk.out)
      obtain ⟨k0, k1, _, _⟩ := two_of Hk1.out
      clear hB1
      go_wp2_with fail
      refine (HI.out _ _ Hsh.out).mono ?_
      rintro e w2 ⟨rfl, rfl⟩
      go_wp2_with fail
      refine (HW.out _ HB1.out).mono ?_
      rintro e w2 ⟨v2, rfl, hr2⟩
      obtain ⟨g, cv, hv2, hcv⟩ : ∃ g cv, v2 = .slice (some ⟨g, 0, none⟩) xs.length cv ∧ xs.length ≤ cv := by
        rcases hr2.1.2 with ⟨hn, h0⟩ | ⟨g, cap', cur, hv, hg, hh, hc1, hc2, hc3, hc4⟩
        · omega
        · exact ⟨g, cap', by simpa using hv, by simpa using hc1⟩
      subst hv2
      have Hs2 := hid (ownsRow_slI hr2.1)
      have HB2 := hid (HB1.out.trans (hr2.2.mono HB1.out.size))
      obtain ⟨k0, k1, _, _⟩ := two_of ((hr2.2.block _ (lt_get Hk1.out)).trans Hk1.out)
      clear hr2
      go_wp2_with fail
      refine (HN.out _ HB2.out).mono ?_
      rintro e w3 ⟨rfl, hB3⟩
      have HO := hid (own_any (some ⟨g, 0, none⟩) cv (xs.take N) w3 (slI_pre (by obtain ⟨_, a', c', he, hs⟩ := Hs2.out; cases he; exact hs.later hB3 hB3.size) N) (by rw [List.length_take]; omega))
      rw [List.length_take, Nat.min_eq_left (by omega)] at HO
      have HB3 := hid (HB2.out.trans (hB3.mono HB2.out.size))
      have hN0 : (0 : Int) ≤ (N : Int) := by omega
      have hN1 : (N : Int) ≤ (cv : Int) := by omega
      have hN2 : (N : Int) ≤ (n : Int) := by omega
      clear hB3 k0 k1
      go_wp2_with fail
      refine HO.out.mono ?_
      rintro e w4 ⟨v4, rfl, hr4⟩
      have HR4 := hid (hr4.later HB3.out)
      clear hr4
      go_wp2_with fail
      go_ret2
      rw [HR.out]
      exact ⟨_, rfl, by rw [← HTk.out]; exact HR4.out⟩
    · have HR : Hid (qfR (n : Int) fs T h = ([], 2)) := hid (by unfold qfR; rw [if_pos (hc.symm.trans h0), if_neg (by rw [← hM]; exact hr)])
      have HI : Hid (∀ W X, X = M → Calls Tryd.prog 31 #[.int .i64 h, .int .i64 0, .int .i64 X] W fun e w' => e = .returned (.bool false) ∧ W = w') := hid (fun W X hX => by
        have := in_any h 0 X W
        rw [show (decide (0 ≤ h) && decide (h ≤ X)) = false by rw [hX]; simp; omega] at this
        exact this)
      clear hc hC hT hM hsh hs1 hr
      go_enter Tryd.func9, Tryd.ntmps9
      go_wp2_with fail
      refine HC.out.mono ?_
      rintro e w1 ⟨rfl, hB1⟩
      rw [← hW0] at hB1
      have HB1 := hid (HB0.out.trans (hB1.mono HB0.out.size))
      have Hk1 := hid ((hB1.block _ (lt_get Hk.out)).trans Hk.out)
      obtain ⟨k0, k1, _, _⟩ := two_of Hk1.out
      clear hB1
      go_wp2_with fail
      refine (HI.out _ _ Hsh.out).mono ?_
      rintro e w2 ⟨rfl, rfl⟩
      go_wp2_with fail
      go_ret2
      rw [HR.out]
      exact ⟨_, rfl, res_nil _ _ HB1.out⟩
  · have HR : Hid (qfR V fs T h = ([], c)) := hid (by unfold qfR; rw [if_neg (by rw [← hc]; exact h0), ← hc])
    have hcc := codeT_not (by rw [← hc]; exact h0)
    rw [← hc] at hcc HC
    clear hc h0
    rcases hcc with rfl | rfl
    all_goals
      go_enter Tryd.func9, Tryd.ntmps9
      go_wp2_with fail
      refine HC.out.mono ?_
      rintro e w1 ⟨rfl, hB1⟩
      rw [← hW0] at hB1
      have HB1 := hid (HB0.out.trans (hB1.mono HB0.out.size))
      clear hB1
      go_wp2_with fail
      go_ret2
      rw [HR.out]
      exact ⟨_, rfl, res_nil _ _ HB1.out⟩

end Go.Proofs.YtppnahgiekjbnaaDoor

/-! QuestionsFor, the program's. -/
namespace Go.Proofs.YtppnahgiekjbnaaDoor
open Go.RowKit Go.Shelf

set_option maxRecDepth 100000 in
set_option maxHeartbeats 4000000 in
theorem implQuestionsFor (V : Int) (a0 : Option Addr) (cap : Nat) (fs : List Int) (a : Option Addr) (cap1 : Nat) (T : List Int) (h : Int) (w : World) (hx : SlI w w.heap.size a0 fs) (hx1 : SlI w w.heap.size a T) (hl : fs.length ≤ 1048576) (hl1 : T.length ≤ 1048576) (_ : (Lit.int .i64 h).wf = true)
    (pv : Value) (hG : w.cell? ⟨2, 0, none⟩ = some (.iface 138 pv)) (hW : HidW w) :
    Calls Tryd.prog 12 #[.agg #[.int .i64 V, .slice a0 fs.length cap], .slice a T.length cap1, .int .i64 h] w fun e w' => ∃ v, e = .returned (.tuple #[v, .int .i64 (qfR V fs T h).2]) ∧ Res w w' v (qfR V fs T h).1 := by
  obtain ⟨Z, hZs, hZ1, hz, hi⟩ := zero_tree
  have hZ0 : ¬ Z = #[] := by rintro rfl; simp at hZs
  obtain ⟨W0, hW0⟩ : ∃ W0, W0 = w.alloc (.cells #[.int .i64 V, .slice a0 fs.length cap] 28) := ⟨_, rfl⟩
  have hB0 : Below w.heap.size w W0 := by rw [hW0]; exact (Below.refl _ w).alloc (Nat.le_refl _) _
  have Hk : Hid (W0.heap[w.heap.size]? = some (.cells #[.int .i64 V, .slice a0 fs.length cap] 28 (0, 0))) := hid (by rw [hW0]; exact heap_alloc_new _ _)
  have Hx := hid hx
  have HB0 := hid hB0
  have HHw := hid hW
  have HC := hid (treeFor_any V a0 cap fs a cap1 T W0 pv (hx.later hB0 hB0.size) hl (hx1.later hB0 hB0.size) hl1 ((hB0.cell (World.block_lt_of_cell? _ _ hG)).trans hG))
  rw [hW0] at HC
  obtain ⟨k0, k1, _, _⟩ := two_of Hk.out
  rw [hW0] at k0 k1
  clear hx hx1 hB0 hG hW
  obtain ⟨c, hc⟩ : ∃ c, c = codeT V fs T := ⟨_, rfl⟩
  by_cases h0 : c = 0
  · obtain ⟨hC, hT⟩ := codeT_zero (hc.symm.trans h0)
    have hlo := hC.lo
    have hhi := hC.hi
    rw [← hc, h0] at HC
    obtain ⟨n, rfl⟩ : ∃ n : Nat, V = (n : Int) := ⟨V.toNat, by omega⟩
    rw [Int.toNat_natCast] at hT
    have hn1 : 1 ≤ n := by omega
    have hn6 : n ≤ 6 := by omega
    obtain ⟨M, hM⟩ : ∃ M, M = allV (n : Int) := ⟨_, rfl⟩
    have hM63 : M ≤ 63 := by rw [hM]; exact allV_le hhi
    have HAv := hid (fun W => av_any (n : Int) W (by omega) (by omega))
    rw [← hM] at HAv
    by_cases hr : 0 ≤ h ∧ h ≤ M
    · have HR : Hid (qfR (n : Int) fs T h = (wayL T h.toNat (neededN fs n T h.toNat), 0)) := hid (by unfold qfR; rw [if_pos (hc.symm.trans h0), if_pos (by rw [← hM]; exact hr), Int.toNat_natCast])
      obtain ⟨q, rfl⟩ : ∃ q : Nat, h = (q : Int) := ⟨h.toNat, by omega⟩
      rw [Int.toNat_natCast] at HR
      have hq : q < 64 := by omega
      have hq0 : ¬ (q : Int) < 0 := by omega
      have hqM : ¬ (q : Int) > M := by omega
      have HQ := hid (fun W (hb : Below w.heap.size w W) => callsIn_wide.1 (qneed_in n q (gameC fs fs.length) fs T W (gameC_is hC.range63) hT hn1 hn6 hq (HHw.out.later hb (Nat.le_refl _))))
      have HGm := hid (fun W (hb : Below w.heap.size w W) => game_any (n : Int) a0 cap fs W (Hx.out.later hb hb.size) hl hC.range63)
      clear hc hC hT hM hr
      go_enter Tryd.func12, Tryd.ntmps12
      go_wp2_with fail
      refine HC.out.mono ?_
      rintro e w1 ⟨A, rfl, hAs, hA1, hAe, hB1⟩
      rw [← hW0] at hB1
      have HAe := hid (hAe trivial)
      have HB1 := hid (HB0.out.trans ((hB1.alloc hB1.size (.cells A 54)).mono HB0.out.size))
      have Hk1 := hid (((hB1.alloc hB1.size (.cells A 54)).block _ (lt_get Hk.out)).trans Hk.out)
      have Ht1 : Hid ((w1.alloc (.cells A 54)).heap[w1.heap.size]? = some (.cells A 54 (0, 0))) := hid (heap_alloc_new _ _)
      obtain ⟨k0, k1, _, _⟩ := two_of Hk1.out
      have hsc := run_storeCells_new (P := Tryd.prog) w1 54 Z A (by rw [hi, hAs]) (by rw [hZs, hAs]) hA1
      clear hB1 hAe
      go_wp2_with (first
        | (go_at_call 36; refine (HAv.out _).mono ?_; rintro e w' ⟨rfl, rfl⟩))
      clear k0 k1 hsc
      have HB1s := HB1.out.size
      refine region_M 6 (fun W : World => W.heap[w.heap.size]? = some (.cells #[.int .i64 (n : Int), .slice a0 fs.length cap] 28 (0, 0)) ∧ W.heap[w1.heap.size]? = some (.cells A 54 (0, 0))) (by kernel_rfl) ?_
      have hbd := below_dn' (w1.alloc (.cells A 54)) 1
      obtain ⟨x0, hx0⟩ : ∃ x, x = (w1.alloc (.cells A 54)).drew := ⟨_, rfl⟩
      have HX0 : Hid (x0.heap[w.heap.size]? = some (.cells #[.int .i64 (n : Int), .slice a0 fs.length cap] 28 (0, 0)) ∧ x0.heap[w1.heap.size]? = some (.cells A 54 (0, 0))) := hid (by rw [hx0]; exact ⟨Hk1.out, Ht1.out⟩)
      have HBx : Hid (Below w.heap.size w x0) := hid (by rw [hx0]; exact HB1.out.trans (hbd.mono HB1.out.size))
      rw [← hx0]
      clear hx0 hbd
      have hiA : (Tryd.prog.info? 54).map (·.size) = some A.size := by rw [hi, hAs]
      refine anyM_take (i := 0) (v := .agg #[.int .i64 (n : Int), .slice a0 fs.length cap]) [6] rfl (by kernel_rfl) (fun _ _ _ h => h) (Or.inl ⟨by rfl, fun W hW => by (obtain ⟨z0, z1, _, _⟩ := two_of hW.1; go_simp)⟩) HX0.out ?_
      refine anyM_take (i := 2) (v := .agg A) [6] rfl (by kernel_rfl) (fun _ _ _ h => h) (Or.inl ⟨by rfl, fun W hW => exec_load_row 54 _ rfl w1.heap.size rfl 54 A (0, 0) _ hW.2 Tryd.underlying54 rfl hiA⟩) HX0.out ?_
      refine anyM_take (i := 3) (v := .int .i64 (q : Int)) [6] rfl (by kernel_rfl) (fun _ _ _ h => h) (Or.inl ⟨by rfl, fun W hW => by go_simp⟩) HX0.out ?_
      refine anyM_ready (rs := [1]) (by kernel_rfl) (by simp) ?_
      refine AllM.cons rfl (fun K hK => ?_) AllM.nil
      go_simp
      go_at_call 37
      refine (HGm.out _ HBx.out).mono ?_
      rintro e x1 ⟨rfl, hb1⟩
      have HX1 : Hid (x1.heap[w.heap.size]? = some (.cells #[.int .i64 (n : Int), .slice a0 fs.length cap] 28 (0, 0)) ∧ x1.heap[w1.heap.size]? = some (.cells A 54 (0, 0))) := hid ⟨(hb1.block _ (lt_get HX0.out.1)).trans HX0.out.1, (hb1.block _ (lt_get HX0.out.2)).trans HX0.out.2⟩
      have HBx := hid (HBx.out.trans (hb1.mono HBx.out.size))
      clear hb1
      refine hK.out _ _ (fun _ => HX1.out) ?_
      clear hK K
      refine anyM_ready (rs := [4]) (by kernel_rfl) (by simp) ?_
      refine AllM.cons rfl (fun K hK => ?_) AllM.nil
      rw [HAe.out]
      go_simp
      go_at_call 38
      refine (HQ.out _ HBx.out).mono ?_
      rintro e x2 ⟨v2, rfl, hr2⟩
      obtain ⟨_, av, cv, rfl, _⟩ := ownsRow_slI hr2.1
      have HX2 : Hid (x2.heap[w.heap.size]? = some (.cells #[.int .i64 (n : Int), .slice a0 fs.length cap] 28 (0, 0)) ∧ x2.heap[w1.heap.size]? = some (.cells A 54 (0, 0))) := hid ⟨(hr2.2.block _ (lt_get HX1.out.1)).trans HX1.out.1, (hr2.2.block _ (lt_get HX1.out.2)).trans HX1.out.2⟩
      have HR2 := hid (hr2.later HBx.out)
      clear hr2
      refine hK.out _ _ (fun _ => HX2.out) ?_
      clear hK K
      refine anyM_ready (rs := [5]) (by kernel_rfl) (by simp) ?_
      refine AllM.cons rfl (fun K hK => ?_) AllM.nil
      go_simp
      refine hK.out _ _ (fun _ => HX2.out) ?_
      clear hK K
      refine anyM_ready (rs := [6]) (by kernel_rfl) (by simp) ?_
      refine AllM.cons rfl (fun K hK => ?_) AllM.nil
      go_simp
      refine hK.out _ _ (fun h => absurd rfl h) ?_
      clear hK K
      refine anyM_done (by kernel_rfl) ?_ _
      go_wp2_with fail
      go_ret2
      rw [HR.out]
      exact ⟨_, rfl, HR2.out⟩
    · have HR : Hid (qfR (n : Int) fs T h = ([], 2)) := hid (by unfold qfR; rw [if_pos (hc.symm.trans h0), if_neg (by rw [← hM]; exact hr)])
      have hcs : (h < 0) ∨ (¬ h < 0 ∧ h > M) := by omega
      clear hc hC hT hM hr
      rcases hcs with hn | ⟨hn, hm⟩
      all_goals
        go_enter Tryd.func12, Tryd.ntmps12
        go_wp2_with fail
        refine HC.out.mono ?_
        rintro e w1 ⟨A, rfl, hAs, hA1, hAe, hB1⟩
        rw [← hW0] at hB1
        have HB1 := hid (HB0.out.trans ((hB1.alloc hB1.size (.cells A 54)).mono HB0.out.size))
        have Hk1 := hid (((hB1.alloc hB1.size (.cells A 54)).block _ (lt_get Hk.out)).trans Hk.out)
        obtain ⟨k0, k1, _, _⟩ := two_of Hk1.out
        have hsc := run_storeCells_new (P := Tryd.prog) w1 54 Z A (by rw [hi, hAs]) (by rw [hZs, hAs]) hA1
        clear hB1 hAe
        go_wp2_with (first
          | (go_at_call 36; refine (HAv.out _).mono ?_; rintro e w' ⟨rfl, rfl⟩))
        go_ret2
        rw [HR.out]
        exact ⟨_, rfl, res_nil _ _ HB1.out⟩
  · have HR : Hid (qfR V fs T h = ([], c)) := hid (by unfold qfR; rw [if_neg (by rw [← hc]; exact h0), ← hc])
    have hcc := codeT_not (by rw [← hc]; exact h0)
    rw [← hc] at hcc HC
    clear hc h0
    rcases hcc with rfl | rfl
    all_goals
      go_enter Tryd.func12, Tryd.ntmps12
      go_wp2_with fail
      refine HC.out.mono ?_
      rintro e w1 ⟨A, rfl, hAs, hA1, hAe, hB1⟩
      rw [← hW0] at hB1
      have HB1 := hid (HB0.out.trans ((hB1.alloc hB1.size (.cells A 54)).mono HB0.out.size))
      have hsc := run_storeCells_new (P := Tryd.prog) w1 54 Z A (by rw [hi, hAs]) (by rw [hZs, hAs]) hA1
      clear hB1 hAe
      go_wp2_with fail
      go_ret2
      rw [HR.out]
      exact ⟨_, rfl, res_nil _ _ HB1.out⟩

end Go.Proofs.YtppnahgiekjbnaaDoor

/-! What a complex that comes in is told as, for the rows of all laws. -/
namespace Go.Proofs.YtppnahgiekjbnaaDoor
open Go.ChangeShapes Go.WideShapes Go.ChangeAt Go.RowKit Go.Joins

theorem own : ownKnob Tryd.prog.godebug = none := by kernel_rfl
theorem laidOut : laidOutB Tryd.prog = true := by kernel_rfl

variable {H : Type} {enc : TypeId × Value → H}

/-- A slice of int64 that came in. -/
theorem slI_of_trod {W : World} {n : Nat} {v : Value} {y : DataW H × List MemPlace} (hf : DataW.trod enc Tryd.prog W 0 (fun _ => true) true n 22 [v] = some y) :
    ∃ a len cap xs, v = .slice a len cap ∧ xs.length = len ∧ len ≤ 9223372036854775807 ∧ SlI W W.heap.size a xs ∧ ∀ x ∈ xs, (Lit.int .i64 x).wf = true := by
  rcases open_ints Tryd.underlying22 Tryd.underlying2 (by kernel_rfl) hf with ⟨hcs, _⟩ | ⟨x, l, c, zs, hcs, _, hl, hm, hz, _, hcell, hwf⟩
  · simp at hcs
    subst hcs
    exact ⟨none, 0, 0, [], rfl, rfl, by omega, .inl rfl, by simp⟩
  · simp at hcs
    subst hcs
    simp at hz
    have hlen : (zs.take l).length = l := by simp; omega
    unfold maxLen at hm
    refine ⟨some x, l, c, zs.take l, rfl, hlen, by omega, ?_, fun y hy => hwf y (List.mem_of_mem_take hy)⟩
    by_cases h0 : l = 0
    · subst h0; exact .inl (by simp)
    · right
      obtain ⟨b, off, spot⟩ := x
      have hc0 := hcell 0 (by omega)
      have hspot : spot = none := by simpa [Addr.add] using World.cell?_spot hc0
      subst hspot
      refine ⟨b, off, ?_, rfl, fun i hi => ?_⟩
      · have := World.block_lt_of_cell? W _ hc0
        simpa [Addr.add] using this
      · rw [hlen] at hi
        have := hcell i (by omega)
        have hadd : (⟨b, off, none⟩ : Addr).add i = ⟨b, off + i, none⟩ := by unfold Addr.add; split <;> simp_all
        rw [hadd] at this
        rw [List.getElem?_take, if_pos hi]
        simpa using this

end Go.Proofs.YtppnahgiekjbnaaDoor

/-! What the listed variables hold, for the rows of tied cards. -/
namespace Go.Proofs.YtppnahgiekjbnaaDoor
open Go.ChangeShapes Go.WideShapes Go.ChangeAt Go.RowKit Go.Joins

theorem starErr : "*" ++ "errors.errorString" = "*errors.errorString" := by decide
theorem rowErr (u : TypeId) (h : Tryd.prog.typeName? 3 u = some "*errors.errorString") : u = 138 :=
  typeName_ptr_named (nm := "errors.errorString") (by rw [starErr]; kernel_rfl) (by kernel_rfl) (by decide) u (by rw [starErr]; exact h)

theorem gChain : Tryd.prog.globalNamed "loop.example/g01348/impl.errNoChain" = some 1 := by kernel_rfl
theorem tChain : (Tryd.prog.globals[1]?).map (·.type) = some 101 := by kernel_rfl
theorem sentChain {W : World} (h : laidMet Tryd.prog [("loop.example/g01348/impl.errNoChain", Rows.laid_loop_example_g01348_impl_errNoChain)] W) : ∃ pv, W.cell? ⟨1, 0, none⟩ = some (.iface 138 pv) := by
  unfold Rows.laid_loop_example_g01348_impl_errNoChain at h
  obtain ⟨a, s, hv, _, _, _⟩ := laid_sentinel h gChain tChain Tryd.underlying101 rowErr Tryd.underlying138 Tryd.underlying155 rfl rfl Tryd.underlying9 (by kernel_rfl) (by kernel_rfl)
  exact ⟨_, by simpa using World.var?_cell gChain hv 0⟩

theorem gTree : Tryd.prog.globalNamed "loop.example/g01348/impl.errNoTree" = some 2 := by kernel_rfl
theorem tTree : (Tryd.prog.globals[2]?).map (·.type) = some 101 := by kernel_rfl
theorem sentTree {W : World} (h : laidMet Tryd.prog [("loop.example/g01348/impl.errNoTree", Rows.laid_loop_example_g01348_impl_errNoTree)] W) : ∃ pv, W.cell? ⟨2, 0, none⟩ = some (.iface 138 pv) := by
  unfold Rows.laid_loop_example_g01348_impl_errNoTree at h
  obtain ⟨a, s, hv, _, _, _⟩ := laid_sentinel h gTree tTree Tryd.underlying101 rowErr Tryd.underlying138 Tryd.underlying155 rfl rfl Tryd.underlying9 (by kernel_rfl) (by kernel_rfl)
  exact ⟨_, by simpa using World.var?_cell gTree hv 0⟩

end Go.Proofs.YtppnahgiekjbnaaDoor

/-! What the table of the hidden sets holds, for the rows of tied cards. -/
namespace Go.Proofs.YtppnahgiekjbnaaDoor
open Go.ChangeShapes Go.WideShapes Go.ChangeAt Go.RowKit Go.Joins

def hidZ : List Int := [12297829382473034410, 14757395258967641292, 17361641481138401520, 18374966859414961920, 18446462603027742720, 18446744069414584320]
theorem gHid : Tryd.prog.globalNamed "loop.example/g01348/impl.hiddenWith" = some 0 := by kernel_rfl
theorem tHid : (Tryd.prog.globals[0]?).map (·.type) = some 114 := by kernel_rfl
theorem hidW_of {W : World} (h : Lib.TabIs Tryd.prog W "loop.example/g01348/impl.hiddenWith" .u64 hidZ) : HidW W := fun i hi => by
  have := h.cell gHid i (by unfold hidZ; simpa using hi)
  rw [this]
  match i, hi with
  | 0, _ => rfl
  | 1, _ => rfl
  | 2, _ => rfl
  | 3, _ => rfl
  | 4, _ => rfl
  | 5, _ => rfl
theorem sentHid {W : World} {rest : List (String × DataW Unit)} (h : laidMet Tryd.prog (("loop.example/g01348/impl.hiddenWith", Rows.laid_loop_example_g01348_impl_hiddenWith) :: rest) W) : HidW W :=
  hidW_of (Lib.tabIs_of_head (zs := hidZ) gHid tHid Tryd.underlying114 Tryd.underlying58 (by kernel_rfl) (by kernel_rfl) h)

end Go.Proofs.YtppnahgiekjbnaaDoor

/-! A sentinel and a table, for the rows of tied cards that list both. -/
namespace Go.Proofs.YtppnahgiekjbnaaDoor
open Go.ChangeShapes Go.WideShapes Go.ChangeAt Go.RowKit Go.Joins

theorem sentBoth {W : World} (h : laidMet Tryd.prog [("loop.example/g01348/impl.errNoTree", Rows.laid_loop_example_g01348_impl_errNoTree), ("loop.example/g01348/impl.hiddenWith", Rows.laid_loop_example_g01348_impl_hiddenWith)] W) :
    (∃ pv, W.cell? ⟨2, 0, none⟩ = some (.iface 138 pv)) ∧ HidW W := by
  constructor
  · have h1 := h.filter (fun p => p.1 == "loop.example/g01348/impl.errNoTree")
    have e : List.filter (fun p : String × DataW Unit => p.1 == "loop.example/g01348/impl.errNoTree") [("loop.example/g01348/impl.errNoTree", Rows.laid_loop_example_g01348_impl_errNoTree), ("loop.example/g01348/impl.hiddenWith", Rows.laid_loop_example_g01348_impl_hiddenWith)] = [("loop.example/g01348/impl.errNoTree", Rows.laid_loop_example_g01348_impl_errNoTree)] := by kernel_rfl
    rw [e] at h1
    exact sentTree h1
  · have h1 := h.filter (fun p => p.1 == "loop.example/g01348/impl.hiddenWith")
    have e : List.filter (fun p : String × DataW Unit => p.1 == "loop.example/g01348/impl.hiddenWith") [("loop.example/g01348/impl.errNoTree", Rows.laid_loop_example_g01348_impl_errNoTree), ("loop.example/g01348/impl.hiddenWith", Rows.laid_loop_example_g01348_impl_hiddenWith)] = [("loop.example/g01348/impl.hiddenWith", Rows.laid_loop_example_g01348_impl_hiddenWith)] := by kernel_rfl
    rw [e] at h1
    exact sentHid h1

end Go.Proofs.YtppnahgiekjbnaaDoor
