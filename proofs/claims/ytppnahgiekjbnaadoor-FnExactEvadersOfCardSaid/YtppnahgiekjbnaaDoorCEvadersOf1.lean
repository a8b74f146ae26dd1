import Derived.Test.YtppnahgiekjbnaaDoorMQ5
import Derived.Test.YtppnahgiekjbnaaDoorMQ3
/-! EvadersOf: the model's. -/
namespace Go.Proofs.YtppnahgiekjbnaaDoor
open Go.RowKit Go.Shelf

/-- The evaders among the first k hidden sets. -/
def evdN (fs : List Int) (V : Nat) (T : List Int) (k : Nat) : List Int := ((List.range k).filter fun h => neededN fs V T h == V).map fun h : Nat => (h : Int)
theorem evdN_succ (fs : List Int) (V : Nat) (T : List Int) (k : Nat) : evdN fs V T (k + 1) = if neededN fs V T k = V then evdN fs V T k ++ [(k : Int)] else evdN fs V T k := by
  unfold evdN
  rw [List.range_succ, List.filter_append, List.map_append]
  split
  · rename_i h; simp [h]
  · rename_i h; simp [h]
theorem evdN_len (fs : List Int) (V : Nat) (T : List Int) (k : Nat) : (evdN fs V T k).length ≤ k := by
  unfold evdN
  rw [List.length_map]
  exact Nat.le_trans (List.length_filter_le _ _) (by simp)
/-- What EvadersOf answers. -/
noncomputable def evdR (V : Int) (fs T : List Int) : List Int × Int := if codeT V fs T = 0 then (evdN fs V.toNat T (2 ^ V.toNat), 0) else ([], codeT V fs T)
theorem evdR_len (V : Int) (fs T : List Int) (_ : fs.length ≤ 1048576) (_ : T.length ≤ 1048576) : (evdR V fs T).1.length ≤ 1048576 := by
  unfold evdR
  split
  · rename_i h0
    have h6 := (codeT_zero h0).1.hi
    have h1 := evdN_len fs V.toNat T (2 ^ V.toNat)
    have h2 : 2 ^ V.toNat ≤ 2 ^ 6 := Nat.pow_le_pow_right (by decide) (by omega)
    simp only
    omega
  · simp

set_option maxRecDepth 100000 in
set_option maxHeartbeats 4000000 in
theorem specEvadersOf (V : Int) (a0 : Option Addr) (cap : Nat) (fs : List Int) (a : Option Addr) (cap1 : Nat) (T : List Int) (w : World) (hx : SlI w w.heap.size a0 fs) (hx1 : SlI w w.heap.size a T) (hl : fs.length ≤ 1048576) (hl1 : T.length ≤ 1048576) :
    Calls Tryd.prog 18 #[.agg #[.int .i64 V, .slice a0 fs.length cap], .slice a T.length cap1] w fun e w' => ∃ v, e = .returned (.tuple #[v, .int .i64 (evdR V fs T).2]) ∧ Res w w' v (evdR V fs T).1 := by
  obtain ⟨W0, hW0⟩ : ∃ W0, W0 = w.alloc (.cells #[.int .i64 V, .slice a0 fs.length cap] 28) := ⟨_, rfl⟩
  have hB0 : Below w.heap.size w W0 := by rw [hW0]; exact (Below.refl _ w).alloc (Nat.le_refl _) _
  have Hk : Hid (W0.heap[w.heap.size]? = some (.cells #[.int .i64 V, .slice a0 fs.length cap] 28 (0, 0))) := hid (by rw [hW0]; exact heap_alloc_new _ _)
  have Hx := hid hx
  have Hx1 := hid hx1
  have HB0 := hid hB0
  have HC := hid (codeS_any V a0 cap fs a cap1 T W0 (hx.later hB0 hB0.size) hl (hx1.later hB0 hB0.size) hl1)
  rw [hW0] at HC
  obtain ⟨k0, k1, _, _⟩ := two_of Hk.out
  rw [hW0] at k0 k1
  clear hx hx1 hB0
  obtain ⟨c, hc⟩ : ∃ c, c = codeT V fs T := ⟨_, rfl⟩
  by_cases h0 : c = 0
  · obtain ⟨hC, hT⟩ := codeT_zero (hc.symm.trans h0)
    have hlo := hC.lo
    have hhi := hC.hi
    rw [← hc, h0] at HC
    obtain ⟨n, rfl⟩ : ∃ n : Nat, V = (n : Int) := ⟨V.toNat, by omega⟩
    rw [Int.toNat_natCast] at hT
    have hn1 : 1 ≤ n := by omega
    have hn6 : n ≤ 6 := by omega
    have hsh := (shl_all hn6).1
    obtain ⟨P, hP⟩ : ∃ P, P = 2 ^ n := ⟨_, rfl⟩
    have hP64 : P ≤ 64 := by rw [hP]; exact pow_le64 hn6
    rw [← hP] at hsh
    have HR : Hid (evdR (n : Int) fs T = (evdN fs n T P, 0)) := hid (by unfold evdR; rw [if_pos (hc.symm.trans h0), Int.toNat_natCast, hP])
    have HN := hid (fun q (hq : q < 64) W (hb : Below w.heap.size w W) => neededS_any n q a0 cap fs a cap1 T W (Hx.out.later hb hb.size) hl (Hx1.out.later hb hb.size) hT hn1 hn6 hq)
    have Hsh := hid hsh
    have hn0 : (0 : Int) ≤ (n : Int) := by omega
    clear hc hC hT hsh hP
    go_enter Tryd.func18, Tryd.ntmps18
    go_wp2_with fail
    refine HC.out.mono ?_
    rintro e w1 ⟨rfl, hB1⟩
    rw [← hW0] at hB1
    have HB1 := hid (HB0.out.trans (hB1.mono HB0.out.size))
    have Hk1 := hid ((hB1.block _ (lt_get Hk.out)).trans Hk.out)
    have hown0 := World.ownsRow_made (base := w1.heap.size) (e := 2) (size := 1) w1 #[] 0 (by simp) (by simp [maxLen]) rfl
    have Hown0 := hid hown0
    clear hB1 k0 k1 hown0 Hk HB0 hW0 HC
    go_wp2_with fail
    go_loopw [7, 8] (fun ov hv wx => ∃ (k : Nat) (av : Option Addr) (cv : Nat) (xs : List Int), Hid (k ≤ P ∧ xs = evdN fs n T k) ∧ ov = .slice av xs.length cv ∧ hv = .int .i64 (k : Int) ∧ Hid (wx.ownsRow w1.heap.size 2 1 (.slice av xs.length cv) xs.length (xs.map (Value.int .i64))) ∧ Hid (Below w1.heap.size w1 wx)) (fun _ hv _ => 65 - (intOf hv).toNat)
    case atStart => exact ⟨0, _, _, [], hid ⟨Nat.zero_le _, rfl⟩, rfl, rfl, Hown0, hid ((Below.refl _ w1).alloc (Nat.le_refl _) _)⟩
    case round =>
      clear Hown0
      obtain ⟨k, av, cv, xs, HK, rfl, rfl, HO, HB⟩ := hrel
      obtain ⟨hk, hxs⟩ := HK.out
      have Hkr := hid ((HB.out.block _ (lt_get Hk1.out)).trans Hk1.out)
      obtain ⟨q0, q1, _, _⟩ := two_of Hkr.out
      by_cases hlt : k < P
      · have hd : decide ((k : Int) < wrap64 (2 ^ n)) = true := by rw [Hsh.out]; exact decide_eq_true (by omega)
        obtain ⟨N, hN⟩ : ∃ N, N = neededN fs n T k := ⟨_, rfl⟩
        have HNd := hid (fun W hb => HN.out k (by omega) W hb)
        rw [← hN] at HNd
        have hxl : xs.length ≤ 1099511627776 := by have := evdN_len fs n T k; rw [hxs]; omega
        have hbase := HB.out.size
        have hw1 := HB1.out.size
        have Hxs : Hid (if N = n then evdN fs n T (k + 1) = xs ++ [(k : Int)] else evdN fs n T (k + 1) = xs) := hid (by rw [evdN_succ, ← hN, hxs]; split <;> rfl)
        have hk64 : k < 64 := by omega
        clear hxs hN HK
        go_wp2_with fail
        clear hd
        refine region_M 6 (fun W : World => W.heap[w.heap.size]? = some (.cells #[.int .i64 (n : Int), .slice a0 fs.length cap] 28 (0, 0))) (by kernel_rfl) ?_
        have hbd := below_dn' wr 1
        obtain ⟨x0, hx0⟩ : ∃ x, x = wr.drew := ⟨_, rfl⟩
        have HX0 : Hid (x0.heap[w.heap.size]? = some (.cells #[.int .i64 (n : Int), .slice a0 fs.length cap] 28 (0, 0))) := hid (by rw [hx0]; exact Hkr.out)
        have HBx : Hid (Below w1.heap.size w1 x0) := hid (by rw [hx0]; exact HB.out.trans (hbd.mono HB.out.size))
        have HOx : Hid (x0.ownsRow w1.heap.size 2 1 (.slice av xs.length cv) xs.length (xs.map (Value.int .i64))) := hid (by rw [hx0]; exact ownsRow_below HO.out hbd (fun g hg => (HO.out.lt g hg).2))
        rw [← hx0]
        clear hx0 hbd q0 q1 Hkr HO HB
        refine anyM_take (i := 0) (v := .agg #[.int .i64 (n : Int), .slice a0 fs.length cap]) [3, 6] rfl (by kernel_rfl) (fun _ _ _ h => h) (Or.inl ⟨by rfl, fun W hW => by (obtain ⟨z0, z1, _, _⟩ := two_of hW; go_simp)⟩) HX0.out ?_
        refine anyM_take (i := 1) (v := .slice a T.length cap1) [3, 6] rfl (by kernel_rfl) (fun _ _ _ h => h) (Or.inl ⟨by rfl, fun W hW => by go_simp⟩) HX0.out ?_
        refine anyM_take (i := 2) (v := .int .i64 (k : Int)) [3, 6] rfl (by kernel_rfl) (fun _ _ _ h => h) (Or.inl ⟨by rfl, fun W hW => by go_simp⟩) HX0.out ?_
        refine anyM_take (i := 4) (v := .pointer (some ⟨w.heap.size, 0, none⟩)) [5, 6] rfl (by kernel_rfl) (fun _ _ _ h => h) (Or.inl ⟨by rfl, fun W hW => by go_simp⟩) HX0.out ?_
        refine anyM_take (i := 5) (v := .int .i64 (n : Int)) [6] rfl (by kernel_rfl) (fun _ _ _ h => h) (Or.inl ⟨by rfl, fun W hW => by (obtain ⟨z0, z1, _, _⟩ := two_of hW; go_simp)⟩) HX0.out ?_
        refine anyM_ready (rs := [3]) (by kernel_rfl) (by simp) ?_
        refine AllM.cons rfl (fun K hK => ?_) AllM.nil
        go_simp
        go_at_call 34
        refine (HNd.out _ (HB1.out.trans (HBx.out.mono HB1.out.size))).mono ?_
        rintro e x1 ⟨rfl, hb1⟩
        have HX1 : Hid (x1.heap[w.heap.size]? = some (.cells #[.int .i64 (n : Int), .slice a0 fs.length cap] 28 (0, 0))) := hid ((hb1.block _ (lt_get HX0.out)).trans HX0.out)
        have HOx := hid (ownsRow_below HOx.out hb1 (fun g hg => (HOx.out.lt g hg).2))
        have HBx := hid (HBx.out.trans (hb1.mono HBx.out.size))
        clear hb1
        refine hK.out _ _ (fun _ => HX1.out) ?_
        clear hK K
        refine anyM_ready (rs := [6]) (by kernel_rfl) (by simp) ?_
        refine AllM.cons rfl (fun K hK => ?_) AllM.nil
        by_cases hNn : N = n
        · have HN1 : Hid (evdN fs n T (k + 1) = xs ++ [(k : Int)]) := hid (by have := Hxs.out; rwa [if_pos hNn] at this)
          have hd : ((N : Int) == (n : Int)) = true := by simp [hNn]
          clear hNn
          go_simp
          refine hK.out _ _ (fun h => absurd rfl h) ?_
          clear hK K
          refine anyM_done (by kernel_rfl) ?_ _
          have hbase := HBx.out.size
          have hown := HOx.out
          clear hd
          go_wp2_with (at_builtin; refine append_int rfl rfl hown hbase hxl rfl rfl ?_; intro v' w4 hown4 hgrow4 hB4; obtain ⟨_, a4, c4, hv4, _⟩ := ownsRow_slI hown4; subst hv4; have Hown4 := hid hown4; have HB4 := hid (HBx.out.trans hB4); clear hown4 hgrow4 hB4)
          go_roundw
          case rel => exact ⟨k + 1, a4, c4, xs ++ [(k : Int)], hid ⟨hlt, HN1.out.symm⟩, by simp, by go_num, Hown4, HB4⟩
          case measure => simp [intOf]; omega
        · have HN1 : Hid (evdN fs n T (k + 1) = xs) := hid (by have := Hxs.out; rwa [if_neg hNn] at this)
          have hd : ((N : Int) == (n : Int)) = false := by simp; omega
          clear hNn
          go_simp
          refine hK.out _ _ (fun h => absurd rfl h) ?_
          clear hK K
          refine anyM_done (by kernel_rfl) ?_ _
          clear hd
          go_wp2_with fail
          go_roundw
          case rel => exact ⟨k + 1, av, cv, xs, hid ⟨hlt, HN1.out.symm⟩, rfl, by go_num, HOx, HBx⟩
          case measure => simp [intOf]; omega
      · obtain rfl : k = P := by omega
        have hd : decide ((k : Int) < wrap64 (2 ^ n)) = false := by rw [Hsh.out]; exact decide_eq_false (by omega)
        have HX := hid hxs
        clear hxs HK
        go_wp2_with fail
        go_ret2
        rw [HR.out]
        have hr : Res w1 wr (.slice av xs.length cv) xs := ⟨HO.out, HB.out⟩
        exact ⟨_, rfl, by rw [← HX.out]; exact hr.later HB1.out⟩
  · have HR : Hid (evdR V fs T = ([], c)) := hid (by unfold evdR; rw [if_neg (by rw [← hc]; exact h0), ← hc])
    have hcc := codeT_not (by rw [← hc]; exact h0)
    rw [← hc] at hcc HC
    clear hc h0
    rcases hcc with rfl | rfl
    all_goals
      go_enter Tryd.func18, Tryd.ntmps18
      go_wp2_with fail
      refine HC.out.mono ?_
      rintro e w1 ⟨rfl, hB1⟩
      rw [← hW0] at hB1
      have HB1 := hid (HB0.out.trans (hB1.mono HB0.out.size))
      clear hB1
      go_wp2_with fail
      go_ret2
      rw [HR.out]
      exact ⟨_, rfl, res_nil _ _ HB1.out⟩

end Go.Proofs.YtppnahgiekjbnaaDoor

/-! EvadersOf: the program's. -/
namespace Go.Proofs.YtppnahgiekjbnaaDoor
open Go.RowKit Go.Shelf

set_option maxRecDepth 100000 in
set_option maxHeartbeats 8000000 in
theorem implEvadersOf (V : Int) (a0 : Option Addr) (cap : Nat) (fs : List Int) (a : Option Addr) (cap1 : Nat) (T : List Int) (w : World) (hx : SlI w w.heap.size a0 fs) (hx1 : SlI w w.heap.size a T) (hl : fs.length ≤ 1048576) (hl1 : T.length ≤ 1048576)
    (pv : Value) (hG : w.cell? ⟨2, 0, none⟩ = some (.iface 138 pv)) (hW : HidW w) :
    Calls Tryd.prog 19 #[.agg #[.int .i64 V, .slice a0 fs.length cap], .slice a T.length cap1] w fun e w' => ∃ v, e = .returned (.tuple #[v, .int .i64 (evdR V fs T).2]) ∧ Res w w' v (evdR V fs T).1 := by
  obtain ⟨Z, hZs, hZ1, hz, hi⟩ := zero_tree
  have hZ0 : ¬ Z = #[] := by rintro rfl; simp at hZs
  obtain ⟨W0, hW0⟩ : ∃ W0, W0 = w.alloc (.cells #[.int .i64 V, .slice a0 fs.length cap] 28) := ⟨_, rfl⟩
  have hB0 : Below w.heap.size w W0 := by rw [hW0]; exact (Below.refl _ w).alloc (Nat.le_refl _) _
  have Hk : Hid (W0.heap[w.heap.size]? = some (.cells #[.int .i64 V, .slice a0 fs.length cap] 28 (0, 0))) := hid (by rw [hW0]; exact heap_alloc_new _ _)
  have Hx := hid hx
  have HB0 := hid hB0
  have HHw := hid hW
  have HC := hid (treeFor_any V a0 cap fs a cap1 T W0 pv (hx.later hB0 hB0.size) hl (hx1.later hB0 hB0.size) hl1 ((hB0.cell (World.block_lt_of_cell? _ _ hG)).trans hG))
  rw [hW0] at HC
  obtain ⟨k0, k1, _, _⟩ := two_of Hk.out
  rw [hW0] at k0 k1
  clear hx hx1 hB0 hG hW
  obtain ⟨c, hc⟩ : ∃ c, c = codeT V fs T := ⟨_, rfl⟩
  by_cases h0 : c = 0
  · obtain ⟨hC, hT⟩ := codeT_zero (hc.symm.trans h0)
    have hlo := hC.lo
    have hhi := hC.hi
    rw [← hc, h0] at HC
    obtain ⟨n, rfl⟩ : ∃ n : Nat, V = (n : Int) := ⟨V.toNat, by omega⟩
    rw [Int.toNat_natCast] at hT
    have hn1 : 1 ≤ n := by omega
    have hn6 : n ≤ 6 := by omega
    obtain ⟨P, hP⟩ : ∃ P, P = 2 ^ n := ⟨_, rfl⟩
    have hP64 : P ≤ 64 := by rw [hP]; exact pow_le64 hn6
    have hP1 : 1 ≤ P := by rw [hP]; exact Nat.one_le_two_pow
    have hM : allV (n : Int) = (P : Int) - 1 := by
      have h1 := (shl_all hn6).2
      rw [← hP] at h1
      rw [← h1, wrap64]
      omega
    have hwP : wrap64 ((P : Int) - 1 + 1) = (P : Int) := by rw [wrap64]; omega
    have HAv := hid (fun W => av_any (n : Int) W (by omega) (by omega))
    rw [hM] at HAv
    have HR : Hid (evdR (n : Int) fs T = (evdN fs n T P, 0)) := hid (by unfold evdR; rw [if_pos (hc.symm.trans h0), Int.toNat_natCast, hP])
    have HQ := hid (fun q (hq : q < 64) W (hb : Below w.heap.size w W) => callsIn_wide.1 (qneed_in n q (gameC fs fs.length) fs T W (gameC_is hC.range63) hT hn1 hn6 hq (HHw.out.later hb (Nat.le_refl _))))
    have HGm := hid (fun W (hb : Below w.heap.size w W) => game_any (n : Int) a0 cap fs W (Hx.out.later hb hb.size) hl hC.range63)
    obtain ⟨C, hC'⟩ : ∃ C, C = gameC fs fs.length := ⟨_, rfl⟩
    rw [← hC'] at HQ HGm
    have HwP := hid hwP
    clear hc hC hT hM hP hC' hwP
    go_enter Tryd.func19, Tryd.ntmps19
    go_wp2_with fail
    refine HC.out.mono ?_
    rintro e w1 ⟨A, rfl, hAs, hA1, hAe, hB1⟩
    rw [← hW0] at hB1
    have HAe := hid (hAe trivial)
    have HB1 := hid (HB0.out.trans ((hB1.alloc hB1.size (.cells A 54)).mono HB0.out.size))
    have Hk1 := hid (((hB1.alloc hB1.size (.cells A 54)).block _ (lt_get Hk.out)).trans Hk.out)
    have Ht1 : Hid ((w1.alloc (.cells A 54)).heap[w1.heap.size]? = some (.cells A 54 (0, 0))) := hid (heap_alloc_new _ _)
    obtain ⟨k0, k1, _, _⟩ := two_of Hk1.out
    have hsc := run_storeCells_new (P := Tryd.prog) w1 54 Z A (by rw [hi, hAs]) (by rw [hZs, hAs]) hA1
    clear hB1 hAe
    go_wp2_with fail
    refine (HGm.out _ HB1.out).mono ?_
    rintro e w2 ⟨rfl, hb2⟩
    have HB2 := hid (HB1.out.trans (hb2.mono HB1.out.size))
    have Hk2 := hid ((hb2.block _ (lt_get Hk1.out)).trans Hk1.out)
    have Ht2 := hid ((hb2.block _ (lt_get Ht1.out)).trans Ht1.out)
    clear hb2 hsc k0 k1
    obtain ⟨k0, k1, _, _⟩ := two_of Hk2.out
    have hg0 := (Below.heap_alloc w2 (.cells #[.int .i64 (n : Int), .int .u64 (C : Int)] 60) w.heap.size (by have := lt_get Hk2.out; omega)).trans Hk2.out
    obtain ⟨j0, j1, _, _⟩ := two_of hg0
    go_wp2_with (first
      | (go_at_call 36; refine (HAv.out _).mono ?_; rintro e w' ⟨rfl, rfl⟩))
    obtain ⟨w3, hw3⟩ : ∃ x, x = w2.alloc (.cells #[.int .i64 (n : Int), .int .u64 (C : Int)] 60) := ⟨_, rfl⟩
    have hb3 : Below w2.heap.size w2 w3 := by rw [hw3]; exact (Below.refl _ _).alloc (Nat.le_refl _) _
    have Hk3 := hid ((hb3.block _ (lt_get Hk2.out)).trans Hk2.out)
    have Ht3 := hid ((hb3.block _ (lt_get Ht2.out)).trans Ht2.out)
    have Hg3 : Hid (w3.heap[w2.heap.size]? = some (.cells #[.int .i64 (n : Int), .int .u64 (C : Int)] 60 (0, 0))) := hid (by rw [hw3]; exact heap_alloc_new _ _)
    have HB3 := hid (HB2.out.trans (hb3.mono HB2.out.size))
    rw [← hw3]
    clear hw3 hb3 hg0 j0 j1 k0 k1 Hk2 Ht2 Hk1 Ht1 HGm HC
    have HQ : Hid (∀ q : Nat, q < 64 → ∀ W, Below w.heap.size w W → Calls Tryd.prog 38 #[.agg #[.int .i64 (n : Int), .int .u64 (C : Int)], .agg A, .int .i64 (q : Int)] W fun e w' => ∃ v, e = .returned v ∧ Res W w' v (wayL T q (neededN fs n T q))) := hid (by rw [HAe.out]; exact HQ.out)
    have hiA : (Tryd.prog.info? 54).map (·.size) = some A.size := by rw [hi, hAs]
    go_loopw [8, 26] (fun ov hv wx => ∃ (k : Nat) (av : Option Addr) (cv : Nat) (xs : List Int), Hid (k ≤ P ∧ xs = evdN fs n T k) ∧ ov = .slice av xs.length cv ∧ hv = .int .i64 (k : Int) ∧ Hid (wx.ownsRow w3.heap.size 2 1 (.slice av xs.length cv) xs.length (xs.map (Value.int .i64))) ∧ Hid (Below w3.heap.size w3 wx)) (fun _ hv _ => 65 - (intOf hv).toNat)
    case atStart => exact ⟨0, none, 0, [], hid ⟨Nat.zero_le _, rfl⟩, rfl, rfl, hid (World.ownsRow_nil _ _ _ _), hid (Below.refl _ _)⟩
    case round =>
      obtain ⟨k, av, cv, xs, HK, rfl, rfl, HO, HB⟩ := hrel
      obtain ⟨hk, hxs⟩ := HK.out
      have hw3 := HB3.out.size
      by_cases hlt : k < P
      · have hd : decide ((k : Int) < (P : Int)) = true := decide_eq_true (by omega)
        obtain ⟨N, hN⟩ : ∃ N, N = neededN fs n T k := ⟨_, rfl⟩
        have HNd := hid (fun W hb => HQ.out k (by omega) W hb)
        rw [← hN] at HNd
        have Hwl : Hid ((wayL T k N).length = N) := hid (wayL_len ..)
        have hxl : xs.length ≤ 1099511627776 := by have := evdN_len fs n T k; rw [hxs]; omega
        have Hxs : Hid (if N = n then evdN fs n T (k + 1) = xs ++ [(k : Int)] else evdN fs n T (k + 1) = xs) := hid (by rw [evdN_succ, ← hN, hxs]; split <;> rfl)
        have hk64 : k < 64 := by omega
        clear hxs hN HK
        go_wp2_with fail
        clear hd
        refine region_M 7 (fun W : World => W.heap[w.heap.size]? = some (.cells #[.int .i64 (n : Int), .slice a0 fs.length cap] 28 (0, 0)) ∧ W.heap[w1.heap.size]? = some (.cells A 54 (0, 0)) ∧ W.heap[w2.heap.size]? = some (.cells #[.int .i64 (n : Int), .int .u64 (C : Int)] 60 (0, 0))) (by kernel_rfl) ?_
        have hbd := below_dn' wr 1
        have Hbr := HB.out
        obtain ⟨x0, hx0⟩ : ∃ x, x = wr.drew := ⟨_, rfl⟩
        have HX0 : Hid (x0.heap[w.heap.size]? = some (.cells #[.int .i64 (n : Int), .slice a0 fs.length cap] 28 (0, 0)) ∧ x0.heap[w1.heap.size]? = some (.cells A 54 (0, 0)) ∧ x0.heap[w2.heap.size]? = some (.cells #[.int .i64 (n : Int), .int .u64 (C : Int)] 60 (0, 0))) := hid (by rw [hx0]; exact ⟨(Hbr.block _ (lt_get Hk3.out)).trans Hk3.out, (Hbr.block _ (lt_get Ht3.out)).trans Ht3.out, (Hbr.block _ (lt_get Hg3.out)).trans Hg3.out⟩)
        have HBx : Hid (Below w3.heap.size w3 x0) := hid (by rw [hx0]; exact HB.out.trans (hbd.mono HB.out.size))
        have HOx : Hid (x0.ownsRow w3.heap.size 2 1 (.slice av xs.length cv) xs.length (xs.map (Value.int .i64))) := hid (by rw [hx0]; exact ownsRow_below HO.out hbd (fun g hg => (HO.out.lt g hg).2))
        rw [← hx0]
        clear hx0 hbd HO HB Hbr
        refine anyM_take (i := 0) (v := .agg #[.int .i64 (n : Int), .int .u64 (C : Int)]) [3, 4, 7] rfl (by kernel_rfl) (fun _ _ _ h => h) (Or.inl ⟨by rfl, fun W hW => by (obtain ⟨z0, z1, _, _⟩ := two_of hW.2.2; go_simp)⟩) HX0.out ?_
        refine anyM_take (i := 1) (v := .agg A) [3, 4, 7] rfl (by kernel_rfl) (fun _ _ _ h => h) (Or.inl ⟨by rfl, fun W hW => exec_load_row 54 _ rfl w1.heap.size rfl 54 A (0, 0) _ hW.2.1 Tryd.underlying54 rfl hiA⟩) HX0.out ?_
        refine anyM_take (i := 2) (v := .int .i64 (k : Int)) [3, 4, 7] rfl (by kernel_rfl) (fun _ _ _ h => h) (Or.inl ⟨by rfl, fun W hW => by go_simp⟩) HX0.out ?_
        refine anyM_take (i := 5) (v := .pointer (some ⟨w.heap.size, 0, none⟩)) [6, 7] rfl (by kernel_rfl) (fun _ _ _ h => h) (Or.inl ⟨by rfl, fun W hW => by go_simp⟩) HX0.out ?_
        refine anyM_take (i := 6) (v := .int .i64 (n : Int)) [7] rfl (by kernel_rfl) (fun _ _ _ h => h) (Or.inl ⟨by rfl, fun W hW => by (obtain ⟨z0, z1, _, _⟩ := two_of hW.1; go_simp)⟩) HX0.out ?_
        refine anyM_ready (rs := [3]) (by kernel_rfl) (by simp) ?_
        refine AllM.cons rfl (fun K hK => ?_) AllM.nil
        go_simp
        go_at_call 38
        refine (HNd.out _ (HB3.out.trans (HBx.out.mono HB3.out.size))).mono ?_
        rintro e x1 ⟨v1, rfl, hr1⟩
        obtain ⟨_, av1, cv1, rfl, _⟩ := ownsRow_slI hr1.1
        have hb1 := hr1.2
        have HX1 : Hid (x1.heap[w.heap.size]? = some (.cells #[.int .i64 (n : Int), .slice a0 fs.length cap] 28 (0, 0)) ∧ x1.heap[w1.heap.size]? = some (.cells A 54 (0, 0)) ∧ x1.heap[w2.heap.size]? = some (.cells #[.int .i64 (n : Int), .int .u64 (C : Int)] 60 (0, 0))) := hid ⟨(hb1.block _ (lt_get HX0.out.1)).trans HX0.out.1, (hb1.block _ (lt_get HX0.out.2.1)).trans HX0.out.2.1, (hb1.block _ (lt_get HX0.out.2.2)).trans HX0.out.2.2⟩
        have HOx := hid (ownsRow_below HOx.out hb1 (fun g hg => (HOx.out.lt g hg).2))
        have HBx := hid (HBx.out.trans (hb1.mono HBx.out.size))
        rw [Hwl.out]
        clear hb1 hr1
        refine hK.out _ _ (fun _ => HX1.out) ?_
        clear hK K
        refine anyM_ready (rs := [4]) (by kernel_rfl) (by simp) ?_
        refine AllM.cons rfl (fun K hK => ?_) AllM.nil
        go_simp
        refine hK.out _ _ (fun _ => HX1.out) ?_
        clear hK K
        refine anyM_ready (rs := [7]) (by kernel_rfl) (by simp) ?_
        refine AllM.cons rfl (fun K hK => ?_) AllM.nil
        by_cases hNn : N = n
        · have HN1 : Hid (evdN fs n T (k + 1) = xs ++ [(k : Int)]) := hid (by have := Hxs.out; rwa [if_pos hNn] at this)
          have hd : ((N : Int) == (n : Int)) = true := by simp [hNn]
          clear hNn
          go_simp
          refine hK.out _ _ (fun h => absurd rfl h) ?_
          clear hK K
          refine anyM_done (by kernel_rfl) ?_ _
          have hbase := HBx.out.size
          have hown := HOx.out
          clear hd
          go_wp2_with (at_builtin; refine append_int rfl rfl hown hbase hxl rfl rfl ?_; intro v' w4 hown4 hgrow4 hB4; obtain ⟨_, a4, c4, hv4, _⟩ := ownsRow_slI hown4; subst hv4; have Hown4 := hid hown4; have HB4 := hid (HBx.out.trans hB4); clear hown4 hgrow4 hB4)
          go_roundw
          case rel => exact ⟨k + 1, a4, c4, xs ++ [(k : Int)], hid ⟨hlt, HN1.out.symm⟩, by simp, by go_num, Hown4, HB4⟩
          case measure => simp [intOf]; omega
        · have HN1 : Hid (evdN fs n T (k + 1) = xs) := hid (by have := Hxs.out; rwa [if_neg hNn] at this)
          have hd : ((N : Int) == (n : Int)) = false := by simp; omega
          clear hNn
          go_simp
          refine hK.out _ _ (fun h => absurd rfl h) ?_
          clear hK K
          refine anyM_done (by kernel_rfl) ?_ _
          clear hd
          go_wp2_with fail
          go_roundw
          case rel => exact ⟨k + 1, av, cv, xs, hid ⟨hlt, HN1.out.symm⟩, rfl, by go_num, HOx, HBx⟩
          case measure => simp [intOf]; omega
      · obtain rfl : k = P := by omega
        have hd : decide ((k : Int) < (k : Int)) = false := decide_eq_false (by omega)
        have HX := hid hxs
        clear hxs HK
        go_wp2_with fail
        go_ret2
        rw [HR.out]
        have hr : Res w3 wr (.slice av xs.length cv) xs := ⟨HO.out, HB.out⟩
        exact ⟨_, rfl, by rw [← HX.out]; exact hr.later HB3.out⟩
  · have HR : Hid (evdR V fs T = ([], c)) := hid (by unfold evdR; rw [if_neg (by rw [← hc]; exact h0), ← hc])
    have hcc := codeT_not (by rw [← hc]; exact h0)
    rw [← hc] at hcc HC
    clear hc h0
    rcases hcc with rfl | rfl
    all_goals
      go_enter Tryd.func19, Tryd.ntmps19
      go_wp2_with fail
      refine HC.out.mono ?_
      rintro e w1 ⟨A, rfl, hAs, hA1, hAe, hB1⟩
      rw [← hW0] at hB1
      have HB1 := hid (HB0.out.trans ((hB1.alloc hB1.size (.cells A 54)).mono HB0.out.size))
      have hsc := run_storeCells_new (P := Tryd.prog) w1 54 Z A (by rw [hi, hAs]) (by rw [hZs, hAs]) hA1
      clear hB1 hAe
      go_wp2_with fail
      go_ret2
      rw [HR.out]
      exact ⟨_, rfl, res_nil _ _ HB1.out⟩

end Go.Proofs.YtppnahgiekjbnaaDoor

/-! The law on EvadersOf, walked. -/
namespace Go.Proofs.YtppnahgiekjbnaaDoor
open Go.RowKit

set_option maxRecDepth 100000 in
set_option maxHeartbeats 8000000 in
theorem law_EvadersOf (V0 : Int) (a0 : Option Addr) (cap0 : Nat) (xs0 : List Int) (a1 : Option Addr) (cap1 : Nat) (gs1 : List Int) (w : World) (hx0 : SlI w w.heap.size a0 xs0) (hx1 : SlI w w.heap.size a1 gs1)  (hn0 : xs0.length ≤ 9223372036854775807)  (pv : Value) (hG : w.cell? ⟨2, 0, none⟩ = some (.iface 138 pv)) (hW : HidW w) :
    Calls Tryd.prog 4 #[.agg #[.int .i64 V0, .slice a0 xs0.length cap0], .slice a1 gs1.length cap1] w fun e w' => e = .returned (.bool true) ∧ Below w.heap.size w w' := by
  have HG := hid hG
  have HT := hid hW
  have HGl := hid (World.block_lt_of_cell? w _ hG)
  clear hG hW
  have F0 : Book w w [(a0, xs0), (a1, gs1)] [] [] := ⟨Below.refl _ _, by simp; exact ⟨hx0, hx1⟩, by simp, by simp⟩
  have F0 := F0.alloc (.cells #[.int .i64 V0, .slice a0 xs0.length cap0] 24)
  (try simp only [World.size_alloc] at F0)
  have B0 := hid F0
  clear F0 hx0 hx1
  obtain ⟨r0, hr0⟩ : ∃ r, r = szR 1048576 xs0.length := ⟨_, rfl⟩
  have Hr0 := hid hr0
  by_cases hbL1 : 1048576 < gs1.length
  · clear hr0
    have hbi1 : (gs1.length : Int) > 1048576 := by omega
    go_enter Tryd.func4, Tryd.ntmps4
    go_wp2_with fail
    go_ret
    exact ⟨rfl, B0.out.from0⟩
  have hl1 : gs1.length ≤ 1048576 := by omega
  have hbi1 : ¬ (gs1.length : Int) > 1048576 := by omega
  by_cases hb0 : 1048576 < xs0.length
  · have hm0 : r0 = -1 := by rw [hr0]; exact szR_big (by omega)
    clear hb0
    clear hr0
    go_enter Tryd.func4, Tryd.ntmps4
    go_wp2_with fail
    refine (szCx V0 a0 xs0.length cap0 1048576 _ (by omega) (by omega) hn0).mono ?_
    rintro e s0 ⟨rfl, hB⟩
    have zs0 := hB.size
    (try simp only [World.size_alloc] at zs0)
    have B0 := hid (B0.out.below hB)
    clear hB
    rw [← Hr0.out]
    go_wp2_with fail
    go_ret
    exact ⟨rfl, B0.out.from0⟩
  · have hv0 : r0 = 1048576 - xs0.length := by rw [hr0, szR_fit (by omega)]
    have hg0 : 0 ≤ r0 := by omega
    have hu0 : r0 ≤ 1048576 := by omega
    have hl0 : xs0.length ≤ 1048576 := by omega
    clear hr0 hb0
    have Hv0 := hid hv0
    clear hv0
    obtain ⟨R, hR⟩ : ∃ R, R = evdR V0 xs0 gs1 := ⟨_, rfl⟩
    have hRl : R.1.length ≤ 1048576 := by rw [hR]; exact evdR_len V0 xs0 gs1 hl0 hl1
    obtain ⟨ys, c⟩ := R
    simp only at hRl
    have HS : Hid (∀ a0 cap0 a1 cap1 w', SlI w' w'.heap.size a0 xs0 → SlI w' w'.heap.size a1 gs1 → Calls Tryd.prog 18 #[.agg #[.int .i64 V0, .slice a0 xs0.length cap0], .slice a1 gs1.length cap1] w' fun e w'' => ∃ v, e = .returned (.tuple #[v, .int .i64 c]) ∧ Res w' w'' v ys) :=
      hid (fun a0 cap0 a1 cap1 w' hs0 hs1 => by have := specEvadersOf V0 a0 cap0 xs0 a1 cap1 gs1 w' hs0 hs1 hl0 hl1; rwa [← hR] at this)
    have HI : Hid (∀ a0 cap0 a1 cap1 w', SlI w' w'.heap.size a0 xs0 → SlI w' w'.heap.size a1 gs1 → w'.cell? ⟨2, 0, none⟩ = some (.iface 138 pv) → HidW w' → Calls Tryd.prog 19 #[.agg #[.int .i64 V0, .slice a0 xs0.length cap0], .slice a1 gs1.length cap1] w' fun e w'' => ∃ v, e = .returned (.tuple #[v, .int .i64 c]) ∧ Res w' w'' v ys) :=
      hid (fun a0 cap0 a1 cap1 w' hs0 hs1 hG' hW' => by have := implEvadersOf V0 a0 cap0 xs0 a1 cap1 gs1 w' hs0 hs1 hl0 hl1 pv hG' hW'; rwa [← hR] at this)
    have hcc : (c != c) = false := by simp
    clear hR
    go_enter Tryd.func4, Tryd.ntmps4
    go_wp2_with fail
    refine (szCx V0 a0 xs0.length cap0 1048576 _ (by omega) (by omega) hn0).mono ?_
    rintro e s0 ⟨rfl, hB⟩
    have zs0 := hB.size
    (try simp only [World.size_alloc] at zs0)
    have B0 := hid (B0.out.below hB)
    clear hB
    rw [← Hr0.out]
    obtain ⟨q0, q1⟩ := B0.out.two (.head _)
    go_wp2_with fail
    clear q0 q1
    refine (toCx V0 a0 cap0 xs0 _ (B0.out.arg (.head _)) hl0).mono ?_
    rintro e u0 ⟨gu0, rfl, hown, hB⟩
    have zu0 := hB.size
    (try simp only [World.size_alloc] at zu0)
    have B0 := hid (B0.out.row hown hB)
    clear hown hB
    (try simp only [World.size_alloc] at B0)
    go_wp2_with fail
    refine (toInts a1 cap1 gs1 _ (B0.out.arg (.tail _ (.head _))) hl1).mono ?_
    rintro e u1 ⟨rfl, hown, hB⟩
    have zu1 := hB.size
    (try simp only [World.size_alloc] at zu1)
    have B0 := hid (B0.out.row hown hB)
    clear hown hB
    (try simp only [World.size_alloc] at B0)
    go_wp2_with fail
    refine (HS.out _ _ _ _ _ (B0.out.slI (.tail _ (.head _))) (B0.out.slI (.head _))).mono ?_
    rintro e u9 ⟨vw, rfl, hres⟩
    have zu9 := hres.2.size
    (try simp only [World.size_alloc] at zu9)
    obtain ⟨_, aw, cw, rfl, _⟩ := ownsRow_slI hres.1
    have B0 := hid (B0.out.row hres.1 hres.2)
    clear hres
    (try simp only [World.size_alloc] at B0)
    obtain ⟨q0, q1⟩ := B0.out.two (.head _)
    go_wp2_with fail
    clear q0 q1
    refine (toCx V0 a0 cap0 xs0 _ (B0.out.arg (.head _)) hl0).mono ?_
    rintro e x0 ⟨gx0, rfl, hown, hB⟩
    have zx0 := hB.size
    (try simp only [World.size_alloc] at zx0)
    have B0 := hid (B0.out.row hown hB)
    clear hown hB
    (try simp only [World.size_alloc] at B0)
    have B0 := hid (B0.out.alloc (.cells #[.int .i64 V0, .slice (some ⟨gx0, 0, none⟩) xs0.length xs0.length] 28))
    go_wp2_with fail
    refine (toInts a1 cap1 gs1 _ (B0.out.arg (.tail _ (.head _))) hl1).mono ?_
    rintro e x1 ⟨rfl, hown, hB⟩
    have zx1 := hB.size
    (try simp only [World.size_alloc] at zx1)
    have B0 := hid (B0.out.row hown hB)
    clear hown hB
    (try simp only [World.size_alloc] at B0)
    obtain ⟨p00, p01⟩ := B0.out.two (.head _)
    go_wp2_with fail
    clear p00 p01
    refine (HI.out _ _ _ _ _ (B0.out.slI (.tail _ (.head _))) (B0.out.slI (.head _)) ((B0.out.from0.cell (p := ⟨2, 0, none⟩) HGl.out).trans HG.out) (HT.out.later B0.out.from0 (Nat.le_refl _))).mono ?_
    rintro e v9 ⟨vg, rfl, hres⟩
    have zv9 := hres.2.size
    (try simp only [World.size_alloc] at zv9)
    obtain ⟨_, ag, cg, rfl, _⟩ := ownsRow_slI hres.1
    have B0 := hid (B0.out.row hres.1 hres.2)
    clear hres
    (try simp only [World.size_alloc] at B0)
    go_wp2_with fail
    refine (eqInts_yes _ _ _ _ ys ys _ (B0.out.slI (.head _)) (B0.out.slI (.tail _ (.tail _ (.tail _ (.head _))))) hRl hRl rfl).mono ?_
    rintro e e1 ⟨rfl, hB⟩
    have ze1 := hB.size
    (try simp only [World.size_alloc] at ze1)
    have B0 := hid (B0.out.below hB)
    clear hB
    obtain ⟨lxb00, lxb01⟩ := B0.out.two (.head _)
    obtain ⟨lk00, lk01⟩ := B0.out.two (.tail _ (.head _))
    go_wp2_with fail
    go_region_with (first
      | (go_at_call 10; refine (toCx V0 a0 cap0 xs0 _ (B0.out.drew.arg (.head _)) hl0).mono ?_; rintro e f0 ⟨gf0, rfl, hown, hB⟩; have zf0 := hB.size; have C0 := hid (B0.out.drew.row hown hB); clear hown hB; obtain ⟨m00, m01⟩ := C0.out.two (.head _))
      | (go_at_call 14; refine (eqCx_yes V0 _ _ _ _ xs0 xs0 _ (C0.out.slI (.tail _ (.tail _ (.tail _ (.head _))))) (C0.out.slI (.head _)) hl0 hl0 rfl).mono ?_; rintro e h0 ⟨rfl, hB⟩))
    all_goals
      have zh0 := hB.size
      have D0 := hid (C0.out.below hB)
      clear hB C0 B0 m00 m01
      clear lxb00 lxb01
      clear lk00 lk01
      have B0 := D0
      clear D0
      skip
      go_wp2_with fail
      refine (toInts a1 cap1 gs1 _ (B0.out.arg (.tail _ (.head _))) hl1).mono ?_
      rintro e f1 ⟨rfl, hown, hB⟩
      have zf1 := hB.size
      (try simp only [World.size_alloc] at zf1)
      have B0 := hid (B0.out.row hown hB)
      clear hown hB
      (try simp only [World.size_alloc] at B0)
      go_wp2_with fail
      refine (eqInts_yes _ _ _ _ gs1 gs1 _ (B0.out.slI (.tail _ (.tail _ (.tail _ (.head _))))) (B0.out.slI (.head _)) hl1 hl1 rfl).mono ?_
      rintro e h1 ⟨rfl, hB⟩
      have zh1 := hB.size
      (try simp only [World.size_alloc] at zh1)
      have B0 := hid (B0.out.below hB)
      clear hB
      (try simp only [World.size_alloc] at B0)
      have B0 := hid (B0.out.only (bs' := _) (L' := [⟨u9.heap.size, x0.heap.size, 2, 1, xs0.length, .slice (some ⟨gx0, 0, none⟩) xs0.length xs0.length, xs0⟩, ⟨x0.heap.size + 1, x1.heap.size, 2, 1, gs1.length, .slice (some ⟨x0.heap.size + 1, 0, none⟩) gs1.length gs1.length, gs1⟩, ⟨x1.heap.size, v9.heap.size, 2, 1, ys.length, .slice ag ys.length cg, ys⟩, ⟨u1.heap.size, u9.heap.size, 2, 1, ys.length, .slice aw ys.length cw, ys⟩]) (fun _ h => h) (by simp))
      obtain ⟨lxb00, lxb01⟩ := B0.out.two (.head _)
      go_wp2_with fail
      clear lxb00 lxb01
      refine (markCx V0 _ _ _ xs0 (1) _ (B0.out.own (.head _)) hl0 (by omega) (by omega)).mono ?_
      rintro e m0 ⟨rfl, hown, hg⟩
      have zm0 := hg.size
      (try simp only [World.size_alloc] at zm0)
      have B0 := hid (B0.out.mark (ys := count (1) xs0.length) (L' := [⟨x0.heap.size + 1, x1.heap.size, 2, 1, gs1.length, .slice (some ⟨x0.heap.size + 1, 0, none⟩) gs1.length gs1.length, gs1⟩, ⟨x1.heap.size, v9.heap.size, 2, 1, ys.length, .slice ag ys.length cg, ys⟩, ⟨u1.heap.size, u9.heap.size, 2, 1, ys.length, .slice aw ys.length cw, ys⟩]) (.head _) hown hg (by simp only; omega) (by simp; omega) (by simp <;> omega))
      clear hown hg
      go_wp2_with fail
      refine (markInts _ _ _ gs1 (1 + xs0.length) _ (B0.out.own (.head _)) hl1 (by omega) (by omega)).mono ?_
      rintro e m1 ⟨rfl, hown, hg⟩
      have zm1 := hg.size
      (try simp only [World.size_alloc] at zm1)
      have B0 := hid (B0.out.mark (ys := count (1 + xs0.length) gs1.length) (L' := [⟨x1.heap.size, v9.heap.size, 2, 1, ys.length, .slice ag ys.length cg, ys⟩, ⟨u1.heap.size, u9.heap.size, 2, 1, ys.length, .slice aw ys.length cw, ys⟩]) (.head _) hown hg (by simp only; omega) (by simp; omega) (by simp <;> omega))
      clear hown hg
      go_wp2_with fail
      refine (eqInts_yes _ _ _ _ ys ys _ (B0.out.slI (.head _)) (B0.out.slI (.tail _ (.head _))) hRl hRl rfl).mono ?_
      rintro e e2 ⟨rfl, hB⟩
      have ze2 := hB.size
      (try simp only [World.size_alloc] at ze2)
      have B0 := hid (B0.out.below hB)
      clear hB
      go_wp2_with fail
      refine (markInts _ _ _ ys 1 _ (B0.out.own (.head _)) hRl (by omega) (by omega)).mono ?_
      rintro e m8 ⟨rfl, hown, hg⟩
      have zm8 := hg.size
      (try simp only [World.size_alloc] at zm8)
      have B0 := hid (B0.out.mark (ys := count 1 ys.length) (L' := [⟨x1.heap.size, v9.heap.size, 2, 1, ys.length, .slice ag ys.length cg, count 1 ys.length⟩, ⟨u1.heap.size, u9.heap.size, 2, 1, ys.length, .slice aw ys.length cw, ys⟩]) (.head _) hown hg (by simp only; omega) (by simp; omega) (by simp <;> omega))
      clear hown hg
      go_wp2_with fail
      refine (heldInts _ _ ys.length _ 1 _ rfl (B0.out.slI (.head _)) hRl (by omega) (by omega)).mono ?_
      rintro e t1 ⟨rfl, hB⟩
      have zt1 := hB.size
      (try simp only [World.size_alloc] at zt1)
      have B0 := hid (B0.out.below hB)
      clear hB
      have hnn : ((1 : Int) + ys.length != 1 + ys.length) = false := by simp
      obtain ⟨q0, q1⟩ := B0.out.two (.tail _ (.head _))
      go_wp2_with fail
      clear q0 q1
      refine (toCx V0 a0 cap0 xs0 _ (B0.out.arg (.head _)) hl0).mono ?_
      rintro e y0 ⟨gy0, rfl, hown, hB⟩
      have zy0 := hB.size
      (try simp only [World.size_alloc] at zy0)
      have B0 := hid (B0.out.row hown hB)
      clear hown hB
      (try simp only [World.size_alloc] at B0)
      go_wp2_with fail
      refine (toInts a1 cap1 gs1 _ (B0.out.arg (.tail _ (.head _))) hl1).mono ?_
      rintro e y1 ⟨rfl, hown, hB⟩
      have zy1 := hB.size
      (try simp only [World.size_alloc] at zy1)
      have B0 := hid (B0.out.row hown hB)
      clear hown hB
      (try simp only [World.size_alloc] at B0)
      go_wp2_with fail
      refine (HI.out _ _ _ _ _ (B0.out.slI (.tail _ (.head _))) (B0.out.slI (.head _)) ((B0.out.from0.cell (p := ⟨2, 0, none⟩) HGl.out).trans HG.out) (HT.out.later B0.out.from0 (Nat.le_refl _))).mono ?_
      rintro e t2 ⟨vh, rfl, hres⟩
      have zt2 := hres.2.size
      (try simp only [World.size_alloc] at zt2)
      obtain ⟨_, ah, ch, rfl, _⟩ := ownsRow_slI hres.1
      have B0 := hid (B0.out.row hres.1 hres.2)
      clear hres
      (try simp only [World.size_alloc] at B0)
      go_wp2_with fail
      refine (eqInts_yes _ _ _ _ ys ys _ (B0.out.slI (.head _)) (B0.out.slI (.tail _ (.tail _ (.tail _ (.tail _ (.head _)))))) hRl hRl rfl).mono ?_
      rintro e t3 ⟨rfl, hB⟩
      have zt3 := hB.size
      (try simp only [World.size_alloc] at zt3)
      have B0 := hid (B0.out.below hB)
      clear hB
      go_wp2_with fail
      refine (heldInts _ _ ys.length _ 1 _ rfl (B0.out.slI (.tail _ (.tail _ (.tail _ (.head _))))) hRl (by omega) (by omega)).mono ?_
      rintro e t4 ⟨rfl, hB⟩
      have zt4 := hB.size
      (try simp only [World.size_alloc] at zt4)
      have B0 := hid (B0.out.below hB)
      clear hB
      go_wp2_with fail
      go_ret
      exact ⟨rfl, B0.out.from0⟩

end Go.Proofs.YtppnahgiekjbnaaDoor
