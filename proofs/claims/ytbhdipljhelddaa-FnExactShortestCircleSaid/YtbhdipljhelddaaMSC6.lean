import Derived.Test.YtbhdipljhelddaaMSC2
import Derived.Test.YtbhdipljhelddaaMSC3
import Derived.Test.YtbhdipljhelddaaMSC4
import Derived.Test.YtbhdipljhelddaaMSC5
/-! l03Sets: the sets of a list's numbers, in order. -/
namespace Go.Proofs.Ytbhdipljhelddaa
open Go.RowKit

theorem step_app_T {P : Program} {ops : Array Oper} {o : Oper} {a : Act} {w w' : World} {K : Act → World → Prop} {Q : Exit → Act → World → Prop} {E : Prop} (hg : o.guard = none) {s y : Operand} {T : TypeId} (ho : o.op = .call { callee := .builtin .append, args := #[s, y], argTypes := #[T, T] })
    {v u v' : Value} (hs : a.eval s = v) (hy : a.eval y = u) (hr : (Builtin.append_ #[T, T] o.type #[v, u]).run P w = .ok v' w') (hK : K (a.put o.dst v') w') :
    if Region.wanted o (yielded ops a.tmps) = true then Oper.wp P o a w K Q else E := step_app_keep hg ho hs hy hr hK

theorem run_row_row {w : World} {base n c : Nat} {v x : Value} {xs : List Value} {ad : Addr} (hx : x.oneCell' = true) (hown : w.ownsRow base 22 1 v n xs) (hbase : base ≤ w.heap.size) (hl : n ≤ 1099511627776) (hc : w.cell? ad = some x) :
    ∃ v' w', (Builtin.append_ #[56, 56] 56 #[v, .slice (some ad) 1 c]).run Try.prog w = .ok v' w' ∧ w'.ownsRow base 22 1 v' (n + 1) (xs ++ [x]) ∧ w.grownBy w' v.ownBlock ∧ (v'.ownBlock = v.ownBlock ∨ v'.ownBlock = some w.heap.size) := by
  obtain ⟨i0, hi, hz0, hz1, hz2⟩ := info_parts info_rowsG
  obtain ⟨v', w', h1, h2, h3, h4, h5⟩ := run_append_own_at (P := Try.prog) (w := w) base 56 56 22 i0 (.slice none 0 0) 1 24 Try.underlying56 hi hz0 hz1 hz2 rfl (by decide) v n xs hown ad 1 c [x] (by simp) (fun j u hj => by
    have hjl : j = 0 := by
      have := (List.getElem?_eq_some_iff.1 hj).1
      simpa using this
    subst hjl
    simp at hj
    rw [← hj]
    exact hc) (fun u hu => by simp at hu; rw [hu]; exact hx) (by unfold maxLen; omega) (by omega) hbase
  exact ⟨v', w', h1, h2, h3, h5⟩

theorem RowsV.form {w : World} {base : Nat} {v : Value} {vs : List Value} {gs : List (List Int)} (h : RowsV w base v vs gs) : ∃ a c, v = .slice a gs.length c := by
  rcases h.own.2 with ⟨h, h0⟩ | ⟨g, c, cur, h, _⟩
  · exact ⟨none, 0, by rw [h0]; exact h⟩
  · exact ⟨_, _, h⟩

theorem setsX {X : List (List Int)} {l : List Int} {i k m : Nat} (h : X ++ setsL (l.drop i) (m + 1) = setsL (l.drop k) (m + 1)) (hi : i < l.length) : (X ++ (setsL (l.drop (i + 1)) m).map (l[i]?.getD 0 :: ·)) ++ setsL (l.drop (i + 1)) (m + 1) = setsL (l.drop k) (m + 1) := by
  rw [← h, setsL_drop hi, List.append_assoc]

set_option maxRecDepth 100000 in
set_option maxHeartbeats 4000000 in
theorem sets_any (l : List Int) (hl : l.length ≤ 30) (a : Option Addr) (cap : Nat) : ∀ (m k : Nat) (w : World), m ≤ 1000 → k ≤ l.length → SlI w w.heap.size a l →
    Calls Try.prog 44 #[.slice a l.length cap, .int .i64 (m : Int), .int .i64 (k : Int)] w fun e w' => ∃ v vs, e = .returned v ∧ RowsV w' w.heap.size v vs (setsL (l.drop k) m) ∧ Blocks vs ∧ Below w.heap.size w w' := by
  intro m
  induction m with
  | zero =>
    intro k w _ _ _
    rw [setsL_zero]
    exact sets_zero l a cap k w
  | succ m ih =>
    intro k w hm hk hx
    have Hx := hid hx
    have HIH := hid ih
    have hmz : ¬ ((m : Int) + 1 = 0) := by omega
    have hmw : ((m + 1 : Nat) : Int) = (m : Int) + 1 := by omega
    have hm0 : (0 : Int) ≤ (m : Int) := by omega
    have hm1 : (m : Int) ≤ 1000 := by omega
    have hwm : IntKind.i64.wrap (m : Int) = (m : Int) := IntWalk.i64_in _ (by omega)
    rw [hmw]
    have hown0 := World.ownsRow_made (base := w.heap.size) (e := 22) (size := 1) w #[] 0 (Nat.le_refl _) (by simp [maxLen]) rfl
    have Hown0 := hid hown0
    clear hown0 hx ih hmw
    go_enter Try.func44, Try.ntmps44
    go_wp2_with fail
    go_loopw [7, 8] (fun o iv wx => ∃ (i : Nat) (vs : List Value) (X : List (List Int)) (aO : Option Addr) (cO : Nat), o = .slice aO X.length cO ∧ Hid (k ≤ i ∧ i ≤ l.length ∧ X ++ setsL (l.drop i) (m + 1) = setsL (l.drop k) (m + 1)) ∧ iv = .int .i64 (i : Int) ∧ Hid (RowsV wx w.heap.size (.slice aO X.length cO) vs X ∧ Blocks vs) ∧ Hid (Below w.heap.size w wx)) (fun _ iv _ => l.length - (intOf iv).toNat)
    case atStart => exact ⟨k, [], [], _, _, rfl, hid ⟨Nat.le_refl _, hk, by simp⟩, rfl, hid ⟨.nil Hown0.out, fun _ h => by cases h⟩, hid ((Below.refl _ _).alloc (Nat.le_refl _) _)⟩
    case round =>
      obtain ⟨i, vs, X, aO, cO, rfl, HI, rfl, HR, HB⟩ := hrel
      obtain ⟨hki, hil, hX⟩ := HI.out
      have HX := hid hX
      have hi0 : (0 : Int) ≤ (i : Int) := by omega
      clear hX HI
      by_cases hlt : i < l.length
      · have hii : (i : Int) < (l.length : Int) := by omega
        have hi1 : IntKind.i64.wrap ((i : Int) + 1) = (i : Int) + 1 := IntWalk.i64_in _ (by omega)
        have HIr := hid (HIH.out (i + 1) wr (by omega) (by omega) (Hx.out.later HB.out HB.out.size))
        have hcast : ((i + 1 : Nat) : Int) = (i : Int) + 1 := by omega
        rw [hcast] at HIr
        clear hcast
        go_wp2_with fail
        refine HIr.out.mono ?_
        rintro e w2 ⟨r, rs, rfl, hR2, hBl2, hB2⟩
        obtain ⟨aR, cR, rfl⟩ := hR2.form
        obtain ⟨G, hG⟩ : ∃ G, G = setsL (l.drop (i + 1)) m := ⟨_, rfl⟩
        rw [← hG] at hR2 ⊢
        have HG := hid hG
        have HR2 := hid hR2
        have HBl2 := hid hBl2
        have HB2 := hid hB2
        have HRx := hid (HR.out.1.below hB2)
        clear hG hR2 hBl2 hB2 HIr
        obtain ⟨x, hxx⟩ : ∃ x, x = l[i]?.getD 0 := ⟨_, rfl⟩
        have Hxx := hid hxx
        clear hxx
        have Hap0 : Hid (∀ g, (Value.slice aO X.length cO).ownBlock = some g → (Value.slice aR G.length cR).ownBlock ≠ some g) := hid (fun g h1 h2 => by
          have h3 := (HR.out.1.own.lt g h1).2
          have h4 := (HR2.out.own.lt g h2).1
          omega)
        have HBw2 := hid (HB.out.trans (HB2.out.mono HB.out.size))
        have Hgl : Hid (G.length ≤ 1073741824 ∧ X.length + G.length ≤ 1073741824) := hid (by
          have h1 := congrArg List.length (setsX HX.out hlt)
          have h2 := setsL_count (l.drop k) (m + 1)
          have h3 : 2 ^ (l.drop k).length ≤ 2 ^ 30 := Nat.pow_le_pow_right (by omega) (by simp; omega)
          have h4 : (2 : Nat) ^ 30 = 1073741824 := by decide
          simp only [List.length_append, List.length_map, ← HG.out] at h1
          omega)
        go_wp2_with fail
        go_loopw [7, 10] (fun o jv wx => ∃ (j : Nat) (vs' : List Value) (aP : Option Addr) (cP : Nat), o = .slice aP (X.length + j) cP ∧ Hid (j ≤ G.length) ∧ jv = .int .i64 (j : Int) ∧ Hid (RowsV wx w.heap.size (.slice aP (X.length + j) cP) vs' (X ++ (G.take j).map (x :: ·)) ∧ Blocks vs') ∧ Hid (RowsV wx wr.heap.size (.slice aR G.length cR) rs G) ∧ Hid (∀ g, (Value.slice aP (X.length + j) cP).ownBlock = some g → (Value.slice aR G.length cR).ownBlock ≠ some g) ∧ Hid (Below w.heap.size w wx)) (fun _ jv _ => G.length - (intOf jv).toNat)
        case atStart => exact ⟨0, vs, aO, cO, rfl, hid (Nat.zero_le _), rfl, hid ⟨by simpa using HRx.out, HR.out.2⟩, HR2, Hap0, HBw2⟩
        case round =>
          obtain ⟨j, vs', aP, cP, rfl, HJ, rfl, HP, HRR, Hap, HBx⟩ := hrel
          have hj := HJ.out
          have hj0 : (0 : Int) ≤ (j : Int) := by omega
          by_cases hlj : j < G.length
          · have hji : (j : Int) < (G.length : Int) := by omega
            have hj30 : (j : Int) ≤ 1073741824 := by have := Hgl.out; omega
            obtain ⟨g, hgg⟩ : ∃ g, g = G[j]?.getD [] := ⟨_, rfl⟩
            obtain ⟨rv, hrv⟩ : ∃ rv, rv = rs[j]?.getD undef := ⟨_, rfl⟩
            have hrow := HRR.out.at_ j hlj
            rw [← hgg, ← hrv] at hrow
            have hrsl : j < rs.length := by rw [HRR.out.len]; exact hlj
            have hrm : rv ∈ rs := by rw [hrv, List.getElem?_eq_getElem hrsl]; exact List.getElem_mem hrsl
            obtain ⟨bg, hbg⟩ := HBl2.out rv hrm
            obtain ⟨ag, cg, rfl, hog⟩ := hrow
            have hgl : g.length ≤ 1048576 := by
              have h1 : g ∈ G := by rw [hgg, List.getElem?_eq_getElem hlj]; exact List.getElem_mem hlj
              rw [HG.out] at h1
              have := (setsL_mem _ _ _ h1).2
              omega
            obtain ⟨hag, hcells⟩ : ag = some ⟨bg, 0, none⟩ ∧ ∀ q, q < g.length → wr.cell? ((⟨bg, 0, none⟩ : Addr).add q) = some (.int .i64 (g[q]?.getD 0)) := by
              have hc := hog.cells hbg
              refine ⟨?_, fun q hq => hc q _ (by rw [List.getElem?_map, List.getElem?_eq_getElem hq]; rfl)⟩
              rcases hog.2 with ⟨h, _⟩ | ⟨g', c', cur, h, _⟩
              · injection h with h; rw [h] at hbg; cases hbg
              · injection h with h; rw [h] at hbg; injection hbg with hbg; rw [h, ← hbg]
            subst hag
            obtain ⟨bR, hbR, hcR⟩ : ∃ bR, aR = some ⟨bR, 0, none⟩ ∧ wr.cell? ⟨bR, j, none⟩ = some (.slice (some ⟨bg, 0, none⟩) g.length cg) := by
              rcases HRR.out.own.2 with ⟨h, h0⟩ | ⟨g', c', cur, h, h2⟩
              · omega
              · have hc := HRR.out.own.cells (g := g') (by rw [h]; rfl) j (.slice (some ⟨bg, 0, none⟩) g.length cg) (by rw [List.getElem?_eq_getElem hrsl]; rw [List.getElem?_eq_getElem hrsl] at hrv; rw [hrv]; rfl)
                injection h with h
                exact ⟨g', h, by have h7 : (⟨g', 0, none⟩ : Addr).add j = ⟨g', j, none⟩ := (by simp [Addr.add]; intro h; omega); rw [h7] at hc; exact hc⟩
            subst hbR
            obtain ⟨b3, o3, hb3, rfl, hc3⟩ : ∃ b off, b < w.heap.size ∧ a = some ⟨b, off, none⟩ ∧ w.cell? ⟨b, off + i, none⟩ = some (.int .i64 x) := by
              rcases Hx.out with h | ⟨b, off, hb, h, hc⟩
              · rw [h] at hlt; simp at hlt
              · exact ⟨b, off, hb, h, by rw [Hxx.out]; exact hc i hlt⟩
            have hcx : wr.cell? ⟨b3, o3 + i, none⟩ = some (.int .i64 x) := (HBx.out.cell (p := ⟨b3, o3 + i, none⟩) hb3).trans hc3
            have Hgg := hid hgg
            clear hgg hrv hrm hc3
            go_wp2_with fail
            refine region_M 13 (fun W : World => W.cell? ⟨b3, o3 + i, none⟩ = some (.int .i64 x) ∧ W.cell? ⟨bR, j, none⟩ = some (.slice (some ⟨bg, 0, none⟩) g.length cg)) (by kernel_rfl) ?_
            obtain ⟨x0, hx0⟩ : ∃ x', x' = wr.drew := ⟨_, rfl⟩
            have hb0 : Below wr.heap.size wr x0 := by rw [hx0]; exact ⟨rfl, rfl, rfl, Nat.le_refl _, fun _ _ => rfl⟩
            rw [← hx0]
            have hbRl : bR < wr.heap.size := (HRR.out.own.lt bR rfl).2
            have hb3l : b3 < wr.heap.size := Nat.lt_of_lt_of_le hb3 HBx.out.size
            have HX0 : Hid (x0.cell? ⟨b3, o3 + i, none⟩ = some (.int .i64 x) ∧ x0.cell? ⟨bR, j, none⟩ = some (.slice (some ⟨bg, 0, none⟩) g.length cg)) := hid ⟨(hb0.cell (p := ⟨b3, o3 + i, none⟩) hb3l).trans hcx, (hb0.cell (p := ⟨bR, j, none⟩) hbRl).trans hcR⟩
            have HP0 := hid (HP.out.1.below hb0)
            have HRR0 := hid (HRR.out.below hb0)
            have HBx0 := hid (HBx.out.trans (hb0.mono HBx.out.size))
            have Hog0 := hid (ownsRow_below hog hb0 (fun q hq => (hog.lt q hq).2))
            have Hbl := hid HP.out.2
            clear hx0 hb0 hcx hcR hog HP HRR HBx hcells hbRl hb3l
            refine anyM_take (i := 0) (v := .slice aP (X.length + j) cP) [12, 13] rfl (by kernel_rfl) (fun _ _ _ h => h) (Or.inl ⟨by rfl, fun W hW => by go_simp⟩) HX0.out ?_
            refine anyM_take (i := 1) (v := .slice (some ⟨b3, o3, none⟩) l.length cap) [3, 4, 5, 10, 11, 12, 13] rfl (by kernel_rfl) (fun _ _ _ h => h) (Or.inl ⟨by rfl, fun W hW => by go_simp⟩) HX0.out ?_
            refine anyM_take (i := 2) (v := .int .i64 (i : Int)) [3, 4, 5, 10, 11, 12, 13] rfl (by kernel_rfl) (fun _ _ _ h => h) (Or.inl ⟨by rfl, fun W hW => by go_simp⟩) HX0.out ?_
            refine anyM_take (i := 3) (v := .pointer (some ⟨b3, o3 + i, none⟩)) [4, 5, 10, 11, 12, 13] rfl (by kernel_rfl) (fun _ _ _ h => h) (Or.inl ⟨by rfl, fun W hW => by go_simp⟩) HX0.out ?_
            refine anyM_take (i := 4) (v := .int .i64 x) [5, 10, 11, 12, 13] rfl (by kernel_rfl) (fun _ _ _ h => h) (Or.inl ⟨by rfl, fun W hW => by (obtain ⟨z0, z1⟩ := hW; go_simp)⟩) HX0.out ?_
            refine anyM_take (i := 6) (v := .slice (some ⟨bR, 0, none⟩) G.length cR) [8, 9, 10, 11, 12, 13] rfl (by kernel_rfl) (fun _ _ _ h => h) (Or.inl ⟨by rfl, fun W hW => by go_simp⟩) HX0.out ?_
            refine anyM_take (i := 7) (v := .int .i64 (j : Int)) [8, 9, 10, 11, 12, 13] rfl (by kernel_rfl) (fun _ _ _ h => h) (Or.inl ⟨by rfl, fun W hW => by go_simp⟩) HX0.out ?_
            refine anyM_take (i := 8) (v := .pointer (some ⟨bR, j, none⟩)) [9, 10, 11, 12, 13] rfl (by kernel_rfl) (fun _ _ _ h => h) (Or.inl ⟨by rfl, fun W hW => by go_simp⟩) HX0.out ?_
            refine anyM_take (i := 9) (v := .slice (some ⟨bg, 0, none⟩) g.length cg) [10, 11, 12, 13] rfl (by kernel_rfl) (fun _ _ _ h => h) (Or.inl ⟨by rfl, fun W hW => by (obtain ⟨z0, z1⟩ := hW; go_simp)⟩) HX0.out ?_
            refine anyM_ready (rs := [5]) (by kernel_rfl) (by simp) ?_
            refine AllM.cons rfl (fun K hK => ?_) AllM.nil
            go_simp
            obtain ⟨B1, hB1⟩ : ∃ b, b = x0.heap.size := ⟨_, rfl⟩
            obtain ⟨x1, hx1⟩ : ∃ x', x' = x0.alloc (.cells #[.int .i64 x] 2) := ⟨_, rfl⟩
            have hb1 : Below x0.heap.size x0 x1 := by rw [hx1]; exact (Below.refl _ x0).alloc (Nat.le_refl _) _
            have hone : x1.ownsRow x0.heap.size 2 1 (.slice (some ⟨B1, 0, none⟩) 1 1) 1 [.int .i64 x] := ⟨rfl, .inr ⟨B1, 1, _, rfl, by omega, by rw [hx1, hB1]; exact heap_alloc_new _ _, Nat.le_refl _, by simp [maxLen], rfl, rfl⟩⟩
            have hbRl : bR < x0.heap.size := (HRR0.out.own.lt bR rfl).2
            have hb3l : b3 < x0.heap.size := Nat.lt_of_lt_of_le hb3 HBx0.out.size
            have HX1 : Hid (x1.cell? ⟨b3, o3 + i, none⟩ = some (.int .i64 x) ∧ x1.cell? ⟨bR, j, none⟩ = some (.slice (some ⟨bg, 0, none⟩) g.length cg)) := hid ⟨(hb1.cell (p := ⟨b3, o3 + i, none⟩) hb3l).trans HX0.out.1, (hb1.cell (p := ⟨bR, j, none⟩) hbRl).trans HX0.out.2⟩
            rw [← hB1, ← hx1]
            refine hK.out _ _ (fun _ => HX1.out) ?_
            clear hK K
            refine anyM_ready (rs := [10]) (by kernel_rfl) (by simp) ?_
            refine AllM.cons rfl (fun K hK => ?_) AllM.nil
            have hog1 := ownsRow_below Hog0.out hb1 (fun q hq => (Hog0.out.lt q hq).2)
            have hcs : ∀ q, q < g.length → x1.cell? ((⟨bg, 0, none⟩ : Addr).add q) = some (.int .i64 (g[q]?.getD 0)) := fun q hq => hog1.cells (g := bg) rfl q _ (by rw [List.getElem?_map, List.getElem?_eq_getElem hq]; rfl)
            obtain ⟨nv, x2, hr2, hown2, hg2, hbn⟩ := run_one_row (c := cg) hone hb1.size hgl hcs
            obtain ⟨an, cn, rfl, hown2⟩ := rowAt_of hown2
            have Hbn : Hid (∃ b, (Value.slice an (x :: g).length cn).ownBlock = some b) := hid (hbn.elim (fun h => ⟨_, h⟩) (fun h => ⟨_, h⟩))
            clear hbn
            obtain ⟨ng, hng⟩ : ∃ ng, ng = (x :: g).length := ⟨_, rfl⟩
            rw [← hng] at hr2 hown2 Hbn
            have Hng := hid hng
            clear hng
            refine step_app_T (s := .tmp 40) (y := .tmp 44) rfl rfl rfl rfl hr2 ?_
            have hb12 : Below x0.heap.size x1 x2 := (Below.refl _ x1).grown hg2 hb1.size (fun q hq => by injection hq with hq; omega)
            have hb2 : Below x0.heap.size x0 x2 := hb1.trans hb12
            have HX2 : Hid (x2.cell? ⟨b3, o3 + i, none⟩ = some (.int .i64 x) ∧ x2.cell? ⟨bR, j, none⟩ = some (.slice (some ⟨bg, 0, none⟩) g.length cg)) := hid ⟨(hb2.cell (p := ⟨b3, o3 + i, none⟩) hb3l).trans HX0.out.1, (hb2.cell (p := ⟨bR, j, none⟩) hbRl).trans HX0.out.2⟩
            refine hK.out _ _ (fun _ => HX2.out) ?_
            clear hK K hr2
            refine anyM_ready (rs := [11]) (by kernel_rfl) (by simp) ?_
            refine AllM.cons rfl (fun K hK => ?_) AllM.nil
            go_simp
            obtain ⟨B3, hB3⟩ : ∃ b, b = x2.heap.size := ⟨_, rfl⟩
            obtain ⟨x3, hx3⟩ : ∃ x', x' = x2.alloc (.cells #[.slice an ng cn] 22) := ⟨_, rfl⟩
            have hb3' : Below x2.heap.size x2 x3 := by rw [hx3]; exact (Below.refl _ x2).alloc (Nat.le_refl _) _
            have hc3 : x3.cell? ⟨B3, 0, none⟩ = some (.slice an ng cn) := by rw [hx3, hB3]; simp [go_sem]
            have hb03 : Below x0.heap.size x0 x3 := hb2.trans (hb3'.mono hb2.size)
            have hown3 := ownsRow_below hown2 hb3' (fun q hq => (hown2.lt q hq).2)
            have HX3 : Hid (x3.cell? ⟨b3, o3 + i, none⟩ = some (.int .i64 x) ∧ x3.cell? ⟨bR, j, none⟩ = some (.slice (some ⟨bg, 0, none⟩) g.length cg)) := hid ⟨(hb03.cell (p := ⟨b3, o3 + i, none⟩) hb3l).trans HX0.out.1, (hb03.cell (p := ⟨bR, j, none⟩) hbRl).trans HX0.out.2⟩
            rw [← hB3, ← hx3]
            refine hK.out _ _ (fun _ => HX3.out) ?_
            clear hK K
            refine anyM_ready (rs := [12]) (by kernel_rfl) (by simp) ?_
            refine AllM.cons rfl (fun K hK => ?_) AllM.nil
            have hP3 := HP0.out.below hb03
            have hlen : (X ++ (G.take j).map (x :: ·)).length = X.length + j := by simp; omega
            have ho3 := hP3.own
            rw [hlen] at ho3
            obtain ⟨v', x4, hr4, hown4, hg4, hat4⟩ := run_row_row (c := 1) rfl ho3 (Nat.le_trans HBx0.out.size hb03.size) (by have := Hgl.out; omega) hc3
            refine step_app_T (s := .tmp 35) (y := .tmp 46) rfl rfl rfl rfl hr4 ?_
            have hRR3 := HRR0.out.below hb03
            have hne3 : some b3 ≠ (Value.slice aP (X.length + j) cP).ownBlock := fun h => by have := (ho3.lt b3 h.symm).1; omega
            have hneR : some bR ≠ (Value.slice aP (X.length + j) cP).ownBlock := fun h => Hap.out bR h.symm rfl
            have HX4 : Hid (x4.cell? ⟨b3, o3 + i, none⟩ = some (.int .i64 x) ∧ x4.cell? ⟨bR, j, none⟩ = some (.slice (some ⟨bg, 0, none⟩) g.length cg)) := hid ⟨hg4.cell HX3.out.1 hne3, hg4.cell HX3.out.2 hneR⟩
            have HRR4 := hid (hRR3.apart ho3 (.inr (fun e => hneR (by rw [← e]; rfl))) hg4)
            have hPn := HP0.out.snoc (g := x :: g) hb03 HBx0.out.size (by rw [← Hng.out]; exact hown3) (by rw [hlen]; exact hown4) hg4
            have htk : (X ++ (G.take j).map (x :: ·)) ++ [x :: g] = X ++ (G.take (j + 1)).map (x :: ·) := by
              rw [List.take_add_one, List.getElem?_eq_getElem hlj, List.map_append, List.append_assoc, Hgg.out, List.getElem?_eq_getElem hlj]
              rfl
            rw [htk] at hPn
            obtain ⟨aQ, cQ, rfl⟩ := hPn.form
            have hln2 : (X ++ (G.take (j + 1)).map (x :: ·)).length = X.length + (j + 1) := by simp; omega
            rw [hln2] at hPn hat4
            have HP4 := hid (show RowsV _ _ _ _ _ ∧ Blocks (vs' ++ [.slice an ng cn]) from ⟨hPn, fun v hv => by
              rcases List.mem_append.1 hv with h | h
              · exact Hbl.out v h
              · simp at h; rw [h]; exact Hbn.out⟩)
            have Hap4 : Hid (∀ q, (Value.slice aQ (X.length + (j + 1)) cQ).ownBlock = some q → (Value.slice (some ⟨bR, 0, none⟩) G.length cR).ownBlock ≠ some q) := hid (fun q h1 h2 => by
              rcases hat4 with h3 | h3
              · exact Hap.out q (h3.symm.trans h1) h2
              · rw [h3] at h1
                injection h1 with h1
                have h4 : bR = q := by injection h2
                have := hb03.size
                omega)
            have HB4 := hid (HBx0.out.trans ((hb03.mono HBx0.out.size).trans ((Below.refl _ x3).grown hg4 (Nat.le_trans HBx0.out.size hb03.size) (fun q hq => (ho3.lt q hq).1))))
            rw [hln2]
            clear hat4 hPn htk hg4 hown4 hRR3 hne3 hneR ho3 hlen hP3 hown3 hb03 hc3 hb3' HX3 hr4
            refine hK.out _ _ (fun _ => HX4.out) ?_
            clear hK K
            refine anyM_ready (rs := [13]) (by kernel_rfl) (by simp) ?_
            refine AllM.cons rfl (fun K hK => ?_) AllM.nil
            go_simp
            refine hK.out _ _ (fun h => absurd rfl h) ?_
            clear hK K
            refine anyM_done (by kernel_rfl) ?_ _
            go_wp2_with fail
            go_roundw
            case rel => exact ⟨j + 1, vs' ++ [.slice an ng cn], aQ, cQ, by simp, hid hlj, by go_num, HP4, HRR4, Hap4, HB4⟩
            case measure => simp [intOf]; omega
          · have hje : j = G.length := by omega
            subst hje
            have hji : ¬ (G.length : Int) < (G.length : Int) := by omega
            go_wp2_with fail
            go_roundw
            case rel => exact ⟨i + 1, vs', X ++ G.map (x :: ·), aP, cP, by simp, hid ⟨by omega, by omega, by rw [HG.out, Hxx.out]; exact setsX HX.out hlt⟩, by go_num, hid (by have := HP.out; rw [List.take_length] at this; rw [List.length_append, List.length_map]; exact this)⟩
            case measure => simp [intOf]; omega
      · have hie : i = l.length := by omega
        have hii : ¬ (i : Int) < (l.length : Int) := by omega
        have HE : Hid (X = setsL (l.drop k) (m + 1)) := hid (by rw [← HX.out, setsL_done (by omega), List.append_nil])
        go_wp2_with fail
        go_ret
        refine ⟨_, rfl, vs, ?_, HR.out.2, HB.out⟩
        rw [← HE.out]
        exact HR.out.1

end Go.Proofs.Ytbhdipljhelddaa

/-! The first set that fits, found by a loop. -/
namespace Go.Proofs.Ytbhdipljhelddaa
open Go.RowKit

theorem take_one (S : List (List Int)) {j : Nat} (hj : j < S.length) : S.take (j + 1) = S.take j ++ [S[j]?.getD []] := by
  rw [List.take_add_one, List.getElem?_eq_getElem hj]
  rfl
theorem find_take_no {P : List Int → Bool} {S : List (List Int)} {j : Nat} (h : (S.take j).find? P = none) (hj : j < S.length) (hp : P (S[j]?.getD []) = false) : (S.take (j + 1)).find? P = none := by
  rw [take_one S hj, List.find?_append, h]
  simp [hp]
theorem find_take_yes {P : List Int → Bool} {S : List (List Int)} {j : Nat} (h : (S.take j).find? P = none) (hj : j < S.length) (hp : P (S[j]?.getD []) = true) : S.find? P = some (S[j]?.getD []) := by
  have e : S = S.take (j + 1) ++ S.drop (j + 1) := (List.take_append_drop _ _).symm
  have h1 : (S.take (j + 1)).find? P = some (S[j]?.getD []) := by
    rw [take_one S hj, List.find?_append, h]
    simp [hp]
  calc S.find? P = (S.take (j + 1) ++ S.drop (j + 1)).find? P := by rw [← e]
    _ = some (S[j]?.getD []) := by rw [List.find?_append, h1]; rfl
/-- Behind all sets of n numbers: nothing of fewer than n + 1 numbers fits. -/
theorem firstTo_next {P : List Int → Bool} {l : List Int} {n : Nat} (h : firstTo P l n = none) (hn : (setsL l n).find? P = none) : firstTo P l (n + 1) = none := by
  rw [firstTo, h, firstC_nil, hn]
  rfl
theorem firstTo_hit {P : List Int → Bool} {l s : List Int} {n k : Nat} (h : firstTo P l n = none) (hn : (setsL l n).find? P = some s) (hk : n < k) : firstTo P l k = some s :=
  firstTo_up (by rw [firstTo, h, firstC_nil, hn]; rfl) k hk
/-- With fewer than three vertices there is no circle. -/
theorem firstTo_low {fs l : List Int} (hp : ∀ x ∈ l, 1 ≤ x) (ha : l.Pairwise (· < ·)) : ∀ k, k ≤ 3 → firstTo (circB fs) l k = none := by
  intro k hk
  cases h : firstTo (circB fs) l k with
  | none => rfl
  | some s =>
    cases k with
    | zero => cases h
    | succ k =>
      have := firstTo_up h 3 (by omega)
      rw [firstTo_three hp ha] at this
      cases this

end Go.Proofs.Ytbhdipljhelddaa

/-! The boundary of a chain, the program's. -/
namespace Go.Proofs.Ytbhdipljhelddaa
open Go.RowKit Go.Shelf

attribute [local go_sem] Oper.semAt_some

/-- What the walk keeps of the world. -/
structure FbW (w W : World) (V : Int) (sl : Value) (L : List Int) (Ds : List Nat) : Prop where
  below : Below w.heap.size w W
  kbox : W.heap[w.heap.size]? = some (.cells #[.int .i64 V, sl] 28 (0, 0))
  own : W.ownsMap Try.prog 2 (plainElem (H := Unit) Try.prog 4) (w.heap.size + 1) L.length (togD L)
  mbox : W.heap[w.heap.size + 2]? = some (.cells #[.map (some (w.heap.size + 1))] 82 (0, 0))
  nodup : Ds.Nodup
  marks : ∀ D ∈ Ds, w.heap.size + 3 ≤ D ∧ W.heap[D]? = some (.deferred (some []))

theorem FbW.size {w W : World} {V : Int} {sl : Value} {L : List Int} {Ds : List Nat} (h : FbW w W V sl L Ds) : w.heap.size + 3 ≤ W.heap.size := by
  have := lt_of_get h.mbox; omega

theorem FbW.turn {w W W' : World} {V : Int} {sl : Value} {L : List Int} {Ds : List Nat} (h : FbW w W V sl L Ds) {row : Option Nat} (hg : W.grownBy W' row)
    (hr : ∀ r, row = some r → w.heap.size + 3 ≤ r ∧ r ∉ Ds) : FbW w W' V sl L Ds where
  below := h.below.grown hg h.below.size (fun k e => by have := (hr k e).1; omega)
  kbox := (hg.block _ (lt_of_get h.kbox) (fun e => by have := (hr _ e.symm).1; omega)).trans h.kbox
  own := h.own.kept hg (fun e => by have := (hr _ e.symm).1; omega)
  mbox := (hg.block _ (lt_of_get h.mbox) (fun e => by have := (hr _ e.symm).1; omega)).trans h.mbox
  nodup := h.nodup
  marks := fun D hD => ⟨(h.marks D hD).1, (hg.block _ (lt_of_get (h.marks D hD).2) (fun e => (hr _ e.symm).2 hD)).trans (h.marks D hD).2⟩

theorem fbw_own {w : World} {V : Int} {sl : Value} {g : List (Fin 64) → List Int} {Ds : List Nat} {B : Nat} (hB : w.heap.size + 3 ≤ B) (hD : ∀ D ∈ Ds, D < B) : OwnFrom B (fun (pre : List (Fin 64)) W => FbW w W V sl (g pre) Ds) :=
  fun _ _ _ _ hs hg hr => hs.turn hg (fun r e => ⟨by have := (hr r e).1; omega, fun hm => by have := hD r hm; have := (hr r e).1; omega⟩)

theorem box_ownB {β : Type} {B fb : Nat} {o : Obj} (hB : fb < B) : OwnFrom B (fun (_ : β) (W : World) => W.heap[fb]? = some o) :=
  fun _ _ _ _ hs hg hr => (hg.block _ (lt_of_get hs) (fun e => by have := (hr _ e.symm).1; omega)).trans hs

/-- A further mark. -/
theorem FbW.mark {w W : World} {V : Int} {sl : Value} {L : List Int} {Ds : List Nat} (h : FbW w W V sl L Ds) {D : Nat} (hD : W.heap[D]? = some (.deferred (some []))) (hb : w.heap.size + 3 ≤ D) (hn : D ∉ Ds) : FbW w W V sl L (D :: Ds) where
  below := h.below
  kbox := h.kbox
  own := h.own
  mbox := h.mbox
  nodup := List.nodup_cons.2 ⟨hn, h.nodup⟩
  marks := fun E hE => by
    rcases List.mem_cons.1 hE with rfl | hE
    · exact ⟨hb, hD⟩
    · exact h.marks E hE

/-- A side more in the map. -/
theorem FbW.put {w W w1 : World} {V : Int} {sl : Value} {L : List Int} {Ds : List Nat} (h : FbW w W V sl L Ds) {x : Int}
    (hown : w1.ownsMap Try.prog 2 (plainElem (H := Unit) Try.prog 4) (w.heap.size + 1) (L.length + 1) ((togD L).put (.int .i64 x) (.lit (.bool (!par x L))))) (hg : W.grownBy w1 (some (w.heap.size + 1))) : FbW w w1 V sl (L ++ [x]) Ds where
  below := h.below.grown hg h.below.size (fun k e => by cases e; omega)
  kbox := (hg.block _ (lt_of_get h.kbox) (fun e => by simp at e)).trans h.kbox
  own := by rw [togD_snoc]; simpa using hown
  mbox := (hg.block _ (lt_of_get h.mbox) (fun e => by simp at e)).trans h.mbox
  nodup := h.nodup
  marks := fun D hD => ⟨(h.marks D hD).1, (hg.block _ (lt_of_get (h.marks D hD).2) (fun e => by have := (h.marks D hD).1; simp at e; omega)).trans (h.marks D hD).2⟩



end Go.Proofs.Ytbhdipljhelddaa

/-! CountFaces, the model's and the program's. -/
namespace Go.Proofs.Ytbhdipljhelddaa
open Go.RowKit

/-- The numbers of faces of the first n dimensions. -/
def countL (fs : List Int) (n : Nat) : List Int := (List.range n).map fun d : Nat => ((ofDim fs (d : Int)).length : Int)

theorem countL_len (fs : List Int) (n : Nat) : (countL fs n).length = n := by simp [countL]

theorem countL_snoc (fs : List Int) (n : Nat) : countL fs (n + 1) = countL fs n ++ [((ofDim fs (n : Int)).length : Int)] := by
  simp [countL, List.range_succ]

theorem countL_face (pre : List Int) (x : Nat) (n e : Nat) (he : ones x = e + 1) : countL (pre ++ [(x : Int)]) n = (countL pre n).set e (((ofDim pre (e : Int)).length : Int) + 1) := by
  apply List.ext_getElem?
  intro i
  by_cases hi : i < n
  · by_cases hie : e = i
    · subst hie
      rw [List.getElem?_set_self (by rw [countL_len]; exact hi)]
      simp [countL, hi, ofDim, List.filter_append, he]
    · rw [List.getElem?_set_ne hie]
      have : ¬ ((ones x : Int) = (i : Int) + 1) := by omega
      simp [countL, hi, ofDim, List.filter_append, this]
  · rw [List.getElem?_eq_none (by rw [countL_len]; omega), List.getElem?_eq_none (by rw [List.length_set, countL_len]; omega)]

theorem countL_at (pre : List Int) (n e : Nat) (hn : e < n) : (countL pre n)[e]?.getD 0 = ((ofDim pre (e : Int)).length : Int) := by
  simp [countL, hn]

/-- What CountFaces hands back. -/
noncomputable def countFacesR (V : Int) (fs : List Int) : List Int × Int := if isCB V fs then (countL fs (top fs + 1).toNat, 0) else ([], 1)

theorem countFacesR_len (V : Int) (fs : List Int) (_h : fs.length ≤ 1048576) : (countFacesR V fs).1.length ≤ 1048576 := by
  unfold countFacesR
  have := top_hi fs
  split
  · rw [countL_len]; omega
  · simp


end Go.Proofs.Ytbhdipljhelddaa

/-! CountFaces, the program's. -/
namespace Go.Proofs.Ytbhdipljhelddaa
open Go.RowKit

theorem dimE (f e : Nat) (w : World) (hf : f < 64) (he : ones f = e + 1) :
    Calls Try.prog 107 #[.int .i64 (f : Int)] w fun r w' => r = .returned (.int .i64 (e : Int)) ∧ w = w' :=
  (dim_any f w hf).mono fun _ _ ⟨h, hw⟩ => ⟨by rw [h, he]; congr 2; omega, hw⟩

theorem dimT (V : Int) (a0 : Option Addr) (cap : Nat) (fs : List Int) (T : Nat) (w : World) (hx : SlI w w.heap.size a0 fs) (hl : fs.length ≤ 1048576) (hf : ∀ x ∈ fs, 1 ≤ x ∧ x ≤ 63) (hT : top fs = (T : Int) - 1) :
    Calls Try.prog 148 #[.agg #[.int .i64 V, .slice a0 fs.length cap]] w fun e w' => e = .returned (.int .i64 ((T : Int) - 1)) ∧ Below w.heap.size w w' :=
  (dimI_any V a0 cap fs w hx hl hf).mono fun _ _ ⟨h, hw⟩ => ⟨by rw [h, hT], hw⟩

theorem countL_nil (n : Nat) : countL [] n = List.replicate n 0 := by
  apply List.ext_getElem?
  intro i
  by_cases hi : i < n
  · simp [countL, hi, ofDim]
  · rw [List.getElem?_eq_none (by rw [countL_len]; omega), List.getElem?_eq_none (by simp; omega)]

set_option maxHeartbeats 2000000 in
theorem implCountFaces (V : Int) (a0 : Option Addr) (cap : Nat) (fs : List Int) (w : World) (hx : SlI w w.heap.size a0 fs) (hl : fs.length ≤ 1048576) :
    Calls Try.prog 145 #[.agg #[.int .i64 V, .slice a0 fs.length cap]] w fun e w' => ∃ v, e = .returned (.tuple #[v, .int .i64 (countFacesR V fs).2]) ∧ Res w w' v (countFacesR V fs).1 := by
  have hB0 : Below w.heap.size w (w.alloc (.cells #[.int .i64 V, .slice a0 fs.length cap] 28)) := (Below.refl _ w).alloc (Nat.le_refl _) _
  have Hx := hid (hx.later hB0 (by simp))
  have Hx0 := hid hx
  by_cases hC : IsC V fs
  · refine pair_mono (show countFacesR V fs = (countL fs (top fs + 1).toNat, 0) by unfold countFacesR; rw [isCB_true hC, if_pos rfl]) ?_
    have Hf := hid hC.range63
    have HC := hid hC
    clear hC
    obtain ⟨T, hT⟩ : ∃ T : Nat, (T : Int) = top fs + 1 := ⟨(top fs + 1).toNat, by have := top_lo fs; omega⟩
    have hT6 : T ≤ 6 := by have := top_hi fs; omega
    have hTn : (top fs + 1).toNat = T := by omega
    rw [hTn]
    have HT := hid (show top fs = (T : Int) - 1 by omega)
    clear hT hTn
    go_enter Try.func145, Try.ntmps145
    go_wp2_with fail
    refine (isc_yes V a0 cap fs _ Hx.out hl HC.out).mono ?_
    rintro e w1 ⟨rfl, hB1⟩
    have k0 : w1.cell? ⟨w.heap.size, 0, none⟩ = some (.int .i64 V) := (hB1.cell (p := ⟨w.heap.size, 0, none⟩) (by simp)).trans (by simp [go_sem])
    have k1 : w1.cell? ⟨w.heap.size, 1, none⟩ = some (.slice a0 fs.length cap) := (hB1.cell (p := ⟨w.heap.size, 1, none⟩) (by simp)).trans (by simp [go_sem])
    have hB01 := hB0.trans (hB1.mono (by simp))
    have hs1 : w.heap.size < w1.heap.size := by have := hB1.size; simp at this; omega
    have hx1 := hid (hx.later hB01 hB01.size)
    clear hB1
    go_wp2_with fail
    refine (dimT V a0 cap fs T _ hx1.out hl Hf.out HT.out).mono ?_
    rintro e w2 ⟨rfl, hB2⟩
    have hB02 := hB01.trans (hB2.mono hB01.size)
    have hs2 : w.heap.size < w2.heap.size := Nat.lt_of_lt_of_le hs1 hB2.size
    have d1 : w2.cell? ⟨w.heap.size, 1, none⟩ = some (.slice a0 fs.length cap) := (hB2.cell (p := ⟨w.heap.size, 1, none⟩) hs1).trans k1
    clear k0 k1 hB2
    go_wp2_with (at_make; refine make_int (n := T) rfl rfl (by first | rfl | (show Value.int .i64 ((T : Int) - 1 + 1) = _; congr 1; omega)) (by first | rfl | (show Value.int .i64 ((T : Int) - 1 + 1) = _; congr 1; omega)) (by omega) ?_; intro w3 hown3 hgr3 hB3; have e1 : w3.cell? ⟨w.heap.size, 1, none⟩ = some (.slice a0 fs.length cap) := (hB3.cell (p := ⟨w.heap.size, 1, none⟩) hs2).trans d1)
    have hown0 : w3.ownsRow w2.heap.size 2 1 (.slice (some ⟨w2.heap.size, 0, none⟩) T T) T ((countL [] T).map (Value.int .i64)) := by rw [countL_nil]; exact hown3
    have Hown0 := hid hown0
    have HB3 := hid hB3
    clear hown3 hgr3 hown0 hB3 d1
    go_loopw [17] (fun i wr => ∃ k : Nat, k ≤ fs.length ∧ i = .int .i64 k ∧ wr.ownsRow w2.heap.size 2 1 (.slice (some ⟨w2.heap.size, 0, none⟩) T T) T ((countL (fs.take k) T).map (Value.int .i64)) ∧ Below w2.heap.size w2 wr) (fun i _ => fs.length - (intOf i).toNat)
    case atStart => exact ⟨0, Nat.zero_le _, rfl, by simpa using Hown0.out, HB3.out⟩
    case round =>
      obtain ⟨k, hk, rfl, hown, hB⟩ := hrel
      by_cases hlt : k < fs.length
      · obtain ⟨b, off, hb, rfl, hc⟩ : ∃ b off, b < w.heap.size ∧ a0 = some ⟨b, off, none⟩ ∧ ∀ i, i < fs.length → w.cell? ⟨b, off + i, none⟩ = some (.int .i64 (fs[i]?.getD 0)) := by
          rcases Hx0.out with rfl | h
          · simp at hlt
          · exact h
        have hxm := getD_mem hlt
        obtain ⟨x, hx⟩ : ∃ x : Nat, (x : Int) = fs[k]?.getD 0 := ⟨(fs[k]?.getD 0).toNat, by have := Hf.out _ hxm; omega⟩
        rw [← hx] at hxm
        have hxr := Hf.out _ hxm
        have hx64 : x < 64 := by omega
        have hck : wr.cell? ⟨b, off + k, none⟩ = some (.int .i64 (x : Int)) := by rw [hx]; exact (hB.cell (p := ⟨b, off + k, none⟩) (by show b < w2.heap.size; omega)).trans ((hB02.cell (p := ⟨b, off + k, none⟩) hb).trans (hc k hlt))
        have hi0 : (0 : Int) ≤ (k : Int) := by omega
        have hi1 : (k : Int) < (fs.length : Int) := by omega
        have hop := ones_pos ⟨x, hx64⟩ (by show x ≠ 0; omega)
        have htg := top_ge fs hxm
        rw [HT.out, Int.toNat_natCast] at htg
        obtain ⟨e, he⟩ : ∃ e, ones x = e + 1 := ⟨ones x - 1, by have : 0 < ones x := hop; omega⟩
        have heT : e < T := by omega
        have he0 : (0 : Int) ≤ (e : Int) := by omega
        have he1 : (e : Int) < (T : Int) := by omega
        have hcn := countL_at (fs.take k) T e heT
        obtain ⟨n, hn⟩ : ∃ n : Nat, n = (ofDim (fs.take k) (e : Int)).length := ⟨_, rfl⟩
        have hn6 : n ≤ 1048576 := by rw [hn]; exact Nat.le_trans (List.length_filter_le _ _) (by simp; omega)
        have hce : wr.cell? ⟨w2.heap.size, e, none⟩ = some (.int .i64 (n : Int)) := by
          rw [hown.cellAt e (by omega), hn, ← hcn]
          simp [countL, heT]
        have hfe := hown.frozenAt e
        have hst := hown.stored e (.int .i64 ((n : Int) + 1))
        have hstep : ((countL (fs.take k) T).map (Value.int .i64)).set e (.int .i64 ((n : Int) + 1)) = (countL (fs.take (k + 1)) T).map (Value.int .i64) := by
          rw [take_snoc hlt, ← hx, countL_face _ _ _ _ he, hn, List.map_set]
        rw [hstep] at hst
        have Hst := hid hst
        have HB := hid hB
        have He := hid he
        clear hstep hst hown hB hx hc hcn hn htg hop hxm hxr he
        go_wp2_with (go_at_call 107; refine (dimE x e _ hx64 He.out).mono ?_; rintro e w' ⟨rfl, rfl⟩)
        go_roundw
        case rel =>
          exact ⟨k + 1, by omega, by go_num, Hst.out.1, HB.out.grown Hst.out.2 HB.out.size (fun r e => by cases e; omega)⟩
        case measure => simp [intOf]; omega
      · go_wp2_with fail
        go_ret2
        obtain rfl : k = fs.length := by omega
        rw [List.take_of_length_le (Nat.le_refl _)] at hown
        exact ⟨_, rfl, ownsRow_base (by simpa [countL_len] using hown) (by omega), hB02.trans (hB.mono hB02.size)⟩
  · refine pair_mono (show countFacesR V fs = ([], 1) by unfold countFacesR; rw [isCB_false hC, if_neg (by simp)]) ?_
    go_enter Try.func145, Try.ntmps145
    go_wp2_with fail
    refine (isc_no V a0 cap fs _ Hx.out hl hC).mono ?_
    rintro e w1 ⟨rfl, hB1⟩
    have hB01 := hB0.trans (hB1.mono (by simp))
    go_wp2_with fail
    go_ret2
    exact ⟨_, rfl, res_nil _ _ hB01⟩

end Go.Proofs.Ytbhdipljhelddaa

/-! FundamentalChain, the program's. -/
namespace Go.Proofs.Ytbhdipljhelddaa
open Go.RowKit Go.Shelf

theorem bdL_nil (fs : List Int) : bdL fs [] = [] := by unfold bdL; simp [par, sidesAll]




/-- What FundamentalChain hands back. -/
noncomputable def fundR (V : Int) (fs : List Int) : List Int × Int := if isCB V fs then (if (ofDim fs (top fs)).length = 0 ∨ (bdL fs (ofDim fs (top fs))).length ≠ 0 then ([], 5) else (ofDim fs (top fs), 0)) else ([], 1)

theorem fundR_len (V : Int) (fs : List Int) (h : fs.length ≤ 1048576) : (fundR V fs).1.length ≤ 1048576 := by
  unfold fundR
  split
  · split
    · simp
    · exact Nat.le_trans (List.length_filter_le _ _) h
  · simp

theorem res_monoF {P : Program} {f : FuncId} {args : Array Value} {w : World} {r : List Int × Int} {xs : List Int} {c : Int} (hr : r = (xs, c))
    (h : Calls P f args w fun e w' => ∃ v, e = .returned (.tuple #[v, .int .i64 c]) ∧ Res w w' v xs) : Calls P f args w fun e w' => ∃ v, e = .returned (.tuple #[v, .int .i64 r.2]) ∧ Res w w' v r.1 := by
  subst hr; exact h

theorem ofDim_sub {fs : List Int} {d x : Int} (h : x ∈ ofDim fs d) : x ∈ fs := (List.mem_filter.1 h).1


end Go.Proofs.Ytbhdipljhelddaa

/-! ShortestCircle: the program's door. -/
namespace Go.Proofs.Ytbhdipljhelddaa
open Go.RowKit

theorem own_cap2 {w : World} {base e n cap : Nat} {a : Option Addr} {xs : List Value} (h : w.ownsRow base e 1 (.slice a n cap) n xs) : n ≤ cap ∧ cap ≤ 9223372036854775807 := by
  rcases h.2 with ⟨h0, h1⟩ | ⟨g', cap', cur, hv, hg, hh, h1, h2, h3, h4⟩
  · injection h0 with _ _ e3
    subst e3
    omega
  · injection hv with _ _ e3
    subst e3
    unfold maxLen at h2
    omega

set_option maxRecDepth 100000 in
set_option maxHeartbeats 4000000 in
theorem implShortestCircle (V : Int) (a0 : Option Addr) (cap : Nat) (fs : List Int) (w : World) (hx : SlI w w.heap.size a0 fs) (hl : fs.length ≤ 1048576) :
    Calls Try.prog 14 #[.agg #[.int .i64 V, .slice a0 fs.length cap]] w fun e w' => ∃ v, e = .returned (.tuple #[v, .int .i64 (circR V fs).2]) ∧ Res w w' v (circR V fs).1 := by
  have hB0 : Below w.heap.size w (w.alloc (.cells #[.int .i64 V, .slice a0 fs.length cap] 28)) := (Below.refl _ w).alloc (Nat.le_refl _) _
  have Hx := hid (hx.later hB0 hB0.size)
  have Hx0 := hid hx
  clear hx
  by_cases hC : IsC V fs
  · have Hf := hid hC.range63
    have HC := hid hC
    have h63 := hC.len63
    have hV1 := hC.lo
    have hV6 := hC.hi
    obtain ⟨E, hE⟩ : ∃ E, E = ofDim fs 1 := ⟨_, rfl⟩
    have HE := hid hE
    have hEl : E.length ≤ 63 := by have := ofDim_len fs 1; rw [hE]; omega
    have HR : Hid (circR V fs = ansC (firstTo (circB fs) E (V.toNat + 1))) := hid (by unfold circR; rw [isCB_true hC, if_pos rfl, hE])
    clear hE hC
    go_enter Try.func14, Try.ntmps14
    go_wp2_with fail
    refine (isc_yes V a0 cap fs _ Hx.out hl HC.out).mono ?_
    rintro e w1 ⟨rfl, hB1⟩
    have k0 : w1.cell? ⟨w.heap.size, 0, none⟩ = some (.int .i64 V) := (hB1.cell (p := ⟨w.heap.size, 0, none⟩) (by simp)).trans (by simp [go_sem])
    have k1 : w1.cell? ⟨w.heap.size, 1, none⟩ = some (.slice a0 fs.length cap) := (hB1.cell (p := ⟨w.heap.size, 1, none⟩) (by simp)).trans (by simp [go_sem])
    have HB1 := hid (hB0.trans (hB1.mono (by simp)))
    have Hs1 : Hid (w.heap.size < w1.heap.size) := hid (by have := hB1.size; simp at this; omega)
    have HO := hid (fod_any V a0 cap fs 1 w1 (Hx0.out.later HB1.out HB1.out.size) hl Hf.out)
    rw [← HE.out] at HO
    clear hB1
    go_wp2_with fail
    refine HO.out.mono ?_
    rintro e w2 ⟨v, rfl, hr⟩
    have hb2 : Below w1.heap.size w1 w2 := hr.2
    have K0 : Hid (w2.cell? ⟨w.heap.size, 0, none⟩ = some (.int .i64 V) ∧ w2.cell? ⟨w.heap.size, 1, none⟩ = some (.slice a0 fs.length cap)) := hid ⟨(hb2.cell (p := ⟨w.heap.size, 0, none⟩) Hs1.out).trans k0, (hb2.cell (p := ⟨w.heap.size, 1, none⟩) Hs1.out).trans k1⟩
    have HB2 := hid (HB1.out.trans (hb2.mono HB1.out.size))
    have Hs2 : Hid (w.heap.size < w2.heap.size) := hid (Nat.lt_of_lt_of_le Hs1.out hb2.size)
    have hr1 := hr.1
    obtain ⟨_, ae, ce, rfl, hse⟩ := ownsRow_slI hr1
    have hcap := own_cap2 hr1
    have HSe := hid (owned_slI hr1)
    clear hr hr1 hb2 hse HO k0 k1 HB1 Hs1
    obtain ⟨n0, n1⟩ := K0.out
    have hVw : IntKind.i64.wrap (V + 1) = V + 1 := IntWalk.i64_in _ (by omega)
    go_wp2_with fail
    clear n0 n1
    go_loopw [15] (fun iv wx => ∃ n : Nat, Hid (n ≤ V.toNat + 1 ∧ firstTo (circB fs) E n = none) ∧ iv = .int .i64 (n : Int) ∧ Hid (Below w2.heap.size w2 wx)) (fun iv _ => V.toNat + 1 - (intOf iv).toNat)
    case atStart => exact ⟨0, hid ⟨Nat.zero_le _, rfl⟩, rfl, hid (Below.refl _ _)⟩
    case round =>
      obtain ⟨n, HN, rfl, HB⟩ := hrel
      obtain ⟨hn, hnone⟩ := HN.out
      have hn0 : (0 : Int) ≤ (n : Int) := by omega
      have HKw : Hid (wr.cell? ⟨w.heap.size, 0, none⟩ = some (.int .i64 V) ∧ wr.cell? ⟨w.heap.size, 1, none⟩ = some (.slice a0 fs.length cap)) := hid ⟨(HB.out.cell (p := ⟨w.heap.size, 0, none⟩) Hs2.out).trans K0.out.1, (HB.out.cell (p := ⟨w.heap.size, 1, none⟩) Hs2.out).trans K0.out.2⟩
      have Hnone := hid hnone
      have HBw := hid (HB2.out.trans (HB.out.mono HB2.out.size))
      clear hnone
      by_cases hlt : n < V.toNat + 1
      · have hni : (n : Int) < V + 1 := by omega
        obtain ⟨m0, m1⟩ := HKw.out
        have HF := hid (first_any V a0 cap fs wr.heap.size hl HC.out n ae ce E [] (.slice none 0 0) wr (by simp; omega) (by omega) hcap.1 hcap.2 (Nat.le_refl _) (Hx0.out.later HBw.out HBw.out.size) (HSe.out.later HB.out HB.out.size) (fun x hx => by rw [← HE.out]; exact hx) (fun x hx => by cases hx) (World.ownsRow_nil _ _ _ _))
        obtain ⟨o, ho⟩ : ∃ o, o = firstC (circB fs) [] E n := ⟨_, rfl⟩
        rw [← ho] at HF
        have Hst : Hid (firstTo (circB fs) E (n + 1) = o) := hid (by rw [firstTo, Hnone.out, ← ho]; rfl)
        clear ho
        go_wp2_with fail
        refine HF.out.mono ?_
        rintro e w4 ⟨r, rfl, hg4, _, hcv⟩
        have hb4 : Below wr.heap.size wr w4 := (Below.refl _ wr).grown hg4 (Nat.le_refl _) (fun k hk => by cases hk)
        have HB4 := hid (HB.out.trans (hb4.mono HB.out.size))
        have HBB := hid (HBw.out.trans (hb4.mono HBw.out.size))
        have Hsz := hid HBw.out.size
        clear hg4 hb4 HF m0 m1
        cases o with
        | none =>
          have hr : r = .slice none 0 0 := hcv
          subst hr
          clear hcv
          go_wp2_with fail
          go_roundw
          case rel => exact ⟨n + 1, hid ⟨hlt, Hst.out⟩, by go_num, HB4⟩
          case measure => simp [intOf]; omega
        | some ch =>
          obtain ⟨b, c, hr, hownr⟩ := hcv
          subst hr
          have Hown := hid (ownsRow_base hownr Hsz.out)
          have HEn : Hid (firstTo (circB fs) E (V.toNat + 1) = some ch) := hid (firstTo_up Hst.out _ hlt)
          clear hownr
          go_wp2_with fail
          all_goals
            go_ret2
            rw [HR.out, HEn.out]
            exact ⟨_, rfl, Hown.out, HBB.out⟩
      · have hne : n = V.toNat + 1 := by omega
        have hni : ¬ (n : Int) < V + 1 := by omega
        have HEn : Hid (firstTo (circB fs) E (V.toNat + 1) = none) := hid (by rw [← hne]; exact Hnone.out)
        go_wp2_with fail
        go_ret2
        rw [HR.out, HEn.out]
        exact ⟨_, rfl, res_nil _ _ HBw.out⟩
  · refine res_monoF (show circR V fs = ([], 1) by unfold circR; rw [isCB_false hC, if_neg (by simp)]) ?_
    go_enter Try.func14, Try.ntmps14
    go_wp2_with fail
    refine (isc_no V a0 cap fs _ Hx.out hl hC).mono ?_
    rintro e w1 ⟨rfl, hB1⟩
    go_wp2_with fail
    go_ret2
    exact ⟨_, rfl, res_nil _ _ (hB0.trans (hB1.mono (by simp)))⟩

end Go.Proofs.Ytbhdipljhelddaa

/-! l03Bounds: the model's test whether a chain bounds. -/
namespace Go.Proofs.Ytbhdipljhelddaa
open Go.RowKit Go.Shelf
open Go.Sort hiding Below

theorem cntL_pos {p : Int} {S : (Nat → Int) → Prop} : ∀ (k c c' : Nat), c ≤ c' → c' < c + k → Lead p S c' → 1 ≤ cntL p S k c
  | 0, _, _, h1, h2, _ => by omega
  | k + 1, c, c', h1, h2, h => by
    rw [cntL]
    by_cases e : c' = c
    · rw [if_pos (e ▸ h)]; omega
    · have := cntL_pos k (c + 1) c' (by omega) (by omega) h
      omega
/-- A row with a number other than 0 has the rank 1. -/
theorem elim_row {w : Nat} {row : List Int} (hl : row.length = w) (hr : ∀ x ∈ row, 0 ≤ x ∧ x < 2) {j : Nat} (hj : j < w) (hne : row[j]?.getD 0 ≠ 0) : elimR 2 w 0 0 [row] ≠ 0 := by
  have hG : MatG 2 1 w [row] := ⟨rfl, fun r hm => by simp at hm; rw [hm]; exact hl, fun r hm => by simp at hm; rw [hm]; exact hr⟩
  have he : ∀ i, ent [row] 0 i = row[i]?.getD 0 := fun i => rfl
  rw [elim_lead (.inl rfl) w 0 0 [row] hG (fun i j _ _ hj => by omega) (by omega)]
  have hlead : ∃ c, c < w ∧ Lead 2 (RowsOf [row] 0) c := by
    suffices h : ∀ n, n ≤ w → (∃ c, c < w ∧ Lead 2 (RowsOf [row] 0) c) ∨ ∀ i, i < n → row[i]?.getD 0 = 0 by
      rcases h w (Nat.le_refl _) with h | h
      · exact h
      · exact absurd (h j hj) hne
    intro n
    induction n with
    | zero => exact fun _ => .inr (fun i hi => by omega)
    | succ n ih =>
      intro hn
      rcases ih (by omega) with h | h
      · exact .inl h
      · by_cases e : row[n]?.getD 0 = 0
        · exact .inr (fun i hi => by
            by_cases e2 : i = n
            · rw [e2]; exact e
            · exact h i (by omega))
        · refine .inl ⟨n, by omega, fun i => ent [row] 0 i, .mem ⟨0, Nat.le_refl _, by simp, rfl⟩, fun i hi => ?_, ?_⟩
          · simp only [he]; rw [h i hi]; exact Int.dvd_zero _
          · have := hr _ (getD_memL (d := 0) (show n < row.length by omega))
            exact not_dvd this.1 this.2 e
  obtain ⟨c, hc, hL⟩ := hlead
  have := cntL_pos w 0 c (Nat.zero_le _) (by omega) hL
  omega

set_option maxRecDepth 100000 in
set_option maxHeartbeats 1000000 in
theorem place_no (a : Option Addr) (cap : Nat) (xs : List Int) (x : Int) (w : World) (hx : SlI w w.heap.size a xs) (hl : xs.length ≤ 1048576) (hm : x ∉ xs) :
    Calls Try.prog 97 #[.slice a xs.length cap, .int .i64 x] w fun e w' => e = .returned (.int .i64 (-1)) ∧ w = w' := by
  have Hx : Hid (∀ {k : Nat}, k < xs.length → ∃ b off, a = some ⟨b, off, none⟩ ∧ ∀ i, i < xs.length → w.cell? ⟨b, off + i, none⟩ = some (.int .i64 (xs[i]?.getD 0))) := hid (fun hk => by
    rcases hx with rfl | ⟨b, off, _, h, hc⟩
    · simp at hk
    · exact ⟨b, off, h, hc⟩)
  have Hm := hid hm
  clear hx hm
  go_enter Try.func97, Try.ntmps97
  go_wp2
  go_loop [5] (fun i => ∃ k : Nat, k ≤ xs.length ∧ i = .int .i64 k) (fun i => xs.length - (intOf i).toNat)
  case atStart => exact ⟨0, Nat.zero_le _, rfl⟩
  case round =>
    obtain ⟨k, hk, rfl⟩ := hrel
    have hi0 : (0 : Int) ≤ (k : Int) := by omega
    by_cases hlt : k < xs.length
    · obtain ⟨b, off, rfl, hc⟩ := Hx.out hlt
      obtain ⟨y, hy⟩ : ∃ y, y = xs[k]?.getD 0 := ⟨_, rfl⟩
      have hck : w.cell? ⟨b, off + k, none⟩ = some (.int .i64 y) := by rw [hy]; exact hc k hlt
      have hi1 : (k : Int) < (xs.length : Int) := by omega
      have hd : (y == x) = false := by
        have : y ≠ x := fun e => Hm.out (by rw [← e, hy]; exact getD_mem hlt)
        simpa using this
      clear hy hc
      go_wp2
      go_round
      case rel => exact ⟨k + 1, by omega, by go_num⟩
      case measure => simp [intOf]; omega
    · obtain rfl : k = xs.length := by omega
      go_wp2
      go_ret
      exact ⟨rfl, rfl⟩

theorem append_runR {w : World} {base B1 T n e : Nat} {v : Value} {xs : List Value} (hown : w.ownsRow base 22 1 v xs.length xs) (hbase : base ≤ w.heap.size) (hm : xs.length ≤ 1048576)
    (hc : w.cell? ⟨B1, 0, none⟩ = some (.slice (some ⟨T, 0, none⟩) n e)) :
    ∃ v' w', (Builtin.append_ #[56, 56] 56 #[v, .slice (some ⟨B1, 0, none⟩) 1 1]).run Try.prog w = .ok v' w' ∧ w'.ownsRow base 22 1 v' (xs.length + 1) (xs ++ [.slice (some ⟨T, 0, none⟩) n e]) ∧ w.grownBy w' v.ownBlock ∧ Below base w w' := by
  obtain ⟨i0, hi, hz0, hz1, hz2⟩ := info_parts info_rows
  obtain ⟨v', w', h1, h2, h3, h4, _⟩ := run_append_own_at (P := Try.prog) (w := w) base 56 56 22 i0 (.slice none 0 0) 1 24 Try.underlying56 hi hz0 hz1 hz2 rfl (by decide) v xs.length xs hown ⟨B1, 0, none⟩ 1 1 [.slice (some ⟨T, 0, none⟩) n e] (by simp) (fun j u hj => by
    have hjl : j = 0 := by
      have := (List.getElem?_eq_some_iff.1 hj).1
      simpa using this
    subst hjl
    simp at hj
    rw [← hj]
    exact hc) (fun u hu => by
    simp at hu
    rw [hu]
    rfl) (by unfold maxLen; omega) (by omega) hbase
  exact ⟨v', w', h1, h2, h3, (Below.refl base w).grown h3 hbase (fun k hk => (hown.lt k hk).1)⟩

theorem step_append_runR {P : Program} {ops : Array Oper} {o : Oper} {a : Act} {w w' : World} {K : Act → World → Prop} {Q : Exit → Act → World → Prop} {E : Prop} (hg : o.guard = none) {s y : Operand} {T : TypeId} (ho : o.op = .call { callee := .builtin .append, args := #[s, y], argTypes := #[T, T] })
    {v u v' : Value} (hs : a.eval s = v) (hy : a.eval y = u) (hr : (Builtin.append_ #[T, T] o.type #[v, u]).run P w = .ok v' w') (hK : K (a.put o.dst v') w') :
    if Region.wanted o (yielded ops a.tmps) = true then Oper.wp P o a w K Q else E := by
  have hw : Region.wanted o (yielded ops a.tmps) = true := by simp [Region.wanted, hg]
  rw [if_pos hw]
  unfold Oper.wp execOp
  simp only [ho, resolve, invoke, builtin, Sem.run_bind, Sem.run_pure, Result.andThen_ok, List.map_toArray, List.map_cons, List.map_nil, hs, hy, hr]
  exact hK

/-- The model's rows with one row more, of any capacity, laid ahead of them. -/
theorem RowsW.matSnoc {W0 W W' : World} {base base' wd : Nat} {Ts : List Nat} {rows : List (List Int)} {v : Value} {R m cap T e : Nat} {row : List Int} (h : RowsW W0 W base' wd Ts rows v) (_hbb : base ≤ base') (hT : T < base') (hl : row.length = wd)
    (hrow : W.ownsRow base 2 1 (.slice (some ⟨T, 0, none⟩) wd e) wd (row.map (Value.int .i64)))
    (hown : W'.ownsRow base 22 1 (.slice (some ⟨R, 0, none⟩) m cap) (Ts.length + 1) (Ts.map (slT wd) ++ [.slice (some ⟨T, 0, none⟩) wd e])) (hg : W.grownBy W' v.ownBlock) :
    MatW W' base R (rows.length + 1) wd (Ts.map (fun T => (T, 0)) ++ [(T, 0)]) (rows ++ [row]) := by
  have hkeep : ∀ {T' b c : Nat} {r : List Int}, W.ownsRow b 2 1 (.slice (some ⟨T', 0, none⟩) wd c) wd (r.map (Value.int .i64)) → W'.ownsRow b 2 1 (.slice (some ⟨T', 0, none⟩) wd c) wd (r.map (Value.int .i64)) := by
    intro T' b c r hr
    refine hr.kept hg (.inr (fun e => ?_))
    obtain ⟨cur, hh, _, _⟩ := owned_block hr
    exact row_ne h.out hh (by decide) e
  obtain ⟨cur, hR, ht, hb⟩ := owned_block hown
  have hle := h.len
  have hH := holdsV_of_block hR (ss := Ts.map (slT wd) ++ [.slice (some ⟨T, 0, none⟩) wd e]) (by simpa using ht)
  have hRow := hkeep hrow
  have hTs : ∀ i, i < Ts.length → base' ≤ Ts[i]?.getD 0 ∧ Ts[i]?.getD 0 < W'.heap.size := fun i hi => by
    have h1 := (h.row i hi).2.lt (Ts[i]?.getD 0) rfl
    exact ⟨h1.1, Nat.lt_of_lt_of_le h1.2 hg.size⟩
  have hTT := hRow.lt T rfl
  have ha : ∀ i, i < Ts.length → adr (Ts.map (fun T => (T, 0)) ++ [(T, 0)]) i = (Ts[i]?.getD 0, 0) := fun i hi => by
    unfold adr
    rw [List.getElem?_append_left (by simpa using hi)]
    simp [hi]
  have hb2 : adr (Ts.map (fun T => (T, 0)) ++ [(T, 0)]) Ts.length = (T, 0) := by
    unfold adr
    rw [List.getElem?_append_right (by simp)]
    simp
  have hr1 : ∀ i, i < Ts.length → (rows ++ [row])[i]?.getD [] = rows[i]?.getD [] := fun i hi => by rw [List.getElem?_append_left (by omega)]
  have hr2 : (rows ++ [row])[Ts.length]?.getD [] = row := by rw [hle, List.getElem?_append_right (Nat.le_refl _)]; simp
  have hoff : ∀ b o, (∃ c2, W'.heap[b]? = some (.cells c2 2 o)) → b ≠ R := by
    rintro b o ⟨c2, hc2⟩ rfl
    rw [hR] at hc2
    injection hc2 with hc2
    injection hc2 with _ ht _
    exact absurd ht (by decide)
  refine ⟨by simp, by simp [hle], ?_, ?_, ?_, ?_, ?_, ?_, ⟨hb, lt_of_get hR⟩⟩
  · intro i hi
    by_cases hlt : i < Ts.length
    · rw [hr1 i hlt]; exact (h.row i hlt).1
    · obtain rfl : i = Ts.length := by omega
      rw [hr2]; exact hl
  · intro i hi
    have h2 := holdsV_at hH (i := i) (by simp; omega)
    by_cases hlt : i < Ts.length
    · rw [ha i hlt]
      have e1 : (Ts.map (slT wd) ++ [.slice (some ⟨T, 0, none⟩) wd e])[i]?.getD undef = slT wd (Ts[i]?.getD 0) := by
        rw [List.getElem?_append_left (by simpa using hlt)]
        simp [hlt]
      rw [e1] at h2
      exact ⟨⟨_, h2.1⟩, h2.2⟩
    · obtain rfl : i = Ts.length := by omega
      rw [hb2]
      have e1 : (Ts.map (slT wd) ++ [.slice (some ⟨T, 0, none⟩) wd e])[Ts.length]?.getD undef = .slice (some ⟨T, 0, none⟩) wd e := by
        rw [List.getElem?_append_right (by simp)]
        simp
      rw [e1] at h2
      exact ⟨⟨_, h2.1⟩, h2.2⟩
  · intro i hi
    by_cases hlt : i < Ts.length
    · rw [ha i hlt, hr1 i hlt]
      obtain ⟨c2, hT2, ht2, _⟩ := owned_block (hkeep (h.row i hlt).2)
      exact holds_of_blockI hT2 (by rw [(h.row i hlt).1]; exact ht2)
    · obtain rfl : i = Ts.length := by omega
      rw [hb2, hr2]
      obtain ⟨c2, hT2, ht2, _⟩ := owned_block hRow
      exact holds_of_blockI hT2 (by rw [hl]; exact ht2)
  · intro i k hi hk hik
    refine .inl ?_
    by_cases hlt : i < Ts.length
    · rw [ha i hlt]
      by_cases hlk : k < Ts.length
      · rw [ha k hlk]
        intro e
        simp only at e
        rw [List.getElem?_eq_getElem hlt, List.getElem?_eq_getElem hlk] at e
        simp only [Option.getD_some] at e
        exact hik ((List.getElem_inj h.nodup).1 e)
      · obtain rfl : k = Ts.length := by omega
        rw [hb2]
        have := hTs i hlt
        simp only
        omega
    · obtain rfl : i = Ts.length := by omega
      rw [hb2]
      have hlk : k < Ts.length := by omega
      rw [ha k hlk]
      have := hTs k hlk
      simp only
      omega
  · intro i hi
    by_cases hlt : i < Ts.length
    · rw [ha i hlt]
      obtain ⟨c2, hT2, _, _⟩ := owned_block (hkeep (h.row i hlt).2)
      exact hoff _ _ ⟨c2, hT2⟩
    · obtain rfl : i = Ts.length := by omega
      rw [hb2]
      obtain ⟨c2, hT2, _, _⟩ := owned_block hRow
      exact hoff _ _ ⟨c2, hT2⟩
  · intro i hi
    by_cases hlt : i < Ts.length
    · rw [ha i hlt]
      have := hTs i hlt
      exact ⟨by simp only; omega, this.2⟩
    · obtain rfl : i = Ts.length := by omega
      rw [hb2]
      exact hTT

set_option maxRecDepth 1000000 in
set_option maxHeartbeats 4000000 in
theorem bdsS_bds (V : Int) (a0 : Option Addr) (cap : Nat) (fs : List Int) (a1 : Option Addr) (cap1 : Nat) (ch : List Int) (w : World) (hx : SlI w w.heap.size a0 fs) (hx1 : SlI w w.heap.size a1 ch) (hl : fs.length ≤ 1048576) (hg : ch.length ≤ 1048576) (hC : IsC V fs) (hch : ∀ x ∈ ch, x ∈ ofDim fs (dimC ch)) :
    Calls Try.prog 46 #[.agg #[.int .i64 V, .slice a0 fs.length cap], .slice a1 ch.length cap1] w fun e w' => e = .returned (.bool (boundsB fs ch)) ∧ Below w.heap.size w w' := by
  have hB0 : Below w.heap.size w (w.alloc (.cells #[.int .i64 V, .slice a0 fs.length cap] 28)) := (Below.refl _ w).alloc (Nat.le_refl _) _
  by_cases h0 : ch = []
  · have He : Hid (boundsB fs ch = true) := hid (by unfold boundsB; rw [decide_eq_true h0]; rfl)
    have hlen : ch.length = 0 := by rw [h0]; rfl
    rw [hlen]
    have HB0 := hid hB0
    clear h0 hlen hx hx1 hC hch hB0
    go_enter Try.func46, Try.ntmps46
    go_wp2_with fail
    go_ret
    exact ⟨ret_bool He.out.symm, HB0.out⟩
  · have hlen : 0 < ch.length := List.length_pos_iff.2 h0
    have Hy := hid hx1
    obtain ⟨b1, o1, hb1, rfl, hc1⟩ : ∃ b off, b < w.heap.size ∧ a1 = some ⟨b, off, none⟩ ∧ ∀ i, i < ch.length → w.cell? ⟨b, off + i, none⟩ = some (.int .i64 (ch[i]?.getD 0)) := by
      rcases hx1 with h | h
      · exact absurd h h0
      · exact h
    obtain ⟨d, hd⟩ : ∃ d, d = dimC ch := ⟨_, rfl⟩
    obtain ⟨x0, hx0⟩ : ∃ x0, x0 = ch[0]?.getD 0 := ⟨_, rfl⟩
    have hx0m : x0 ∈ ofDim fs (dimC ch) := hch x0 (by rw [hx0]; exact getD_mem hlen)
    have hx0c : x0 ∈ ch := by rw [hx0]; exact getD_mem hlen
    have hx0r := hC.range63 x0 (ofDim_mem.1 hx0m).1
    have hck : w.cell? ⟨b1, o1, none⟩ = some (.int .i64 x0) := by rw [hx0]; exact hc1 0 hlen
    obtain ⟨f0, rfl⟩ : ∃ f : Nat, x0 = f := ⟨x0.toNat, by omega⟩
    have hf0 : f0 < 64 := by omega
    have hol := ones_le f0
    have hop := ones_pos ⟨f0, hf0⟩ (by simp only; omega)
    simp only at hop
    have hdd : (ones f0 : Int) - 1 = d := by rw [hd]; unfold dimC; rw [← hx0, Int.toNat_natCast]
    have hd0 : 0 ≤ d := by omega
    have hd1 : d ≤ 5 := by omega
    rw [← hd] at hch hx0m
    have He : Hid (boundsB fs ch = decide (elimR 2 (ofDim fs d).length 0 0 (bndM fs (d + 1) 2 ++ [rowOf (ofDim fs d) ch]) = rankN fs (d + 1) 2)) := hid (by unfold boundsB; rw [decide_eq_false h0, ← hd]; rfl)
    have h63 := hC.len63
    have hF63 := ofDim_len fs (d + 1)
    have hS63 := ofDim_len fs d
    have HOn := hid (fun W => ones_any f0 W hf0)
    have hwr : IntKind.i64.wrap ((ones f0 : Int) - 1) = d := by rw [hdd]; exact IntWalk.i64_in _ (by omega)
    have hadd : IntKind.i64.wrap (d + 1) = d + 1 := IntWalk.i64_in _ (by omega)
    have HOf := hid (of_any V a0 cap fs d _ (hx.later hB0 hB0.size) hl hC.range63 hd0 hd1)
    have HDi := hid (fun W (h : Below w.heap.size w W) => dimS_any V a0 cap fs W (hx.later h h.size) hl hC.range63)
    have HRo := hid (fun (h1 : d + 1 ≤ 5) W (h : Below w.heap.size w W) => rowsS_own V a0 cap fs (d + 1) 2 W (hx.later h h.size) hl hC (.inl rfl) (by omega) h1)
    simp only [Int.add_sub_cancel] at HRo
    have HRk := hid (fun (h1 : d + 1 ≤ 5) W (h : Below w.heap.size w W) => rkS_any V a0 cap fs (d + 1) 2 W (hx.later h h.size) hl hC (.inl rfl) (by omega) (by omega))
    have htop := top_hi fs
    have hdt : d ≤ top fs := by have := top_ge fs (ofDim_mem.1 hx0m).1; rw [Int.toNat_natCast] at this; omega
    have HHi : Hid (d = top fs → boundsB fs ch = false) := hid (fun e => by
      rw [He.out]
      have e1 : ofDim fs (d + 1) = [] := ofDim_high hC (by omega)
      have e2 : bndM fs (d + 1) 2 = [] := by unfold bndM; rw [e1]; rfl
      rw [rankN_none e1, e2, List.nil_append]
      refine decide_eq_false (elim_row (rowOf_len _ _) (rowOf_rng _ _) (j := (ofDim fs d).idxOf (f0 : Int)) (List.idxOf_lt_length_of_mem hx0m) ?_)
      unfold rowOf
      rw [List.getElem?_map, List.getElem?_eq_getElem (List.idxOf_lt_length_of_mem hx0m), List.getElem_idxOf]
      simp [hx0c])
    have HC := hid hC
    have HX := hid hx
    have Hch := hid hch
    have Hc1 := hid hc1
    have HB0 := hid hB0
    have hi0 : (0 : Int) < (ch.length : Int) := by omega
    clear hx hB0 hC hch hc1 h0 hd hx0 hdd hol hx0r hx0m hx0c hop
    go_enter Try.func46, Try.ntmps46
    go_wp2_with (first
      | (go_at_call 95; refine (HOn.out _).mono ?_; rintro e w' ⟨rfl, rfl⟩)
      | (go_at_call 43; refine HOf.out.mono ?_; rintro e w1 ⟨vS, rfl, hrS⟩; obtain ⟨_, aS, cS, rfl, sS⟩ := ownsRow_slI hrS.1; have HrS := hid hrS; have SS := hid sS; clear hrS sS))
    obtain ⟨n, hn⟩ : ∃ n, n = (ofDim fs d).length := ⟨_, rfl⟩
    have hS63 : n ≤ 63 := by omega
    have HSas := hid (fun x (hx : x ∈ ofDim fs d) => HC.out.range63 x (ofDim_mem.1 hx).1)
    have HB1 := hid (HB0.out.trans (HrS.out.2.mono HB0.out.size))
    have HBr0 := hid (ownsRow_base (World.ownsRow_made (base := w1.heap.size) (e := 2) (size := 1) w1 #[] 0 (by simp) (by simp [maxLen]) rfl) (Nat.le_refl _))
    have HK0 : Hid (w1.cell? ⟨w.heap.size, 0, none⟩ = some (.int .i64 V) ∧ w1.cell? ⟨w.heap.size, 1, none⟩ = some (.slice a0 fs.length cap)) := hid ⟨(HrS.out.2.cell (p := ⟨w.heap.size, 0, none⟩) (by simp)).trans (by simp [go_sem]), (HrS.out.2.cell (p := ⟨w.heap.size, 1, none⟩) (by simp)).trans (by simp [go_sem])⟩
    have HwL : Hid (w.heap.size < w1.heap.size) := hid (by have := HrS.out.2.size; simp at this; omega)
    obtain ⟨S, hS⟩ : ∃ S, S = ofDim fs d := ⟨_, rfl⟩
    rw [← hS] at hn SS HSas Hch
    rw [← hS, ← hn] at He ⊢
    have Hn := hid hn
    have HSe := hid hS
    clear hF63 hn hS HrS HOf HOn
    go_loopw [7, 8] (fun v i wr => ∃ (k : Nat) (xs : List Int), Hid (k ≤ n ∧ xs = rowOf (S.take k) ch ∧ xs.length = k) ∧ i = .int .i64 k ∧ Hid (wr.ownsRow w1.heap.size 2 1 v xs.length (xs.map (Value.int .i64))) ∧ Hid (Below w1.heap.size w1 wr)) (fun _ i _ => n - (intOf i).toNat)
    case atStart => exact ⟨0, [], hid ⟨Nat.zero_le _, by simp [rowOf], rfl⟩, rfl, by simpa using HBr0, hid ((Below.refl _ w1).alloc (Nat.le_refl _) _)⟩
    case round =>
      clear HBr0
      obtain ⟨k, xs, HKx, rfl, HO, HB⟩ := hrel
      obtain ⟨hk, hxs, hxl⟩ := HKx.out
      have hk0 : (0 : Int) ≤ (k : Int) := by omega
      by_cases hlt : k < n
      · have hkS : k < S.length := by rw [← Hn.out]; exact hlt
        obtain ⟨x, hx⟩ : ∃ x, x = S[k]?.getD 0 := ⟨_, rfl⟩
        obtain ⟨bS, oS, rfl, hcS⟩ : ∃ b off, aS = some ⟨b, off, none⟩ ∧ b < w1.heap.size ∧ w1.cell? ⟨b, off + k, none⟩ = some (.int .i64 x) := by
          rcases SS.out with h | ⟨b, off, hb, h, hc⟩
          · rw [h] at hkS; simp at hkS
          · exact ⟨b, off, h, hb, by rw [hx]; exact hc k hkS⟩
        have hckS : wr.cell? ⟨bS, oS + k, none⟩ = some (.int .i64 x) := (HB.out.cell (p := ⟨bS, oS + k, none⟩) hcS.1).trans hcS.2
        have hbs := HB.out.size
        have Hxs' : Hid (rowOf (S.take (k + 1)) ch = xs ++ [if x ∈ ch then 1 else 0]) := hid (by rw [take_snoc hkS, hxs]; unfold rowOf; rw [List.map_append, hx]; rfl)
        have hki : (k : Int) < (n : Int) := by omega
        have hxl2 : xs.length ≤ 1099511627776 := by omega
        have Hxl := hid hxl
        by_cases hm : x ∈ ch
        · have HP := hid (place_at (some ⟨b1, o1, none⟩) cap1 ch x wr ((Hy.out.below (HB1.out.trans (HB.out.mono HB1.out.size))).mono (HB1.out.trans (HB.out.mono HB1.out.size)).size) hg hm)
          have hge : decide ((0 : Int) ≤ (ch.idxOf x : Int)) = true := by simp
          obtain ⟨q, hq⟩ : ∃ q, q = ch.idxOf x := ⟨_, rfl⟩
          have hq0 : (0 : Int) ≤ (q : Int) := by omega
          rw [← hq] at HP hge
          rw [if_pos hm] at Hxs'
          have hown := HO.out
          clear hm hq hx hcS hxs hxl HKx
          go_wp2_with (first
            | (go_at_call 97; refine HP.out.mono ?_; rintro e w' ⟨rfl, rfl⟩)
            | (at_builtin; refine append_int rfl rfl hown hbs hxl2 rfl rfl ?_; intro v' w4 hown4 hgrow4 hB4; have Hown4 := hid hown4; have HB4 := hid (HB.out.trans hB4); clear hown4 hgrow4 hB4))
          go_roundw
          case rel => exact ⟨k + 1, xs ++ [1], hid ⟨hlt, Hxs'.out.symm, by simp [Hxl.out]⟩, by go_num, Hown4, HB4⟩
          case measure => simp [intOf]; omega
        · have HP := hid (place_no (some ⟨b1, o1, none⟩) cap1 ch x wr ((Hy.out.below (HB1.out.trans (HB.out.mono HB1.out.size))).mono (HB1.out.trans (HB.out.mono HB1.out.size)).size) hg hm)
          rw [if_neg hm] at Hxs'
          have hown := HO.out
          clear hm hx hcS hxs hxl HKx
          go_wp2_with (first
            | (go_at_call 97; refine HP.out.mono ?_; rintro e w' ⟨rfl, rfl⟩)
            | (at_builtin; refine append_int rfl rfl hown hbs hxl2 rfl rfl ?_; intro v' w4 hown4 hgrow4 hB4; have Hown4 := hid hown4; have HB4 := hid (HB.out.trans hB4); clear hown4 hgrow4 hB4))
          go_roundw
          case rel => exact ⟨k + 1, xs ++ [0], hid ⟨hlt, Hxs'.out.symm, by simp [Hxl.out]⟩, by go_num, Hown4, HB4⟩
          case measure => simp [intOf]; omega
      · obtain rfl : k = n := by omega
        rw [List.take_of_length_le (by rw [← Hn.out]; exact Nat.le_refl _)] at hxs
        have hn1 : 1 ≤ k := by
          have := Hch.out _ (getD_mem hlen)
          rw [Hn.out]
          exact List.length_pos_of_mem this
        obtain ⟨k', rfl⟩ : ∃ k', k = k' + 1 := ⟨k - 1, by omega⟩
        have hO := HO.out
        rw [hxl] at hO
        obtain ⟨T, cT, rfl⟩ := ownsRow_succ hO
        have HO2 := hid hO
        have Hxs := hid hxs
        have HBw := hid (HB1.out.trans (HB.out.mono HB1.out.size))
        have HKw : Hid (wr.cell? ⟨w.heap.size, 0, none⟩ = some (.int .i64 V) ∧ wr.cell? ⟨w.heap.size, 1, none⟩ = some (.slice a0 fs.length cap)) := hid ⟨(HB.out.cell (p := ⟨w.heap.size, 0, none⟩) HwL.out).trans HK0.out.1, (HB.out.cell (p := ⟨w.heap.size, 1, none⟩) HwL.out).trans HK0.out.2⟩
        obtain ⟨n0, n1⟩ := HKw.out
        have HDw := hid (HDi.out wr HBw.out)
        clear hO HO hxs hxl HKx HK0
        by_cases hdm : d = top fs
        · have Hb := hid (HHi.out hdm)
          have hdq : (d == top fs) = true := by simpa using hdm
          clear hdm
          go_wp2_with (first
            | (go_at_call 98; refine HDw.out.mono ?_; rintro e w2 ⟨rfl, hB2⟩; have HB2 := hid (HBw.out.trans (hB2.mono HBw.out.size)); clear hB2))
          go_ret
          exact ⟨ret_bool Hb.out.symm, HB2.out⟩
        · have hdq : (d == top fs) = false := by simpa using hdm
          have hd5 : d + 1 ≤ 5 := by omega
          clear hdm
          go_wp2_with (first
            | (go_at_call 98; refine HDw.out.mono ?_; rintro e w2 ⟨rfl, hB2⟩; have HB2 := hid hB2; clear hB2))
          obtain ⟨x0, hx0⟩ : ∃ x, x = w2.drew := ⟨_, rfl⟩
          have hb0 : Below wr.heap.size wr x0 := by rw [hx0]; exact HB2.out.trans ((show Below w2.heap.size w2 w2.drew from ⟨rfl, rfl, rfl, Nat.le_refl _, fun _ _ => rfl⟩).mono HB2.out.size)
          refine region_M 13 (fun W : World => W.cell? ⟨w.heap.size, 0, none⟩ = some (.int .i64 V) ∧ W.cell? ⟨w.heap.size, 1, none⟩ = some (.slice a0 fs.length cap)) (by kernel_rfl) ?_
          rw [← hx0]
          have hwr : w.heap.size < wr.heap.size := Nat.lt_of_lt_of_le HwL.out HB.out.size
          have HX0 : Hid (x0.cell? ⟨w.heap.size, 0, none⟩ = some (.int .i64 V) ∧ x0.cell? ⟨w.heap.size, 1, none⟩ = some (.slice a0 fs.length cap)) := hid ⟨(hb0.cell (p := ⟨w.heap.size, 0, none⟩) hwr).trans HKw.out.1, (hb0.cell (p := ⟨w.heap.size, 1, none⟩) hwr).trans HKw.out.2⟩
          have HBx := hid (HBw.out.trans (hb0.mono HBw.out.size))
          have HRow := hid (ownsRow_below HO2.out hb0 (fun g hg => (HO2.out.lt g hg).2))
          have HTx := hid (HRow.out.lt T rfl)
          have Hwx : Hid (w.heap.size < x0.heap.size) := hid (Nat.lt_of_lt_of_le hwr hb0.size)
          have HwB : Hid (w1.heap.size ≤ x0.heap.size) := hid (Nat.le_trans HB.out.size hb0.size)
          clear hx0 hb0 hwr n0 n1 HB2 HDw HKw hdq
          refine anyM_take (i := 0) (v := .agg #[.int .i64 V, .slice a0 fs.length cap]) [3, 6, 7, 12, 13] rfl (by kernel_rfl) (fun _ _ _ h => h) (Or.inl ⟨by rfl, fun W hW => by (obtain ⟨z0, z1⟩ := hW; go_simp)⟩) HX0.out ?_
          refine anyM_take (i := 1) (v := .int .i64 d) [2, 3, 6, 7, 12, 13] rfl (by kernel_rfl) (fun _ _ _ h => h) (Or.inl ⟨by rfl, fun W hW => by go_simp⟩) HX0.out ?_
          refine anyM_take (i := 2) (v := .int .i64 (d + 1)) [3, 6, 7, 12, 13] rfl (by kernel_rfl) (fun _ _ _ h => h) (Or.inl ⟨by rfl, fun W hW => by go_simp⟩) HX0.out ?_
          refine anyM_take (i := 4) (v := .slice (some ⟨T, 0, none⟩) (k' + 1) cT) [5, 6, 7, 12, 13] rfl (by kernel_rfl) (fun _ _ _ h => h) (Or.inl ⟨by rfl, fun W hW => by go_simp⟩) HX0.out ?_
          refine anyM_take (i := 8) (v := .agg #[.int .i64 V, .slice a0 fs.length cap]) [11, 12, 13] rfl (by kernel_rfl) (fun _ _ _ h => h) (Or.inl ⟨by rfl, fun W hW => by (obtain ⟨z0, z1⟩ := hW; go_simp)⟩) HX0.out ?_
          refine anyM_take (i := 9) (v := .int .i64 d) [10, 11, 12, 13] rfl (by kernel_rfl) (fun _ _ _ h => h) (Or.inl ⟨by rfl, fun W hW => by go_simp⟩) HX0.out ?_
          refine anyM_take (i := 10) (v := .int .i64 (d + 1)) [11, 12, 13] rfl (by kernel_rfl) (fun _ _ _ h => h) (Or.inl ⟨by rfl, fun W hW => by go_simp⟩) HX0.out ?_
          refine anyM_ready (rs := [3, 5]) (by kernel_rfl) (by simp) ?_
          refine AllM.cons rfl (fun K hK => ?_) (AllM.cons rfl (fun K hK => ?_) AllM.nil)
          focus
            go_simp
            go_at_call 100
            refine (HRo.out hd5 _ HBx.out).mono ?_
            rintro e x1 ⟨R, Ts, cp, rfl, hR⟩
            have hb1 := hR.below
            obtain ⟨bR, hbR⟩ : ∃ b, b = x0.heap.size := ⟨_, rfl⟩
            have HX1 : Hid (x1.cell? ⟨w.heap.size, 0, none⟩ = some (.int .i64 V) ∧ x1.cell? ⟨w.heap.size, 1, none⟩ = some (.slice a0 fs.length cap)) := hid ⟨(hb1.cell (p := ⟨w.heap.size, 0, none⟩) Hwx.out).trans HX0.out.1, (hb1.cell (p := ⟨w.heap.size, 1, none⟩) Hwx.out).trans HX0.out.2⟩
            have hB1x := HBx.out.trans (hb1.mono HBx.out.size)
            have hRow1 := ownsRow_below HRow.out hb1 (fun g hg => (HRow.out.lt g hg).2)
            have hTR : T < bR := by rw [hbR]; exact HTx.out.2
            have hbase : w1.heap.size ≤ bR := by rw [hbR]; exact HwB.out
            have hsz := hb1.size
            rw [← hbR] at hR hsz
            have HR1 := hid hR
            clear hb1 hR
            refine hK.out _ _ (fun _ => HX1.out) ?_
            clear hK K
            refine anyM_ready (rs := [5]) (by kernel_rfl) (by simp) ?_
            refine AllM.cons rfl (fun K hK => ?_) AllM.nil
            go_simp
            obtain ⟨B1, hB1⟩ : ∃ b, b = x1.heap.size := ⟨_, rfl⟩
            obtain ⟨x2, hx2⟩ : ∃ x, x = x1.alloc (.cells #[.slice (some ⟨T, 0, none⟩) (k' + 1) cT] 22) := ⟨_, rfl⟩
            have hb2 : Below x1.heap.size x1 x2 := by rw [hx2]; exact (Below.refl _ x1).alloc (Nat.le_refl _) _
            have hc2 : x2.cell? ⟨B1, 0, none⟩ = some (.slice (some ⟨T, 0, none⟩) (k' + 1) cT) := by rw [hx2, hB1]; simp [go_sem]
            have hw1 : w.heap.size < x1.heap.size := Nat.lt_of_lt_of_le Hwx.out (by rw [← hbR]; exact hsz)
            have HX2 : Hid (x2.cell? ⟨w.heap.size, 0, none⟩ = some (.int .i64 V) ∧ x2.cell? ⟨w.heap.size, 1, none⟩ = some (.slice a0 fs.length cap)) := hid ⟨(hb2.cell (p := ⟨w.heap.size, 0, none⟩) hw1).trans HX1.out.1, (hb2.cell (p := ⟨w.heap.size, 1, none⟩) hw1).trans HX1.out.2⟩
            have HC2 := hid hc2
            have HR2 := hid (HR1.out.later hb2 hsz)
            have HRow2 := hid (ownsRow_below hRow1 hb2 (fun g hg => (hRow1.lt g hg).2))
            have HBx2 := hid (hB1x.trans (hb2.mono hB1x.size))
            have HbR2 : Hid (bR ≤ x2.heap.size ∧ T < bR ∧ w1.heap.size ≤ bR) := hid ⟨Nat.le_trans hsz hb2.size, hTR, hbase⟩
            rw [← hB1, ← hx2]
            clear hB1 hx2 hb2 hc2 hw1 HX1 hB1x hRow1 hTR hbase hsz HR1 hbR
            refine hK.out _ _ (fun _ => HX2.out) ?_
            clear hK K
          rotate_left
          focus
            go_simp
            obtain ⟨B1, hB1⟩ : ∃ b, b = x0.heap.size := ⟨_, rfl⟩
            obtain ⟨x1, hx1⟩ : ∃ x, x = x0.alloc (.cells #[.slice (some ⟨T, 0, none⟩) (k' + 1) cT] 22) := ⟨_, rfl⟩
            have hb1 : Below x0.heap.size x0 x1 := by rw [hx1]; exact (Below.refl _ x0).alloc (Nat.le_refl _) _
            have hc1 : x1.cell? ⟨B1, 0, none⟩ = some (.slice (some ⟨T, 0, none⟩) (k' + 1) cT) := by rw [hx1, hB1]; simp [go_sem]
            have hB1l : B1 < x1.heap.size := by rw [hx1, hB1]; simp
            have HX1 : Hid (x1.cell? ⟨w.heap.size, 0, none⟩ = some (.int .i64 V) ∧ x1.cell? ⟨w.heap.size, 1, none⟩ = some (.slice a0 fs.length cap)) := hid ⟨(hb1.cell (p := ⟨w.heap.size, 0, none⟩) Hwx.out).trans HX0.out.1, (hb1.cell (p := ⟨w.heap.size, 1, none⟩) Hwx.out).trans HX0.out.2⟩
            have hB1x := HBx.out.trans (hb1.mono HBx.out.size)
            have hRow1 := ownsRow_below HRow.out hb1 (fun g hg => (HRow.out.lt g hg).2)
            have hw1 : w.heap.size < x1.heap.size := Nat.lt_of_lt_of_le Hwx.out hb1.size
            have hTx1 : T < x1.heap.size := Nat.lt_of_lt_of_le HTx.out.2 hb1.size
            have hbase : w1.heap.size ≤ x1.heap.size := Nat.le_trans HwB.out hb1.size
            rw [← hB1, ← hx1]
            clear hB1 hx1 hb1
            refine hK.out _ _ (fun _ => HX1.out) ?_
            clear hK K
            refine anyM_ready (rs := [3]) (by kernel_rfl) (by simp) ?_
            refine AllM.cons rfl (fun K hK => ?_) AllM.nil
            go_simp
            go_at_call 100
            refine (HRo.out hd5 _ hB1x).mono ?_
            rintro e x2 ⟨R, Ts, cp, rfl, hR⟩
            have hb2 := hR.below
            obtain ⟨bR, hbR⟩ : ∃ b, b = x1.heap.size := ⟨_, rfl⟩
            have HX2 : Hid (x2.cell? ⟨w.heap.size, 0, none⟩ = some (.int .i64 V) ∧ x2.cell? ⟨w.heap.size, 1, none⟩ = some (.slice a0 fs.length cap)) := hid ⟨(hb2.cell (p := ⟨w.heap.size, 0, none⟩) hw1).trans HX1.out.1, (hb2.cell (p := ⟨w.heap.size, 1, none⟩) hw1).trans HX1.out.2⟩
            have HC2 := hid ((hb2.cell (p := ⟨B1, 0, none⟩) hB1l).trans hc1)
            have HRow2 := hid (ownsRow_below hRow1 hb2 (fun g hg => (hRow1.lt g hg).2))
            have HBx2 := hid (hB1x.trans (hb2.mono hB1x.size))
            have hsz := hb2.size
            rw [← hbR] at hR hsz hTx1 hbase
            have HR2 := hid hR
            have HbR2 : Hid (bR ≤ x2.heap.size ∧ T < bR ∧ w1.heap.size ≤ bR) := hid ⟨hsz, hTx1, hbase⟩
            clear hb2 hR HX1 hB1x hRow1 hw1 hTx1 hbase hbR hsz hc1 hB1l
            refine hK.out _ _ (fun _ => HX2.out) ?_
            clear hK K
          all_goals
            have hwd : k' + 1 = (ofDim fs d).length := by rw [Hn.out, HSe.out]
            have hrl : (rowOf S ch).length = k' + 1 := by rw [rowOf_len, Hn.out]
            rw [← hwd] at HR2
            have hTl : Ts.length = (bndM fs (d + 1) 2).length := HR2.out.len
            have hbl : (bndM fs (d + 1) 2).length ≤ 63 := by have := ofDim_len fs (d + 1); simp [bndM]; omega
            have hG3 := matG_app (bndM_up_good (fs := fs) d (p := 2) (.inl rfl)) (row := rowOf S ch) (by rw [hrl, hwd]) (rowOf_rng S ch)
            rw [← hwd, show (ofDim fs (d + 1)).length = Ts.length by rw [hTl]; simp [bndM]] at hG3
            obtain ⟨v3, x3, hr3, hown3, hg3, hb3⟩ := append_runR (base := w1.heap.size) (ownsRow_base HR2.out.out HbR2.out.2.2) (Nat.le_trans HbR2.out.2.2 HbR2.out.1) (by simp; omega) HC2.out
            rw [List.length_map] at hown3
            obtain ⟨R3, cp3, rfl⟩ := ownsRow_succ hown3
            have hRw := HRow2.out
            rw [Hxs.out] at hRw
            have hM3 := HR2.out.matSnoc (base := w1.heap.size) HbR2.out.2.2 HbR2.out.2.1 hrl hRw hown3 hg3
            rw [← hTl] at hM3
            have HM3 := hid hM3
            have HG3 := hid hG3
            have HX3 : Hid (x3.cell? ⟨w.heap.size, 0, none⟩ = some (.int .i64 V) ∧ x3.cell? ⟨w.heap.size, 1, none⟩ = some (.slice a0 fs.length cap)) := hid ⟨(hb3.cell (p := ⟨w.heap.size, 0, none⟩) HwL.out).trans HX2.out.1, (hb3.cell (p := ⟨w.heap.size, 1, none⟩) HwL.out).trans HX2.out.2⟩
            have HBx3 := hid (HBx2.out.trans (hb3.mono (by have := HwL.out; omega)))
            have HTl := hid (show Ts.length ≤ 63 by omega)
            have HWd := hid (show k' + 1 ≤ 63 by omega)
            have HHe : Hid (boundsB fs ch = decide (elimR 2 (k' + 1) 0 0 (bndM fs (d + 1) 2 ++ [rowOf S ch]) = rankN fs (d + 1) 2)) := He
            clear hM3 hG3 hown3 hg3 hb3 hRw hrl hwd hTl hbl
            refine anyM_ready (rs := [6]) (by kernel_rfl) (by simp) ?_
            refine AllM.cons rfl (fun K hK => ?_) AllM.nil
            refine step_append_runR (s := .tmp 47) (y := .tmp 49) rfl rfl rfl rfl hr3 ?_
            refine hK.out _ _ (fun _ => HX3.out) ?_
            clear hK K hr3
            refine anyM_ready (rs := [7]) (by kernel_rfl) (by simp) ?_
            refine AllM.cons rfl (fun K hK => ?_) AllM.nil
            go_simp
            go_at_call 99
            refine (rankS_any w1.heap.size R3 (Ts.length + 1) (k' + 1) cp3 _ 2 _ x3 HM3.out HG3.out (.inl rfl) (by omega) (by have := HTl.out; omega) (by have := HWd.out; omega)).mono ?_
            rintro e x4 ⟨rfl, hb4⟩
            have HX4 : Hid (x4.cell? ⟨w.heap.size, 0, none⟩ = some (.int .i64 V) ∧ x4.cell? ⟨w.heap.size, 1, none⟩ = some (.slice a0 fs.length cap)) := hid ⟨(hb4.cell (p := ⟨w.heap.size, 0, none⟩) HwL.out).trans HX3.out.1, (hb4.cell (p := ⟨w.heap.size, 1, none⟩) HwL.out).trans HX3.out.2⟩
            have HBx4 := hid (HBx3.out.trans (hb4.mono (by have := HwL.out; omega)))
            obtain ⟨ra, hra⟩ : ∃ r, r = elimR 2 (k' + 1) 0 0 (bndM fs (d + 1) 2 ++ [rowOf S ch]) := ⟨_, rfl⟩
            obtain ⟨rb, hrb⟩ : ∃ r, r = rankN fs (d + 1) 2 := ⟨_, rfl⟩
            have HRkk := hid (HRk.out hd5 x4 HBx4.out)
            rw [← hra, ← hrb] at HHe
            rw [← hra]
            rw [← hrb] at HRkk
            clear hb4 hra hrb
            refine hK.out _ _ (fun _ => HX4.out) ?_
            clear hK K
            refine anyM_ready (rs := [11]) (by kernel_rfl) (by simp) ?_
            refine AllM.cons rfl (fun K hK => ?_) AllM.nil
            go_simp
            go_at_call 101
            refine HRkk.out.mono ?_
            rintro e x5 ⟨rfl, hb5⟩
            have hw4 : w.heap.size < x4.heap.size := by have h1 := HBx4.out.size; exact World.block_lt_of_cell? _ _ HX4.out.1
            have HX5 : Hid (x5.cell? ⟨w.heap.size, 0, none⟩ = some (.int .i64 V) ∧ x5.cell? ⟨w.heap.size, 1, none⟩ = some (.slice a0 fs.length cap)) := hid ⟨(hb5.cell (p := ⟨w.heap.size, 0, none⟩) hw4).trans HX4.out.1, (hb5.cell (p := ⟨w.heap.size, 1, none⟩) hw4).trans HX4.out.2⟩
            have HBx5 := hid (HBx4.out.trans (hb5.mono HBx4.out.size))
            clear hb5 hw4
            refine hK.out _ _ (fun _ => HX5.out) ?_
            clear hK K
            refine anyM_ready (rs := [12]) (by kernel_rfl) (by simp) ?_
            refine AllM.cons rfl (fun K hK => ?_) AllM.nil
            go_simp
            refine hK.out _ _ (fun _ => HX5.out) ?_
            clear hK K
            refine anyM_ready (rs := [13]) (by kernel_rfl) (by simp) ?_
            refine AllM.cons rfl (fun K hK => ?_) AllM.nil
            go_simp
            refine hK.out _ _ (fun h => absurd rfl h) ?_
            clear hK K
            refine anyM_done (by kernel_rfl) ?_ _
            go_wp2_with fail
            go_ret
            exact ⟨ret_bool (by rw [HHe.out, Bool.eq_iff_iff]; simp; omega), HBx5.out⟩

end Go.Proofs.Ytbhdipljhelddaa

/-! Sums of ascending lists, and the boundary of a chain: the model's. -/
namespace Go.Proofs.Ytbhdipljhelddaa
open Go.RowKit

theorem drop_at {xs : List Int} {i : Nat} (h : i < xs.length) : xs.drop i = xs[i]?.getD 0 :: xs.drop (i + 1) := by
  rw [List.drop_eq_getElem_cons h, List.getElem?_eq_getElem h]; rfl

set_option maxRecDepth 100000 in
set_option maxHeartbeats 8000000 in
theorem sum_any (a : Option Addr) (ca : Nat) (A : List Int) (b0 : Option Addr) (cb : Nat) (B : List Int) (w : World) (ha : SlI w w.heap.size a A) (hb : SlI w w.heap.size b0 B) (hla : A.length ≤ 1048576) (hlb : B.length ≤ 1048576) :
    Calls Try.prog 96 #[.slice a A.length ca, .slice b0 B.length cb] w fun e w' => ∃ v, e = .returned v ∧ Res w w' v (sumL A B) := by
  have hown0 := World.ownsRow_made (base := w.heap.size) (e := 2) (size := 1) w #[] 0 (by simp) (by simp [maxLen]) rfl
  have Hown0 := hid hown0
  have HA := hid ha
  have HB' := hid hb
  have Hlen := hid (sumL_len _ A B (Nat.le_refl _))
  clear hown0 ha hb
  go_enter Try.func96, Try.ntmps96
  go_wp2
  go_loopw [5, 6, 7] (fun v p q wr => ∃ (i k : Nat) (O : List Int), i ≤ A.length ∧ k ≤ B.length ∧ p = .int .i64 i ∧ q = .int .i64 k ∧ wr.ownsRow w.heap.size 2 1 v O.length (O.map (Value.int .i64)) ∧ Hid (O ++ sumL (A.drop i) (B.drop k) = sumL A B) ∧ Below w.heap.size w wr) (fun _ p q _ => A.length + B.length - (intOf p).toNat - (intOf q).toNat)
  case atStart => exact ⟨0, 0, [], Nat.zero_le _, Nat.zero_le _, rfl, rfl, Hown0.out, hid (by simp), (Below.refl _ w).alloc (Nat.le_refl _) _⟩
  case round =>
    obtain ⟨i, k, O, hi, hk, rfl, rfl, hown, Hs, hB⟩ := hrel
    have HO := hid hown
    have HB := hid hB
    have HS := hid hB.size
    have hOl : O.length ≤ 2097152 := by have := congrArg List.length Hs.out; rw [List.length_append] at this; have := Hlen.out; omega
    clear hown hB Hown0
    by_cases hia : i < A.length
    · obtain ⟨ba, oa, hba, rfl, hca⟩ : ∃ b off, b < w.heap.size ∧ a = some ⟨b, off, none⟩ ∧ ∀ i, i < A.length → w.cell? ⟨b, off + i, none⟩ = some (.int .i64 (A[i]?.getD 0)) := by
        rcases HA.out with h | h
        · rw [h] at hia; simp at hia
        · exact h
      have hcx : wr.cell? ⟨ba, oa + i, none⟩ = some (.int .i64 (A[i]?.getD 0)) := (HB.out.cell (p := ⟨ba, oa + i, none⟩) hba).trans (hca i hia)
      have hda := drop_at hia
      obtain ⟨x, hx⟩ : ∃ x, x = A[i]?.getD 0 := ⟨_, rfl⟩
      rw [← hx] at hcx hda
      have hi0 : (0 : Int) ≤ (i : Int) := by omega
      have hi1 : (i : Int) < (A.length : Int) := by omega
      have hi2 : ((i : Int) == (A.length : Int)) = false := beq_eq_false_iff_ne.2 (by omega)
      by_cases hkb : k < B.length
      · obtain ⟨bb, ob, hbb, rfl, hcb⟩ : ∃ b off, b < w.heap.size ∧ b0 = some ⟨b, off, none⟩ ∧ ∀ i, i < B.length → w.cell? ⟨b, off + i, none⟩ = some (.int .i64 (B[i]?.getD 0)) := by
          rcases HB'.out with h | h
          · rw [h] at hkb; simp at hkb
          · exact h
        have hcy : wr.cell? ⟨bb, ob + k, none⟩ = some (.int .i64 (B[k]?.getD 0)) := (HB.out.cell (p := ⟨bb, ob + k, none⟩) hbb).trans (hcb k hkb)
        have hdb := drop_at hkb
        obtain ⟨y, hy⟩ : ∃ y, y = B[k]?.getD 0 := ⟨_, rfl⟩
        rw [← hy] at hcy hdb
        have hk0 : (0 : Int) ≤ (k : Int) := by omega
        have hk1 : (k : Int) < (B.length : Int) := by omega
        have hk2 : ((k : Int) == (B.length : Int)) = false := beq_eq_false_iff_ne.2 (by omega)
        have Hda := hid hda
        have Hdb := hid hdb
        clear hx hy hca hcb hda hdb
        by_cases hxy : x < y
        · have He := hid (sumL_lt (A.drop (i + 1)) (B.drop (k + 1)) hxy)
          have hd : decide (x < y) = true := decide_eq_true hxy
          go_wp2_with fail
          refine wp_region_quiet_lit (by kernel_rfl) (by kernel_rfl) ?_
          iterate 22 (with_reducible refine wpQuiet_step (fun K hK => ?_); have HK := hid hK; clear hK; go_simp; (first | with_reducible refine HK.out _ ?_ | (rw [if_neg (by decide)]; with_reducible refine HK.out _ ?_)); clear HK K)
          with_reducible refine wpQuiet_nil ?_
          intro _ hw'
          obtain ⟨nq, hw''⟩ := hw'
          subst hw''
          go_wp2_with (at_builtin; refine append_int rfl rfl HO.out HS.out (by omega) rfl rfl ?_; intro v' w2 hown2 hgrow2 hB2)
          go_roundw
          case rel => exact ⟨i + 1, k, O ++ [x], by omega, by omega, by go_num, by go_num, hown2, hid (by rw [List.append_assoc, ← Hs.out, Hda.out, Hdb.out, He.out]; rfl), HB.out.trans (Below.mono (w := wr) ⟨hB2.os, hB2.tape, hB2.output, hB2.size, hB2.block⟩ (Nat.le_refl _))⟩
          case measure => simp [intOf]; omega
        · have hd : decide (x < y) = false := decide_eq_false hxy
          by_cases hyx : y < x
          · have He := hid (sumL_gt (A.drop (i + 1)) (B.drop (k + 1)) hyx)
            have hd2 : decide (y < x) = true := decide_eq_true hyx
            go_wp2_with fail
            refine wp_region_quiet_lit (by kernel_rfl) (by kernel_rfl) ?_
            iterate 22 (with_reducible refine wpQuiet_step (fun K hK => ?_); have HK := hid hK; clear hK; go_simp; (first | with_reducible refine HK.out _ ?_ | (rw [if_neg (by decide)]; with_reducible refine HK.out _ ?_)); clear HK K)
            with_reducible refine wpQuiet_nil ?_
            intro _ hw'
            obtain ⟨nq, hw''⟩ := hw'
            subst hw''
            go_wp2_with fail
            refine wp_region_quiet_lit (by kernel_rfl) (by kernel_rfl) ?_
            iterate 16 (with_reducible refine wpQuiet_step (fun K hK => ?_); have HK := hid hK; clear hK; go_simp; (first | with_reducible refine HK.out _ ?_ | (rw [if_neg (by decide)]; with_reducible refine HK.out _ ?_)); clear HK K)
            with_reducible refine wpQuiet_nil ?_
            intro _ hw'
            obtain ⟨nq, hw''⟩ := hw'
            subst hw''
            go_wp2_with (at_builtin; refine append_int rfl rfl HO.out HS.out (by omega) rfl rfl ?_; intro v' w2 hown2 hgrow2 hB2)
            go_roundw
            case rel => exact ⟨i, k + 1, O ++ [y], by omega, by omega, by go_num, by go_num, hown2, hid (by rw [List.append_assoc, ← Hs.out, Hda.out, Hdb.out, He.out]; rfl), HB.out.trans (Below.mono (w := wr) ⟨hB2.os, hB2.tape, hB2.output, hB2.size, hB2.block⟩ (Nat.le_refl _))⟩
            case measure => simp [intOf]; omega
          · have hd2 : decide (y < x) = false := decide_eq_false hyx
            obtain rfl : x = y := by omega
            have He := hid (sumL_eq x (A.drop (i + 1)) (B.drop (k + 1)))
            go_wp2_with fail
            refine wp_region_quiet_lit (by kernel_rfl) (by kernel_rfl) ?_
            iterate 22 (with_reducible refine wpQuiet_step (fun K hK => ?_); have HK := hid hK; clear hK; go_simp; (first | with_reducible refine HK.out _ ?_ | (rw [if_neg (by decide)]; with_reducible refine HK.out _ ?_)); clear HK K)
            with_reducible refine wpQuiet_nil ?_
            intro _ hw'
            obtain ⟨nq, hw''⟩ := hw'
            subst hw''
            go_wp2_with fail
            refine wp_region_quiet_lit (by kernel_rfl) (by kernel_rfl) ?_
            iterate 16 (with_reducible refine wpQuiet_step (fun K hK => ?_); have HK := hid hK; clear hK; go_simp; (first | with_reducible refine HK.out _ ?_ | (rw [if_neg (by decide)]; with_reducible refine HK.out _ ?_)); clear HK K)
            with_reducible refine wpQuiet_nil ?_
            intro _ hw'
            obtain ⟨nq, hw''⟩ := hw'
            subst hw''
            go_wp2_with fail
            go_roundw
            case rel => exact ⟨i + 1, k + 1, O, by omega, by omega, by go_num, by go_num, HO.out, hid (by rw [← Hs.out, Hda.out, Hdb.out, He.out]), HB.out.trans ⟨rfl, rfl, rfl, Nat.le_refl _, fun _ _ => rfl⟩⟩
            case measure => simp [intOf]; omega
      · obtain rfl : k = B.length := by omega
        have hk2 : ((B.length : Int) == (B.length : Int)) = true := by simp
        have He := hid (sumL_nil' (A.drop (i + 1)))
        have Hda := hid hda
        clear hx hca hda
        go_wp2_with fail
        refine wp_region_quiet_lit (by kernel_rfl) (by kernel_rfl) ?_
        iterate 22 (with_reducible refine wpQuiet_step (fun K hK => ?_); have HK := hid hK; clear hK; go_simp; (first | with_reducible refine HK.out _ ?_ | (rw [if_neg (by decide)]; with_reducible refine HK.out _ ?_)); clear HK K)
        with_reducible refine wpQuiet_nil ?_
        intro _ hw'
        obtain ⟨nq, hw''⟩ := hw'
        subst hw''
        go_wp2_with (at_builtin; refine append_int rfl rfl HO.out HS.out (by omega) rfl rfl ?_; intro v' w2 hown2 hgrow2 hB2)
        go_roundw
        case rel => exact ⟨i + 1, B.length, O ++ [x], by omega, by omega, by go_num, by go_num, hown2, hid (by rw [List.append_assoc, ← Hs.out, Hda.out, List.drop_length, sumL_nil', sumL_nil']; rfl), HB.out.trans (Below.mono (w := wr) ⟨hB2.os, hB2.tape, hB2.output, hB2.size, hB2.block⟩ (Nat.le_refl _))⟩
        case measure => simp [intOf]; omega
    · obtain rfl : i = A.length := by omega
      have hi2 : ((A.length : Int) == (A.length : Int)) = true := by simp
      by_cases hkb : k < B.length
      · obtain ⟨bb, ob, hbb, rfl, hcb⟩ : ∃ b off, b < w.heap.size ∧ b0 = some ⟨b, off, none⟩ ∧ ∀ i, i < B.length → w.cell? ⟨b, off + i, none⟩ = some (.int .i64 (B[i]?.getD 0)) := by
          rcases HB'.out with h | h
          · rw [h] at hkb; simp at hkb
          · exact h
        have hcy : wr.cell? ⟨bb, ob + k, none⟩ = some (.int .i64 (B[k]?.getD 0)) := (HB.out.cell (p := ⟨bb, ob + k, none⟩) hbb).trans (hcb k hkb)
        have hdb := drop_at hkb
        obtain ⟨y, hy⟩ : ∃ y, y = B[k]?.getD 0 := ⟨_, rfl⟩
        rw [← hy] at hcy hdb
        have hk0 : (0 : Int) ≤ (k : Int) := by omega
        have hk1 : (k : Int) < (B.length : Int) := by omega
        have hk2 : ((k : Int) == (B.length : Int)) = false := beq_eq_false_iff_ne.2 (by omega)
        have Hdb := hid hdb
        clear hy hcb hdb
        go_wp2_with fail
        refine wp_region_quiet_lit (by kernel_rfl) (by kernel_rfl) ?_
        iterate 22 (with_reducible refine wpQuiet_step (fun K hK => ?_); have HK := hid hK; clear hK; go_simp; (first | with_reducible refine HK.out _ ?_ | (rw [if_neg (by decide)]; with_reducible refine HK.out _ ?_)); clear HK K)
        with_reducible refine wpQuiet_nil ?_
        intro _ hw'
        obtain ⟨nq, hw''⟩ := hw'
        subst hw''
        go_wp2_with fail
        refine wp_region_quiet_lit (by kernel_rfl) (by kernel_rfl) ?_
        iterate 16 (with_reducible refine wpQuiet_step (fun K hK => ?_); have HK := hid hK; clear hK; go_simp; (first | with_reducible refine HK.out _ ?_ | (rw [if_neg (by decide)]; with_reducible refine HK.out _ ?_)); clear HK K)
        with_reducible refine wpQuiet_nil ?_
        intro _ hw'
        obtain ⟨nq, hw''⟩ := hw'
        subst hw''
        go_wp2_with (at_builtin; refine append_int rfl rfl HO.out HS.out (by omega) rfl rfl ?_; intro v' w2 hown2 hgrow2 hB2)
        go_roundw
        case rel => exact ⟨A.length, k + 1, O ++ [y], by omega, by omega, by go_num, by go_num, hown2, hid (by rw [List.append_assoc, ← Hs.out, Hdb.out, List.drop_length, sumL_nil, sumL_nil]; rfl), HB.out.trans (Below.mono (w := wr) ⟨hB2.os, hB2.tape, hB2.output, hB2.size, hB2.block⟩ (Nat.le_refl _))⟩
        case measure => simp [intOf]; omega
      · obtain rfl : k = B.length := by omega
        have He : Hid (O = sumL A B) := hid (by have := Hs.out; rw [List.drop_length, List.drop_length, sumL_nil] at this; simpa using this)
        go_wp2
        go_ret
        exact ⟨_, rfl, by rw [← He.out]; exact HO.out, HB.out⟩

end Go.Proofs.Ytbhdipljhelddaa

/-! FundamentalChain, the model's. -/
namespace Go.Proofs.Ytbhdipljhelddaa
open Go.RowKit

theorem par_mem {p : Int} {L : List Int} (h : par p L = true) : p ∈ L := by
  unfold par at h
  have := of_decide_eq_true h
  exact List.count_pos_iff.1 (by omega)

theorem sidesAll_range {ch : List Int} (h : ∀ x ∈ ch, 1 ≤ x ∧ x ≤ 63) {p : Int} (hp : p ∈ sidesAll ch) : 1 ≤ p ∧ p ≤ 63 := by
  unfold sidesAll at hp
  obtain ⟨x, hx, hm⟩ := List.mem_flatMap.1 hp
  have hxr := h x hx
  obtain ⟨q, hq, rfl⟩ := List.mem_map.1 hm
  have := (sides_sub ⟨x.toNat, by omega⟩ q hq).1
  have := q.isLt
  omega

theorem bdS_len {ch : List Int} (h : ∀ x ∈ ch, 1 ≤ x ∧ x ≤ 63) : (bdS ch).length ≤ 63 := by
  obtain ⟨h1, h2⟩ := bdS_spec ch h
  have := asc_len (bdS ch) 1 h2 (fun x hx => sidesAll_range h (par_mem ((h1 x).1 hx)))
  omega

set_option maxRecDepth 100000 in
set_option maxHeartbeats 2000000 in
theorem bdS_any (a1 : Option Addr) (c2 : Nat) (ch : List Int) (w : World) (hx : SlI w w.heap.size a1 ch) (hch : ∀ x ∈ ch, 1 ≤ x ∧ x ≤ 63) (hcl : ch.length ≤ 1048576) :
    Calls Try.prog 45 #[.slice a1 ch.length c2] w fun e w' => ∃ v, e = .returned v ∧ Res w w' v (bdS ch) := by
  have hown0 := World.ownsRow_made (base := w.heap.size) (e := 2) (size := 1) w #[] 0 (by simp) (by simp [maxLen]) rfl
  have Hown0 := hid hown0
  have HX := hid hx
  have Hch := hid hch
  clear hown0 hx hch
  go_enter Try.func45, Try.ntmps45
  go_wp2
  go_loopw [3, 4] (fun v i wr => ∃ k : Nat, k ≤ ch.length ∧ i = .int .i64 k ∧ wr.ownsRow w.heap.size 2 1 v (bdS (ch.take k)).length ((bdS (ch.take k)).map (Value.int .i64)) ∧ Below w.heap.size w wr) (fun _ i _ => ch.length - (intOf i).toNat)
  case atStart => exact ⟨0, Nat.zero_le _, rfl, by simpa [bdS] using Hown0.out, (Below.refl _ w).alloc (Nat.le_refl _) _⟩
  case round =>
    obtain ⟨k, hk, rfl, hown, hB⟩ := hrel
    clear Hown0
    by_cases hlt : k < ch.length
    · obtain ⟨b, off, hb, rfl, hc⟩ : ∃ b off, b < w.heap.size ∧ a1 = some ⟨b, off, none⟩ ∧ ∀ i, i < ch.length → w.cell? ⟨b, off + i, none⟩ = some (.int .i64 (ch[i]?.getD 0)) := by
        rcases HX.out with h | h
        · rw [h] at hlt; simp at hlt
        · exact h
      obtain ⟨x, hx⟩ : ∃ x, x = ch[k]?.getD 0 := ⟨_, rfl⟩
      have hck : wr.cell? ⟨b, off + k, none⟩ = some (.int .i64 x) := by rw [hx]; exact (hB.cell (p := ⟨b, off + k, none⟩) hb).trans (hc k hlt)
      have hxr := Hch.out _ (getD_mem hlt)
      rw [← hx] at hxr
      have Hsn : Hid (bdS (ch.take (k + 1)) = sumL (bdS (ch.take k)) (belowR x.toNat 63)) := hid (by rw [take_snoc hlt, ← hx, bdS_snoc])
      have hol := bdS_len (ch := ch.take k) (fun y hy => Hch.out y (List.mem_of_mem_take hy))
      have hyl := belowR_len x.toNat 63
      obtain ⟨ys, hys⟩ : ∃ ys, ys = belowR x.toNat 63 := ⟨_, rfl⟩
      rw [← hys] at Hsn hyl
      have Hys := hid hys
      obtain ⟨O, hO⟩ : ∃ O, O = bdS (ch.take k) := ⟨_, rfl⟩
      rw [← hO] at Hsn hol hown
      have hi0 : (0 : Int) ≤ (k : Int) := by omega
      have hi1 : (k : Int) < (ch.length : Int) := by omega
      have HB := hid hB
      have Hol : Hid (O.length ≤ 1048576) := hid (by omega)
      have Hyl : Hid (ys.length ≤ 1048576) := hid (by omega)
      have Hown := hid hown
      obtain ⟨_, av, cv, rfl, hs⟩ := ownsRow_slI hown
      have Hs := hid hs
      have HBel := hid (below_as x ys wr (by omega) (by omega) hys)
      have Hle := hid hB.size
      clear hx hc hys hO hB hown hs hol hyl
      go_wp2_with (first
        | (go_at_call 52; refine HBel.out.mono ?_; rintro e w1 ⟨ab, cb, rfl, hsb, hB1⟩; have HS1 := hid (sum_any av cv O ab cb ys w1 (Hs.out.later hB1 hB1.size) hsb Hol.out Hyl.out); have HB1 := hid hB1; clear hsb hB1)
        | (go_at_call 96; refine HS1.out.mono ?_; rintro e w2 ⟨v2, rfl, hr⟩; have HR := hid hr; clear hr))
      go_roundw
      case rel =>
        have hb1 := HB.out.trans (HB1.out.mono Hle.out)
        have hb2 : Below w1.heap.size w1 w2 := HR.out.2
        exact ⟨k + 1, by omega, by go_num, by rw [Hsn.out]; exact ownsRow_base HR.out.1 hb1.size, hb1.trans (hb2.mono hb1.size)⟩
      case measure => simp [intOf]; omega
    · obtain rfl : k = ch.length := by omega
      rw [List.take_of_length_le (Nat.le_refl _)] at hown
      go_wp2
      go_ret
      exact ⟨_, rfl, hown, hB⟩

set_option maxRecDepth 100000 in
set_option maxHeartbeats 1000000 in
theorem of_empty (V : Int) (a : Option Addr) (cap : Nat) (d : Int) (w : World) :
    Calls Try.prog 43 #[.agg #[.int .i64 V, .slice a 0 cap], .int .i64 d] w fun e w' => ∃ v, e = .returned v ∧ Res w w' v (ofDim [] d) := by
  have hB0 : Below w.heap.size w (w.alloc (.cells #[.int .i64 V, .slice a 0 cap] 28)) := (Below.refl _ w).alloc (Nat.le_refl _) _
  have hB00 := (hB0.alloc (by simp) (.cells #[] 2))
  have hown0 := World.ownsRow_made (base := w.heap.size + 1) (e := 2) (size := 1) (w.alloc (.cells #[.int .i64 V, .slice a 0 cap] 28)) #[] 0 (by simp) (by simp [maxLen]) rfl
  rw [World.size_alloc] at hown0
  have Hown0 := hid hown0
  clear hown0
  go_enter Try.func43, Try.ntmps43
  go_wp2
  refine wp_loop_rounds 1 ?_; rw [rounds_succ]
  go_wp2
  go_ret
  exact ⟨_, rfl, ownsRow_base (by simpa [ofDim] using Hown0.out) (Nat.le_succ _), hB00⟩

theorem of_top (V : Int) (a : Option Addr) (cap : Nat) (fs : List Int) (w : World) (hx : SlI w w.heap.size a fs) (hl : fs.length ≤ 1048576) (hf : ∀ x ∈ fs, 1 ≤ x ∧ x ≤ 63) :
    Calls Try.prog 43 #[.agg #[.int .i64 V, .slice a fs.length cap], .int .i64 (top fs)] w fun e w' => ∃ v, e = .returned v ∧ Res w w' v (ofDim fs (top fs)) := by
  cases fs with
  | nil => exact of_empty V a cap (top []) w
  | cons x fs =>
    have hxr := hf x (by simp)
    have h1 := top_ge (x :: fs) (x := x) (by simp)
    have h2 : 0 < ones x.toNat := ones_pos ⟨x.toNat, by omega⟩ (by show x.toNat ≠ 0; omega)
    exact of_any V a cap (x :: fs) (top (x :: fs)) w hx hl hf (by omega) (top_hi _)


end Go.Proofs.Ytbhdipljhelddaa
