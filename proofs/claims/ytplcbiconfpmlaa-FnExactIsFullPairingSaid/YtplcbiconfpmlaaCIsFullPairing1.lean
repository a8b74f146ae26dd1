import Derived.Test.YtplcbiconfpmlaaMB8
import Derived.Test.YtplcbiconfpmlaaMB5
import Derived.Test.YtplcbiconfpmlaaMB6
import Derived.Test.YtplcbiconfpmlaaMB7
import Derived.Test.YtplcbiconfpmlaaMB3
/-! l08Code. -/
namespace Go.Proofs.Ytplcbiconfpmlaa
open Go.RowKit

theorem pcode_zero {V : Int} {fs ps : List Int} {n : Nat} (h : pcodeR V fs n ps = 0) : IsC V fs ∧ OkTo fs ps n := by
  rcases pcode_cases V fs n ps with ⟨hC, ho, _⟩ | ⟨_, _, h2, _⟩ | ⟨_, h2, _⟩
  · exact ⟨hC, ho⟩
  · rw [h2] at h; cases h
  · rw [h2] at h; cases h
theorem acode_zero {V : Int} {fs ps : List Int} {n : Nat} (h : acodeR V fs n ps true = 0) : IsC V fs ∧ OkTo fs ps n ∧ acyB ps n = true := by
  unfold acodeR at h
  by_cases hp : pcodeR V fs n ps = 0
  · rw [if_pos hp, if_pos rfl] at h
    refine ⟨(pcode_zero hp).1, (pcode_zero hp).2, ?_⟩
    cases ha : acyB ps n
    · rw [ha] at h; cases h
    · rfl
  · rw [if_neg hp] at h
    exact absurd h hp

set_option maxRecDepth 1000000 in
set_option maxHeartbeats 2000000 in
theorem code8_any (V : Int) (a0 : Option Addr) (cap : Nat) (fs : List Int) (a1 : Option Addr) (n cap1 : Nat) (ps : List Int) (w : World) (hx : SlI w w.heap.size a0 fs) (hx1 : SlI w w.heap.size a1 ps) (hl : fs.length ≤ 1048576) (hp : ps.length = 2 * n) (hn : n ≤ 1048576) :
    Calls Try.prog 62 #[.agg #[.int .i64 V, .slice a0 fs.length cap], .slice a1 n cap1] w fun e w' => e = .returned (.int .i64 (acodeR V fs n ps true)) ∧ Below w.heap.size w w' := by
  have hB0 : Below w.heap.size w (w.alloc (.cells #[.int .i64 V, .slice a0 fs.length cap] 28)) := (Below.refl _ w).alloc (Nat.le_refl _) _
  have HK := hid (pcode_spec V a0 cap fs a1 n cap1 ps _ (hx.later hB0 hB0.size) (hx1.later hB0 hB0.size) hl hp hn)
  have HB0 := hid hB0
  by_cases hpc : pcodeR V fs n ps = 0
  · obtain ⟨hC, hO⟩ := pcode_zero hpc
    have HA := hid (fun (W : World) (h : Below w.heap.size w W) => acyclicS_any a1 n cap1 ps W (hx1.later h h.size) hp hn (okTo_highs hC hO) (okTo_lows hC hO))
    have HE : Hid (acodeR V fs n ps true = if acyB ps n = true then 0 else 5) := hid (by unfold acodeR; rw [if_pos hpc, if_pos rfl])
    rw [hpc] at HK
    obtain ⟨E, hE⟩ : ∃ E, E = acodeR V fs n ps true := ⟨_, rfl⟩
    rw [← hE] at HE ⊢
    obtain ⟨ab, hab⟩ : ∃ ab, ab = acyB ps n := ⟨_, rfl⟩
    rw [← hab] at HE HA
    clear hx hx1 hB0 hpc hE hab hC hO
    go_enter Try.func62, Try.ntmps62
    go_wp2_with fail
    refine HK.out.mono ?_
    rintro e w1 ⟨rfl, hB1⟩
    have HB1 := hid (HB0.out.trans (hB1.mono (by simp)))
    clear hB1
    cases ab
    · go_wp2_with (go_at_call 77; refine (HA.out _ HB1.out).mono ?_; rintro e w2 ⟨rfl, hB2⟩; have HB2 := hid hB2; clear hB2)
      go_ret
      exact ⟨by rw [HE.out]; rfl, HB1.out.trans (HB2.out.mono HB1.out.size)⟩
    · go_wp2_with (go_at_call 77; refine (HA.out _ HB1.out).mono ?_; rintro e w2 ⟨rfl, hB2⟩; have HB2 := hid hB2; clear hB2)
      go_ret
      exact ⟨by rw [HE.out]; rfl, HB1.out.trans (HB2.out.mono HB1.out.size)⟩
  · have HE : Hid (acodeR V fs n ps true = pcodeR V fs n ps) := hid (by unfold acodeR; rw [if_neg hpc])
    obtain ⟨E, hE⟩ : ∃ E, E = acodeR V fs n ps true := ⟨_, rfl⟩
    rw [← hE] at HE ⊢
    rw [← HE.out] at HK hpc
    have hcn : (E == 0) = false := by simpa using hpc
    clear hx hx1 hB0 hpc hE
    go_enter Try.func62, Try.ntmps62
    go_wp2_with fail
    refine HK.out.mono ?_
    rintro e w1 ⟨rfl, hB1⟩
    have HB1 := hid (HB0.out.trans (hB1.mono (by simp)))
    clear hB1
    go_wp2_with fail
    go_ret
    exact ⟨rfl, HB1.out⟩

end Go.Proofs.Ytplcbiconfpmlaa

/-! FillPairing, both doors. -/
namespace Go.Proofs.Ytplcbiconfpmlaa
open Go.RowKit

theorem step_append_run {P : Program} {ops : Array Oper} {o : Oper} {a : Act} {w w' : World} {K : Act → World → Prop} {Q : Exit → Act → World → Prop} {E : Prop} (hg : o.guard = none) {s y : Operand} {T : TypeId} (ho : o.op = .call { callee := .builtin .append, args := #[s, y], argTypes := #[T, T] })
    {v u v' : Value} (hs : a.eval s = v) (hy : a.eval y = u) (hr : (Builtin.append_ #[T, T] o.type #[v, u]).run P w = .ok v' w') (hK : K (a.put o.dst v') w') :
    if Region.wanted o (yielded ops a.tmps) = true then Oper.wp P o a w K Q else E := by
  have hw : Region.wanted o (yielded ops a.tmps) = true := by simp [Region.wanted, hg]
  rw [if_pos hw]
  exact wp_append_run ho hs hy hr hK

theorem append_run2 {w : World} {base : Nat} {v : Value} {m : Nat} {xs ys : List Int} {ad : Addr} {l c : Nat} (hown : w.ownsRow base 49 2 v m (xs.map (Value.int .i64))) (hbase : base ≤ w.heap.size) (hm : m ≤ 1048576) (hl : l ≤ 1048576) (hys : ys.length = l * 2)
    (hc : ∀ j, j < l * 2 → w.cell? (ad.add j) = some (.int .i64 (ys[j]?.getD 0))) :
    ∃ v' w', (Builtin.append_ #[40, 40] 40 #[v, .slice (some ad) l c]).run Try.prog w = .ok v' w' ∧ w'.ownsRow base 49 2 v' (m + l) ((xs ++ ys).map (Value.int .i64)) ∧ w.grownBy w' v.ownBlock ∧ Below base w w' ∧ (v' = .slice none 0 0 ↔ v = .slice none 0 0 ∧ l = 0) := by
  obtain ⟨i0, hi, hz0, hz1, hz2⟩ := info_parts info_pair
  obtain ⟨v', w', h1, h2, h3, h4, _⟩ := run_append_own_at (P := Try.prog) (w := w) base 40 40 49 i0 (.agg #[.int .i64 0, .int .i64 0]) 2 16 Try.underlying40 hi hz0 hz1 hz2 rfl (by decide) v m (xs.map (Value.int .i64)) hown ad l c (ys.map (Value.int .i64)) (by simp [hys]) (fun j u hj => by
    have hjl : j < ys.length := by
      have := (List.getElem?_eq_some_iff.1 hj).1
      simpa using this
    have h := hc j (by omega)
    rw [List.getElem?_map, List.getElem?_eq_getElem hjl] at hj
    rw [List.getElem?_eq_getElem hjl] at h
    simp at hj h
    rw [h, hj]) (fun u hu => by
    obtain ⟨x, _, rfl⟩ := List.mem_map.1 hu
    rfl) (by unfold maxLen; omega) (by omega) hbase
  exact ⟨v', w', h1, by rw [List.map_append]; exact h2, h3, (Below.refl base w).grown h3 hbase (fun k hk => (hown.lt k hk).1), h4⟩

noncomputable def fillR (V : Int) (fs : List Int) (n : Nat) (ps : List Int) : List (Int × Int) × Int := if acodeR V fs n ps true = 0 then (unP (fillF fs ps (allP fs fs.length)), 0) else ([], acodeR V fs n ps true)
theorem fillR_len (V : Int) (fs : List Int) (n : Nat) (ps : List Int) (_h : fs.length ≤ 1048576) (hp : ps.length = 2 * n) (_hn : n ≤ 1048576) : (fillR V fs n ps).1.length ≤ 1048576 := by
  unfold fillR
  split
  · next h =>
    obtain ⟨hC, hO, _⟩ := acode_zero h
    obtain ⟨m, h1, h2, _⟩ := fillF_ok (fs := fs) (allP fs fs.length) hp hO
    have := okTo_len hC h2
    rw [unP_len m _ h1]
    omega
  · simp

set_option maxRecDepth 1000000 in
set_option maxHeartbeats 4000000 in
theorem specFillPairing (V : Int) (a0 : Option Addr) (cap : Nat) (fs : List Int) (g n : Nat) (ps : List Int) (w : World) (hx : SlI w w.heap.size a0 fs) (hx1 : SlI w w.heap.size (some ⟨g, 0, none⟩) ps) (hl : fs.length ≤ 1048576) (hp : ps.length = 2 * n) (hn : n ≤ 1048576) :
    Calls Try.prog 32 #[.agg #[.int .i64 V, .slice a0 fs.length cap], .slice (some ⟨g, 0, none⟩) n n] w fun e w' => ∃ v, e = .returned (.tuple #[v, .int .i64 (fillR V fs n ps).2]) ∧ ResP w w' v (fillR V fs n ps).1 := by
  have hB0 : Below w.heap.size w (w.alloc (.cells #[.int .i64 V, .slice a0 fs.length cap] 28)) := (Below.refl _ w).alloc (Nat.le_refl _) _
  have HK := hid (code8_any V a0 cap fs (some ⟨g, 0, none⟩) n n ps _ (hx.later hB0 hB0.size) (hx1.later hB0 hB0.size) hl hp hn)
  have Hx := hid hx
  have Hy := hid hx1
  by_cases hpc : acodeR V fs n ps true = 0
  · obtain ⟨hC, hO, _⟩ := acode_zero hpc
    refine pairs_monoG (show fillR V fs n ps = (unP (fillF fs ps (allP fs fs.length)), 0) by unfold fillR; rw [if_pos hpc]) ?_
    rw [hpc] at HK
    have HF := hid (fun (W : World) (h : Below w.heap.size w W) (g' c' : Nat) (hr : RowQ W g' n c' ps) => fillS_any V a0 cap fs g' n c' ps W (Hx.out.later h h.size) hC hp hr hO)
    have hn64 := okTo_len hC hO
    obtain ⟨q, hq⟩ : ∃ q, q = fillF fs ps (allP fs fs.length) := ⟨_, rfl⟩
    rw [← hq] at HF ⊢
    have Hp := hid hp
    clear hx hx1 hpc hC hO hq hp
    go_enter Try.func32, Try.ntmps32
    go_wp2_with fail
    refine HK.out.mono ?_
    rintro e w1 ⟨rfl, hB1⟩
    have hB01 := hB0.trans (hB1.mono (by simp))
    have q0 : w1.heap[w.heap.size]? = some (.cells #[.int .i64 V, .slice a0 fs.length cap] 28 (0, 0)) := (hB1.block _ (by simp)).trans (heap_alloc_new _ _)
    obtain ⟨k0, k1, _, _⟩ := two_of q0
    have HB01 := hid hB01
    have Q0 := hid q0
    clear hB0 hB1 hB01 q0
    go_wp2_with fail
    obtain ⟨W2, hW2⟩ : ∃ W2, W2 = (w1.alloc (.cells #[] 49)).drew := ⟨_, rfl⟩
    have hBw2 : Below w1.heap.size w1 W2 := by rw [hW2]; have h := (Below.refl _ w1).alloc (Nat.le_refl _) (.cells #[] 49); exact ⟨h.os, h.tape, h.output, h.size, h.block⟩
    have hown0 : W2.ownsRow w1.heap.size 49 2 (.slice (some ⟨w1.heap.size, 0, none⟩) 0 0) 0 [] := by rw [hW2]; exact (World.ownsRow_made (base := w1.heap.size) (e := 49) (size := 2) w1 #[] 0 (Nat.le_refl _) (by unfold maxLen; omega) rfl).drew
    obtain ⟨v4, W4, hr4, hown4, hg4, hb4, hnn⟩ := append_run2 (xs := []) (m := 0) (ad := ⟨g, 0, none⟩) (l := n) (c := n) (ys := ps) hown0 hBw2.size (by omega) (by omega) (by have := Hp.out; omega) (fun j hj => by
      have h := Hy.out.later (HB01.out.trans (hBw2.mono HB01.out.size)) (HB01.out.trans (hBw2.mono HB01.out.size)).size
      rcases h with h | ⟨b, off, hb, h, hc⟩
      · have := Hp.out; rw [h] at this; simp at this; omega
      · injection h with h
        injection h with h1 h2 _
        subst h1; subst h2
        have hadd : (⟨g, 0, none⟩ : Addr).add j = ⟨g, 0 + j, none⟩ := by unfold Addr.add; split <;> simp_all
        rw [hadd]
        exact hc j (by have := Hp.out; omega))
    rw [List.nil_append, Nat.zero_add] at hown4
    subst hW2
    obtain ⟨g4, c4, rfl⟩ : ∃ g c, v4 = .slice (some ⟨g, 0, none⟩) n c := by
      rcases hown4.2 with ⟨h1, h0⟩ | ⟨g, cp, cur, h1, _⟩
      · exact absurd (hnn.1 h1).1 (by simp)
      · exact ⟨g, cp, h1⟩
    have HO4 := hid hown4
    have HB4 := hid (HB01.out.trans ((hBw2.trans hb4).mono HB01.out.size))
    have q1 := two_of ((hb4.block _ (by have := lt_of_get Q0.out; simp; omega)).trans ((hBw2.block _ (lt_of_get Q0.out)).trans Q0.out))
    obtain ⟨j0, j1, _, _⟩ := q1
    have hw4 : w.heap.size < W4.heap.size := by have := lt_of_get Q0.out; have := hb4.size; have := hBw2.size; simp at *; omega
    have HC4 := hid (HF.out W4 HB4.out g4 c4 (rowQ_of HO4.out))
    clear hown0 hown4 hb4 hg4 hBw2
    go_region_held3 (fun w' => w'.cell? ⟨w.heap.size, 0, none⟩ = some (.int .i64 V) ∧ w'.cell? ⟨w.heap.size, 1, none⟩ = some (.slice a0 fs.length cap)) (go_keep) (first
      | (refine step_append_run (s := .tmp 14) (y := .tmp 15) rfl rfl rfl rfl hr4 ?_)
      | (go_at_call 69; refine HC4.out.mono ?_; rintro e w5 ⟨g5, n5, c5, rfl, hl5, hR5, hB5⟩; have i0 := (hB5.cell (p := ⟨w.heap.size, 0, none⟩) hw4).trans j0; have i1 := (hB5.cell (p := ⟨w.heap.size, 1, none⟩) hw4).trans j1; have Hl5 := hid hl5; have HR5 := hid hR5; have HB5 := hid hB5; clear hl5 hR5 hB5))
    all_goals
      go_wp2_with fail
      go_ret2
      refine ⟨_, rfl, resP_un Hl5.out ?_ (HB4.out.trans (HB5.out.mono HB4.out.size))⟩
      rcases HR5.out.2 with h | ⟨rfl, rfl, rfl, rfl⟩
      · exact ownsRow_base h HB4.out.size
      · exact row_later (B := 0) (ownsRow_base HO4.out HB01.out.size) HB5.out rfl
  · obtain ⟨c, hc⟩ : ∃ c, c = acodeR V fs n ps true := ⟨_, rfl⟩
    refine pairs_monoG (show fillR V fs n ps = ([], c) by unfold fillR; rw [if_neg hpc, hc]) ?_
    rw [← hc] at hpc HK
    have hcn : (c != 0) = true := by simpa using hpc
    clear hc hpc hx hx1 hp
    go_enter Try.func32, Try.ntmps32
    go_wp2_with fail
    refine HK.out.mono ?_
    rintro e w1 ⟨rfl, hB1⟩
    go_wp2_with fail
    go_ret2
    exact ⟨_, rfl, World.ownsRow_nil _ _ _ _, hB0.trans (hB1.mono (by simp))⟩

set_option maxRecDepth 1000000 in
set_option maxHeartbeats 8000000 in
theorem implFillPairing (V : Int) (a0 : Option Addr) (cap : Nat) (fs : List Int) (a1 : Option Addr) (n cap1 : Nat) (ps : List Int) (w : World) (hx : SlI w w.heap.size a0 fs) (hx1 : SlI w w.heap.size a1 ps) (hl : fs.length ≤ 1048576) (hp : ps.length = 2 * n) (hn : n ≤ 1048576) (hw : ∀ x ∈ ps, (Lit.int .i64 x).wf = true) :
    Calls Try.prog 33 #[.agg #[.int .i64 V, .slice a0 fs.length cap], .slice a1 n cap1] w fun e w' => ∃ v, e = .returned (.tuple #[v, .int .i64 (fillR V fs n ps).2]) ∧ ResP w w' v (fillR V fs n ps).1 := by
  have hB0 : Below w.heap.size w (w.alloc (.cells #[.int .i64 V, .slice a0 fs.length cap] 28)) := (Below.refl _ w).alloc (Nat.le_refl _) _
  have HK := hid (acode_any V a0 cap fs a1 n cap1 ps true _ (hx.later hB0 hB0.size) (hx1.later hB0 hB0.size) hl hp hn hw)
  by_cases hpc : acodeR V fs n ps true = 0
  · obtain ⟨hC, hO, _⟩ := acode_zero hpc
    refine pairs_monoG (show fillR V fs n ps = (unP (fillF fs ps (allP fs fs.length)), 0) by unfold fillR; rw [if_pos hpc]) ?_
    rw [hpc] at HK
    have HC := hid hC
    have Hx0 := hid hx
    have HCl := hid (fun (W : World) (h : Below w.heap.size w W) => clone_any a1 n cap1 ps W (hx1.later h h.size) hp hn)
    obtain ⟨vn, rfl⟩ : ∃ vn : Nat, V = (vn : Int) := ⟨V.toNat, by have := hC.lo; omega⟩
    have Hpe : Hid (pairsL fs vn fs.length = allP fs fs.length) := hid (by have := allP_pairs hC; rwa [Int.toNat_natCast] at this)
    have HLl : Hid ((allP fs fs.length).length ≤ 63 * 63) := hid (Nat.le_trans (allP_len hC.len63 _ (Nat.le_refl _)) (Nat.mul_le_mul hC.len63 (Nat.le_refl _)))
    have Hmem : Hid (∀ p ∈ allP fs fs.length, pairB fs p.1 p.2 = true) := hid (fun p hp => by
      rw [← Hpe.out] at hp
      have := (mem_pairsL hC p.1 p.2).1 (by rw [Int.toNat_natCast]; exact hp)
      exact this)
    obtain ⟨L, hL⟩ : ∃ L, L = allP fs fs.length := ⟨_, rfl⟩
    rw [← hL] at Hpe HLl Hmem ⊢
    have Hp := hid hp
    have HO0 := hid hO
    clear hC hx hx1 hL hp hO hpc hw
    go_enter Try.func33, Try.ntmps33
    go_wp2_with fail
    refine HK.out.mono ?_
    rintro e w0 ⟨rfl, hB1⟩
    have hB01 := hB0.trans (hB1.mono (by simp))
    have q0 : w0.heap[w.heap.size]? = some (.cells #[.int .i64 (vn : Int), .slice a0 fs.length cap] 28 (0, 0)) := (hB1.block _ (by simp)).trans (heap_alloc_new _ _)
    have HB00 := hid hB01
    have Q0 := hid q0
    clear hB0 hB1 hB01 q0
    go_wp2_with fail
    refine (HCl.out w0 HB00.out).mono ?_
    rintro e w1 ⟨v1, rfl, hown1, hB1⟩
    obtain ⟨a1', c1, rfl⟩ : ∃ a c, v1 = .slice a n c := by
      rcases hown1.2 with ⟨h1, h0⟩ | ⟨g, cp, cur, h1, _⟩
      · exact ⟨none, 0, by rw [h1, h0]⟩
      · exact ⟨_, cp, h1⟩
    have hB01 := HB00.out.trans (hB1.mono HB00.out.size)
    obtain ⟨k0, k1, _, _⟩ := two_of ((hB1.block _ (lt_of_get Q0.out)).trans Q0.out)
    have HP := hid (pairsOf_any vn a0 cap fs w1 (Hx0.out.later hB01 hB01.size) hl HC.out)
    rw [Hpe.out] at HP
    have HB01 := hid hB01
    have HO1 := hid (ownsRow_base hown1 HB00.out.size)
    clear hB1 hB01 hown1
    go_wp2_with fail
    refine HP.out.mono ?_
    rintro e w2 ⟨v2, rfl, hR2, hB2⟩
    obtain ⟨_, av, cv, rfl, _⟩ := pairs_form hR2
    have HRa := hid hR2
    have HO2 := hid (row_later (B := 0) HO1.out hB2 rfl)
    have HB2 := hid (HB01.out.trans (hB2.mono HB01.out.size))
    clear hR2 hB2 HP
    go_wp2_with fail
    go_loopw [7, 23] (fun v i wr => ∃ (k n' c' : Nat) (a' : Option Addr), k ≤ L.length ∧ i = .int .i64 k ∧ v = .slice a' n' c' ∧ Hid ((fillF fs ps (L.take k)).length = 2 * n' ∧ OkTo fs (fillF fs ps (L.take k)) n') ∧ Hid (wr.ownsRow w.heap.size 49 2 (.slice a' n' c') n' ((fillF fs ps (L.take k)).map (Value.int .i64))) ∧ Hid (Below w2.heap.size w2 wr)) (fun _ i _ => L.length - (intOf i).toNat)
    case atStart => exact ⟨0, n, c1, a1', Nat.zero_le _, rfl, rfl, hid ⟨by simpa [fillF] using Hp.out, by simpa [fillF] using HO0.out⟩, hid (by simpa [fillF] using HO2.out), hid (Below.refl _ _)⟩
    case round =>
      obtain ⟨k, n', c', a', hk, rfl, rfl, Hn', HR', HB⟩ := hrel
      obtain ⟨q, hq⟩ : ∃ q, q = fillF fs ps (L.take k) := ⟨_, rfl⟩
      have Hqe := hid hq
      rw [← hq] at Hn' HR'
      clear hq
      by_cases hlt : k < L.length
      · have hra := row_later (B := 0) HRa.out HB.out rfl
        obtain ⟨b2, rfl⟩ : ∃ b2, av = some ⟨b2, 0, none⟩ := by
          rcases hra.2 with ⟨h1, h0⟩ | ⟨g, cp, cur, h1, _⟩
          · omega
          · injection h1 with h1
            exact ⟨g, h1⟩
        obtain ⟨o1, o2, o3⟩ := own_pairs hra
        obtain ⟨⟨x, y⟩, hxy⟩ : ∃ p : Int × Int, p = L[k]?.getD (0, 0) := ⟨_, rfl⟩
        obtain ⟨e0, e1⟩ := flatP_at L k hlt
        rw [← hxy] at e0 e1
        have c0 := o3 (k * 2) (by rw [flatP_len]; omega)
        have c1 := o3 (k * 2 + 1) (by rw [flatP_len]; omega)
        unfold at0 at e0 e1
        rw [e0] at c0
        rw [e1] at c1
        simp only [Nat.zero_add] at c0 c1
        have HSt : Hid (fillF fs ps (L.take (k + 1)) = stepF fs q (x, y)) := hid (by rw [take_snocP hlt, fillF_snoc, ← Hqe.out, hxy])
        have hpb : pairB fs x y = true := Hmem.out (x, y) (by rw [hxy, List.getElem?_eq_getElem hlt]; exact List.getElem_mem hlt)
        have hn64 := okTo_len HC.out Hn'.out.2
        have hBw := HB2.out.trans (HB.out.mono HB2.out.size)
        have hBd : Below wr.heap.size wr (wr.alloc (.cells #[.int .i64 x, .int .i64 y] 49)) := (Below.refl _ wr).alloc (Nat.le_refl _) _
        have Hrow := hid (row_later (B := 0) HR'.out hBd rfl)
        have HW := hid (wp_with (vn : Int) fs a' n' c' q x y (wr.alloc (.cells #[.int .i64 x, .int .i64 y] 49)) (flat_slI Hrow.out) Hn'.out.1 (by omega) (wf_ok HC.out Hn'.out) (wf_pair HC.out hpb).1 (wf_pair HC.out hpb).2 HC.out Hn'.out.2 hpb)
        have hi0 : (0 : Int) ≤ (k : Int) := by omega
        have hi1 : (k : Int) < (L.length : Int) := by omega
        have Hlt := hid hlt
        have hLl := HLl.out
        have HBd := hid hBd
        have HBw := hid hBw
        have Hil := hid (insP_len Hn'.out.1 x y)
        clear hxy e0 e1 o1 o2 o3 hra hBd hBw hpb hn64
        obtain ⟨wb, hwb⟩ : ∃ wb, wb = withB fs q n' x y := ⟨_, rfl⟩
        have Hwb := hid hwb
        rw [← hwb] at HW
        clear hwb
        cases wb
        · have HN : Hid (stepF fs q (x, y) = q) := hid (stepF_no Hn'.out.1 Hwb.out.symm)
          go_wp2_with (go_at_call 73; refine HW.out.mono ?_; rintro e w5 ⟨v5, rfl, hv5, hB5⟩; have HB5 := hid (HBd.out.trans (hB5.mono HBd.out.size)); clear hB5 hv5)
          go_roundw
          case rel => exact ⟨k + 1, n', c', a', by have := Hlt.out; omega, by go_num, rfl, hid (by rw [HSt.out, HN.out]; exact Hn'.out), hid (by rw [HSt.out, HN.out]; exact row_later (B := 0) HR'.out HB5.out rfl), hid (HB.out.trans (HB5.out.mono HB.out.size))⟩
          case measure => have := Hlt.out; simp [intOf]; omega
        · have HN : Hid (stepF fs q (x, y) = insP q n' x y) := hid (stepF_yes Hn'.out.1 Hwb.out.symm)
          go_wp2_with (go_at_call 73; refine HW.out.mono ?_; rintro e w5 ⟨v5, rfl, hv5, hB5⟩; have hv5 := hv5 rfl; obtain ⟨g5, c5, rfl⟩ : ∃ g c, v5 = .slice (some ⟨g, 0, none⟩) (n' + 1) c := (by rcases hv5.2 with ⟨_, h0⟩ | ⟨g, cp, cur, h1, _⟩; omega; exact ⟨g, cp, h1⟩); have HV5 := hid hv5; have HB5 := hid (HBd.out.trans (hB5.mono HBd.out.size)); clear hB5 hv5)
          go_roundw
          case rel => exact ⟨k + 1, n' + 1, c5, some ⟨g5, 0, none⟩, by have := Hlt.out; omega, by go_num, rfl, hid (by rw [HSt.out, HN.out]; exact ⟨Hil.out, withB_ok Hwb.out.symm⟩), hid (by rw [HSt.out, HN.out]; exact ownsRow_base HV5.out (Nat.le_trans HBw.out.size HBd.out.size)), hid (HB.out.trans (HB5.out.mono HB.out.size))⟩
          case measure => have := Hlt.out; simp [intOf]; omega
      · obtain rfl : k = L.length := by omega
        rw [List.take_of_length_le (Nat.le_refl _)] at Hqe
        have HBw := hid (HB2.out.trans (HB.out.mono HB2.out.size))
        go_wp2_with fail
        go_ret2
        exact ⟨_, rfl, by rw [← Hqe.out]; exact resP_un Hn'.out.1 HR'.out HBw.out⟩
  · obtain ⟨c, hc⟩ : ∃ c, c = acodeR V fs n ps true := ⟨_, rfl⟩
    refine pairs_monoG (show fillR V fs n ps = ([], c) by unfold fillR; rw [if_neg hpc, hc]) ?_
    rw [← hc] at hpc HK
    have hcn : (c != 0) = true := by simpa using hpc
    clear hc hpc hx hx1 hp hw
    go_enter Try.func33, Try.ntmps33
    go_wp2_with fail
    refine HK.out.mono ?_
    rintro e w1 ⟨rfl, hB1⟩
    go_wp2_with fail
    go_ret2
    exact ⟨_, rfl, World.ownsRow_nil _ _ _ _, hB0.trans (hB1.mono (by simp))⟩

end Go.Proofs.Ytplcbiconfpmlaa

/-! pairsThatFit; IsFullPairing, both doors. -/
namespace Go.Proofs.Ytplcbiconfpmlaa
open Go.RowKit

/-- The pairs with which a pairing is an acyclic pairing. -/
noncomputable def fitL (fs ps : List Int) (n : Nat) (L : List (Int × Int)) : List (Int × Int) := L.filter fun p => withB fs ps n p.1 p.2
theorem fitL_snoc (fs ps : List Int) (n : Nat) (L : List (Int × Int)) (p : Int × Int) : fitL fs ps n (L ++ [p]) = fitL fs ps n L ++ (if withB fs ps n p.1 p.2 = true then [p] else []) := by
  unfold fitL
  rw [List.filter_append]
  congr 1
  cases h : withB fs ps n p.1 p.2 <;> simp [h]

set_option maxRecDepth 1000000 in
set_option maxHeartbeats 8000000 in
theorem fits_any (V : Int) (fs : List Int) (a1 : Option Addr) (n cap1 : Nat) (ps : List Int) (a2 : Option Addr) (cap2 : Nat) (L : List (Int × Int)) (w : World) (hx1 : SlI w w.heap.size a1 ps) (hx2 : SlI w w.heap.size a2 (flatP L)) (hp : ps.length = 2 * n) (hL : L.length ≤ 1048576)
    (hC : IsC V fs) (hO : OkTo fs ps n) (hm : ∀ p ∈ L, pairB fs p.1 p.2 = true) :
    Calls Try.prog 70 #[.slice a1 n cap1, .slice a2 L.length cap2] w fun e w' => ∃ v, e = .returned v ∧ ResP w w' v (fitL fs ps n L) := by
  have hn64 := okTo_len hC hO
  have hwf := wf_ok hC ⟨hp, hO⟩
  have HW := hid (fun (p : Int × Int) (hp2 : p ∈ L) (W : World) (h : Below w.heap.size w W) => wp_with V fs a1 n cap1 ps p.1 p.2 W (hx1.later h h.size) hp (by omega) hwf (wf_pair hC (hm p hp2)).1 (wf_pair hC (hm p hp2)).2 hC hO (hm p hp2))
  have H2 : Hid (0 < L.length → ∃ b off, b < w.heap.size ∧ a2 = some ⟨b, off, none⟩ ∧ ∀ i, i < (flatP L).length → w.cell? ⟨b, off + i, none⟩ = some (.int .i64 ((flatP L)[i]?.getD 0))) := hid (fun h0 => by
    rcases hx2 with h | ⟨b, off, h1, h2, h3⟩
    · have := flatP_len L; rw [h] at this; simp at this; omega
    · exact ⟨b, off, h1, h2, h3⟩)
  clear hx1 hx2 hp hC hO hm hwf
  go_enter Try.func70, Try.ntmps70
  go_wp2_with fail
  go_loopw [5, 12] (fun v i wr => ∃ (k c' : Nat) (a' : Option Addr), k ≤ L.length ∧ i = .int .i64 k ∧ v = .slice a' (fitL fs ps n (L.take k)).length c' ∧ Hid (wr.ownsRow w.heap.size 49 2 (.slice a' (fitL fs ps n (L.take k)).length c') (fitL fs ps n (L.take k)).length ((flatP (fitL fs ps n (L.take k))).map (Value.int .i64))) ∧ Hid (Below w.heap.size w wr)) (fun _ i _ => L.length - (intOf i).toNat)
  case atStart => exact ⟨0, 0, none, Nat.zero_le _, rfl, rfl, hid (World.ownsRow_nil _ _ _ _), hid (Below.refl _ _)⟩
  case round =>
    obtain ⟨k, c', a', hk, rfl, rfl, HR', HB⟩ := hrel
    obtain ⟨M, hM⟩ : ∃ M, M = fitL fs ps n (L.take k) := ⟨_, rfl⟩
    have HM := hid hM
    have hMl : M.length ≤ L.length := by rw [hM]; exact Nat.le_trans (List.length_filter_le _ _) (by simp; omega)
    rw [← hM] at HR' ⊢
    clear hM
    by_cases hlt : k < L.length
    · obtain ⟨b, off, hb, rfl, hc⟩ := H2.out (by omega)
      obtain ⟨⟨x, y⟩, hxy⟩ : ∃ p : Int × Int, p = L[k]?.getD (0, 0) := ⟨_, rfl⟩
      obtain ⟨e0, e1⟩ := flatP_at L k hlt
      rw [← hxy] at e0 e1
      have c0 := (HB.out.cell (p := ⟨b, off + k * 2, none⟩) hb).trans (hc (k * 2) (by rw [flatP_len]; omega))
      have c1 : wr.cell? ⟨b, off + k * 2 + 1, none⟩ = _ := (HB.out.cell (p := ⟨b, off + (k * 2 + 1), none⟩) hb).trans (hc (k * 2 + 1) (by rw [flatP_len]; omega))
      unfold at0 at e0 e1
      rw [e0] at c0
      rw [e1] at c1
      have HSt : Hid (fitL fs ps n (L.take (k + 1)) = M ++ (if withB fs ps n x y = true then [(x, y)] else [])) := hid (by rw [take_snocP hlt, fitL_snoc, ← HM.out, ← hxy])
      have hmem : (x, y) ∈ L := by rw [hxy, List.getElem?_eq_getElem hlt]; exact List.getElem_mem hlt
      have hBd : Below wr.heap.size wr (wr.alloc (.cells #[.int .i64 x, .int .i64 y] 49)) := (Below.refl _ wr).alloc (Nat.le_refl _) _
      have q0 : (wr.alloc (.cells #[.int .i64 x, .int .i64 y] 49)).heap[wr.heap.size]? = some (.cells #[.int .i64 x, .int .i64 y] 49 (0, 0)) := heap_alloc_new wr _
      have HWk := hid (HW.out (x, y) hmem _ (HB.out.trans (hBd.mono HB.out.size)))
      have hi0 : (0 : Int) ≤ (k : Int) := by omega
      have hi1 : (k : Int) < (L.length : Int) := by omega
      have Hlt := hid hlt
      have HBd := hid hBd
      have Q0 := hid q0
      clear hxy e0 e1 hBd hmem hc q0
      obtain ⟨wb, hwb⟩ : ∃ wb, wb = withB fs ps n x y := ⟨_, rfl⟩
      have Hwb := hid hwb
      simp only at HWk
      rw [← hwb] at HWk HSt
      clear hwb
      cases wb
      · have HN : Hid (fitL fs ps n (L.take (k + 1)) = M) := hid (by rw [HSt.out]; simp)
        go_wp2_with (go_at_call 73; refine HWk.out.mono ?_; rintro e w5 ⟨v5, rfl, hv5, hB5⟩; have HB5 := hid (HBd.out.trans (hB5.mono HBd.out.size)); clear hB5 hv5)
        go_roundw
        case rel => exact ⟨k + 1, c', a', by have := Hlt.out; omega, by go_num, by rw [HN.out], hid (by rw [HN.out]; exact row_later (B := 0) HR'.out HB5.out rfl), hid (HB.out.trans (HB5.out.mono HB.out.size))⟩
        case measure => have := Hlt.out; simp [intOf]; omega
      · have HN : Hid (fitL fs ps n (L.take (k + 1)) = M ++ [(x, y)]) := hid (by rw [HSt.out]; simp)
        go_wp2_with (first
          | (go_at_call 73; refine HWk.out.mono ?_; rintro e w5 ⟨v5, rfl, hv5, hB5⟩; have HB5 := hid (HBd.out.trans (hB5.mono HBd.out.size)); have HR5 := hid (row_later (B := 0) HR'.out HB5.out rfl); obtain ⟨p0, p1, _, _⟩ := two_of ((hB5.block _ (lt_of_get Q0.out)).trans Q0.out); have hs5 : w.heap.size ≤ w5.heap.size := Nat.le_trans HB.out.size HB5.out.size; clear hB5 hv5)
          | (at_builtin; refine append_pair rfl rfl HR5.out hs5 (by omega) rfl rfl ?_; intro v6 w6 hown6 hgrow6 hB6; have HO6 := hid hown6; have HB6 := hid ((HB.out.trans (HB5.out.mono HB.out.size)).trans hB6); clear hown6 hgrow6 hB6))
        obtain ⟨_, a6, c6, rfl, _⟩ := pairs_form HO6.out
        go_wp2_with fail
        go_roundw
        case rel => exact ⟨k + 1, c6, a6, by have := Hlt.out; omega, by go_num, by rw [HN.out], hid (by rw [HN.out]; exact HO6.out), HB6⟩
        case measure => have := Hlt.out; simp [intOf]; omega
    · obtain rfl : k = L.length := by omega
      rw [List.take_of_length_le (Nat.le_refl _)] at HM
      go_wp2_with fail
      go_ret
      exact ⟨_, rfl, by rw [← HM.out]; exact ⟨HR'.out, HB.out⟩⟩

noncomputable def isFullR (V : Int) (fs : List Int) (n : Nat) (ps : List Int) : Bool × Int := if acodeR V fs n ps true = 0 then (decide ((fillF fs ps (allP fs fs.length)).length = ps.length), 0) else (false, acodeR V fs n ps true)
theorem full_fits {V : Int} {fs ps : List Int} {n : Nat} (hp : ps.length = 2 * n) (hO : OkTo fs ps n) (_hC : IsC V fs) (L : List (Int × Int)) : (((fitL fs ps n L).length : Int) == 0) = decide ((fillF fs ps L).length = ps.length) := by
  have h := fillF_same (fs := fs) L hp hO
  have h2 : (fitL fs ps n L).length = 0 ↔ ∀ p ∈ L, withB fs ps n p.1 p.2 = false := by
    rw [List.length_eq_zero_iff]
    unfold fitL
    rw [List.filter_eq_nil_iff]
    simp
  by_cases hc : (fillF fs ps L).length = ps.length
  · have := h2.2 (h.1 hc)
    rw [decide_eq_true hc, this]
    rfl
  · have : ¬ (fitL fs ps n L).length = 0 := fun e => hc (h.2 (h2.1 e))
    rw [decide_eq_false hc]
    simp
    exact fun e => this (by rw [e]; rfl)

set_option maxRecDepth 1000000 in
set_option maxHeartbeats 4000000 in
theorem specIsFullPairing (V : Int) (a0 : Option Addr) (cap : Nat) (fs : List Int) (g n : Nat) (ps : List Int) (w : World) (hx : SlI w w.heap.size a0 fs) (hr : RowQ w g n n ps) (hl : fs.length ≤ 1048576) (hp : ps.length = 2 * n) (hn : n ≤ 1048576) :
    Calls Try.prog 30 #[.agg #[.int .i64 V, .slice a0 fs.length cap], .slice (some ⟨g, 0, none⟩) n n] w fun e w' => e = .returned (.tuple #[.bool (isFullR V fs n ps).1, .int .i64 (isFullR V fs n ps).2]) ∧ Below w.heap.size w w' := by
  have hB0 : Below w.heap.size w (w.alloc (.cells #[.int .i64 V, .slice a0 fs.length cap] 28)) := (Below.refl _ w).alloc (Nat.le_refl _) _
  have HK := hid (code8_any V a0 cap fs (some ⟨g, 0, none⟩) n n ps _ (hx.later hB0 hB0.size) (hr.later hB0).slI hl hp hn)
  by_cases hpc : acodeR V fs n ps true = 0
  · obtain ⟨hC, hO, _⟩ := acode_zero hpc
    refine bool_mono2 (show isFullR V fs n ps = (decide ((fillF fs ps (allP fs fs.length)).length = ps.length), 0) by unfold isFullR; rw [if_pos hpc]) ?_
    rw [hpc] at HK
    have HF := hid (fun (W : World) (h : Below w.heap.size w W) => fillS_any V a0 cap fs g n n ps W (hx.later h h.size) hC hp (hr.later h) hO)
    obtain ⟨d, hd⟩ : ∃ d, d = decide ((fillF fs ps (allP fs fs.length)).length = ps.length) := ⟨_, rfl⟩
    have Hd : Hid (∀ m, (fillF fs ps (allP fs fs.length)).length = 2 * m → ((m : Int) == (n : Int)) = d) := hid (fun m h => by
      rw [hd, h, hp]
      by_cases e : m = n
      · subst e; simp
      · rw [decide_eq_false (by omega)]
        simp
        omega)
    rw [← hd]
    clear hx hr hpc hC hO hd hp
    go_enter Try.func30, Try.ntmps30
    go_wp2_with fail
    refine HK.out.mono ?_
    rintro e w1 ⟨rfl, hB1⟩
    have hB01 := hB0.trans (hB1.mono (by simp))
    have q0 : w1.heap[w.heap.size]? = some (.cells #[.int .i64 V, .slice a0 fs.length cap] 28 (0, 0)) := (hB1.block _ (by simp)).trans (heap_alloc_new _ _)
    obtain ⟨k0, k1, _, _⟩ := two_of q0
    have HB01 := hid hB01
    clear hB0 hB1 hB01 q0
    go_wp2_with fail
    refine (HF.out w1 HB01.out).mono ?_
    rintro e w3 ⟨g', n', c', rfl, hl3, hR3, hB3⟩
    have HD := hid (Hd.out n' hl3)
    have HB3 := hid (HB01.out.trans (hB3.mono HB01.out.size))
    clear hl3 hR3 hB3
    go_wp2_with fail
    go_ret2
    exact ⟨by rw [← HD.out]; rfl, HB3.out⟩
  · obtain ⟨c, hc⟩ : ∃ c, c = acodeR V fs n ps true := ⟨_, rfl⟩
    refine bool_mono2 (show isFullR V fs n ps = (false, c) by unfold isFullR; rw [if_neg hpc, hc]) ?_
    rw [← hc] at hpc HK
    have hcn : (c != 0) = true := by simpa using hpc
    clear hc hpc hx hr hp
    go_enter Try.func30, Try.ntmps30
    go_wp2_with fail
    refine HK.out.mono ?_
    rintro e w1 ⟨rfl, hB1⟩
    go_wp2_with fail
    go_ret2
    exact ⟨rfl, hB0.trans (hB1.mono (by simp))⟩

set_option maxRecDepth 1000000 in
set_option maxHeartbeats 4000000 in
theorem implIsFullPairing (V : Int) (a0 : Option Addr) (cap : Nat) (fs : List Int) (a1 : Option Addr) (n cap1 : Nat) (ps : List Int) (w : World) (hx : SlI w w.heap.size a0 fs) (hx1 : SlI w w.heap.size a1 ps) (hl : fs.length ≤ 1048576) (hp : ps.length = 2 * n) (hn : n ≤ 1048576) (hw : ∀ x ∈ ps, (Lit.int .i64 x).wf = true) :
    Calls Try.prog 31 #[.agg #[.int .i64 V, .slice a0 fs.length cap], .slice a1 n cap1] w fun e w' => e = .returned (.tuple #[.bool (isFullR V fs n ps).1, .int .i64 (isFullR V fs n ps).2]) ∧ Below w.heap.size w w' := by
  have hB0 : Below w.heap.size w (w.alloc (.cells #[.int .i64 V, .slice a0 fs.length cap] 28)) := (Below.refl _ w).alloc (Nat.le_refl _) _
  have HK := hid (acode_any V a0 cap fs a1 n cap1 ps true _ (hx.later hB0 hB0.size) (hx1.later hB0 hB0.size) hl hp hn hw)
  by_cases hpc : acodeR V fs n ps true = 0
  · obtain ⟨hC, hO, _⟩ := acode_zero hpc
    refine bool_mono2 (show isFullR V fs n ps = (decide ((fillF fs ps (allP fs fs.length)).length = ps.length), 0) by unfold isFullR; rw [if_pos hpc]) ?_
    rw [hpc] at HK
    obtain ⟨vn, rfl⟩ : ∃ vn : Nat, V = (vn : Int) := ⟨V.toNat, by have := hC.lo; omega⟩
    have Hpe : Hid (pairsL fs vn fs.length = allP fs fs.length) := hid (by have := allP_pairs hC; rwa [Int.toNat_natCast] at this)
    have HLl : Hid ((allP fs fs.length).length ≤ 63 * 63) := hid (Nat.le_trans (allP_len hC.len63 _ (Nat.le_refl _)) (Nat.mul_le_mul hC.len63 (Nat.le_refl _)))
    have Hmem : Hid (∀ p ∈ allP fs fs.length, pairB fs p.1 p.2 = true) := hid (fun p hp => by
      rw [← Hpe.out] at hp
      have := (mem_pairsL hC p.1 p.2).1 (by rw [Int.toNat_natCast]; exact hp)
      exact this)
    have HP := hid (fun (W : World) (h : Below w.heap.size w W) => pairsOf_any vn a0 cap fs W (hx.later h h.size) hl hC)
    rw [Hpe.out] at HP
    have HFi := hid (fun (W : World) (h : Below w.heap.size w W) (a2 : Option Addr) (c2 : Nat) (h2 : SlI W W.heap.size a2 (flatP (allP fs fs.length))) => fits_any (vn : Int) fs a1 n cap1 ps a2 c2 (allP fs fs.length) W (hx1.later h h.size) h2 hp (by have := HLl.out; omega) hC hO Hmem.out)
    have Hd := hid (full_fits hp hO hC (allP fs fs.length))
    obtain ⟨d, hd⟩ : ∃ d, d = decide ((fillF fs ps (allP fs fs.length)).length = ps.length) := ⟨_, rfl⟩
    rw [← hd] at Hd ⊢
    obtain ⟨L, hL⟩ : ∃ L, L = allP fs fs.length := ⟨_, rfl⟩
    rw [← hL] at HP HFi Hd
    clear hx hx1 hpc hC hO hd hp hL hw HLl Hmem Hpe
    go_enter Try.func31, Try.ntmps31
    go_wp2_with fail
    refine HK.out.mono ?_
    rintro e w1 ⟨rfl, hB1⟩
    have hB01 := hB0.trans (hB1.mono (by simp))
    have q0 : w1.heap[w.heap.size]? = some (.cells #[.int .i64 (vn : Int), .slice a0 fs.length cap] 28 (0, 0)) := (hB1.block _ (by simp)).trans (heap_alloc_new _ _)
    obtain ⟨k0, k1, _, _⟩ := two_of q0
    have HB01 := hid hB01
    clear hB0 hB1 hB01 q0
    go_wp2_with fail
    refine (HP.out w1 HB01.out).mono ?_
    rintro e w2 ⟨v2, rfl, hR2, hB2⟩
    obtain ⟨_, av, cv, rfl, _⟩ := pairs_form hR2
    have HB2 := hid (HB01.out.trans (hB2.mono HB01.out.size))
    have HF2 := hid (HFi.out w2 HB2.out av cv (flat_slI hR2))
    clear hR2 hB2
    go_wp2_with fail
    refine HF2.out.mono ?_
    rintro e w3 ⟨v3, rfl, hR3⟩
    obtain ⟨_, a3, c3, rfl, _⟩ := pairs_form hR3.1
    have HB3 := hid (HB2.out.trans (hR3.2.mono HB2.out.size))
    clear hR3
    go_wp2_with fail
    go_ret2
    exact ⟨by rw [← Hd.out]; rfl, HB3.out⟩
  · obtain ⟨c, hc⟩ : ∃ c, c = acodeR V fs n ps true := ⟨_, rfl⟩
    refine bool_mono2 (show isFullR V fs n ps = (false, c) by unfold isFullR; rw [if_neg hpc, hc]) ?_
    rw [← hc] at hpc HK
    have hcn : (c != 0) = true := by simpa using hpc
    clear hc hpc hx hx1 hp hw
    go_enter Try.func31, Try.ntmps31
    go_wp2_with fail
    refine HK.out.mono ?_
    rintro e w1 ⟨rfl, hB1⟩
    go_wp2_with fail
    go_ret2
    exact ⟨rfl, hB0.trans (hB1.mono (by simp))⟩

end Go.Proofs.Ytplcbiconfpmlaa

/-! The law on IsFullPairing, walked. -/
namespace Go.Proofs.Ytplcbiconfpmlaa
open Go.RowKit

set_option maxRecDepth 100000 in
set_option maxHeartbeats 8000000 in
theorem law_IsFullPairing (V0 : Int) (a0 : Option Addr) (cap0 : Nat) (xs0 : List Int) (a1 : Option Addr) (n1 cap1 : Nat) (ps1 : List Int) (w : World) (hx0 : SlI w w.heap.size a0 xs0) (hx1 : SlI w w.heap.size a1 ps1) (hp1 : ps1.length = 2 * n1) (wp1 : ∀ x ∈ ps1, (Lit.int .i64 x).wf = true) (hn0 : xs0.length ≤ 9223372036854775807) (hn1 : n1 ≤ 9223372036854775807)  :
    Calls Try.prog 5 #[.agg #[.int .i64 V0, .slice a0 xs0.length cap0], .slice a1 n1 cap1] w fun e w' => e = .returned (.bool true) ∧ Below w.heap.size w w' := by
  have F0 : Book w w [(a0, xs0), (a1, ps1)] [] [] := ⟨Below.refl _ _, by simp; exact ⟨hx0, hx1⟩, by simp, by simp⟩
  have F0 := F0.alloc (.cells #[.int .i64 V0, .slice a0 xs0.length cap0] 24)
  (try simp only [World.size_alloc] at F0)
  have B0 := hid F0
  clear F0 hx0 hx1
  have Hp1 := hid hp1
  have Wp1 := hid wp1
  clear hp1 wp1
  obtain ⟨r0, hr0⟩ : ∃ r, r = szR 1048576 xs0.length := ⟨_, rfl⟩
  have Hr0 := hid hr0
  obtain ⟨r1, hr1⟩ : ∃ r, r = szR r0 n1 := ⟨_, rfl⟩
  have Hr1 := hid hr1
  by_cases hb0 : 1048576 < xs0.length
  · have hm0 : r0 = -1 := by rw [hr0]; exact szR_big (by omega)
    clear hb0
    clear hr0 hr1
    go_enter Try.func5, Try.ntmps5
    go_wp2_with fail
    refine (szCx V0 a0 xs0.length cap0 1048576 _ (by omega) (by omega) hn0).mono ?_
    rintro e s0 ⟨rfl, hB⟩
    have zs0 := hB.size
    (try simp only [World.size_alloc] at zs0)
    have B0 := hid (B0.out.below hB)
    clear hB
    rw [← Hr0.out]
    go_wp2_with fail
    go_ret
    exact ⟨rfl, B0.out.from0⟩
  · have hv0 : r0 = 1048576 - xs0.length := by rw [hr0, szR_fit (by omega)]
    have hg0 : 0 ≤ r0 := by omega
    have hu0 : r0 ≤ 1048576 := by omega
    have hl0 : xs0.length ≤ 1048576 := by omega
    clear hr0 hb0
    have Hv0 := hid hv0
    clear hv0
    by_cases hb1 : r0 < n1
    · have hm1 : r1 = -1 := by rw [hr1]; exact szR_big (by omega)
      clear hb1
      clear hr1
      go_enter Try.func5, Try.ntmps5
      go_wp2_with fail
      refine (szCx V0 a0 xs0.length cap0 1048576 _ (by omega) (by omega) hn0).mono ?_
      rintro e s0 ⟨rfl, hB⟩
      have zs0 := hB.size
      (try simp only [World.size_alloc] at zs0)
      have B0 := hid (B0.out.below hB)
      clear hB
      rw [← Hr0.out]
      go_wp2_with fail
      refine (szPairs a1 n1 cap1 r0 _ hg0 hu0 hn1).mono ?_
      rintro e s1 ⟨rfl, hs1⟩
      subst hs1
      rw [← Hr1.out]
      go_wp2_with fail
      go_ret
      exact ⟨rfl, B0.out.from0⟩
    · have hv1 : r1 = r0 - n1 := by rw [hr1, szR_fit (by omega)]
      have hg1 : 0 ≤ r1 := by omega
      have hu1 : r1 ≤ 1048576 := by omega
      have hl1 : n1 ≤ 1048576 := by omega
      clear hr1 hb1
      have Hv1 := hid hv1
      clear hv1
      obtain ⟨R, hR⟩ : ∃ R, R = isFullR V0 xs0 n1 ps1 := ⟨_, rfl⟩
      obtain ⟨bb, c⟩ := R
      have HS : Hid (∀ a0 cap0 g1 w', SlI w' w'.heap.size a0 xs0 → RowQ w' g1 n1 n1 ps1 → Calls Try.prog 30 #[.agg #[.int .i64 V0, .slice a0 xs0.length cap0], .slice (some ⟨g1, 0, none⟩) n1 n1] w' fun e w'' => e = .returned (.tuple #[.bool bb, .int .i64 c]) ∧ Below w'.heap.size w' w'') :=
        hid (fun a0 cap0 g1 w' hs0 hs1 => by have := specIsFullPairing V0 a0 cap0 xs0 g1 n1 ps1 w' hs0 hs1 hl0 Hp1.out hl1; rwa [← hR] at this)
      have HI : Hid (∀ a0 cap0 a1 cap1 w', SlI w' w'.heap.size a0 xs0 → SlI w' w'.heap.size a1 ps1 → Calls Try.prog 31 #[.agg #[.int .i64 V0, .slice a0 xs0.length cap0], .slice a1 n1 cap1] w' fun e w'' => e = .returned (.tuple #[.bool bb, .int .i64 c]) ∧ Below w'.heap.size w' w'') :=
        hid (fun a0 cap0 a1 cap1 w' hs0 hs1 => by have := implIsFullPairing V0 a0 cap0 xs0 a1 n1 cap1 ps1 w' hs0 hs1 hl0 Hp1.out hl1 Wp1.out; rwa [← hR] at this)
      have hcc : (c != c) = false := by simp
      clear hR
      go_enter Try.func5, Try.ntmps5
      go_wp2_with fail
      refine (szCx V0 a0 xs0.length cap0 1048576 _ (by omega) (by omega) hn0).mono ?_
      rintro e s0 ⟨rfl, hB⟩
      have zs0 := hB.size
      (try simp only [World.size_alloc] at zs0)
      have B0 := hid (B0.out.below hB)
      clear hB
      rw [← Hr0.out]
      go_wp2_with fail
      refine (szPairs a1 n1 cap1 r0 _ hg0 hu0 hn1).mono ?_
      rintro e s1 ⟨rfl, hs1⟩
      subst hs1
      rw [← Hr1.out]
      obtain ⟨q0, q1⟩ := B0.out.two (.head _)
      go_wp2_with fail
      clear q0 q1
      refine (toCx V0 a0 cap0 xs0 _ (B0.out.arg (.head _)) hl0).mono ?_
      rintro e u0 ⟨gu0, rfl, hown, hB⟩
      have zu0 := hB.size
      (try simp only [World.size_alloc] at zu0)
      have B0 := hid (B0.out.row hown hB)
      clear hown hB
      (try simp only [World.size_alloc] at B0)
      go_wp2_with fail
      refine (toPairs a1 n1 cap1 ps1 _ (B0.out.arg (.tail _ (.head _))) Hp1.out hl1).mono ?_
      rintro e u1 ⟨rfl, hown, hB⟩
      have zu1 := hB.size
      (try simp only [World.size_alloc] at zu1)
      have B0 := hid (B0.out.row hown hB)
      clear hown hB
      (try simp only [World.size_alloc] at B0)
      go_wp2_with fail
      refine (HS.out _ _ _ _ (B0.out.slI (.tail _ (.head _))) (rowQ_of (B0.out.own (.head _)))).mono ?_
      rintro e u9 ⟨rfl, hB⟩
      have zu9 := hB.size
      (try simp only [World.size_alloc] at zu9)
      have B0 := hid (B0.out.below hB)
      clear hB
      obtain ⟨q0, q1⟩ := B0.out.two (.head _)
      go_wp2_with fail
      clear q0 q1
      refine (toCx V0 a0 cap0 xs0 _ (B0.out.arg (.head _)) hl0).mono ?_
      rintro e x0 ⟨gx0, rfl, hown, hB⟩
      have zx0 := hB.size
      (try simp only [World.size_alloc] at zx0)
      have B0 := hid (B0.out.row hown hB)
      clear hown hB
      (try simp only [World.size_alloc] at B0)
      have B0 := hid (B0.out.alloc (.cells #[.int .i64 V0, .slice (some ⟨gx0, 0, none⟩) xs0.length xs0.length] 28))
      go_wp2_with fail
      refine (toPairs a1 n1 cap1 ps1 _ (B0.out.arg (.tail _ (.head _))) Hp1.out hl1).mono ?_
      rintro e x1 ⟨rfl, hown, hB⟩
      have zx1 := hB.size
      (try simp only [World.size_alloc] at zx1)
      have B0 := hid (B0.out.row hown hB)
      clear hown hB
      (try simp only [World.size_alloc] at B0)
      obtain ⟨p00, p01⟩ := B0.out.two (.head _)
      go_wp2_with fail
      clear p00 p01
      refine (HI.out _ _ _ _ _ (B0.out.slI (.tail _ (.head _))) (B0.out.slI (.head _))).mono ?_
      rintro e v9 ⟨rfl, hB⟩
      have zv9 := hB.size
      (try simp only [World.size_alloc] at zv9)
      have B0 := hid (B0.out.below hB)
      clear hB
      clear HS HI
      cases bb
      all_goals
        obtain ⟨lxb00, lxb01⟩ := B0.out.two (.head _)
        obtain ⟨lk00, lk01⟩ := B0.out.two (.tail _ (.head _))
        go_wp2_with fail
        go_region_with (first
          | (go_at_call 17; refine (toCx V0 a0 cap0 xs0 _ (B0.out.drew.arg (.head _)) hl0).mono ?_; rintro e f0 ⟨gf0, rfl, hown, hB⟩; have zf0 := hB.size; have C0 := hid (B0.out.drew.row hown hB); clear hown hB; obtain ⟨m00, m01⟩ := C0.out.two (.head _))
          | (go_at_call 21; refine (eqCx_yes V0 _ _ _ _ xs0 xs0 _ (C0.out.slI (.tail _ (.tail _ (.head _)))) (C0.out.slI (.head _)) hl0 hl0 rfl).mono ?_; rintro e h0 ⟨rfl, hB⟩))
        all_goals
          have zh0 := hB.size
          have D0 := hid (C0.out.below hB)
          clear hB C0 B0 m00 m01
          clear lxb00 lxb01
          clear lk00 lk01
          have B0 := D0
          clear D0
          skip
          go_wp2_with fail
          refine (toPairs a1 n1 cap1 ps1 _ (B0.out.arg (.tail _ (.head _))) Hp1.out hl1).mono ?_
          rintro e f1 ⟨rfl, hown, hB⟩
          have zf1 := hB.size
          (try simp only [World.size_alloc] at zf1)
          have B0 := hid (B0.out.row hown hB)
          clear hown hB
          (try simp only [World.size_alloc] at B0)
          go_wp2_with fail
          refine (eqPairs_yes _ _ n1 _ _ ps1 _ (B0.out.slI (.tail _ (.tail _ (.head _)))) (B0.out.slI (.head _)) Hp1.out hl1).mono ?_
          rintro e h1 ⟨rfl, hB⟩
          have zh1 := hB.size
          (try simp only [World.size_alloc] at zh1)
          have B0 := hid (B0.out.below hB)
          clear hB
          go_wp2_with fail
          go_ret
          exact ⟨rfl, B0.out.from0⟩

end Go.Proofs.Ytplcbiconfpmlaa
