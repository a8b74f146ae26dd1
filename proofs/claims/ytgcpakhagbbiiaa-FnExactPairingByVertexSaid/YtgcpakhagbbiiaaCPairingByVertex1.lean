import Derived.Lib.SliceRun
import Derived.Test.YtgcpakhagbbiiaaMB4
import Derived.Test.YtgcpakhagbbiiaaMB3
import Derived.Test.YtgcpakhagbbiiaaMB6
import Derived.Test.YtgcpakhagbbiiaaMB1
import Derived.Test.YtgcpakhagbbiiaaMB2
/-! slices.DeleteFunc over pairs, with a function that has captured two variables. -/
namespace Go.Proofs.Ytgcpakhagbbiiaa
open Go.RowKit

set_option maxRecDepth 100000 in
theorem run_clear_pairsP (w : World) (ty : TypeId) (b o n c : Nat) (hn : 0 < n) (hc : ∀ j, j < n * 2 → (w.cell? ⟨b, o + j, none⟩).isSome = true) (hf : ∀ j, j < n * 2 → w.frozen? ⟨b, o + j, none⟩ = false) :
    (Builtin.clear_ #[32] ty #[.slice (some ⟨b, o, none⟩) n c]).run Try.prog w = .ok (.tuple #[]) (w.setCells b o (List.replicate (n * 2) (.int .i64 0))) := by
  have hcells : (Value.agg #[.int .i64 0, .int .i64 0]).cells = #[.int .i64 0, .int .i64 0] := rfl
  have hzc : (Builtin.zeroCells #[.int .i64 0, .int .i64 0] n).toList = List.replicate (n * 2) (.int .i64 0) := by
    simp [Builtin.zeroCells]
    apply List.ext_getElem
    · simp
    · intro i h1 h2
      simp
      rcases Nat.mod_two_eq_zero_or_one i with e | e <;> simp [e]
  have hst := run_storeCells_cells (P := Try.prog) b o (List.replicate (n * 2) (.int .i64 0)) 0 w (by simpa using hc) (by simpa using hf) (by intro v hv'; rw [List.eq_of_mem_replicate hv']; rfl)
  simp only [Nat.add_zero] at hst
  obtain ⟨m, rfl⟩ : ∃ m, n = m + 1 := ⟨n - 1, by omega⟩
  have hz := zero_pair w
  simp [Builtin.clear_, run_underlying Try.underlying32, hz, hcells, hzc, hst]

theorem own_setCellsP {base e size g n cap : Nat} (v : Value) : ∀ (m o : Nat) (w : World) (xs : List Value), w.ownsRow base e size (.slice (some ⟨g, 0, none⟩) n cap) n xs → o + m ≤ xs.length →
    ∃ ys, ys.take o = xs.take o ∧ (w.setCells g o (List.replicate m v)).ownsRow base e size (.slice (some ⟨g, 0, none⟩) n cap) n ys ∧ w.grownBy (w.setCells g o (List.replicate m v)) (some g)
  | 0, o, w, xs, h, _ => ⟨xs, rfl, h, ⟨rfl, rfl, rfl, Nat.le_refl _, fun _ _ _ => rfl⟩⟩
  | m + 1, o, w, xs, h, ho => by
    obtain ⟨h1, h2⟩ := h.stored o v
    obtain ⟨ys, e1, e2, e3⟩ := own_setCellsP v m (o + 1) _ _ h1 (by simp; omega)
    refine ⟨ys, ?_, e2, h2.trans e3⟩
    have := congrArg (List.take o) e1
    rw [List.take_take, List.take_take, Nat.min_eq_left (by omega)] at this
    rw [this, List.take_set_of_le (Nat.le_refl _)]

/-- The first pairs of a row. -/
theorem own_firstP {w : World} {base g n cap m size e : Nat} {xs : List Value} (h : w.ownsRow base e size (.slice (some ⟨g, 0, none⟩) n cap) n xs) (hm : m ≤ n) :
    w.ownsRow base e size (.slice (some ⟨g, 0, none⟩) m cap) m (xs.take (m * size)) := by
  rcases h.2 with ⟨h', _⟩ | ⟨g', cap', cur, h', hb, hg, hnc, hcm, hcs, htake⟩
  · simp at h'
  · simp only [Value.slice.injEq, Option.some.injEq, Addr.mk.injEq, and_true, true_and] at h'
    obtain ⟨rfl, rfl⟩ := h'
    have hms : m * size ≤ n * size := Nat.mul_le_mul_right _ hm
    refine ⟨by rw [List.length_take, h.1]; omega, .inr ⟨g, cap, cur, rfl, hb, hg, by omega, hcm, hcs, ?_⟩⟩
    rw [← htake, List.take_take, Nat.min_eq_left hms]


def dropAtP (P : Int → Int → Bool) (ps : List Int) (j : Nat) : Bool := P (at0 ps (j * 2)) (at0 ps (j * 2 + 1))
def keepP (P : Int → Int → Bool) (ps : List Int) : Nat → List Int
  | 0 => []
  | k + 1 => keepP P ps k ++ (if dropAtP P ps k then [] else [at0 ps (k * 2), at0 ps (k * 2 + 1)])
theorem put_twoP (ys : List Int) (q : Nat) (x y : Int) (h : 2 * q + 1 < ys.length) : ((ys.set (q * 2) x).set (q * 2 + 1) y).take (2 * (q + 1)) = ys.take (2 * q) ++ [x, y] := by
  rw [show 2 * (q + 1) = q * 2 + 1 + 1 by omega, take_snoc (by simp; omega), take_snoc (by simp; omega), List.take_set_of_le (by omega), List.take_set_of_le (Nat.le_refl _), show 2 * q = q * 2 by omega]
  rw [List.getElem?_set_ne (by omega), List.getElem?_set_self (by omega), List.getElem?_set_self (by simp; omega)]
  simp
theorem keepP_len (P : Int → Int → Bool) (ps : List Int) : ∀ k, ∃ q, (keepP P ps k).length = 2 * q ∧ q ≤ k
  | 0 => ⟨0, rfl, Nat.le_refl _⟩
  | k + 1 => by
    obtain ⟨q, h1, h2⟩ := keepP_len P ps k
    simp only [keepP, List.length_append, h1]
    split
    · exact ⟨q, by simp, by omega⟩
    · exact ⟨q + 1, by simp; omega, by omega⟩
theorem keepP_none {P : Int → Int → Bool} {ps : List Int} : ∀ {k : Nat}, (∀ j, j < k → dropAtP P ps j = false) → 2 * k ≤ ps.length → keepP P ps k = ps.take (2 * k)
  | 0, _, _ => rfl
  | k + 1, h, hl => by
    have e : 2 * (k + 1) = k * 2 + 1 + 1 := by omega
    rw [keepP, keepP_none (fun j hj => h j (by omega)) (by omega), h k (by omega), e, take_snoc (by omega), take_snoc (by omega), show 2 * k = k * 2 by omega]
    simp [at0]

set_option maxRecDepth 100000 in
set_option maxHeartbeats 2000000 in
theorem idxq_any (bp off n cap : Nat) (ps : List Int) (fid : Nat) (c1 c2 : Value) (P : Int → Int → Bool) (w : World) (hp : ps.length = 2 * n) (hn : n ≤ 1048576) (hbp : bp < w.heap.size) (hc : ∀ i, i < ps.length → w.cell? ⟨bp, off + i, none⟩ = some (.int .i64 (ps[i]?.getD 0)))
    (hent : ∀ args w, (callFunc fid args).run Try.prog w = .ok (.enter fid args) w) (hcl : ∀ W x y, Below w.heap.size w W → (Lit.int .i64 x).wf = true → (Lit.int .i64 y).wf = true → Calls Try.prog fid #[.agg #[.int .i64 x, .int .i64 y], c1, c2] W fun e w' => e = .returned (.bool (P x y)) ∧ Below W.heap.size W w') (hwp : ∀ x ∈ ps, (Lit.int .i64 x).wf = true) :
    Calls Try.prog 201 #[.slice (some ⟨bp, off, none⟩) n cap, .func (.func fid) #[] #[c1, c2]] w fun e w' => ∃ (i : Int) (k : Nat), e = .returned (.int .i64 i) ∧ k ≤ n ∧ (∀ j, j < k → dropAtP P ps j = false) ∧ (k < n → i = k ∧ dropAtP P ps k = true) ∧ (k = n → i = -1) ∧ Below w.heap.size w w' := by
  have Hp := hid hp
  have Hc := hid hc
  have Hwp := hid hwp
  have HD := hid hcl
  clear hp hc hwp hcl
  go_enter Try.func201, Try.ntmps201
  go_wp2
  go_loopw [8] (fun i wr => ∃ k : Nat, k ≤ n ∧ i = .int .i64 k ∧ Hid (∀ j, j < k → dropAtP P ps j = false) ∧ Hid (Below w.heap.size w wr)) (fun i _ => n - (intOf i).toNat)
  case atStart => exact ⟨0, Nat.zero_le _, rfl, hid (by intro j h; omega), hid (Below.refl _ _)⟩
  case round =>
    obtain ⟨k, hk, rfl, Hk, HB⟩ := hrel
    by_cases hlt2 : k < n
    · have hc2 : wr.cell? ⟨bp, off + k * 2, none⟩ = some (.int .i64 (at0 ps (k * 2))) := (HB.out.cell (p := ⟨bp, off + k * 2, none⟩) hbp).trans (Hc.out _ (by have := Hp.out; omega))
      have hc3 : wr.cell? ⟨bp, off + k * 2 + 1, none⟩ = some (.int .i64 (at0 ps (k * 2 + 1))) := (HB.out.cell (p := ⟨bp, off + (k * 2 + 1), none⟩) hbp).trans (Hc.out _ (by have := Hp.out; omega))
      have hw1 : (Lit.int .i64 (at0 ps (k * 2))).wf = true := Hwp.out _ (getD_mem (by have := Hp.out; omega))
      have hw2 : (Lit.int .i64 (at0 ps (k * 2 + 1))).wf = true := Hwp.out _ (getD_mem (by have := Hp.out; omega))
      have HC := hid (HD.out wr _ _ HB.out hw1 hw2)
      have Hd : Hid (dropAtP P ps k = P (at0 ps (k * 2)) (at0 ps (k * 2 + 1))) := hid rfl
      obtain ⟨x, hx⟩ : ∃ x, x = at0 ps (k * 2) := ⟨_, rfl⟩
      obtain ⟨y, hy⟩ : ∃ y, y = at0 ps (k * 2 + 1) := ⟨_, rfl⟩
      rw [← hx, ← hy] at HC Hd
      rw [← hx] at hc2
      rw [← hy] at hc3
      have hi0 : (0 : Int) ≤ (k : Int) := by omega
      have hi1 : (k : Int) < (n : Int) := by omega
      clear hx hy hw1 hw2
      cases hb : P x y
      · rw [hb] at HC Hd
        clear hb
        have He : Hid (∀ j, j < k + 1 → dropAtP P ps j = false) := hid (by
          intro j h
          by_cases e : j < k
          · exact Hk.out j e
          · obtain rfl : j = k := by omega
            exact Hd.out)
        go_wp2_with fail
        refine HC.out.mono ?_
        rintro e w1 ⟨rfl, hB1⟩
        have HB1 := hid (HB.out.trans (hB1.mono HB.out.size))
        clear hB1
        go_wp2_with fail
        go_roundw
        case rel => exact ⟨k + 1, by omega, by go_num, He, HB1⟩
        case measure => simp [intOf]; omega
      · rw [hb] at HC Hd
        clear hb
        go_wp2_with fail
        refine HC.out.mono ?_
        rintro e w1 ⟨rfl, hB1⟩
        have HB1 := hid (HB.out.trans (hB1.mono HB.out.size))
        clear hB1
        go_wp2_with fail
        go_ret
        exact ⟨_, k, rfl, hk, Hk.out, fun _ => ⟨rfl, Hd.out⟩, fun h => absurd h (by omega), HB1.out⟩
    · obtain rfl : k = n := by omega
      go_wp2_with fail
      go_ret
      exact ⟨_, k, rfl, hk, Hk.out, fun h => absurd h (by omega), fun _ => rfl, HB.out⟩


set_option maxRecDepth 100000 in
set_option maxHeartbeats 4000000 in
theorem delq_any (base g n cap : Nat) (ps : List Int) (fid : Nat) (c1 c2 : Value) (P : Int → Int → Bool) (w : World) (hn : n ≤ 1048576) (hown : w.ownsRow base 69 2 (.slice (some ⟨g, 0, none⟩) n cap) n (ps.map (Value.int .i64)))
    (hent : ∀ args w, (callFunc fid args).run Try.prog w = .ok (.enter fid args) w) (hcl : ∀ W x y, w.grownBy W (some g) → (Lit.int .i64 x).wf = true → (Lit.int .i64 y).wf = true → Calls Try.prog fid #[.agg #[.int .i64 x, .int .i64 y], c1, c2] W fun e w' => e = .returned (.bool (P x y)) ∧ Below W.heap.size W w') (hwp : ∀ x ∈ ps, (Lit.int .i64 x).wf = true) :
    Calls Try.prog 135 #[.slice (some ⟨g, 0, none⟩) n cap, .func (.func fid) #[] #[c1, c2]] w fun e w' => ∃ q : Nat, e = .returned (.slice (some ⟨g, 0, none⟩) q cap) ∧ (keepP P ps n).length = 2 * q ∧ w'.ownsRow base 69 2 (.slice (some ⟨g, 0, none⟩) q cap) q ((keepP P ps n).map (Value.int .i64)) ∧ w.grownBy w' (some g) := by
  obtain ⟨hgl, hnc, hcs⟩ := own_pairs hown
  have hp : ps.length = 2 * n := by have := hown.1; simp at this; omega
  have Hp := hid hp
  have HI := hid (idxq_any g 0 n cap ps fid c1 c2 P w hp hn hgl hcs hent (fun W x y hB => hcl W x y ⟨hB.os, hB.tape, hB.output, hB.size, fun q hq _ => hB.block q hq⟩) hwp)
  have HD := hid (fun (W' : World) (x y : Int) (hB : w.grownBy W' (some g)) hx hy => hcl W' x y hB hx hy)
  have Hwp := hid hwp
  have Hown := hid hown
  clear hown hp hcl hwp hcs
  go_enter Try.func135, Try.ntmps135
  go_wp2_with fail
  refine HI.out.mono ?_
  rintro e w1 ⟨i, k, rfl, hk, hpre, hyes, hno, hB1⟩
  have HG1 : Hid (w.grownBy w1 (some g)) := hid ⟨hB1.os, hB1.tape, hB1.output, hB1.size, fun q hq _ => hB1.block q hq⟩
  have Hown1 := hid (row_later (B := 0) Hown.out hB1 rfl)
  clear hB1 HI
  by_cases hkn : k = n
  · obtain rfl := hno hkn
    have Hkl : Hid (keepP P ps n = ps) := hid (by
      rw [← hkn, keepP_none hpre (by have := Hp.out; omega), List.take_of_length_le (by have := Hp.out; omega)])
    clear hyes hno hpre hkn hk
    go_wp2_with fail
    go_ret
    exact ⟨n, rfl, by rw [Hkl.out, Hp.out], by rw [Hkl.out]; exact Hown1.out, HG1.out⟩
  · have hlk : k < n := by omega
    obtain ⟨rfl, hdk⟩ := hyes hlk
    have hne1 : ((k : Int) == -1) = false := by first | (simp; done) | (simp; omega)
    have Hk1 : Hid (keepP P ps (k + 1) = ps.take (2 * k)) := hid (by rw [keepP, hdk, keepP_none hpre (by have := Hp.out; omega)]; simp)
    clear hyes hno hpre hkn hk hdk
    go_wp2_with fail
    go_loopw [5, 6] (fun i j wr => ∃ m q : Nat, q < m ∧ m ≤ n ∧ j = .int .i64 m ∧ i = .int .i64 q ∧ Hid ((keepP P ps m).length = 2 * q) ∧ Hid (∃ ys : List Int, ys.length = 2 * n ∧ ys.take (2 * q) = keepP P ps m ∧ (∀ t, 2 * m ≤ t → ys[t]? = ps[t]?) ∧ wr.ownsRow base 69 2 (.slice (some ⟨g, 0, none⟩) n cap) n (ys.map (Value.int .i64))) ∧ Hid (w.grownBy wr (some g))) (fun _ j _ => n - (intOf j).toNat)
    case atStart => exact ⟨k + 1, k, by omega, by omega, by first | rfl | go_num, rfl, hid (by rw [Hk1.out, List.length_take]; have := Hp.out; omega), hid ⟨ps, Hp.out, Hk1.out.symm, fun _ _ => rfl, Hown1.out⟩, HG1⟩
    case round =>
      obtain ⟨m, q, hqm, hmn, rfl, rfl, Hl, HY, HG⟩ := hrel
      obtain ⟨ys, hyl, hy1, hy2, hyo⟩ := HY.out
      clear HY
      have Hyl := hid hyl
      have Hy1 := hid hy1
      have Hy2 := hid hy2
      by_cases hlt2 : m < n
      · obtain ⟨_, _, hcs⟩ := own_pairs hyo
        have e1 : ys[m * 2]?.getD 0 = at0 ps (m * 2) := by rw [hy2 _ (by omega)]; rfl
        have e2 : ys[m * 2 + 1]?.getD 0 = at0 ps (m * 2 + 1) := by rw [hy2 _ (by omega)]; rfl
        have hc2 := hcs (m * 2) (by omega)
        have hc3 := hcs (m * 2 + 1) (by omega)
        rw [e1, Nat.zero_add] at hc2
        rw [e2, Nat.zero_add] at hc3
        have hw1 : (Lit.int .i64 (at0 ps (m * 2))).wf = true := Hwp.out _ (getD_mem (by have := Hp.out; omega))
        have hw2 : (Lit.int .i64 (at0 ps (m * 2 + 1))).wf = true := Hwp.out _ (getD_mem (by have := Hp.out; omega))
        have Hd : Hid (dropAtP P ps m = P (at0 ps (m * 2)) (at0 ps (m * 2 + 1))) := hid rfl
        have Hs : Hid (keepP P ps (m + 1) = keepP P ps m ++ (if dropAtP P ps m then [] else [at0 ps (m * 2), at0 ps (m * 2 + 1)])) := hid rfl
        obtain ⟨x, hx⟩ : ∃ x, x = at0 ps (m * 2) := ⟨_, rfl⟩
        obtain ⟨y, hy⟩ : ∃ y, y = at0 ps (m * 2 + 1) := ⟨_, rfl⟩
        rw [← hx] at hc2
        rw [← hy] at hc3
        rw [← hx, ← hy] at Hd Hs
        rw [← hx] at hw1
        rw [← hy] at hw2
        have hz := zero_pair wr
        have hsz := HG.out.size
        have hB2 : Below wr.heap.size wr (wr.alloc (.cells #[.int .i64 x, .int .i64 y] 69)) := (Below.refl _ wr).alloc (Nat.le_refl _) _
        have HG2 : Hid (w.grownBy (wr.alloc (.cells #[.int .i64 x, .int .i64 y] 69)) (some g)) := hid (HG.out.trans ⟨hB2.os, hB2.tape, hB2.output, hB2.size, fun q hq _ => hB2.block q hq⟩)
        have HC := hid (HD.out _ x y HG2.out hw1 hw2)
        have Hyo := hid (row_later (B := 0) hyo hB2 rfl)
        have hi0 : (0 : Int) ≤ (m : Int) := by omega
        have hi1 : (m : Int) < (n : Int) := by omega
        have hgw : g < wr.heap.size := by omega
        clear hx hy hw1 hw2 e1 e2 hcs hyo hyl hy1 hy2 hB2
        cases hb : P x y
        · rw [hb] at HC Hd
          clear hb
          go_wp2_with fail
          refine HC.out.mono ?_
          rintro e w2 ⟨rfl, hB3⟩
          have q0 := (hB3.cell (p := ⟨wr.heap.size, 0, none⟩) (by simp)).trans (by simp [go_sem] : (wr.alloc (.cells #[.int .i64 x, .int .i64 y] 69)).cell? ⟨wr.heap.size, 0, none⟩ = some (.int .i64 x))
          have q1 := (hB3.cell (p := ⟨wr.heap.size, 1, none⟩) (by simp)).trans (by simp [go_sem] : (wr.alloc (.cells #[.int .i64 x, .int .i64 y] 69)).cell? ⟨wr.heap.size, 1, none⟩ = some (.int .i64 y))
          have HG3 : Hid (w.grownBy w2 (some g)) := hid (HG2.out.trans ⟨hB3.os, hB3.tape, hB3.output, hB3.size, fun q hq _ => hB3.block q hq⟩)
          have hyo3 := row_later (B := 0) Hyo.out hB3 rfl
          have hcu := hyo3.cellAt (q * 2) (by omega)
          have hcu2 := hyo3.cellAt (q * 2 + 1) (by omega)
          have hls : (ys.map (Value.int .i64)).length = 2 * n := by simp [Hyl.out]
          rw [List.getElem?_eq_getElem (by omega)] at hcu hcu2
          have hfg := hyo3.frozenAt (q * 2)
          have hfg2 := hyo3.frozenAt (q * 2 + 1)
          have hst := hyo3.stored (q * 2) (.int .i64 x)
          have hst2 := hst.1.stored (q * 2 + 1) (.int .i64 y)
          rw [← List.map_set, ← List.map_set] at hst2
          have Hst := hid hst2.1
          have HG4 := hid ((HG3.out.trans hst.2).trans hst2.2)
          have He : Hid (keepP P ps (m + 1) = keepP P ps m ++ [x, y]) := hid (by rw [Hs.out, Hd.out]; simp)
          have hj0 : (0 : Int) ≤ (q : Int) := by omega
          have hj1 : (q : Int) < (n : Int) := by omega
          clear hB3 hyo3 hst hst2
          go_wp2_with fail
          go_roundw
          case rel => exact ⟨m + 1, q + 1, by omega, by omega, by go_num, by go_num, hid (by rw [He.out, List.length_append, Hl.out]; rfl), hid ⟨(ys.set (q * 2) x).set (q * 2 + 1) y, by simp [Hyl.out], by rw [He.out, put_twoP _ _ _ _ (by have := Hyl.out; omega), Hy1.out], fun t ht => by rw [List.getElem?_set_ne (by omega), List.getElem?_set_ne (by omega)]; exact Hy2.out t (by omega), Hst.out⟩, HG4⟩
          case measure => simp [intOf]; omega
        · rw [hb] at HC Hd
          clear hb
          go_wp2_with fail
          refine HC.out.mono ?_
          rintro e w2 ⟨rfl, hB3⟩
          have HG3 : Hid (w.grownBy w2 (some g)) := hid (HG2.out.trans ⟨hB3.os, hB3.tape, hB3.output, hB3.size, fun q hq _ => hB3.block q hq⟩)
          have Hyo3 := hid (row_later (B := 0) Hyo.out hB3 rfl)
          have He : Hid (keepP P ps (m + 1) = keepP P ps m) := hid (by rw [Hs.out, Hd.out]; simp)
          clear hB3
          go_wp2_with fail
          go_roundw
          case rel => exact ⟨m + 1, q, by omega, by omega, by go_num, rfl, hid (by rw [He.out]; exact Hl.out), hid ⟨ys, Hyl.out, by rw [He.out]; exact Hy1.out, fun t ht => Hy2.out t (by omega), Hyo3.out⟩, HG3⟩
          case measure => simp [intOf]; omega
      · obtain rfl : m = n := by omega
        obtain ⟨_, _, hcs⟩ := own_pairs hyo
        have hcl : ∀ ty, (Builtin.clear_ #[32] ty #[.slice (some ⟨g, q * 2, none⟩) (m - q) (cap - q)]).run Try.prog wr = .ok (.tuple #[]) (wr.setCells g (q * 2) (List.replicate ((m - q) * 2) (.int .i64 0))) :=
          fun ty => run_clear_pairsP wr ty g (q * 2) (m - q) (cap - q) (by omega) (fun j hj => by have := hcs (q * 2 + j) (by omega); rw [Nat.zero_add] at this; rw [this]; rfl) (fun j hj => hyo.frozenAt _)
        obtain ⟨zs, hz1, hz2, hz3⟩ := own_setCellsP (.int .i64 0) ((m - q) * 2) (q * 2) wr _ hyo (by simp; omega)
        have hfin := own_firstP (m := q) hz2 (by omega)
        rw [hz1, ← List.map_take, show q * 2 = 2 * q by omega, hy1, show 2 * q = q * 2 by omega] at hfin
        have Hfin := hid hfin
        have HGf := hid (HG.out.trans hz3)
        have hi0 : (0 : Int) ≤ (q : Int) := by omega
        have hi1 : (q : Int) ≤ (m : Int) := by omega
        have hi2 : (q : Int) ≤ (cap : Int) := by omega
        clear hfin hz1 hz2 hz3 hcs hyo hy2
        go_wp2_with fail
        go_ret
        exact ⟨q, rfl, Hl.out, Hfin.out, HGf.out⟩


set_option maxRecDepth 100000 in
set_option maxHeartbeats 1000000 in
theorem idxq_nil (fid : Nat) (c1 c2 : Value) (w : World) :
    Calls Try.prog 201 #[.slice none 0 0, .func (.func fid) #[] #[c1, c2]] w fun e w' => e = .returned (.int .i64 (-1)) ∧ w = w' := by
  go_enter Try.func201, Try.ntmps201
  go_wp2
  refine wp_loop_rounds 1 ?_; rw [rounds_succ]
  go_wp2
  go_ret
  exact ⟨rfl, rfl⟩

set_option maxRecDepth 100000 in
set_option maxHeartbeats 1000000 in
theorem delq_nil (fid : Nat) (c1 c2 : Value) (w : World) :
    Calls Try.prog 135 #[.slice none 0 0, .func (.func fid) #[] #[c1, c2]] w fun e w' => e = .returned (.slice none 0 0) ∧ w = w' := by
  go_enter Try.func135, Try.ntmps135
  go_wp2_with fail
  refine (idxq_nil fid c1 c2 w).mono ?_
  rintro e w1 ⟨rfl, rfl⟩
  go_wp2_with fail
  go_ret
  exact ⟨rfl, rfl⟩

theorem delq_row (base n : Nat) (v : Value) (ps : List Int) (fid : Nat) (c1 c2 : Value) (P : Int → Int → Bool) (w : World) (hn : n ≤ 1048576) (hown : w.ownsRow base 69 2 v n (ps.map (Value.int .i64))) (hbw : base ≤ w.heap.size)
    (hent : ∀ args w, (callFunc fid args).run Try.prog w = .ok (.enter fid args) w) (hcl : ∀ W x y, Below base w W → (Lit.int .i64 x).wf = true → (Lit.int .i64 y).wf = true → Calls Try.prog fid #[.agg #[.int .i64 x, .int .i64 y], c1, c2] W fun e w' => e = .returned (.bool (P x y)) ∧ Below W.heap.size W w') (hwp : ∀ x ∈ ps, (Lit.int .i64 x).wf = true) :
    Calls Try.prog 135 #[v, .func (.func fid) #[] #[c1, c2]] w fun e w' => ∃ (q : Nat) (v' : Value), e = .returned v' ∧ (keepP P ps n).length = 2 * q ∧ w'.ownsRow base 69 2 v' q ((keepP P ps n).map (Value.int .i64)) ∧ Below base w w' := by
  rcases hown.2 with ⟨rfl, rfl⟩ | ⟨g, cap, cur, rfl, hbg, _⟩
  · refine (delq_nil fid c1 c2 w).mono ?_
    rintro e w1 ⟨rfl, rfl⟩
    exact ⟨0, _, rfl, rfl, World.ownsRow_nil _ _ _ _, (Below.refl _ _)⟩
  · refine (delq_any base g n cap ps fid c1 c2 P w hn hown hent (fun W x y hB => hcl W x y ((Below.refl base w).grown hB hbw (fun k e => by injection e with e; omega))) hwp).mono ?_
    rintro e w1 ⟨q, rfl, h1, h2, h3⟩
    exact ⟨q, _, rfl, h1, h2, (Below.refl base w).grown h3 hbw (fun k e => by injection e with e; omega)⟩

end Go.Proofs.Ytgcpakhagbbiiaa

/-! pairsAlong, for a function that wants all faces. -/
namespace Go.Proofs.Ytgcpakhagbbiiaa
open Go.RowKit

theorem below_dr (w : World) (n : Nat) {B : Nat} (hB : B ≤ w.heap.size) : Below B w (w.drewN n) := Below.mono ⟨rfl, rfl, rfl, Nat.le_refl _, fun _ _ => rfl⟩ hB
/-- Is a pair struck out? -/
def alongB (v : Nat) (x y : Int) : Bool := bits BinOp.or IntKind.i64 x (wrap64 (2 ^ v)) != y

set_option maxRecDepth 100000 in
set_option maxHeartbeats 1000000 in
theorem want_all (x : Int) (w : World) : Calls Try.prog 70 #[.int .i64 x] w fun e w' => e = .returned (.bool true) ∧ w = w' := by
  go_enter Try.func70, Try.ntmps70
  go_wp2
  go_ret
  exact ⟨rfl, rfl⟩

set_option maxRecDepth 100000 in
set_option maxHeartbeats 1000000 in
theorem along_any (x y : Int) (v bv bw : Nat) (w : World) (hv : v < 6) (hbv : w.cell? ⟨bv, 0, none⟩ = some (.int .i64 (v : Int))) (hbw : w.cell? ⟨bw, 0, none⟩ = some (.func (.func 70) #[] #[])) :
    Calls Try.prog 137 #[.agg #[.int .i64 x, .int .i64 y], .pointer (some ⟨bv, 0, none⟩), .pointer (some ⟨bw, 0, none⟩)] w fun e w' => e = .returned (.bool (alongB v x y)) ∧ Below w.heap.size w w' := by
  have hent : ∀ args w, (callFunc 70 args).run Try.prog w = .ok (.enter 70 args) w := enters_of Try.func70 (by kernel_rfl) rfl
  have hl1 := World.block_lt_of_cell? w _ hbv
  have hl2 := World.block_lt_of_cell? w _ hbw
  have hB0 : Below w.heap.size w (w.alloc (.cells #[.int .i64 x, .int .i64 y] 69)) := (Below.refl _ w).alloc (Nat.le_refl _) _
  have c1 := (hB0.cell (p := ⟨bv, 0, none⟩) hl1).trans hbv
  have c2 := (hB0.cell (p := ⟨bw, 0, none⟩) hl2).trans hbw
  have hv0 : (0 : Int) ≤ (v : Int) := by omega
  have HB0 := hid hB0
  obtain ⟨c, hc⟩ : ∃ c, alongB v x y = c := ⟨_, rfl⟩
  rw [hc]
  unfold alongB at hc
  clear hbv hbw hB0
  cases c
  · go_enter Try.func137, Try.ntmps137
    go_wp2_with fail
    go_quiet (first
      | (go_at_call 70; exact quiet_of_eq (want_all x _))
      | (go_at_call 70; exact quiet_of_eq (want_all y _)))
    go_wp2_with fail
    go_ret
    exact ⟨rfl, HB0.out.trans (below_dr _ _ HB0.out.size)⟩
  · go_enter Try.func137, Try.ntmps137
    go_wp2_with fail
    go_quiet (fail)
    go_wp2_with fail
    go_ret
    exact ⟨rfl, HB0.out.trans (below_dr _ _ HB0.out.size)⟩

end Go.Proofs.Ytgcpakhagbbiiaa

/-! PairingByVertex, on both sides. -/
namespace Go.Proofs.Ytgcpakhagbbiiaa
open Go.RowKit

/-- The pairs along a vertex. -/
def vpOf (fs : List Int) (v : Nat) (x : Int) : List (Int × Int) := if x.toNat ||| 2 ^ v ≠ x.toNat ∧ ((x.toNat ||| 2 ^ v : Nat) : Int) ∈ fs then [(x, ((x.toNat ||| 2 ^ v : Nat) : Int))] else []
def vpL (fs : List Int) (v k : Nat) : List (Int × Int) := (fs.take k).flatMap (vpOf fs v)
theorem vpL_succ {fs : List Int} {v k : Nat} (hlt : k < fs.length) : vpL fs v (k + 1) = vpL fs v k ++ vpOf fs v (fs[k]?.getD 0) := by
  unfold vpL
  rw [take_snoc hlt, List.flatMap_append]
  simp
theorem vpL_len (fs : List Int) (v : Nat) : ∀ k, k ≤ fs.length → (vpL fs v k).length ≤ k
  | 0, _ => by simp [vpL]
  | k + 1, h => by
    have h1 := vpL_len fs v k (by omega)
    have h2 : (vpOf fs v (fs[k]?.getD 0)).length ≤ 1 := by unfold vpOf; split <;> simp
    rw [vpL_succ (by omega), List.length_append]
    omega
theorem or_bits6 : ∀ f : Fin 64, ∀ v : Fin 6, bits BinOp.or IntKind.i64 (f.val : Int) (wrap64 (2 ^ v.val)) = ((f.val ||| 2 ^ v.val : Nat) : Int) := by decide +kernel
theorem or_inj6 : ∀ x : Fin 64, ∀ v m : Fin 6, x.val ||| 2 ^ m.val ≠ x.val → (x.val ||| 2 ^ v.val = x.val ||| 2 ^ m.val ↔ v = m) := by decide +kernel
theorem and_zero6 : ∀ x : Fin 64, ∀ v : Fin 6, (bits BinOp.and IntKind.i64 (x.val : Int) (wrap64 (2 ^ v.val)) == 0) = decide (x.val ||| 2 ^ v.val ≠ x.val) := by decide +kernel
theorem keepP_flat (P : Int → Int → Bool) (L : List (Int × Int)) : ∀ k, k ≤ L.length → keepP P (flatP L) k = flatP ((L.take k).filter fun p => !P p.1 p.2)
  | 0, _ => rfl
  | k + 1, h => by
    obtain ⟨e1, e2⟩ := flatP_at L k (by omega)
    have et : L.take (k + 1) = L.take k ++ [L[k]?.getD (0, 0)] := by rw [List.take_succ_eq_append_getElem (by omega), List.getElem?_eq_getElem (by omega)]; simp
    rw [keepP, keepP_flat P L k (by omega), et, List.filter_append]
    unfold dropAtP
    rw [e1, e2]
    obtain ⟨p, hp⟩ : ∃ p, p = L[k]?.getD (0, 0) := ⟨_, rfl⟩
    rw [← hp]
    have e : flatP (List.filter (fun p => !P p.1 p.2) (L.take k) ++ List.filter (fun p => !P p.1 p.2) [p]) = flatP (List.filter (fun p => !P p.1 p.2) (L.take k)) ++ flatP (List.filter (fun p => !P p.1 p.2) [p]) := by simp [flatP]
    rw [e]
    congr 1
    cases hb : P p.1 p.2 <;> simp [hb, flatP]
theorem up_filter (fs : List Int) {x v : Nat} (hx : x < 64) (hv : v < 6) : ∀ m, m ≤ 6 → (upS fs x m).filter (fun p => !alongB v p.1 p.2) = if v < m then vpOf fs v (x : Int) else []
  | 0, _ => by simp [upS]
  | m + 1, h => by
    have ih := up_filter fs hx hv m (by omega)
    have hb := or_bits6 ⟨x, hx⟩ ⟨v, hv⟩
    obtain ⟨c, hc⟩ : ∃ c, (decide (x ||| 2 ^ m ≠ x) && decide (((x ||| 2 ^ m : Nat) : Int) ∈ fs)) = c := ⟨_, rfl⟩
    rw [upS_succ fs x m c hc, List.filter_append, ih]
    simp only at hb
    cases c
    · simp only [Bool.false_eq_true, if_false, List.filter_nil, List.append_nil]
      by_cases hvm : v < m
      · rw [if_pos hvm, if_pos (by omega)]
      · rw [if_neg hvm]
        by_cases he : v < m + 1
        · obtain rfl : v = m := by omega
          rw [if_pos he]
          unfold vpOf
          rw [Int.toNat_natCast, if_neg]
          intro hh
          rw [decide_eq_true hh.1, decide_eq_true hh.2] at hc
          cases hc
        · rw [if_neg he]
    · simp only [Bool.and_eq_true, decide_eq_true_eq] at hc
      have hin := or_inj6 ⟨x, hx⟩ ⟨v, hv⟩ ⟨m, by omega⟩ hc.1
      simp only [Fin.mk.injEq] at hin
      by_cases hvm : v = m
      · subst hvm
        rw [if_neg (Nat.lt_irrefl _), if_pos (Nat.lt_succ_self _)]
        unfold vpOf alongB
        rw [Int.toNat_natCast, if_pos hc]
        simp [hb]
      · have hne : ¬ x ||| 2 ^ v = x ||| 2 ^ m := fun e => hvm (hin.1 e)
        have hal : alongB v (x : Int) ((x ||| 2 ^ m : Nat) : Int) = true := by
          unfold alongB
          rw [hb]
          simp only [bne_iff_ne, ne_eq, Int.natCast_inj]
          exact hne
        have e : List.filter (fun p : Int × Int => !alongB v p.1 p.2) (if true = true then [((x : Int), ((x ||| 2 ^ m : Nat) : Int))] else []) = [] := by simp [hal]
        rw [e, List.append_nil]
        by_cases hlt : v < m
        · rw [if_pos hlt, if_pos (by omega)]
        · rw [if_neg hlt, if_neg (by omega)]
theorem keep_along {V : Int} {fs : List Int} (hC : IsC V fs) {v : Nat} (hv : (v : Int) < V) : keepP (alongB v) (flatP (pairsL fs V.toNat fs.length)) (pairsL fs V.toNat fs.length).length = flatP (vpL fs v fs.length) := by
  have hV := hC.hi
  rw [keepP_flat _ _ _ (Nat.le_refl _), List.take_length]
  congr 1
  unfold pairsL vpL
  rw [List.take_length, List.filter_flatMap]
  have hr := hC.range63
  have key : ∀ l : List Int, (∀ x ∈ l, x ∈ fs) → l.flatMap (fun a => List.filter (fun p => !alongB v p.1 p.2) (upS fs a.toNat V.toNat)) = l.flatMap (vpOf fs v) := by
    intro l
    induction l with
    | nil => intro _; rfl
    | cons x l ih =>
      intro h
      have hx := hr x (h x (by simp))
      rw [List.flatMap_cons, List.flatMap_cons, ih (fun y hy => h y (by simp [hy])), up_filter fs (by omega) (by omega) V.toNat (by omega), if_pos (by omega), Int.toNat_of_nonneg (by omega)]
  exact key fs (fun x hx => hx)

/-- What PairingByVertex answers. -/
noncomputable def byVR (V : Int) (fs : List Int) (v : Int) : List (Int × Int) × Int := if isCB V fs then (if 0 ≤ v ∧ v < V then (vpL fs v.toNat fs.length, 0) else ([], 2)) else ([], 1)
theorem byVR_len (V : Int) (fs : List Int) (v : Int) (h : fs.length ≤ 1048576) : (byVR V fs v).1.length ≤ 1048576 := by
  unfold byVR
  split
  · split
    · exact Nat.le_trans (vpL_len fs v.toNat fs.length (Nat.le_refl _)) h
    · simp
  · simp

set_option maxRecDepth 1000000 in
set_option maxHeartbeats 4000000 in
theorem pairsAlong_any (vn : Nat) (v : Nat) (a0 : Option Addr) (cap : Nat) (fs : List Int) (w : World) (hx : SlI w w.heap.size a0 fs) (hC : IsC (vn : Int) fs) (hv : v < vn) :
    Calls Try.prog 69 #[.agg #[.int .i64 vn, .slice a0 fs.length cap], .int .i64 (v : Int), .func (.func 70) #[] #[]] w fun e w' => ∃ u, e = .returned u ∧ ResP w w' u (vpL fs v fs.length) := by
  have h63 := hC.len63
  have hr := hC.range63
  have hkf := keep_along hC (v := v) (by omega)
  rw [Int.toNat_natCast] at hkf
  have hvn : vn ≤ 6 := by have := hC.hi; omega
  have hpl := pairsL_len fs vn fs.length (Nat.le_refl _)
  have hpl2 : (pairsL fs vn fs.length).length ≤ 1048576 := by
    have : fs.length * vn ≤ 63 * 6 := Nat.mul_le_mul h63 hvn
    omega
  have hwp : ∀ x ∈ flatP (pairsL fs vn fs.length), (Lit.int .i64 x).wf = true := by
    intro x hx
    obtain ⟨p, hp, hx⟩ := List.mem_flatMap.1 hx
    have hm := (mem_pairsL hC p.1 p.2).1 (by rw [Int.toNat_natCast]; exact hp)
    unfold pairB at hm
    simp only [Bool.and_eq_true, decide_eq_true_eq] at hm
    have h1 := hr _ hm.1.1.1
    have h2 := hr _ hm.1.1.2
    simp at hx
    rcases hx with rfl | rfl
    · exact WalkArith.wf_i64 (by omega)
    · exact WalkArith.wf_i64 (by omega)
  have hent : ∀ args w, (callFunc 137 args).run Try.prog w = .ok (.enter 137 args) w := enters_of Try.func137 (by kernel_rfl) rfl
  obtain ⟨W0, hW0⟩ : ∃ W0, W0 = ((w.alloc (.cells #[.int .i64 vn, .slice a0 fs.length cap] 30)).alloc (.cells #[.int .i64 (v : Int)] 2)).alloc (.cells #[.func (.func 70) #[] #[]] 83) := ⟨_, rfl⟩
  have hB0 : Below w.heap.size w W0 := by rw [hW0]; exact (((Below.refl _ w).alloc (Nat.le_refl _) _).alloc (by simp) _).alloc (by simp; omega) _
  have hs0 : W0.heap.size = w.heap.size + 3 := by rw [hW0]; simp
  have c1 : W0.cell? ⟨w.heap.size + 1, 0, none⟩ = some (.int .i64 (v : Int)) := by rw [hW0]; simp [go_sem]
  have c2 : W0.cell? ⟨w.heap.size + 1 + 1, 0, none⟩ = some (.func (.func 70) #[] #[]) := by rw [hW0]; simp [go_sem]
  have HP := hid (pairsOf_any vn a0 cap fs W0 (hx.later hB0 hB0.size) (by omega) hC)
  rw [hW0] at HP
  have HB0 := hid hB0
  have Hkf := hid hkf
  have Hwp := hid hwp
  have C1 := hid c1
  have C2 := hid c2
  have Hent := hid hent
  clear hx hC hr hkf hpl hwp hB0 c1 c2 hent
  go_enter Try.func69, Try.ntmps69
  go_wp2_with fail
  refine HP.out.mono ?_
  rintro e w1 ⟨u, rfl, hown, hB1⟩
  rw [← hW0] at hown hB1
  have HDel := hid (delq_row (W0.heap.size) _ u _ 137 (.pointer (some ⟨w.heap.size + 1, 0, none⟩)) (.pointer (some ⟨w.heap.size + 1 + 1, 0, none⟩)) (alongB v) w1 hpl2 (ownsRow_base hown (by omega)) hB1.size Hent.out (fun W x y hB _ _ => along_any x y v _ _ W (by omega) ((hB.cell (p := ⟨w.heap.size + 1, 0, none⟩) (by simp only; omega)).trans ((hB1.cell (p := ⟨w.heap.size + 1, 0, none⟩) (by simp only; omega)).trans C1.out)) ((hB.cell (p := ⟨w.heap.size + 1 + 1, 0, none⟩) (by simp only; omega)).trans ((hB1.cell (p := ⟨w.heap.size + 1 + 1, 0, none⟩) (by simp only; omega)).trans C2.out))) Hwp.out)
  have HB1 := hid (HB0.out.trans (hB1.mono HB0.out.size))
  have hsz1 := hB1.size
  clear hown hB1 HP hW0
  go_wp2_with fail
  refine HDel.out.mono ?_
  rintro e w2 ⟨q, v', rfl, hq, ho, hB2⟩
  rw [Hkf.out] at hq ho
  have hql : q = (vpL fs v fs.length).length := by rw [flatP_len] at hq; omega
  subst hql
  have Ho := hid (ownsRow_base (base' := w.heap.size) ho (by omega))
  have HB2 := hid (HB1.out.trans (hB2.mono (by omega)))
  clear ho hB2
  go_wp2_with fail
  go_ret
  exact ⟨_, rfl, Ho.out, HB2.out⟩

end Go.Proofs.Ytgcpakhagbbiiaa

/-! PairingByVertex: both doors. -/
namespace Go.Proofs.Ytgcpakhagbbiiaa
open Go.RowKit

theorem resP_mono {w : World} {f : FuncId} {args : Array Value} {R S : List (Int × Int) × Int} (h : R = S) (hc : Calls Try.prog f args w fun e w' => ∃ v, e = .returned (.tuple #[v, .int .i64 S.2]) ∧ ResP w w' v S.1) : Calls Try.prog f args w fun e w' => ∃ v, e = .returned (.tuple #[v, .int .i64 R.2]) ∧ ResP w w' v R.1 := by rw [h]; exact hc

set_option maxRecDepth 1000000 in
set_option maxHeartbeats 4000000 in
theorem implPairingByVertex (V : Int) (a0 : Option Addr) (cap : Nat) (fs : List Int) (d : Int) (w : World) (hx : SlI w w.heap.size a0 fs) (hl : fs.length ≤ 1048576) (_wd : (Lit.int .i64 d).wf = true) :
    Calls Try.prog 31 #[.agg #[.int .i64 V, .slice a0 fs.length cap], .int .i64 d] w fun e w' => ∃ v, e = .returned (.tuple #[v, .int .i64 (byVR V fs d).2]) ∧ ResP w w' v (byVR V fs d).1 := by
  have hB0 : Below w.heap.size w (w.alloc (.cells #[.int .i64 V, .slice a0 fs.length cap] 30)) := (Below.refl _ w).alloc (Nat.le_refl _) _
  have HI := hid (implIsComplex V a0 cap fs _ (hx.later hB0 hB0.size) hl)
  have Hx := hid hx
  have HB0 := hid hB0
  clear hx hB0
  cases hc : isCB V fs
  · refine resP_mono (show byVR V fs d = ([], 1) by unfold byVR; rw [hc]; rfl) ?_
    rw [hc] at HI
    clear hc
    go_enter Try.func31, Try.ntmps31
    go_wp2_with fail
    refine HI.out.mono ?_
    rintro e w1 ⟨rfl, hB1⟩
    have HB1 := hid (HB0.out.trans (hB1.mono (by simp)))
    clear hB1
    go_wp2_with fail
    go_ret2
    exact ⟨_, rfl, resP_nil _ _ HB1.out⟩
  · have hC := isCB_iff.1 hc
    rw [hc] at HI
    by_cases h0 : d < 0
    · refine resP_mono (show byVR V fs d = ([], 2) by unfold byVR; rw [hc, if_pos rfl, if_neg (by omega)]) ?_
      clear hc hC
      go_enter Try.func31, Try.ntmps31
      go_wp2_with fail
      refine HI.out.mono ?_
      rintro e w1 ⟨rfl, hB1⟩
      have HB1 := hid (HB0.out.trans (hB1.mono (by simp)))
      clear hB1
      go_wp2_with fail
      go_ret2
      exact ⟨_, rfl, resP_nil _ _ HB1.out⟩
    · by_cases h1 : V ≤ d
      · refine resP_mono (show byVR V fs d = ([], 2) by unfold byVR; rw [hc, if_pos rfl, if_neg (by omega)]) ?_
        clear hc hC
        go_enter Try.func31, Try.ntmps31
        go_wp2_with fail
        refine HI.out.mono ?_
        rintro e w1 ⟨rfl, hB1⟩
        have k0 : w1.cell? ⟨w.heap.size, 0, none⟩ = some (.int .i64 V) := (hB1.cell (p := ⟨w.heap.size, 0, none⟩) (by simp)).trans (by simp [go_sem])
        have HB1 := hid (HB0.out.trans (hB1.mono (by simp)))
        clear hB1
        go_wp2_with fail
        go_ret2
        exact ⟨_, rfl, resP_nil _ _ HB1.out⟩
      · obtain ⟨v, rfl⟩ : ∃ v : Nat, d = (v : Int) := ⟨d.toNat, by omega⟩
        obtain ⟨vn, rfl⟩ : ∃ vn : Nat, V = (vn : Int) := ⟨V.toNat, by have := hC.lo; omega⟩
        refine resP_mono (show byVR vn fs v = (vpL fs v fs.length, 0) by unfold byVR; rw [hc, if_pos rfl, if_pos (by omega), Int.toNat_natCast]) ?_
        have HA := hid (fun W (h : Below w.heap.size w W) => pairsAlong_any vn v a0 cap fs W (Hx.out.later h h.size) hC (by omega))
        clear hc hC
        go_enter Try.func31, Try.ntmps31
        go_wp2_with fail
        refine HI.out.mono ?_
        rintro e w1 ⟨rfl, hB1⟩
        have k0 : w1.cell? ⟨w.heap.size, 0, none⟩ = some (.int .i64 vn) := (hB1.cell (p := ⟨w.heap.size, 0, none⟩) (by simp)).trans (by simp [go_sem])
        have k1 : w1.cell? ⟨w.heap.size, 1, none⟩ = some (.slice a0 fs.length cap) := (hB1.cell (p := ⟨w.heap.size, 1, none⟩) (by simp)).trans (by simp [go_sem])
        have HB1 := hid (HB0.out.trans (hB1.mono (by simp)))
        clear hB1
        go_wp2_with fail
        refine (HA.out w1 HB1.out).mono ?_
        rintro e w2 ⟨u, rfl, hr⟩
        have HR := hid (hr.later HB1.out)
        clear hr
        go_wp2_with fail
        go_ret2
        exact ⟨u, rfl, HR.out⟩

theorem wrapU {x : Nat} (h : x < 64) : IntKind.u64.wrap (x : Int) = (x : Int) := by
  have : ∀ y : Fin 64, IntKind.u64.wrap (y.val : Int) = (y.val : Int) := by decide +kernel
  exact this ⟨x, h⟩

set_option maxRecDepth 1000000 in
set_option maxHeartbeats 4000000 in
theorem specPairingByVertex (V : Int) (a0 : Option Addr) (cap : Nat) (fs : List Int) (d : Int) (w : World) (hx : SlI w w.heap.size a0 fs) (hl : fs.length ≤ 1048576) (_wd : (Lit.int .i64 d).wf = true) :
    Calls Try.prog 30 #[.agg #[.int .i64 V, .slice a0 fs.length cap], .int .i64 d] w fun e w' => ∃ v, e = .returned (.tuple #[v, .int .i64 (byVR V fs d).2]) ∧ ResP w w' v (byVR V fs d).1 := by
  have hB0 : Below w.heap.size w (w.alloc (.cells #[.int .i64 V, .slice a0 fs.length cap] 30)) := (Below.refl _ w).alloc (Nat.le_refl _) _
  have HI := hid (is_all V a0 cap fs _ (hx.later hB0 hB0.size) hl)
  have Hx := hid hx
  have HB0 := hid hB0
  clear hx hB0
  cases hc : isCB V fs
  · refine resP_mono (show byVR V fs d = ([], 1) by unfold byVR; rw [hc]; rfl) ?_
    rw [hc] at HI
    clear hc
    go_enter Try.func30, Try.ntmps30
    go_wp2_with fail
    refine HI.out.mono ?_
    rintro e w1 ⟨rfl, hB1⟩
    have HB1 := hid (HB0.out.trans (hB1.mono (by simp)))
    clear hB1
    go_wp2_with fail
    go_ret2
    exact ⟨_, rfl, resP_nil _ _ HB1.out⟩
  · have hC := isCB_iff.1 hc
    have hVl := hC.lo
    have hVh := hC.hi
    have hsub : wrap64 (V - 1) = V - 1 := IntWalk.wrap64_in _ ⟨by omega, by omega⟩
    rw [hc] at HI
    by_cases h0 : 0 ≤ d ∧ d ≤ V - 1
    · obtain ⟨v, rfl⟩ : ∃ v : Nat, d = (v : Int) := ⟨d.toNat, by omega⟩
      refine resP_mono (show byVR V fs v = (vpL fs v fs.length, 0) by unfold byVR; rw [hc, if_pos rfl, if_pos (by omega), Int.toNat_natCast]) ?_
      have HIn := hid (fun W => in_yes (v : Int) 0 (V - 1) W h0.1 h0.2)
      have hv6 : v < 6 := by omega
      have h63 := hC.len63
      have HR := hid hC.range63
      have hu64 : IntKind.u64.wrap (v : Int) = (v : Int) := wrapU (by omega)
      clear hc hC h0
      go_enter Try.func30, Try.ntmps30
      go_wp2_with fail
      refine HI.out.mono ?_
      rintro e w1 ⟨rfl, hB1⟩
      have k0 : w1.cell? ⟨w.heap.size, 0, none⟩ = some (.int .i64 V) := (hB1.cell (p := ⟨w.heap.size, 0, none⟩) (by simp)).trans (by simp [go_sem])
      have k1 : w1.cell? ⟨w.heap.size, 1, none⟩ = some (.slice a0 fs.length cap) := (hB1.cell (p := ⟨w.heap.size, 1, none⟩) (by simp)).trans (by simp [go_sem])
      have HB1 := hid (HB0.out.trans (hB1.mono (by simp)))
      have hlt1 : w.heap.size < w1.heap.size := by have := hB1.size; simp at this; omega
      clear hB1
      go_wp2_with fail
      refine (HIn.out _).mono ?_
      rintro e w2 ⟨rfl, rfl⟩
      have hown0 := World.ownsRow_made (base := w1.heap.size) (e := 69) (size := 2) w1 #[] 0 (by simp) (by simp [maxLen]) rfl
      have Hown0 := hid hown0
      have HB2 := hid ((Below.refl w1.heap.size w1).alloc (Nat.le_refl _) (.cells #[] 69))
      clear hown0
      go_wp2_with fail
      go_loopw [6, 8] (fun ov iv wx => ∃ (k : Nat) (u : Value), k ≤ fs.length ∧ ov = u ∧ iv = .int .i64 k ∧ Hid (wx.ownsRow w1.heap.size 69 2 u (vpL fs v k).length ((flatP (vpL fs v k)).map (Value.int .i64))) ∧ Hid (Below w1.heap.size w1 wx)) (fun _ iv _ => fs.length - (intOf iv).toNat)
      case atStart => exact ⟨0, _, Nat.zero_le _, rfl, rfl, Hown0, HB2⟩
      case round =>
        clear Hown0 HB2
        obtain ⟨k, u, hk, rfl, rfl, HO, HB⟩ := hrel
        have hsz := HB.out.size
        have q1 := (HB.out.cell (p := ⟨w.heap.size, 1, none⟩) hlt1).trans k1
        have q0 := (HB.out.cell (p := ⟨w.heap.size, 0, none⟩) hlt1).trans k0
        by_cases hlt : k < fs.length
        · obtain ⟨b, off, hb, rfl, hcx⟩ : ∃ b off, b < w.heap.size ∧ a0 = some ⟨b, off, none⟩ ∧ ∀ i, i < fs.length → w.cell? ⟨b, off + i, none⟩ = some (.int .i64 (fs[i]?.getD 0)) := by
            rcases Hx.out with h | h
            · rw [h] at hlt; simp at hlt
            · exact h
          have hxr := HR.out _ (getD_mem hlt)
          obtain ⟨f, hf⟩ : ∃ f : Nat, (f : Int) = fs[k]?.getD 0 := ⟨(fs[k]?.getD 0).toNat, by omega⟩
          have hck : wr.cell? ⟨b, off + k, none⟩ = some (.int .i64 (f : Int)) := by
            rw [hf]; exact (HB.out.cell (p := ⟨b, off + k, none⟩) (by show b < _; omega)).trans ((HB1.out.cell (p := ⟨b, off + k, none⟩) hb).trans (hcx k hlt))
          have hf64 : f < 64 := by omega
          have hand := and_zero6 ⟨f, hf64⟩ ⟨v, hv6⟩
          have hor := or_bits6 ⟨f, hf64⟩ ⟨v, hv6⟩
          simp only at hand hor
          have hvs := vpL_succ (v := v) hlt
          rw [← hf] at hvs
          have hvp : vpOf fs v (f : Int) = if f ||| 2 ^ v ≠ f ∧ ((f ||| 2 ^ v : Nat) : Int) ∈ fs then [((f : Int), ((f ||| 2 ^ v : Nat) : Int))] else [] := rfl
          obtain ⟨h, hh⟩ : ∃ h : Nat, h = f ||| 2 ^ v := ⟨_, rfl⟩
          rw [← hh] at hand hor hvp
          have HH := hid (has_any V (h : Int) (some ⟨b, off, none⟩) cap fs wr (Hx.out.later (HB1.out.trans (HB.out.mono HB1.out.size)) (HB1.out.trans (HB.out.mono HB1.out.size)).size) hl)
          have hi0 : (0 : Int) ≤ (k : Int) := by omega
          have hi1 : (k : Int) < (fs.length : Int) := by omega
          have hLl : (vpL fs v k).length ≤ 63 := by have := vpL_len fs v k hk; omega
          obtain ⟨L, hL⟩ : ∃ L, L = vpL fs v k := ⟨_, rfl⟩
          rw [← hL] at HO hvs hLl
          clear hcx hf hL
          by_cases hz : h = f
          · have hd : (bits BinOp.and IntKind.i64 (f : Int) (wrap64 (2 ^ v)) == 0) = false := by rw [hand, decide_eq_false]; omega
            have Hvs : Hid (vpL fs v (k + 1) = L) := hid (by rw [hvs, hvp, if_neg (fun c => c.1 hz), List.append_nil])
            clear hand hvs hvp hz hh HH
            go_wp2_with fail
            go_roundw
            case rel => exact ⟨k + 1, _, by omega, rfl, by go_num, by rw [Hvs.out]; exact HO, HB⟩
            case measure => simp [intOf]; omega
          · have hd : (bits BinOp.and IntKind.i64 (f : Int) (wrap64 (2 ^ v)) == 0) = true := by rw [hand, decide_eq_true]; omega
            clear hand hh
            by_cases hm : (h : Int) ∈ fs
            · rw [decide_eq_true hm] at HH
              have Hvs : Hid (vpL fs v (k + 1) = L ++ [((f : Int), (h : Int))]) := hid (by rw [hvs, hvp, if_pos ⟨hz, hm⟩])
              clear hvs hvp hz hm
              go_wp2_with fail
              refine HH.out.mono ?_
              rintro e w2 ⟨rfl, hB2⟩
              have HO2 := hid (row_later (B := 0) HO.out hB2 rfl)
              have HB2 := hid (HB.out.trans (hB2.mono hsz))
              have hsz2 := HB2.out.size
              clear hB2
              go_wp2_with (at_builtin; refine append_pair rfl rfl HO2.out hsz2 (by omega) rfl rfl ?_; intro v' w3 hown3 hgrow3 hB3)
              have HO3 := hid hown3
              have HB3 := hid (HB2.out.trans (hB3.mono (Nat.le_refl _)))
              clear hown3 hgrow3 hB3
              go_wp2_with fail
              go_roundw
              case rel => exact ⟨k + 1, v', by omega, rfl, by go_num, by rw [Hvs.out]; exact HO3, HB3⟩
              case measure => simp [intOf]; omega
            · rw [decide_eq_false hm] at HH
              have Hvs : Hid (vpL fs v (k + 1) = L) := hid (by rw [hvs, hvp, if_neg (fun c => hm c.2), List.append_nil])
              clear hvs hvp hz hm
              go_wp2_with fail
              refine HH.out.mono ?_
              rintro e w2 ⟨rfl, hB2⟩
              have HO2 := hid (row_later (B := 0) HO.out hB2 rfl)
              have HB2 := hid (HB.out.trans (hB2.mono hsz))
              clear hB2
              go_wp2_with fail
              go_roundw
              case rel => exact ⟨k + 1, _, by omega, rfl, by go_num, by rw [Hvs.out]; exact HO2, HB2⟩
              case measure => simp [intOf]; omega
        · obtain rfl : k = fs.length := by omega
          go_wp2_with fail
          go_ret2
          exact ⟨_, rfl, ownsRow_base HO.out HB1.out.size, HB1.out.trans (HB.out.mono HB1.out.size)⟩
    · refine resP_mono (show byVR V fs d = ([], 2) by unfold byVR; rw [hc, if_pos rfl, if_neg (by omega)]) ?_
      have HIn := hid (fun W => in_no d 0 (V - 1) W h0)
      clear hc hC h0
      go_enter Try.func30, Try.ntmps30
      go_wp2_with fail
      refine HI.out.mono ?_
      rintro e w1 ⟨rfl, hB1⟩
      have k0 : w1.cell? ⟨w.heap.size, 0, none⟩ = some (.int .i64 V) := (hB1.cell (p := ⟨w.heap.size, 0, none⟩) (by simp)).trans (by simp [go_sem])
      have HB1 := hid (HB0.out.trans (hB1.mono (by simp)))
      clear hB1
      go_wp2_with fail
      refine (HIn.out _).mono ?_
      rintro e w2 ⟨rfl, rfl⟩
      go_wp2_with fail
      go_ret2
      exact ⟨_, rfl, resP_nil _ _ HB1.out⟩

end Go.Proofs.Ytgcpakhagbbiiaa

/-! The law on PairingByVertex, walked. -/
namespace Go.Proofs.Ytgcpakhagbbiiaa
open Go.RowKit

set_option maxRecDepth 100000 in
set_option maxHeartbeats 8000000 in
theorem law_PairingByVertex (V0 : Int) (a0 : Option Addr) (cap0 : Nat) (xs0 : List Int) (d1 : Int) (w : World) (hx0 : SlI w w.heap.size a0 xs0)  (hn0 : xs0.length ≤ 9223372036854775807) (wd1 : (Lit.int .i64 d1).wf = true) :
    Calls Try.prog 5 #[.agg #[.int .i64 V0, .slice a0 xs0.length cap0], .int .i64 d1] w fun e w' => e = .returned (.bool true) ∧ Below w.heap.size w w' := by
  have F0 : Book w w [(a0, xs0)] [] [] := ⟨Below.refl _ _, by simp; exact hx0, by simp, by simp⟩
  have F0 := F0.alloc (.cells #[.int .i64 V0, .slice a0 xs0.length cap0] 24)
  (try simp only [World.size_alloc] at F0)
  have B0 := hid F0
  clear F0 hx0
  obtain ⟨r0, hr0⟩ : ∃ r, r = szR 1048576 xs0.length := ⟨_, rfl⟩
  have Hr0 := hid hr0
  by_cases hb0 : 1048576 < xs0.length
  · have hm0 : r0 = -1 := by rw [hr0]; exact szR_big (by omega)
    clear hb0
    clear hr0
    go_enter Try.func5, Try.ntmps5
    go_wp2_with fail
    refine (szCx V0 a0 xs0.length cap0 1048576 _ (by omega) (by omega) hn0).mono ?_
    rintro e s0 ⟨rfl, hB⟩
    have zs0 := hB.size
    (try simp only [World.size_alloc] at zs0)
    have B0 := hid (B0.out.below hB)
    clear hB
    rw [← Hr0.out]
    go_wp2_with fail
    go_ret
    exact ⟨rfl, B0.out.from0⟩
  · have hv0 : r0 = 1048576 - xs0.length := by rw [hr0, szR_fit (by omega)]
    have hg0 : 0 ≤ r0 := by omega
    have hu0 : r0 ≤ 1048576 := by omega
    have hl0 : xs0.length ≤ 1048576 := by omega
    clear hr0 hb0
    have Hv0 := hid hv0
    clear hv0
    obtain ⟨R, hR⟩ : ∃ R, R = byVR V0 xs0 d1 := ⟨_, rfl⟩
    have hRl : R.1.length ≤ 1048576 := by rw [hR]; exact byVR_len V0 xs0 d1 hl0
    obtain ⟨ys, c⟩ := R
    simp only at hRl
    have HS : Hid (∀ a0 cap0 w', SlI w' w'.heap.size a0 xs0 → Calls Try.prog 30 #[.agg #[.int .i64 V0, .slice a0 xs0.length cap0], .int .i64 d1] w' fun e w'' => ∃ v, e = .returned (.tuple #[v, .int .i64 c]) ∧ ResP w' w'' v ys) :=
      hid (fun a0 cap0 w' hs0 => by have := specPairingByVertex V0 a0 cap0 xs0 d1 w' hs0 hl0 wd1; rwa [← hR] at this)
    have HI : Hid (∀ a0 cap0 w', SlI w' w'.heap.size a0 xs0 → Calls Try.prog 31 #[.agg #[.int .i64 V0, .slice a0 xs0.length cap0], .int .i64 d1] w' fun e w'' => ∃ v, e = .returned (.tuple #[v, .int .i64 c]) ∧ ResP w' w'' v ys) :=
      hid (fun a0 cap0 w' hs0 => by have := implPairingByVertex V0 a0 cap0 xs0 d1 w' hs0 hl0 wd1; rwa [← hR] at this)
    have hcc : (c != c) = false := by simp
    have Hq0 := hid (flatP_len ys)
    clear hR
    go_enter Try.func5, Try.ntmps5
    go_wp2_with fail
    refine (szCx V0 a0 xs0.length cap0 1048576 _ (by omega) (by omega) hn0).mono ?_
    rintro e s0 ⟨rfl, hB⟩
    have zs0 := hB.size
    (try simp only [World.size_alloc] at zs0)
    have B0 := hid (B0.out.below hB)
    clear hB
    rw [← Hr0.out]
    obtain ⟨q0, q1⟩ := B0.out.two (.head _)
    go_wp2_with fail
    clear q0 q1
    refine (toCx V0 a0 cap0 xs0 _ (B0.out.arg (.head _)) hl0).mono ?_
    rintro e u0 ⟨gu0, rfl, hown, hB⟩
    have zu0 := hB.size
    (try simp only [World.size_alloc] at zu0)
    have B0 := hid (B0.out.row hown hB)
    clear hown hB
    (try simp only [World.size_alloc] at B0)
    go_wp2_with fail
    refine (HS.out _ _ _ (B0.out.slI (.head _))).mono ?_
    rintro e u9 ⟨vw, rfl, hres⟩
    have zu9 := hres.2.size
    (try simp only [World.size_alloc] at zu9)
    obtain ⟨_, aw, cw, rfl, _⟩ := pairs_form hres.1
    have B0 := hid (B0.out.row hres.1 hres.2)
    clear hres
    (try simp only [World.size_alloc] at B0)
    obtain ⟨q0, q1⟩ := B0.out.two (.head _)
    go_wp2_with fail
    clear q0 q1
    refine (toCx V0 a0 cap0 xs0 _ (B0.out.arg (.head _)) hl0).mono ?_
    rintro e x0 ⟨gx0, rfl, hown, hB⟩
    have zx0 := hB.size
    (try simp only [World.size_alloc] at zx0)
    have B0 := hid (B0.out.row hown hB)
    clear hown hB
    (try simp only [World.size_alloc] at B0)
    have B0 := hid (B0.out.alloc (.cells #[.int .i64 V0, .slice (some ⟨gx0, 0, none⟩) xs0.length xs0.length] 30))
    obtain ⟨p00, p01⟩ := B0.out.two (.head _)
    go_wp2_with fail
    clear p00 p01
    refine (HI.out _ _ _ (B0.out.slI (.head _))).mono ?_
    rintro e v9 ⟨vg, rfl, hres⟩
    have zv9 := hres.2.size
    (try simp only [World.size_alloc] at zv9)
    obtain ⟨_, ag, cg, rfl, _⟩ := pairs_form hres.1
    have B0 := hid (B0.out.row hres.1 hres.2)
    clear hres
    (try simp only [World.size_alloc] at B0)
    go_wp2_with fail
    refine (eqPairs_yes _ _ ys.length _ _ (flatP ys) _ (B0.out.slI (.head _)) (B0.out.slI (.tail _ (.tail _ (.head _)))) Hq0.out hRl).mono ?_
    rintro e e1 ⟨rfl, hB⟩
    have ze1 := hB.size
    (try simp only [World.size_alloc] at ze1)
    have B0 := hid (B0.out.below hB)
    clear hB
    obtain ⟨lxb00, lxb01⟩ := B0.out.two (.head _)
    obtain ⟨lk00, lk01⟩ := B0.out.two (.tail _ (.head _))
    go_wp2_with fail
    go_region_with (first
      | (go_at_call 18; refine (toCx V0 a0 cap0 xs0 _ (B0.out.drew.arg (.head _)) hl0).mono ?_; rintro e f0 ⟨gf0, rfl, hown, hB⟩; have zf0 := hB.size; have C0 := hid (B0.out.drew.row hown hB); clear hown hB; obtain ⟨m00, m01⟩ := C0.out.two (.head _))
      | (go_at_call 22; refine (eqCx_yes V0 _ _ _ _ xs0 xs0 _ (C0.out.slI (.tail _ (.tail _ (.head _)))) (C0.out.slI (.head _)) hl0 hl0 rfl).mono ?_; rintro e h0 ⟨rfl, hB⟩))
    all_goals
      have zh0 := hB.size
      have D0 := hid (C0.out.below hB)
      clear hB C0 B0 m00 m01
      clear lxb00 lxb01
      clear lk00 lk01
      have B0 := D0
      clear D0
      skip
      (try simp only [World.size_alloc] at B0)
      have B0 := hid (B0.out.only (bs' := _) (L' := [⟨u9.heap.size, x0.heap.size, 2, 1, xs0.length, .slice (some ⟨gx0, 0, none⟩) xs0.length xs0.length, xs0⟩, ⟨x0.heap.size + 1, v9.heap.size, 69, 2, ys.length, .slice ag ys.length cg, (flatP ys)⟩, ⟨u0.heap.size, u9.heap.size, 69, 2, ys.length, .slice aw ys.length cw, (flatP ys)⟩]) (fun _ h => h) (by simp))
      obtain ⟨lxb00, lxb01⟩ := B0.out.two (.head _)
      go_wp2_with fail
      clear lxb00 lxb01
      refine (markCx V0 _ _ _ xs0 (1) _ (B0.out.own (.head _)) hl0 (by omega) (by omega)).mono ?_
      rintro e m0 ⟨rfl, hown, hg⟩
      have zm0 := hg.size
      (try simp only [World.size_alloc] at zm0)
      have B0 := hid (B0.out.mark (ys := count (1) xs0.length) (L' := [⟨x0.heap.size + 1, v9.heap.size, 69, 2, ys.length, .slice ag ys.length cg, (flatP ys)⟩, ⟨u0.heap.size, u9.heap.size, 69, 2, ys.length, .slice aw ys.length cw, (flatP ys)⟩]) (.head _) hown hg (by simp only; omega) (by simp; omega) (by simp <;> omega))
      clear hown hg
      go_wp2_with fail
      refine (eqPairs_yes _ _ ys.length _ _ (flatP ys) _ (B0.out.slI (.head _)) (B0.out.slI (.tail _ (.head _))) Hq0.out hRl).mono ?_
      rintro e e2 ⟨rfl, hB⟩
      have ze2 := hB.size
      (try simp only [World.size_alloc] at ze2)
      have B0 := hid (B0.out.below hB)
      clear hB
      go_wp2_with fail
      refine (markPairs _ _ _ _ (flatP ys) (1) _ (B0.out.own (.head _)) hRl (by omega) (by omega)).mono ?_
      rintro e m8 ⟨rfl, hown, hg⟩
      have zm8 := hg.size
      (try simp only [World.size_alloc] at zm8)
      have B0 := hid (B0.out.mark (ys := count (1) (ys.length * 2)) (L' := [⟨x0.heap.size + 1, v9.heap.size, 69, 2, ys.length, .slice ag ys.length cg, count (1) (ys.length * 2)⟩, ⟨u0.heap.size, u9.heap.size, 69, 2, ys.length, .slice aw ys.length cw, (flatP ys)⟩]) (.head _) hown hg (by simp only; omega) (by simp; omega) (by simp <;> omega))
      clear hown hg
      go_wp2_with fail
      refine (heldPairs _ _ ys.length _ (1) _ rfl (B0.out.slI (.head _)) hRl (by omega) (by omega)).mono ?_
      rintro e t1 ⟨rfl, hB⟩
      have zt1 := hB.size
      (try simp only [World.size_alloc] at zt1)
      have B0 := hid (B0.out.below hB)
      clear hB
      have hnn : ((1 : Int) + 2 * ys.length != 1 + 2 * ys.length) = false := by simp
      obtain ⟨q0, q1⟩ := B0.out.two (.tail _ (.head _))
      go_wp2_with fail
      clear q0 q1
      refine (toCx V0 a0 cap0 xs0 _ (B0.out.arg (.head _)) hl0).mono ?_
      rintro e y0 ⟨gy0, rfl, hown, hB⟩
      have zy0 := hB.size
      (try simp only [World.size_alloc] at zy0)
      have B0 := hid (B0.out.row hown hB)
      clear hown hB
      (try simp only [World.size_alloc] at B0)
      go_wp2_with fail
      refine (HI.out _ _ _ (B0.out.slI (.head _))).mono ?_
      rintro e t2 ⟨vh, rfl, hres⟩
      have zt2 := hres.2.size
      (try simp only [World.size_alloc] at zt2)
      obtain ⟨_, ah, ch, rfl, _⟩ := pairs_form hres.1
      have B0 := hid (B0.out.row hres.1 hres.2)
      clear hres
      (try simp only [World.size_alloc] at B0)
      go_wp2_with fail
      refine (eqPairs_yes _ _ ys.length _ _ (flatP ys) _ (B0.out.slI (.head _)) (B0.out.slI (.tail _ (.tail _ (.tail _ (.head _))))) Hq0.out hRl).mono ?_
      rintro e t3 ⟨rfl, hB⟩
      have zt3 := hB.size
      (try simp only [World.size_alloc] at zt3)
      have B0 := hid (B0.out.below hB)
      clear hB
      go_wp2_with fail
      refine (heldPairs _ _ ys.length _ (1) _ rfl (B0.out.slI (.tail _ (.tail _ (.head _)))) hRl (by omega) (by omega)).mono ?_
      rintro e t4 ⟨rfl, hB⟩
      have zt4 := hB.size
      (try simp only [World.size_alloc] at zt4)
      have B0 := hid (B0.out.below hB)
      clear hB
      go_wp2_with fail
      go_ret
      exact ⟨rfl, B0.out.from0⟩

end Go.Proofs.Ytgcpakhagbbiiaa
