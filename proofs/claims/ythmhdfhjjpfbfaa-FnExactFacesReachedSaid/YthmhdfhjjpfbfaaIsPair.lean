import Derived.Test.YthmhdfhjjpfbfaaKnown
/-! The program's IsPairing. -/
namespace Go.Proofs.Ythmhdfhjjpfbfaa
open Go.RowKit

/-- What the program has asked of the first k pairs. -/
def GoodTo (fs ps : List Int) (k : Nat) : Prop := ∀ i, i < k → pairB fs (at0 ps (i * 2)) (at0 ps (i * 2 + 1)) = true ∧ at0 ps (i * 2) ∉ ps.take (i * 2) ∧ at0 ps (i * 2 + 1) ∉ ps.take (i * 2)

theorem mem_take_at {ps : List Int} {m : Nat} {x : Int} (hm : m ≤ ps.length) : x ∈ ps.take m ↔ ∃ j, j < m ∧ at0 ps j = x := by
  rw [List.mem_iff_getElem?]
  constructor
  · rintro ⟨j, hj⟩
    rw [List.getElem?_take] at hj
    split at hj
    · next h => exact ⟨j, h, by unfold at0; rw [hj]; rfl⟩
    · cases hj
  · rintro ⟨j, h, rfl⟩
    refine ⟨j, ?_⟩
    rw [List.getElem?_take, if_pos h]
    unfold at0
    rw [List.getElem?_eq_getElem (by omega)]; rfl

theorem clash_iff {x y u v : Int} : clashB x y u v = false ↔ x ≠ u ∧ x ≠ v ∧ y ≠ u ∧ y ≠ v := by
  unfold clashB; simp [Bool.or_eq_false_iff, and_assoc]

theorem good_free {ps : List Int} {n i : Nat} (hp : ps.length = 2 * n) (hi : i < n) :
    (at0 ps (i * 2) ∉ ps.take (i * 2) ∧ at0 ps (i * 2 + 1) ∉ ps.take (i * 2)) ↔ ∀ j, j < i → clashB (at0 ps (i * 2)) (at0 ps (i * 2 + 1)) (at0 ps (j * 2)) (at0 ps (j * 2 + 1)) = false := by
  rw [mem_take_at (by omega), mem_take_at (by omega)]
  constructor
  · rintro ⟨h0, h1⟩ j hj
    rw [clash_iff]
    exact ⟨fun e => h0 ⟨j * 2, by omega, e.symm⟩, fun e => h0 ⟨j * 2 + 1, by omega, e.symm⟩, fun e => h1 ⟨j * 2, by omega, e.symm⟩, fun e => h1 ⟨j * 2 + 1, by omega, e.symm⟩⟩
  · intro h
    have key : ∀ j, j < i * 2 → at0 ps j ≠ at0 ps (i * 2) ∧ at0 ps j ≠ at0 ps (i * 2 + 1) := by
      intro j hj
      have hc := clash_iff.1 (h (j / 2) (by omega))
      rcases Nat.mod_two_eq_zero_or_one j with hm | hm
      · have e : j / 2 * 2 = j := by omega
        rw [e] at hc
        exact ⟨fun e => hc.1 e.symm, fun e => hc.2.2.1 e.symm⟩
      · have e : j / 2 * 2 + 1 = j := by omega
        rw [e] at hc
        exact ⟨fun e => hc.2.1 e.symm, fun e => hc.2.2.2 e.symm⟩
    exact ⟨fun ⟨j, hj, e⟩ => (key j hj).1 e, fun ⟨j, hj, e⟩ => (key j hj).2 e⟩

theorem less_asym {x y u v : Int} (h : lessP x y u v = true) : lessP u v x y = false := by
  unfold lessP at *
  simp only [Bool.or_eq_true, Bool.and_eq_true, decide_eq_true_eq, Bool.or_eq_false_iff, Bool.and_eq_false_iff, decide_eq_false_iff_not] at *
  omega

theorem okTo_good {fs ps : List Int} {n : Nat} (hp : ps.length = 2 * n) (h : OkTo fs ps n) : NoDrop ps n 1 ∧ GoodTo fs ps n :=
  ⟨fun j _ h2 h3 => less_asym ((h j h3).2.1 h2), fun i hi => ⟨(h i hi).1, (good_free hp hi).2 (h i hi).2.2⟩⟩

theorem good_okTo {fs ps : List Int} {n : Nat} (hp : ps.length = 2 * n) (hs : NoDrop ps n 1) (h : GoodTo fs ps n) : OkTo fs ps n := by
  intro i hi
  have hc := (good_free hp hi).1 (h i hi).2
  refine ⟨(h i hi).1, fun h1 => ?_, hc⟩
  have hd := hs i h1 h1 hi
  have hn := clash_iff.1 (hc (i - 1) (by omega))
  unfold lessP at *
  simp only [Bool.or_eq_true, Bool.and_eq_true, decide_eq_true_eq, Bool.or_eq_false_iff, Bool.and_eq_false_iff, decide_eq_false_iff_not] at *
  omega

/-- The answer. -/
noncomputable def isPairingR (V : Int) (fs : List Int) (n : Nat) (ps : List Int) : Bool × Int := if isCB V fs then (pairingB fs ps n, 0) else (false, 1)

theorem two_mono {P : Program} {f : FuncId} {args : Array Value} {w : World} {r : Bool × Int} {b : Bool} {c : Int} (hr : r = (b, c))
    (h : Calls P f args w fun e w' => e = .returned (.tuple #[.bool b, .int .i64 c]) ∧ Below w.heap.size w w') : Calls P f args w fun e w' => e = .returned (.tuple #[.bool r.1, .int .i64 r.2]) ∧ Below w.heap.size w w' := by
  subst hr; exact h

set_option maxRecDepth 100000 in
set_option maxHeartbeats 4000000 in
theorem implIsPairing (V : Int) (a0 : Option Addr) (cap : Nat) (fs : List Int) (a1 : Option Addr) (n cap1 : Nat) (ps : List Int) (w : World) (hx : SlI w w.heap.size a0 fs) (hx1 : SlI w w.heap.size a1 ps) (hl : fs.length ≤ 1048576) (hp : ps.length = 2 * n) (hn : n ≤ 1048576) (hw : ∀ x ∈ ps, (Lit.int .i64 x).wf = true) :
    Calls Try.prog 117 #[.agg #[.int .i64 V, .slice a0 fs.length cap], .slice a1 n cap1] w fun e w' => e = .returned (.tuple #[.bool (isPairingR V fs n ps).1, .int .i64 (isPairingR V fs n ps).2]) ∧ Below w.heap.size w w' := by
  have hB0 : Below w.heap.size w (w.alloc (.cells #[.int .i64 V, .slice a0 fs.length cap] 28)) := (Below.refl _ w).alloc (Nat.le_refl _) _
  have Hx := hid (hx.later hB0 hB0.size)
  have Hx0 := hid hx
  have Hy := hid hx1
  clear hx hx1
  by_cases hC : IsC V fs
  · obtain ⟨vn, rfl⟩ : ∃ vn : Nat, V = vn := ⟨V.toNat, by have := hC.lo; omega⟩
    refine two_mono (show isPairingR vn fs n ps = (pairingB fs ps n, 0) by unfold isPairingR; rw [isCB_true hC, if_pos rfl]) ?_
    have HC := hid hC
    have Hp := hid hp
    have Hw := hid hw
    clear hC hp hw
    have hent : ∀ args w, (callFunc 140 args).run Try.prog w = .ok (.enter 140 args) w := enters_of Try.func140 (by kernel_rfl) rfl
    go_enter Try.func117, Try.ntmps117
    go_wp2_with fail
    refine (isc_yes (vn : Int) a0 cap fs _ Hx.out hl HC.out).mono ?_
    rintro e w1 ⟨rfl, hB1⟩
    have HB1 := hid (hB0.trans (hB1.mono (by simp)))
    have k0 : w1.cell? ⟨w.heap.size, 0, none⟩ = some (.int .i64 vn) := (hB1.cell (p := ⟨w.heap.size, 0, none⟩) (by simp)).trans (by simp [go_sem])
    have k1 : w1.cell? ⟨w.heap.size, 1, none⟩ = some (.slice a0 fs.length cap) := (hB1.cell (p := ⟨w.heap.size, 1, none⟩) (by simp)).trans (by simp [go_sem])
    have hs1 : w.heap.size < w1.heap.size := by have := hB1.size; simp at this; omega
    clear hB0 hB1
    go_wp2_with fail
    refine (sorted_any a1 n cap1 ps _ (Hy.out.later HB1.out HB1.out.size) Hp.out hn).mono ?_
    rintro e w2 ⟨rfl, hB2⟩
    by_cases hnd : NoDrop ps n 1
    rotate_left
    · rw [noDropB_false hnd]
      have He := hid (pairingB_false (fs := fs) (fun h => hnd (okTo_good Hp.out h).1))
      clear hnd
      go_wp2_with fail
      go_ret2
      exact ⟨by rw [He.out]; rfl, HB1.out.trans (hB2.mono HB1.out.size)⟩
    · rw [noDropB_true hnd]
      have Hnd := hid hnd
      have HB2 := hid (HB1.out.trans (hB2.mono HB1.out.size))
      have k02 := (hB2.cell (p := ⟨w.heap.size, 0, none⟩) hs1).trans k0
      have k12 := (hB2.cell (p := ⟨w.heap.size, 1, none⟩) hs1).trans k1
      have hs2 : w1.heap.size ≤ w2.heap.size := hB2.size
      clear hnd hB2 k0 k1 HB1 hent
      have hmm := @run_makeMap Try.prog
      go_wp2_with fail
      refine (known_any vn a0 cap fs _ (Hx0.out.later HB2.out HB2.out.size) hl HC.out).mono ?_
      rintro e w3 ⟨bm, nm, rfl, hm, hbm, hB3⟩
      have HB3 := hid (HB2.out.trans (hB3.mono HB2.out.size))
      have Hm := hid hm
      obtain ⟨L, hL⟩ : ∃ L, L = pairsL fs vn fs.length := ⟨_, rfl⟩
      have HL : Hid (∀ x y : Int, (x, y) ∈ L ↔ pairB fs x y = true) := hid (fun x y => by rw [hL]; exact mem_pairsL HC.out x y)
      have Hwl : Hid (∀ q ∈ L, wfP q) := hid (fun q hq => by
        obtain ⟨x, y⟩ := q
        have h := (HL.out x y).1 hq
        unfold pairB at h
        simp only [Bool.and_eq_true, decide_eq_true_eq] at h
        have h0 := HC.out.range63 x h.1.1.1
        have h1 := HC.out.range63 y h.1.1.2
        exact ⟨wf_face h0.1 h0.2, wf_face h1.1 h1.2⟩)
      have hbm3 : bm < w3.heap.size := World.ownsMap.lt hm
      rw [← hL] at Hm
      clear hm hB3 hL HB2 k02 k12
      go_wp2_with fail
      clear hmm
      go_loopw [21] (fun i wr => ∃ k : Nat, k ≤ n ∧ i = .int .i64 k ∧ Hid (GoodTo fs ps k) ∧ MapW wr w3.heap.size (k * 2) (ps.take (k * 2)) ∧ MapP wr bm nm L ∧ Below w.heap.size w wr) (fun i _ => n - (intOf i).toNat)
      case atStart => exact ⟨0, Nat.zero_le _, rfl, hid (fun i hi => by omega), World.ownsMap_made w3 Try.prog 2 _, World.ownsMap.alloc Hm.out _, HB3.out.alloc HB3.out.size _⟩
      case round =>
        obtain ⟨k, hk, rfl, Hg, hown, hm, hB⟩ := hrel
        by_cases hlt : k < n
        · obtain ⟨b, off, hb, rfl, hc⟩ : ∃ b off, b < w.heap.size ∧ a1 = some ⟨b, off, none⟩ ∧ ∀ i, i < ps.length → w.cell? ⟨b, off + i, none⟩ = some (.int .i64 (ps[i]?.getD 0)) := by
            rcases Hy.out with h | h
            · have := Hp.out; rw [h] at this; simp at this; omega
            · exact h
          have hc2 : wr.cell? ⟨b, off + k * 2, none⟩ = some (.int .i64 (at0 ps (k * 2))) := (hB.cell (p := ⟨b, off + k * 2, none⟩) hb).trans (hc _ (by have := Hp.out; omega))
          have hc3 : wr.cell? ⟨b, off + k * 2 + 1, none⟩ = some (.int .i64 (at0 ps (k * 2 + 1))) := (hB.cell (p := ⟨b, off + (k * 2 + 1), none⟩) hb).trans (hc _ (by have := Hp.out; omega))
          obtain ⟨x, hx⟩ : ∃ x, x = at0 ps (k * 2) := ⟨_, rfl⟩
          obtain ⟨y, hy⟩ : ∃ y, y = at0 ps (k * 2 + 1) := ⟨_, rfl⟩
          have hlen := Hp.out
          have hwx : (Lit.int .i64 x).wf = true := Hw.out x (by rw [hx]; exact getD_mem (by omega))
          have hwy : (Lit.int .i64 y).wf = true := Hw.out y (by rw [hy]; exact getD_mem (by omega))
          have Hsn : Hid (ps.take ((k + 1) * 2) = ps.take (k * 2) ++ [x] ++ [y]) := hid (by
            rw [show (k + 1) * 2 = k * 2 + 1 + 1 by omega, take_snoc (show k * 2 + 1 < ps.length by omega), take_snoc (show k * 2 < ps.length by omega), hx, hy]; rfl)
          have Hgood : Hid (GoodTo fs ps n → pairB fs x y = true ∧ x ∉ ps.take (k * 2) ∧ y ∉ ps.take (k * 2)) := hid (fun h => by rw [hx, hy]; exact h k hlt)
          have Hgs : Hid (pairB fs x y = true → x ∉ ps.take (k * 2) → y ∉ ps.take (k * 2) → GoodTo fs ps (k + 1)) := hid (fun h0 h1 h2 i hi => by
            by_cases hik : i < k
            · exact Hg.out i hik
            · obtain rfl : i = k := by omega
              rw [← hx, ← hy]; exact ⟨h0, h1, h2⟩)
          rw [← hx] at hc2
          rw [← hy] at hc3
          have HmA : Hid (MapP (wr.alloc (.cells #[.int .i64 x, .int .i64 y] 79)) bm nm L) := hid (World.ownsMap.alloc hm _)
          have Hown := hid hown
          have HoA : Hid (MapW (wr.alloc (.cells #[.int .i64 x, .int .i64 y] 79)) w3.heap.size (k * 2) (ps.take (k * 2))) := hid (World.ownsMap.alloc hown _)
          have hlk := lookup_pair HmA.out Hwl.out (p := (x, y)) ⟨hwx, hwy⟩
          have hl0 := lookup_known HoA.out hwx
          have hl1 := lookup_known HoA.out hwy
          have hi0 : (0 : Int) ≤ (k : Int) := by omega
          have hi1 : (k : Int) < (n : Int) := by omega
          have HB := hid hB
          have Hbad : Hid (¬ GoodTo fs ps n → pairingB fs ps n = false) := hid (fun h => pairingB_false (fun ho => h (okTo_good Hp.out ho).2))
          clear hx hy hc hB hm hown hlen
          by_cases hxy : (x, y) ∈ L
          rotate_left
          · rw [decide_eq_false hxy] at hlk
            have He := hid (Hbad.out (fun h => hxy ((HL.out x y).2 (Hgood.out h).1)))
            clear hxy
            go_wp2_with (simp only [hlk, hl0, hl1])
            go_ret2
            exact ⟨by rw [He.out]; rfl, HB.out.alloc HB.out.size _⟩
          · rw [decide_eq_true hxy] at hlk
            have Hxy := hid ((HL.out x y).1 hxy)
            clear hxy
            by_cases h0 : x ∈ ps.take (k * 2)
            · rw [decide_eq_true h0] at hl0
              have He := hid (Hbad.out (fun h => (Hgood.out h).2.1 h0))
              clear h0
              go_wp2_with (simp only [hlk, hl0, hl1])
              go_ret2
              exact ⟨by rw [He.out]; rfl, HB.out.alloc HB.out.size _⟩
            · rw [decide_eq_false h0] at hl0
              by_cases h1 : y ∈ ps.take (k * 2)
              · rw [decide_eq_true h1] at hl1
                have He := hid (Hbad.out (fun h => (Hgood.out h).2.2 h1))
                clear h0 h1
                go_wp2_with (simp only [hlk, hl0, hl1])
                go_ret2
                exact ⟨by rw [He.out]; rfl, HB.out.alloc HB.out.size _⟩
              · rw [decide_eq_false h1] at hl1
                have He := hid (Hgs.out Hxy.out h0 h1)
                clear h0 h1
                go_wp2_with (simp only [hlk, hl0, hl1])
                have hu1 := World.ownsMap.update (w := World.drew (wr.alloc (.cells #[.int .i64 x, .int .i64 y] 79))) HoA.out (Maps.int_keyed Try.underlying2) Try.underlying65 (show k * 2 < maxLen by unfold maxLen; omega) (Maps.keyOf_int_mk Try.underlying2 hwx) (plainElem_bool Try.underlying4 true)
                obtain ⟨wa, hrun1, hwa, hga⟩ := hu1
                obtain ⟨wb, hrun2, hwb, hgb⟩ := World.ownsMap.update hwa (Maps.int_keyed Try.underlying2) Try.underlying65 (show k * 2 + 1 < maxLen by unfold maxLen; omega) (Maps.keyOf_int_mk Try.underlying2 hwy) (plainElem_bool Try.underlying4 true)
                have hlw : w3.heap.size < wr.heap.size := by have := World.ownsMap.lt HoA.out; have hne := World.ownsMap.lt (b := w3.heap.size) Hown.out; exact hne
                have hba : ∀ j, j ≠ w3.heap.size → j < wr.heap.size + 1 → wa.heap[j]? = (wr.alloc (.cells #[.int .i64 x, .int .i64 y] 79)).heap[j]? := fun j hj hlt => hga.block j (by show j < (wr.alloc _).heap.size; simp; omega) (by simpa using hj)
                have Hba := hid hba
                have qa : wa.heap[wr.heap.size]? = some (.cells #[.int .i64 x, .int .i64 y] 79 (0, 0)) := (Hba.out _ (by omega) (by omega)).trans (heap_alloc_new _ _)
                have qb : wb.heap[wr.heap.size]? = some (.cells #[.int .i64 x, .int .i64 y] 79 (0, 0)) := (hgb.block _ (lt_get qa) (by simp; omega)).trans qa
                obtain ⟨ca0, ca1, _, _⟩ := two_of qa
                obtain ⟨cb0, cb1, _, _⟩ := two_of qb
                have Hga := hid hga
                have Hgb := hid hgb
                have Hwb := hid hwb
                clear hga hgb hwb hwa hba qa qb
                go_region_held3 (fun w' => w'.cell? ⟨wr.heap.size, 0, none⟩ = some (.int .i64 x) ∧ w'.cell? ⟨wr.heap.size, 1, none⟩ = some (.int .i64 y)) (go_keep) (first
                  | (simp only [hrun1])
                  | (simp only [hrun2]))
                go_wp2_with fail
                go_roundw
                case rel =>
                  have hm2 : MapP wb bm nm L := World.ownsMap.kept (World.ownsMap.kept HmA.out (row := some w3.heap.size) ⟨Hga.out.os, Hga.out.tape, Hga.out.output, Hga.out.size, Hga.out.block⟩ (by simp; omega)) Hgb.out (by simp; omega)
                  have hBx : Below w.heap.size w wa := (HB.out.alloc HB.out.size _).grown (w := wr.alloc (.cells #[.int .i64 x, .int .i64 y] 79)) ⟨Hga.out.os, Hga.out.tape, Hga.out.output, Hga.out.size, Hga.out.block⟩ (by have := HB.out.size; simp; omega) (fun r e => by cases e; have := HB3.out.size; omega)
                  refine ⟨k + 1, by omega, by go_num, He.out, ?_, hm2, hBx.grown Hgb.out hBx.size (fun r e => by cases e; have := HB3.out.size; omega)⟩
                  rw [Hsn.out]
                  unfold MapW
                  rw [knownD_snoc, knownD_snoc, show (k + 1) * 2 = k * 2 + 1 + 1 by omega]
                  exact Hwb.out
                case measure => simp [intOf]; omega
        · obtain rfl : k = n := by omega
          have He := hid (pairingB_true (good_okTo Hp.out Hnd.out Hg.out))
          go_wp2
          go_ret2
          exact ⟨by rw [He.out]; rfl, hB⟩
  · refine two_mono (show isPairingR V fs n ps = (false, 1) by unfold isPairingR; rw [isCB_false hC, if_neg (by simp)]) ?_
    go_enter Try.func117, Try.ntmps117
    go_wp2_with fail
    refine (isc_no V a0 cap fs _ Hx.out hl hC).mono ?_
    rintro e w1 ⟨rfl, hB1⟩
    go_wp2_with fail
    go_ret2
    exact ⟨rfl, hB0.trans (hB1.mono (by simp))⟩

end Go.Proofs.Ythmhdfhjjpfbfaa
