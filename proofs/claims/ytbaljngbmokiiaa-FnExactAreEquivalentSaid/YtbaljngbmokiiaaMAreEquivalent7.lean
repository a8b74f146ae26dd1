import Derived.Test.YtbaljngbmokiiaaMAreEquivalent1
import Derived.Test.YtbaljngbmokiiaaMAreEquivalent2
import Derived.Test.YtbaljngbmokiiaaMAreEquivalent3
import Derived.Test.YtbaljngbmokiiaaMAreEquivalent4
import Derived.Test.YtbaljngbmokiiaaMAreEquivalent5
import Derived.Test.YtbaljngbmokiiaaMAreEquivalent6
/-! fallingPairs. -/
namespace Go.Proofs.Ytbaljngbmokiiaa
open Go.RowKit

set_option maxRecDepth 100000 in
set_option maxHeartbeats 1000000 in
theorem idx_nil (bm : Nat) (w : World) :
    Calls Try.prog 195 #[.slice none 0 0, .func (.func 132) #[] #[.pointer (some ⟨bm, 0, none⟩)]] w fun e w' => e = .returned (.int .i64 (-1)) ∧ w = w' := by
  go_enter Try.func195, Try.ntmps195
  go_wp2
  refine wp_loop_rounds 1 ?_; rw [rounds_succ]
  go_wp2
  go_ret
  exact ⟨rfl, rfl⟩

set_option maxRecDepth 100000 in
set_option maxHeartbeats 1000000 in
theorem del_nil (bm : Nat) (w : World) :
    Calls Try.prog 131 #[.slice none 0 0, .func (.func 132) #[] #[.pointer (some ⟨bm, 0, none⟩)]] w fun e w' => e = .returned (.slice none 0 0) ∧ w = w' := by
  go_enter Try.func131, Try.ntmps131
  go_wp2_with fail
  refine (idx_nil bm w).mono ?_
  rintro e w1 ⟨rfl, rfl⟩
  go_wp2_with fail
  go_ret
  exact ⟨rfl, rfl⟩

theorem del_row (base n : Nat) (v : Value) (ps : List Int) (bm b : Nat) (fs gs : List Int) (w : World) (hn : n ≤ 1048576) (hown : w.ownsRow base 55 2 v n (ps.map (Value.int .i64)))
    (hm : NumM w b fs gs fs.length) (hg : gs.length = fs.length) (hbm : w.cell? ⟨bm, 0, none⟩ = some (.map (some b))) (hlt : bm < base) (hlt2 : b < base) (hbw : base ≤ w.heap.size) (hwp : ∀ x ∈ ps, (Lit.int .i64 x).wf = true) :
    Calls Try.prog 131 #[v, .func (.func 132) #[] #[.pointer (some ⟨bm, 0, none⟩)]] w fun e w' => ∃ (q : Nat) (v' : Value), e = .returned v' ∧ (keepL fs gs ps n).length = 2 * q ∧ w'.ownsRow base 55 2 v' q ((keepL fs gs ps n).map (Value.int .i64)) ∧ Below base w w' := by
  rcases hown.2 with ⟨rfl, rfl⟩ | ⟨g, cap, cur, rfl, hbg, _⟩
  · refine (del_nil bm w).mono ?_
    rintro e w1 ⟨rfl, rfl⟩
    exact ⟨0, _, rfl, rfl, World.ownsRow_nil _ _ _ _, (Below.refl _ _)⟩
  · obtain ⟨hgl, _, _⟩ := own_pairs hown
    refine (del_any base g n cap ps bm b fs gs w hn hown hm hg hbm (by omega) hwp (by omega) (by omega)).mono ?_
    rintro e w1 ⟨q, rfl, h1, h2, h3⟩
    exact ⟨q, _, rfl, h1, h2, ⟨h3.os, h3.tape, h3.output, h3.size, fun k hk => h3.block k (by omega) (by simp; omega)⟩⟩

set_option maxRecDepth 1000000 in
set_option maxHeartbeats 4000000 in
theorem fp_any (V : Int) (a0 : Option Addr) (cap : Nat) (fs : List Int) (a1 : Option Addr) (cap1 : Nat) (gs : List Int) (w : World) (hx : SlI w w.heap.size a0 fs) (hx1 : SlI w w.heap.size a1 gs) (hC : IsC V fs) (hg : gs.length = fs.length) (hwg : ∀ x ∈ gs, (Lit.int .i64 x).wf = true) :
    Calls Try.prog 69 #[.agg #[.int .i64 V, .slice a0 fs.length cap], .slice a1 gs.length cap1] w fun e w' => ∃ v, e = .returned v ∧ ResP w w' v (fnP fs gs fs.length) := by
  have h63 := hC.len63
  have hr := hC.range63
  obtain ⟨vn, rfl⟩ : ∃ vn : Nat, V = (vn : Int) := ⟨V.toNat, by have := hC.lo; omega⟩
  have hkf := keep_fn gs hC
  rw [Int.toNat_natCast] at hkf
  have hvn : vn ≤ 6 := by have := hC.hi; omega
  have hpl := pairsL_len fs vn fs.length (Nat.le_refl _)
  have hpl2 : (pairsL fs vn fs.length).length ≤ 1048576 := by
    have : fs.length * vn ≤ 63 * 6 := Nat.mul_le_mul h63 hvn
    omega
  have hwp : ∀ x ∈ flatP (pairsL fs vn fs.length), (Lit.int .i64 x).wf = true := by
    intro x hx
    obtain ⟨p, hp, hx⟩ := List.mem_flatMap.1 hx
    have hm := (mem_pairsL hC p.1 p.2).1 (by rw [Int.toNat_natCast]; exact hp)
    unfold pairB at hm
    simp only [Bool.and_eq_true, decide_eq_true_eq] at hm
    have h1 := hr _ hm.1.1.1
    have h2 := hr _ hm.1.1.2
    simp at hx
    rcases hx with rfl | rfl
    · exact WalkArith.wf_i64 (by omega)
    · exact WalkArith.wf_i64 (by omega)
  have hB0 : Below w.heap.size w (w.alloc (.cells #[.int .i64 vn, .slice a0 fs.length cap] 26)) := (Below.refl _ w).alloc (Nat.le_refl _) _
  have hk0 : (w.alloc (.cells #[.int .i64 vn, .slice a0 fs.length cap] 26)).cell? ⟨w.heap.size, 0, none⟩ = some (.int .i64 vn) := by simp [go_sem]
  have hk1 : (w.alloc (.cells #[.int .i64 vn, .slice a0 fs.length cap] 26)).cell? ⟨w.heap.size, 1, none⟩ = some (.slice a0 fs.length cap) := by simp [go_sem]
  have HN := hid (numbers_any vn a0 cap fs a1 cap1 gs _ (hx.later hB0 hB0.size) (hx1.later hB0 hB0.size) (by omega) hg (isC_distinct hC) (fun x hm => WalkArith.wf_i64 (by have := hr x hm; omega)) hwg)
  have HP := hid (fun W' (h : Below w.heap.size w W') => pairsOf_any vn a0 cap fs W' (hx.later h h.size) (by omega) hC)
  have HB0 := hid hB0
  have Hk0 := hid hk0
  have Hk1 := hid hk1
  have Hkf := hid hkf
  have Hwp := hid hwp
  have Hg := hid hg
  clear hB0 hk0 hk1 hkf hwp hpl h63 hr hx hx1 hC hwg hg
  go_enter Try.func69, Try.ntmps69
  go_wp2_with fail
  refine HN.out.mono ?_
  rintro e w1 ⟨rfl, hm, hB1⟩
  rw [World.size_alloc] at hm hB1 ⊢
  have HM1 := hid hm
  have HB1 := hid (HB0.out.trans (hB1.mono (by omega)))
  have hs1 : w.heap.size + 1 + 1 < w1.heap.size := hm.lt
  have K0 := hid ((hB1.cell (p := ⟨w.heap.size, 0, none⟩) (by simp)).trans Hk0.out)
  have K1 := hid ((hB1.cell (p := ⟨w.heap.size, 1, none⟩) (by simp)).trans Hk1.out)
  clear hm hB1 HN
  obtain ⟨W2, hW2⟩ : ∃ W2, W2 = w1.alloc (.cells #[.map (some (w.heap.size + 1 + 1))] 87) := ⟨_, rfl⟩
  have hB2 : Below w1.heap.size w1 W2 := by rw [hW2]; exact (Below.refl _ _).alloc (Nat.le_refl _) _
  have hs2 : W2.heap.size = w1.heap.size + 1 := by rw [hW2]; simp
  have HM2 := hid (HM1.out.kept (row := none) (W' := W2) ⟨hB2.os, hB2.tape, hB2.output, hB2.size, fun q hq _ => hB2.block q hq⟩ (by simp))
  have hbx : W2.cell? ⟨w1.heap.size, 0, none⟩ = some (.map (some (w.heap.size + 1 + 1))) := by rw [hW2]; simp [go_sem]
  have Hbx := hid hbx
  have HB2 := hid (HB1.out.trans (hB2.mono HB1.out.size))
  have hk0 := (hB2.cell (p := ⟨w.heap.size, 0, none⟩) (by simp only; omega)).trans K0.out
  have hk1 := (hB2.cell (p := ⟨w.heap.size, 1, none⟩) (by simp only; omega)).trans K1.out
  have HP2 := hid (HP.out W2 HB2.out)
  clear HP hB2 hbx
  rw [hW2] at hk0 hk1
  go_wp2_with fail
  rw [← hW2]
  refine HP2.out.mono ?_
  rintro e w3 ⟨v, rfl, hown, hB3⟩
  have HDel := hid (del_row W2.heap.size _ v _ w1.heap.size _ fs gs w3 hpl2 (ownsRow_base hown (by omega)) (HM2.out.kept (row := none) ⟨hB3.os, hB3.tape, hB3.output, hB3.size, fun q hq _ => hB3.block q hq⟩ (by simp)) Hg.out ((hB3.cell (p := ⟨w1.heap.size, 0, none⟩) (by simp only; omega)).trans Hbx.out) (by omega) (by omega) hB3.size Hwp.out)
  have HB3 := hid (HB2.out.trans (hB3.mono HB2.out.size))
  have hsz3 := hB3.size
  clear hB3 hown HP2
  go_wp2_with fail
  refine HDel.out.mono ?_
  rintro e w4 ⟨q, v', rfl, hq, ho, hB4⟩
  rw [Hkf.out] at hq ho
  have hql : q = (fnP fs gs fs.length).length := by rw [flatP_len] at hq; omega
  subst hql
  have Ho := hid (ownsRow_base (base' := w.heap.size) ho (by omega))
  have HB4 := hid (HB3.out.trans (hB4.mono (by omega)))
  clear ho hB4
  go_wp2_with fail
  go_ret
  exact ⟨_, rfl, Ho.out, HB4.out⟩

end Go.Proofs.Ytbaljngbmokiiaa

/-! `==` on pairs. -/
namespace Go.Proofs.Ytbaljngbmokiiaa
open Go.RowKit

set_option maxRecDepth 100000 in
theorem eq_pairF (x y x' y' : Int) (w : World) : (Op.equalIn 10000 55 (.agg #[.int .i64 x, .int .i64 y]) (.agg #[.int .i64 x', .int .i64 y'])).run Try.prog w = .ok (x == x' && y == y') w := by
  have hu := Try.underlying2
  have hi := Try.isAgg2
  have hs := Try.sizeOf2
  rw [show (10000 : Nat) = 9999 + 1 from rfl, Op.equalIn]
  simp only [Sem.run_bind, run_underlying Try.underlying55, Result.andThen_ok]
  simp only [Std.Legacy.Range.forIn_eq_forIn_range', Std.Legacy.Range.size, Nat.sub_zero, Nat.add_sub_cancel, Nat.div_one, List.range'_succ, List.range'_zero, List.forIn_cons, List.forIn_nil]
  go_simp
  by_cases e1 : x = x' <;> by_cases e2 : y = y' <;> simp [e1, e2]

theorem and_int64 {x y : Nat} (hx : x < 64) (hy : y < 64) : bits BinOp.and IntKind.i64 (x : Int) (y : Int) = ((x &&& y : Nat) : Int) := (bits_nat .i64 6 (by decide) (fun n h0 h1 => by rw [IntKind.wrap_i64]; omega) x y (by omega) (by omega)).1

end Go.Proofs.Ytbaljngbmokiiaa

/-! slices.Equal over pairs. -/
namespace Go.Proofs.Ytbaljngbmokiiaa
open Go.RowKit

theorem ext_take {L M : List (Int × Int)} (hl : L.length = M.length) (h : ∀ j, j < L.length → L[j]?.getD (0, 0) = M[j]?.getD (0, 0)) : L = M := by
  refine List.ext_getElem hl fun j h1 h2 => ?_
  have := h j h1
  rw [List.getElem?_eq_getElem h1, List.getElem?_eq_getElem h2] at this
  simpa using this

set_option maxRecDepth 1000000 in
set_option maxHeartbeats 2000000 in
theorem eqPairs_any (a : Option Addr) (c : Nat) (L : List (Int × Int)) (b : Option Addr) (d : Nat) (M : List (Int × Int)) (w : World) (ha : SlI w w.heap.size a (flatP L)) (hb : SlI w w.heap.size b (flatP M)) (hl : L.length ≤ 1048576) :
    Calls Try.prog 68 #[.slice a L.length c, .slice b M.length d] w fun e w' => e = .returned (.bool (decide (L = M))) ∧ Below w.heap.size w w' := by
  have Ha := hid ha
  have Hb := hid hb
  obtain ⟨R, hR⟩ : ∃ R, R = decide (L = M) := ⟨_, rfl⟩
  have HR := hid hR
  rw [← hR]
  clear ha hb hR
  by_cases hlm : L.length = M.length
  · have hd : ((L.length : Int) != (M.length : Int)) = false := by simp; omega
    have Hlm := hid hlm
    clear hlm
    go_enter Try.func68, Try.ntmps68
    go_wp2_with fail
    go_loopw [13] (fun i wr => ∃ k : Nat, k ≤ L.length ∧ i = .int .i64 k ∧ Hid (∀ j, j < k → L[j]?.getD (0, 0) = M[j]?.getD (0, 0)) ∧ Hid (Below w.heap.size w wr)) (fun i _ => L.length - (RowKit.intOf i).toNat)
    case atStart => exact ⟨0, Nat.zero_le _, rfl, hid (by intro j h; omega), hid (Below.refl _ _)⟩
    case round =>
      obtain ⟨k, hk, rfl, Hk, HB⟩ := hrel
      by_cases hlt : k < L.length
      · have hlt2 : k < M.length := by have := Hlm.out; omega
        have hfl := flatP_len L
        have hfm := flatP_len M
        obtain ⟨ba, oa, hba, rfl, hca⟩ : ∃ b off, b < wr.heap.size ∧ a = some ⟨b, off, none⟩ ∧ ∀ i, i < (flatP L).length → wr.cell? ⟨b, off + i, none⟩ = some (.int .i64 ((flatP L)[i]?.getD 0)) := by
          rcases Ha.out.later HB.out HB.out.size with h | h
          · rw [h] at hfl; simp at hfl; omega
          · exact h
        obtain ⟨bb, ob, hbb, rfl, hcb⟩ : ∃ b' off, b' < wr.heap.size ∧ b = some ⟨b', off, none⟩ ∧ ∀ i, i < (flatP M).length → wr.cell? ⟨b', off + i, none⟩ = some (.int .i64 ((flatP M)[i]?.getD 0)) := by
          rcases Hb.out.later HB.out HB.out.size with h | h
          · rw [h] at hfm; simp at hfm; omega
          · exact h
        obtain ⟨e1, e2⟩ := flatP_at L k hlt
        obtain ⟨e3, e4⟩ := flatP_at M k hlt2
        obtain ⟨p, hp⟩ : ∃ p, p = L[k]?.getD (0, 0) := ⟨_, rfl⟩
        obtain ⟨q, hq⟩ : ∃ q, q = M[k]?.getD (0, 0) := ⟨_, rfl⟩
        rw [← hp] at e1 e2
        rw [← hq] at e3 e4
        have c1 : wr.cell? ⟨ba, oa + k * 2, none⟩ = some (.int .i64 p.1) := by rw [← e1]; exact hca (k * 2) (by omega)
        have c2 : wr.cell? ⟨ba, oa + k * 2 + 1, none⟩ = some (.int .i64 p.2) := by rw [← e2]; exact hca (k * 2 + 1) (by omega)
        have c3 : wr.cell? ⟨bb, ob + k * 2, none⟩ = some (.int .i64 q.1) := by rw [← e3]; exact hcb (k * 2) (by omega)
        have c4 : wr.cell? ⟨bb, ob + k * 2 + 1, none⟩ = some (.int .i64 q.2) := by rw [← e4]; exact hcb (k * 2 + 1) (by omega)
        have hi0 : (0 : Int) ≤ (k : Int) := by omega
        have hi1 : (k : Int) < (L.length : Int) := by omega
        have hi2 : (k : Int) < (M.length : Int) := by omega
        have Hp := hid hp
        have Hq := hid hq
        have Heq := eq_pairF
        obtain ⟨x, y⟩ := p
        obtain ⟨x', y'⟩ := q
        simp only at c1 c2 c3 c4
        clear hp hq e1 e2 e3 e4 hca hcb hfl hfm
        by_cases he : x = x' ∧ y = y'
        · have hd2 : (x == x' && y == y') = true := by simp [he.1, he.2]
          have He : Hid (∀ j, j < k + 1 → L[j]?.getD (0, 0) = M[j]?.getD (0, 0)) := hid (by
            intro j hj
            by_cases e : j < k
            · exact Hk.out j e
            · obtain rfl : j = k := by omega
              rw [← Hp.out, ← Hq.out, he.1, he.2])
          clear he
          go_wp2_with fail
          go_quiet (fail)
          go_wp2_with fail
          go_roundw
          case rel => exact ⟨k + 1, by omega, by go_num, He, hid ⟨HB.out.os, HB.out.tape, HB.out.output, HB.out.size, HB.out.block⟩⟩
          case measure => simp [RowKit.intOf]; omega
        · have hd2 : (x == x' && y == y') = false := by
            rw [Bool.eq_false_iff]
            intro h
            simp at h
            exact he h
          have He : Hid (R = false) := hid (by
            rw [HR.out]
            refine decide_eq_false fun h => he ?_
            have h1 := Hp.out
            rw [h, ← Hq.out] at h1
            injection h1 with h1 h2
            exact ⟨h1, h2⟩)
          clear he
          go_wp2_with fail
          go_quiet (fail)
          go_wp2_with fail
          go_ret
          exact ⟨ret_bool He.out.symm, ⟨HB.out.os, HB.out.tape, HB.out.output, HB.out.size, HB.out.block⟩⟩
      · have He : Hid (R = true) := hid (by
          rw [HR.out]
          exact decide_eq_true (ext_take Hlm.out (fun j hj => Hk.out j (by omega))))
        go_wp2_with fail
        go_ret
        exact ⟨ret_bool He.out.symm, HB.out⟩
  · have hd : ((L.length : Int) != (M.length : Int)) = true := by simp; omega
    have He : Hid (R = false) := hid (by
      rw [HR.out]
      exact decide_eq_false (fun h => hlm (by rw [h])))
    clear hlm
    go_enter Try.func68, Try.ntmps68
    go_wp2_with fail
    go_ret
    exact ⟨ret_bool He.out.symm, Below.refl _ _⟩

end Go.Proofs.Ytbaljngbmokiiaa

/-! AreEquivalent: the program's. -/
namespace Go.Proofs.Ytbaljngbmokiiaa
open Go.RowKit

/-- What AreEquivalent hands back. -/
noncomputable def equR (V : Int) (fs gs hs : List Int) : Bool × Int := if mcode4R V fs [gs, hs] = 0 then (decide (fnP fs gs fs.length = fnP fs hs fs.length), 0) else (false, mcode4R V fs [gs, hs])

theorem mcode4_two {V : Int} {fs gs hs : List Int} (h : mcode4R V fs [gs, hs] = 0) : IsC V fs ∧ isFnB fs gs = true ∧ isFnB fs hs = true := by
  have h0 : code4R V fs [gs, hs] = 0 := Classical.byContradiction fun hn => by
    rw [mcode4R, if_neg hn] at h
    exact hn h
  obtain ⟨hC, hg⟩ := code4_all h0
  exact ⟨hC, hg gs (by simp), hg hs (by simp)⟩

theorem bool_mono4 {fn : FuncId} {args : Array Value} {w : World} {B : Nat} {P : Program} {R : Bool × Int} {b : Bool} {c : Int} (hR : R = (b, c))
    (h : Calls P fn args w fun e w' => e = .returned (.tuple #[.bool b, .int .i64 c]) ∧ Below B w w') :
    Calls P fn args w fun e w' => e = .returned (.tuple #[.bool R.1, .int .i64 R.2]) ∧ Below B w w' := by
  subst hR
  exact h

theorem fnP_len63 {V : Int} {fs gs : List Int} (hC : IsC V fs) (hfn : isFnB fs gs = true) : (fnP fs gs fs.length).length ≤ 1048576 := by
  obtain ⟨m, h1, h2⟩ := fnPairs_even fs gs hC.len63 fs.length
  rw [fnPairs_eq hC (isFn_len hfn) fs.length (Nat.le_refl _), flatP_len] at h1
  have := hC.len63
  omega

/-- The box of the complex, and what lies below. -/
structure EqW (b : Nat) (V : Int) (s : Value) (wr W : World) : Prop where
  below : Below wr.heap.size wr W
  c0 : W.cell? ⟨b, 0, none⟩ = some (.int .i64 V)
  c1 : W.cell? ⟨b, 1, none⟩ = some s
theorem EqW.start {b : Nat} {V : Int} {s : Value} {wr : World} (h0 : wr.cell? ⟨b, 0, none⟩ = some (.int .i64 V)) (h1 : wr.cell? ⟨b, 1, none⟩ = some s) : EqW b V s wr wr.drew :=
  ⟨below_drewN (Below.refl _ wr) 1, h0, h1⟩
theorem EqW.step {b : Nat} {V : Int} {s : Value} {wr W W' : World} (h : EqW b V s wr W) (hb : Below W.heap.size W W') : EqW b V s wr W' :=
  ⟨h.below.trans (hb.mono h.below.size), (hb.cell (p := ⟨b, 0, none⟩) (World.block_lt_of_cell? W _ h.c0)).trans h.c0, (hb.cell (p := ⟨b, 1, none⟩) (World.block_lt_of_cell? W _ h.c1)).trans h.c1⟩
theorem fp_box {b : Nat} {V : Int} {a0 : Option Addr} {cap : Nat} {fs : List Int} {a1 : Option Addr} {cap1 : Nat} {gs : List Int} {wr : World} {L : List (Int × Int)} (hx : SlI wr wr.heap.size a0 fs) (hx1 : SlI wr wr.heap.size a1 gs) (hC : IsC V fs) (hfn : isFnB fs gs = true) (hL : L = fnP fs gs fs.length) (W : World)
    (h : EqW b V (.slice a0 fs.length cap) wr W) :
    Calls Try.prog 69 #[.agg #[.int .i64 V, .slice a0 fs.length cap], .slice a1 gs.length cap1] W fun e W' => ∃ a c, e = .returned (.slice a L.length c) ∧ SlI W' W'.heap.size a (flatP L) ∧ EqW b V (.slice a0 fs.length cap) wr W' ∧ Below W.heap.size W W' := by
  subst hL
  refine (fp_any V a0 cap fs a1 cap1 gs W (hx.later h.below h.below.size) (hx1.later h.below h.below.size) hC (isFn_len hfn) (fn_wf hfn)).mono fun e W' ⟨v, he, hr⟩ => ?_
  obtain ⟨_, a, c, rfl, hs⟩ := pairs_slI hr.1
  exact ⟨a, c, he, hs, h.step hr.2, hr.2⟩

set_option maxRecDepth 1000000 in
set_option maxHeartbeats 4000000 in
theorem implAreEquivalent (V : Int) (a0 : Option Addr) (cap : Nat) (fs : List Int) (a1 : Option Addr) (cap1 : Nat) (gs : List Int) (a2 : Option Addr) (cap2 : Nat) (hs : List Int) (w : World) (hx : SlI w w.heap.size a0 fs) (hx1 : SlI w w.heap.size a1 gs) (hx2 : SlI w w.heap.size a2 hs) (hl : fs.length ≤ 1048576) (hg : gs.length ≤ 1048576) (hh : hs.length ≤ 1048576) :
    Calls Try.prog 26 #[.agg #[.int .i64 V, .slice a0 fs.length cap], .slice a1 gs.length cap1, .slice a2 hs.length cap2] w fun e w' => e = .returned (.tuple #[.bool (equR V fs gs hs).1, .int .i64 (equR V fs gs hs).2]) ∧ Below w.heap.size w w' := by
  obtain ⟨W0, hW0⟩ : ∃ W0, W0 = (w.alloc (.cells #[.int .i64 V, .slice a0 fs.length cap] 26)).alloc (.cells #[.slice a1 gs.length cap1, .slice a2 hs.length cap2] 22) := ⟨_, rfl⟩
  have hB0 : Below w.heap.size w W0 := by rw [hW0]; exact ((Below.refl _ w).alloc (Nat.le_refl _) _).alloc (by simp) _
  have hs0 : W0.heap.size = w.heap.size + 2 := by rw [hW0]; simp
  have hkb : W0.heap[w.heap.size]? = some (.cells #[.int .i64 V, .slice a0 fs.length cap] 26 (0, 0)) := by rw [hW0]; exact (Below.heap_alloc _ _ _ (by simp)).trans (heap_alloc_new _ _)
  have hk2 : W0.cell? ⟨w.heap.size + 1, 0, none⟩ = some (.slice a1 gs.length cap1) := by rw [hW0]; simp [go_sem]
  have hk3 : W0.cell? ⟨w.heap.size + 1, 1, none⟩ = some (.slice a2 hs.length cap2) := by rw [hW0]; simp [go_sem]
  have HK : Hid (Calls Try.prog 67 #[.agg #[.int .i64 V, .slice a0 fs.length cap], .slice (some ⟨w.heap.size + 1, 0, none⟩) 2 2] W0 fun e w' => e = .returned (.int .i64 (mcode4R V fs [gs, hs])) ∧ Below W0.heap.size W0 w') :=
    hid (mcode_any V a0 cap fs (w.heap.size + 1) [(a1, cap1, gs), (a2, cap2, hs)] W0 (hx.later hB0 hB0.size) hl (by omega) (fun i hi => by
      have : i = 0 ∨ i = 1 := by simp at hi; omega
      rcases this with rfl | rfl
      · exact ⟨a1, cap1, gs, rfl, hk2⟩
      · exact ⟨a2, cap2, hs, rfl, hk3⟩) (fun q hq => by
      have : q = (a1, cap1, gs) ∨ q = (a2, cap2, hs) := by simpa using hq
      rcases this with rfl | rfl
      · exact ⟨hx1.later hB0 hB0.size, hg⟩
      · exact ⟨hx2.later hB0 hB0.size, hh⟩) (by simp))
  have Hx := hid hx
  have Hy := hid hx1
  have Hz := hid hx2
  have HB0 := hid hB0
  have Hkb := hid hkb
  clear hx hx1 hx2 hB0 hkb hk2 hk3
  by_cases h0 : mcode4R V fs [gs, hs] = 0
  · obtain ⟨hC, hfn1, hfn2⟩ := mcode4_two h0
    refine bool_mono4 (show equR V fs gs hs = (decide (fnP fs gs fs.length = fnP fs hs fs.length), 0) by rw [equR, if_pos h0]) ?_
    rw [h0] at HK
    have hl1 := fnP_len63 hC hfn1
    have hl2 := fnP_len63 hC hfn2
    obtain ⟨L, hL⟩ : ∃ L, L = fnP fs gs fs.length := ⟨_, rfl⟩
    obtain ⟨M, hM⟩ : ∃ M, M = fnP fs hs fs.length := ⟨_, rfl⟩
    rw [← hL] at hl1
    rw [← hM] at hl2
    rw [← hL, ← hM]
    obtain ⟨b, hb⟩ : ∃ b, b = decide (L = M) := ⟨_, rfl⟩
    have HE : Hid (∀ (a : Option Addr) (c : Nat) (b' : Option Addr) (d : Nat) (W : World), SlI W W.heap.size a (flatP L) → SlI W W.heap.size b' (flatP M) → Calls Try.prog 68 #[.slice a L.length c, .slice b' M.length d] W fun e w' => e = .returned (.bool b) ∧ Below W.heap.size W w') := hid (fun a c b' d W h1 h2 => by rw [hb]; exact eqPairs_any a c L b' d M W h1 h2 hl1)
    rw [← hb]
    have HB1' : Hid (∀ W, Below w.heap.size w W → ∀ W', EqW w.heap.size V (.slice a0 fs.length cap) W W' → Calls Try.prog 69 #[.agg #[.int .i64 V, .slice a0 fs.length cap], .slice a1 gs.length cap1] W' fun e W'' => ∃ a c, e = .returned (.slice a L.length c) ∧ SlI W'' W''.heap.size a (flatP L) ∧ EqW w.heap.size V (.slice a0 fs.length cap) W W'' ∧ Below W'.heap.size W' W'') :=
      hid (fun W h W' h' => fp_box (Hx.out.later h h.size) (Hy.out.later h h.size) hC hfn1 hL W' h')
    have HB2' : Hid (∀ W, Below w.heap.size w W → ∀ W', EqW w.heap.size V (.slice a0 fs.length cap) W W' → Calls Try.prog 69 #[.agg #[.int .i64 V, .slice a0 fs.length cap], .slice a2 hs.length cap2] W' fun e W'' => ∃ a c, e = .returned (.slice a M.length c) ∧ SlI W'' W''.heap.size a (flatP M) ∧ EqW w.heap.size V (.slice a0 fs.length cap) W W'' ∧ Below W'.heap.size W' W'') :=
      hid (fun W h W' h' => fp_box (Hx.out.later h h.size) (Hz.out.later h h.size) hC hfn2 hM W' h')
    clear h0 hC hfn1 hfn2 hL hM hb
    rw [hW0] at HK
    go_enter Try.func26, Try.ntmps26
    go_wp2_with fail
    refine HK.out.mono ?_
    rintro e w1 ⟨rfl, hB1⟩
    rw [← hW0] at hB1
    have kb1 := (hB1.block w.heap.size (by omega)).trans Hkb.out
    obtain ⟨k0, k1, _, _⟩ := two_of kb1
    have HB1 := hid (HB0.out.trans (hB1.mono HB0.out.size))
    have Kb1 := hid kb1
    have HM1 := hid (HB1'.out w1 HB1.out)
    have HM2 := hid (HB2'.out w1 HB1.out)
    have HD := hid (EqW.start k0 k1)
    clear hB1 kb1 HB1' HB2'
    go_wp2_with fail
    go_region_held3 (fun w' => w'.cell? ⟨w.heap.size, 0, none⟩ = some (.int .i64 V) ∧ w'.cell? ⟨w.heap.size, 1, none⟩ = some (.slice a0 fs.length cap)) (go_keep) (first
      | (go_at_call 68; have h1 := RFs.out; have h2 := RGs.out; refine (HE.out _ _ _ _ _ h1 h2).mono ?_; rintro e w9 ⟨rfl, hB9⟩; have hd9 := HDg.out.step hB9; have p0 := hd9.c0; have p1 := hd9.c1; have HB9 := hid hd9.below; clear hB9 hd9 h1 h2)
      | (go_at_call 69; have hz := HDf.out; refine (HM2.out _ hz).mono ?_; rintro e wg ⟨bv, dv, rfl, hsg, hdg, hbg⟩; have m0 := hdg.c0; have m1 := hdg.c1; have RGs := hid hsg; have hsf := RFs.out.later hbg hbg.size; clear RFs; have RFs := hid hsf; have HDg := hid hdg; clear hz hsg hdg hbg hsf)
      | (go_at_call 69; have hz := HD.out; refine (HM1.out _ hz).mono ?_; rintro e wf ⟨av, cv, rfl, hsf, hdf, hbf⟩; have n0 := hdf.c0; have n1 := hdf.c1; have RFs := hid hsf; have HDf := hid hdf; clear hz hsf hdf hbf))
    all_goals go_wp2_with fail
    all_goals go_ret2
    all_goals exact ⟨rfl, HB1.out.trans (HB9.out.mono HB1.out.size)⟩
  · obtain ⟨c, hc⟩ : ∃ c, c = mcode4R V fs [gs, hs] := ⟨_, rfl⟩
    refine bool_mono4 (show equR V fs gs hs = (false, c) by rw [equR, if_neg h0, hc]) ?_
    rw [← hc] at h0 HK
    have hcn : (c != 0) = true := by simpa using h0
    clear hc h0
    rw [hW0] at HK
    go_enter Try.func26, Try.ntmps26
    go_wp2_with fail
    refine HK.out.mono ?_
    rintro e w1 ⟨rfl, hB1⟩
    rw [← hW0] at hB1
    go_wp2_with fail
    go_ret2
    exact ⟨rfl, HB0.out.trans (hB1.mono HB0.out.size)⟩

end Go.Proofs.Ytbaljngbmokiiaa

/-! AreEquivalent: the model's. -/
namespace Go.Proofs.Ytbaljngbmokiiaa
open Go.RowKit

set_option maxRecDepth 1000000 in
set_option maxHeartbeats 4000000 in
theorem specAreEquivalent (V : Int) (a0 : Option Addr) (cap : Nat) (fs : List Int) (a1 : Option Addr) (cap1 : Nat) (gs : List Int) (a2 : Option Addr) (cap2 : Nat) (hs : List Int) (w : World) (hx : SlI w w.heap.size a0 fs) (hx1 : SlI w w.heap.size a1 gs) (hx2 : SlI w w.heap.size a2 hs) (hl : fs.length ≤ 1048576) (hg : gs.length ≤ 1048576) (hh : hs.length ≤ 1048576) :
    Calls Try.prog 25 #[.agg #[.int .i64 V, .slice a0 fs.length cap], .slice a1 gs.length cap1, .slice a2 hs.length cap2] w fun e w' => e = .returned (.tuple #[.bool (equR V fs gs hs).1, .int .i64 (equR V fs gs hs).2]) ∧ Below w.heap.size w w' := by
  obtain ⟨W0, hW0⟩ : ∃ W0, W0 = (w.alloc (.cells #[.int .i64 V, .slice a0 fs.length cap] 26)).alloc (.cells #[.slice a1 gs.length cap1, .slice a2 hs.length cap2] 22) := ⟨_, rfl⟩
  have hB0 : Below w.heap.size w W0 := by rw [hW0]; exact ((Below.refl _ w).alloc (Nat.le_refl _) _).alloc (by simp) _
  have hs0 : W0.heap.size = w.heap.size + 2 := by rw [hW0]; simp
  have hkb : W0.heap[w.heap.size]? = some (.cells #[.int .i64 V, .slice a0 fs.length cap] 26 (0, 0)) := by rw [hW0]; exact (Below.heap_alloc _ _ _ (by simp)).trans (heap_alloc_new _ _)
  have hk2 : W0.cell? ⟨w.heap.size + 1, 0, none⟩ = some (.slice a1 gs.length cap1) := by rw [hW0]; simp [go_sem]
  have hk3 : W0.cell? ⟨w.heap.size + 1, 1, none⟩ = some (.slice a2 hs.length cap2) := by rw [hW0]; simp [go_sem]
  have HK : Hid (Calls Try.prog 65 #[.agg #[.int .i64 V, .slice a0 fs.length cap], .slice (some ⟨w.heap.size + 1, 0, none⟩) 2 2] W0 fun e w' => e = .returned (.int .i64 (code4R V fs [gs, hs])) ∧ Below W0.heap.size W0 w') :=
    hid (code4_any V a0 cap fs (w.heap.size + 1) [(a1, cap1, gs), (a2, cap2, hs)] W0 (hx.later hB0 hB0.size) hl (by omega) (fun i hi => by
      have : i = 0 ∨ i = 1 := by simp at hi; omega
      rcases this with rfl | rfl
      · exact ⟨a1, cap1, gs, rfl, hk2⟩
      · exact ⟨a2, cap2, hs, rfl, hk3⟩) (fun q hq => by
      have : q = (a1, cap1, gs) ∨ q = (a2, cap2, hs) := by simpa using hq
      rcases this with rfl | rfl
      · exact ⟨hx1.later hB0 hB0.size, hg⟩
      · exact ⟨hx2.later hB0 hB0.size, hh⟩) (by simp))
  have Hx := hid hx
  have Hy := hid hx1
  have Hz := hid hx2
  have HB0 := hid hB0
  have Hkb := hid hkb
  clear hx hx1 hx2 hB0 hkb hk2 hk3
  by_cases h0 : code4R V fs [gs, hs] = 0
  · obtain ⟨hC, hga⟩ := code4_all h0
    have hfn1 := hga gs (by simp)
    have hfn2 := hga hs (by simp)
    have hmc : mcode4R V fs [gs, hs] = if (morseB fs gs fs.length && morseB fs hs fs.length) = true then 0 else 5 := by rw [mcode4R, if_pos h0]; simp
    have hfe1 := fnPairs_eq hC (isFn_len hfn1) fs.length (Nat.le_refl _)
    have hfe2 := fnPairs_eq hC (isFn_len hfn2) fs.length (Nat.le_refl _)
    rw [h0] at HK
    have HM1 := hid (fun w1 (h : Below w.heap.size w w1) => fnPairs_any V a0 cap fs a1 cap1 gs w1 (Hx.out.later h h.size) (Hy.out.later h h.size) hC (isFn_len hfn1))
    have HM2 := hid (fun w1 (h : Below w.heap.size w w1) => fnPairs_any V a0 cap fs a2 cap2 hs w1 (Hx.out.later h h.size) (Hz.out.later h h.size) hC (isFn_len hfn2))
    rw [hfe1] at HM1
    rw [hfe2] at HM2
    have hl1 := fnP_len63 hC hfn1
    have hl2 := fnP_len63 hC hfn2
    have HR : Hid (equR V fs gs hs = if (morseB fs gs fs.length && morseB fs hs fs.length) = true then (decide (fnP fs gs fs.length = fnP fs hs fs.length), 0) else (false, 5)) := hid (by
      rw [equR, hmc]
      cases morseB fs gs fs.length && morseB fs hs fs.length <;> simp)
    obtain ⟨L, hL⟩ : ∃ L, L = fnP fs gs fs.length := ⟨_, rfl⟩
    obtain ⟨M, hM⟩ : ∃ M, M = fnP fs hs fs.length := ⟨_, rfl⟩
    rw [← hL] at HM1 hl1 HR
    rw [← hM] at HM2 hl2 HR
    obtain ⟨m1, hm1⟩ : ∃ m, m = morseB fs gs fs.length := ⟨_, rfl⟩
    obtain ⟨m2, hm2⟩ : ∃ m, m = morseB fs hs fs.length := ⟨_, rfl⟩
    rw [← hm1] at HM1 HR
    rw [← hm2] at HM2 HR
    clear h0 hC hga hfn1 hfn2 hmc hfe1 hfe2 hL hM hm1 hm2
    rw [hW0] at HK
    go_enter Try.func25, Try.ntmps25
    go_wp2_with fail
    refine HK.out.mono ?_
    rintro e w1 ⟨rfl, hB1⟩
    rw [← hW0] at hB1
    have kb1 := (hB1.block w.heap.size (by omega)).trans Hkb.out
    obtain ⟨k0, k1, _, _⟩ := two_of kb1
    have HB1 := hid (HB0.out.trans (hB1.mono HB0.out.size))
    have Kb1 := hid kb1
    clear hB1 kb1
    go_wp2_with fail
    refine (HM1.out w1 HB1.out).mono ?_
    rintro e w2 ⟨n1, v1, rfl, hn1, ho1, hB2⟩
    have hq1 : n1 = L.length := by rw [flatP_len] at hn1; omega
    subst hq1
    obtain ⟨_, av, cv, rfl, hs1⟩ := pairs_slI ho1
    have kb2 := (hB2.block w.heap.size (lt_get Kb1.out)).trans Kb1.out
    clear k0 k1
    obtain ⟨k0, k1, _, _⟩ := two_of kb2
    have HB2 := hid (HB1.out.trans (hB2.mono HB1.out.size))
    have Hs1 := hid hs1
    clear hB2 kb2 ho1 hn1 hs1
    go_wp2_with fail
    refine (HM2.out w2 HB2.out).mono ?_
    rintro e w3 ⟨n2, v2, rfl, hn2, ho2, hB3⟩
    have hq2 : n2 = M.length := by rw [flatP_len] at hn2; omega
    subst hq2
    obtain ⟨_, bv, dv, rfl, hs2⟩ := pairs_slI ho2
    have HB3 := hid (HB2.out.trans (hB3.mono HB2.out.size))
    have Hs1 := hid (Hs1.out.later hB3 hB3.size)
    have Hs2 := hid hs2
    clear hB3 ho2 hn2 hs2 k0 k1
    cases m1
    · have HE := hid (HR.out.trans (if_neg (by simp)))
      go_wp2_with fail
      go_ret2
      rw [HE.out]
      exact ⟨rfl, HB3.out⟩
    · cases m2
      · have HE := hid (HR.out.trans (if_neg (by simp)))
        go_wp2_with fail
        go_ret2
        rw [HE.out]
        exact ⟨rfl, HB3.out⟩
      · have HE := hid (HR.out.trans (if_pos (by simp)))
        by_cases hlm : L.length = M.length
        · have hd : ((L.length : Int) != (M.length : Int)) = false := by simp; omega
          have Hlm := hid hlm
          clear hlm
          go_wp2_with fail
          go_loopw [13] (fun i wr => ∃ k : Nat, k ≤ L.length ∧ i = .int .i64 k ∧ Hid (∀ j, j < k → L[j]?.getD (0, 0) = M[j]?.getD (0, 0)) ∧ Hid (Below w3.heap.size w3 wr)) (fun i _ => L.length - (RowKit.intOf i).toNat)
          case atStart => exact ⟨0, Nat.zero_le _, rfl, hid (by intro j h; omega), hid (Below.refl _ _)⟩
          case round =>
            obtain ⟨k, hk, rfl, Hk, HB⟩ := hrel
            by_cases hlt : k < L.length
            · have hlt2 : k < M.length := by have := Hlm.out; omega
              have hfl := flatP_len L
              have hfm := flatP_len M
              obtain ⟨ba, oa, hba, rfl, hca⟩ : ∃ b off, b < wr.heap.size ∧ av = some ⟨b, off, none⟩ ∧ ∀ i, i < (flatP L).length → wr.cell? ⟨b, off + i, none⟩ = some (.int .i64 ((flatP L)[i]?.getD 0)) := by
                rcases Hs1.out.later HB.out HB.out.size with h | h
                · rw [h] at hfl; simp at hfl; omega
                · exact h
              obtain ⟨bb, ob, hbb, rfl, hcb⟩ : ∃ b' off, b' < wr.heap.size ∧ bv = some ⟨b', off, none⟩ ∧ ∀ i, i < (flatP M).length → wr.cell? ⟨b', off + i, none⟩ = some (.int .i64 ((flatP M)[i]?.getD 0)) := by
                rcases Hs2.out.later HB.out HB.out.size with h | h
                · rw [h] at hfm; simp at hfm; omega
                · exact h
              obtain ⟨e1, e2⟩ := flatP_at L k hlt
              obtain ⟨e3, e4⟩ := flatP_at M k hlt2
              obtain ⟨p, hp⟩ : ∃ p, p = L[k]?.getD (0, 0) := ⟨_, rfl⟩
              obtain ⟨q, hq⟩ : ∃ q, q = M[k]?.getD (0, 0) := ⟨_, rfl⟩
              rw [← hp] at e1 e2
              rw [← hq] at e3 e4
              have c1 : wr.cell? ⟨ba, oa + k * 2, none⟩ = some (.int .i64 p.1) := by rw [← e1]; exact hca (k * 2) (by omega)
              have c2 : wr.cell? ⟨ba, oa + k * 2 + 1, none⟩ = some (.int .i64 p.2) := by rw [← e2]; exact hca (k * 2 + 1) (by omega)
              have c3 : wr.cell? ⟨bb, ob + k * 2, none⟩ = some (.int .i64 q.1) := by rw [← e3]; exact hcb (k * 2) (by omega)
              have c4 : wr.cell? ⟨bb, ob + k * 2 + 1, none⟩ = some (.int .i64 q.2) := by rw [← e4]; exact hcb (k * 2 + 1) (by omega)
              have hi0 : (0 : Int) ≤ (k : Int) := by omega
              have hi1 : (k : Int) < (L.length : Int) := by omega
              have hi2 : (k : Int) < (M.length : Int) := by omega
              have Hp := hid hp
              have Hq := hid hq
              have Heq := eq_pairF
              obtain ⟨x, y⟩ := p
              obtain ⟨x', y'⟩ := q
              simp only at c1 c2 c3 c4
              clear hp hq e1 e2 e3 e4 hca hcb hfl hfm
              by_cases he : x = x' ∧ y = y'
              · have hd2 : (x == x' && y == y') = true := by simp [he.1, he.2]
                have Hn : Hid (∀ j, j < k + 1 → L[j]?.getD (0, 0) = M[j]?.getD (0, 0)) := hid (by
                  intro j hj
                  by_cases e : j < k
                  · exact Hk.out j e
                  · obtain rfl : j = k := by omega
                    rw [← Hp.out, ← Hq.out, he.1, he.2])
                clear he
                go_wp2_with fail
                go_quiet (fail)
                go_wp2_with fail
                go_roundw
                case rel => exact ⟨k + 1, by omega, by go_num, Hn, hid ⟨HB.out.os, HB.out.tape, HB.out.output, HB.out.size, HB.out.block⟩⟩
                case measure => simp [RowKit.intOf]; omega
              · have hd2 : (x == x' && y == y') = false := by
                  rw [Bool.eq_false_iff]
                  intro h
                  simp at h
                  exact he h
                have Hn : Hid (equR V fs gs hs = (false, 0)) := hid (by
                  rw [HE.out]
                  rw [show decide (L = M) = false from decide_eq_false fun h => he (by
                    have h1 := Hp.out
                    rw [h, ← Hq.out] at h1
                    injection h1 with h1 h2
                    exact ⟨h1, h2⟩)])
                clear he
                go_wp2_with fail
                go_quiet (fail)
                go_wp2_with fail
                go_ret2
                rw [Hn.out]
                exact ⟨rfl, HB3.out.trans (Below.mono (w := w3) ⟨HB.out.os, HB.out.tape, HB.out.output, HB.out.size, HB.out.block⟩ HB3.out.size)⟩
            · have Hn : Hid (equR V fs gs hs = (true, 0)) := hid (by
                rw [HE.out]
                rw [show decide (L = M) = true from decide_eq_true (ext_take Hlm.out (fun j hj => Hk.out j (by omega)))])
              go_wp2_with fail
              go_ret2
              rw [Hn.out]
              exact ⟨rfl, HB3.out.trans (HB.out.mono HB3.out.size)⟩
        · have hd : ((L.length : Int) != (M.length : Int)) = true := by simp; omega
          have Hn : Hid (equR V fs gs hs = (false, 0)) := hid (by
            rw [HE.out]
            rw [show decide (L = M) = false from decide_eq_false (fun h => hlm (by rw [h]))])
          clear hlm
          go_wp2_with fail
          go_ret2
          rw [Hn.out]
          exact ⟨rfl, HB3.out⟩
  · obtain ⟨c, hc⟩ : ∃ c, c = code4R V fs [gs, hs] := ⟨_, rfl⟩
    have hmc : mcode4R V fs [gs, hs] = c := by rw [mcode4R, if_neg h0, hc]
    refine bool_mono4 (show equR V fs gs hs = (false, c) by rw [equR, hmc, if_neg (by rw [hc]; exact h0)]) ?_
    clear hmc
    rw [← hc] at h0 HK
    have hcn : (c != 0) = true := by simpa using h0
    clear hc h0
    rw [hW0] at HK
    go_enter Try.func25, Try.ntmps25
    go_wp2_with fail
    refine HK.out.mono ?_
    rintro e w1 ⟨rfl, hB1⟩
    rw [← hW0] at hB1
    go_wp2_with fail
    go_ret2
    exact ⟨rfl, HB0.out.trans (hB1.mono HB0.out.size)⟩

end Go.Proofs.Ytbaljngbmokiiaa

/-! The law on AreEquivalent, walked. -/
namespace Go.Proofs.Ytbaljngbmokiiaa
open Go.RowKit

set_option maxRecDepth 100000 in
set_option maxHeartbeats 8000000 in
theorem law_AreEquivalent (V0 : Int) (a0 : Option Addr) (cap0 : Nat) (xs0 : List Int) (a1 : Option Addr) (cap1 : Nat) (gs1 : List Int) (a2 : Option Addr) (cap2 : Nat) (gs2 : List Int) (w : World) (hx0 : SlI w w.heap.size a0 xs0) (hx1 : SlI w w.heap.size a1 gs1) (hx2 : SlI w w.heap.size a2 gs2)  (hn0 : xs0.length ≤ 9223372036854775807)  :
    Calls Try.prog 4 #[.agg #[.int .i64 V0, .slice a0 xs0.length cap0], .slice a1 gs1.length cap1, .slice a2 gs2.length cap2] w fun e w' => e = .returned (.bool true) ∧ Below w.heap.size w w' := by
  have F0 : Book w w [(a0, xs0), (a1, gs1), (a2, gs2)] [] [] := ⟨Below.refl _ _, by simp; exact ⟨hx0, hx1, hx2⟩, by simp, by simp⟩
  have F0 := F0.alloc (.cells #[.int .i64 V0, .slice a0 xs0.length cap0] 24)
  (try simp only [World.size_alloc] at F0)
  have B0 := hid F0
  clear F0 hx0 hx1 hx2
  obtain ⟨r0, hr0⟩ : ∃ r, r = szR 1048576 xs0.length := ⟨_, rfl⟩
  have Hr0 := hid hr0
  by_cases hbL1 : 1048576 < gs1.length
  · clear hr0
    have hbi1 : (gs1.length : Int) > 1048576 := by omega
    go_enter Try.func4, Try.ntmps4
    go_wp2_with fail
    go_ret
    exact ⟨rfl, B0.out.from0⟩
  have hl1 : gs1.length ≤ 1048576 := by omega
  have hbi1 : ¬ (gs1.length : Int) > 1048576 := by omega
  by_cases hbL2 : 1048576 < gs2.length
  · clear hr0
    have hbi2 : (gs2.length : Int) > 1048576 := by omega
    go_enter Try.func4, Try.ntmps4
    go_wp2_with fail
    go_ret
    exact ⟨rfl, B0.out.from0⟩
  have hl2 : gs2.length ≤ 1048576 := by omega
  have hbi2 : ¬ (gs2.length : Int) > 1048576 := by omega
  by_cases hb0 : 1048576 < xs0.length
  · have hm0 : r0 = -1 := by rw [hr0]; exact szR_big (by omega)
    clear hb0
    clear hr0
    go_enter Try.func4, Try.ntmps4
    go_wp2_with fail
    refine (szCx V0 a0 xs0.length cap0 1048576 _ (by omega) (by omega) hn0).mono ?_
    rintro e s0 ⟨rfl, hB⟩
    have zs0 := hB.size
    (try simp only [World.size_alloc] at zs0)
    have B0 := hid (B0.out.below hB)
    clear hB
    rw [← Hr0.out]
    go_wp2_with fail
    go_ret
    exact ⟨rfl, B0.out.from0⟩
  · have hv0 : r0 = 1048576 - xs0.length := by rw [hr0, szR_fit (by omega)]
    have hg0 : 0 ≤ r0 := by omega
    have hu0 : r0 ≤ 1048576 := by omega
    have hl0 : xs0.length ≤ 1048576 := by omega
    clear hr0 hb0
    have Hv0 := hid hv0
    clear hv0
    obtain ⟨R, hR⟩ : ∃ R, R = equR V0 xs0 gs1 gs2 := ⟨_, rfl⟩
    obtain ⟨bb, c⟩ := R
    have HS : Hid (∀ a0 cap0 a1 cap1 a2 cap2 w', SlI w' w'.heap.size a0 xs0 → SlI w' w'.heap.size a1 gs1 → SlI w' w'.heap.size a2 gs2 → Calls Try.prog 25 #[.agg #[.int .i64 V0, .slice a0 xs0.length cap0], .slice a1 gs1.length cap1, .slice a2 gs2.length cap2] w' fun e w'' => e = .returned (.tuple #[.bool bb, .int .i64 c]) ∧ Below w'.heap.size w' w'') :=
      hid (fun a0 cap0 a1 cap1 a2 cap2 w' hs0 hs1 hs2 => by have := specAreEquivalent V0 a0 cap0 xs0 a1 cap1 gs1 a2 cap2 gs2 w' hs0 hs1 hs2 hl0 hl1 hl2; rwa [← hR] at this)
    have HI : Hid (∀ a0 cap0 a1 cap1 a2 cap2 w', SlI w' w'.heap.size a0 xs0 → SlI w' w'.heap.size a1 gs1 → SlI w' w'.heap.size a2 gs2 → Calls Try.prog 26 #[.agg #[.int .i64 V0, .slice a0 xs0.length cap0], .slice a1 gs1.length cap1, .slice a2 gs2.length cap2] w' fun e w'' => e = .returned (.tuple #[.bool bb, .int .i64 c]) ∧ Below w'.heap.size w' w'') :=
      hid (fun a0 cap0 a1 cap1 a2 cap2 w' hs0 hs1 hs2 => by have := implAreEquivalent V0 a0 cap0 xs0 a1 cap1 gs1 a2 cap2 gs2 w' hs0 hs1 hs2 hl0 hl1 hl2; rwa [← hR] at this)
    have hcc : (c != c) = false := by simp
    clear hR
    go_enter Try.func4, Try.ntmps4
    go_wp2_with fail
    refine (szCx V0 a0 xs0.length cap0 1048576 _ (by omega) (by omega) hn0).mono ?_
    rintro e s0 ⟨rfl, hB⟩
    have zs0 := hB.size
    (try simp only [World.size_alloc] at zs0)
    have B0 := hid (B0.out.below hB)
    clear hB
    rw [← Hr0.out]
    obtain ⟨q0, q1⟩ := B0.out.two (.head _)
    go_wp2_with fail
    clear q0 q1
    refine (toCx V0 a0 cap0 xs0 _ (B0.out.arg (.head _)) hl0).mono ?_
    rintro e u0 ⟨gu0, rfl, hown, hB⟩
    have zu0 := hB.size
    (try simp only [World.size_alloc] at zu0)
    have B0 := hid (B0.out.row hown hB)
    clear hown hB
    (try simp only [World.size_alloc] at B0)
    go_wp2_with fail
    refine (toInts a1 cap1 gs1 _ (B0.out.arg (.tail _ (.head _))) hl1).mono ?_
    rintro e u1 ⟨rfl, hown, hB⟩
    have zu1 := hB.size
    (try simp only [World.size_alloc] at zu1)
    have B0 := hid (B0.out.row hown hB)
    clear hown hB
    (try simp only [World.size_alloc] at B0)
    go_wp2_with fail
    refine (toInts a2 cap2 gs2 _ (B0.out.arg (.tail _ (.tail _ (.head _)))) hl2).mono ?_
    rintro e u2 ⟨rfl, hown, hB⟩
    have zu2 := hB.size
    (try simp only [World.size_alloc] at zu2)
    have B0 := hid (B0.out.row hown hB)
    clear hown hB
    (try simp only [World.size_alloc] at B0)
    go_wp2_with fail
    refine (HS.out _ _ _ _ _ _ _ (B0.out.slI (.tail _ (.tail _ (.head _)))) (B0.out.slI (.tail _ (.head _))) (B0.out.slI (.head _))).mono ?_
    rintro e u9 ⟨rfl, hB⟩
    have zu9 := hB.size
    (try simp only [World.size_alloc] at zu9)
    have B0 := hid (B0.out.below hB)
    clear hB
    obtain ⟨q0, q1⟩ := B0.out.two (.head _)
    go_wp2_with fail
    clear q0 q1
    refine (toCx V0 a0 cap0 xs0 _ (B0.out.arg (.head _)) hl0).mono ?_
    rintro e x0 ⟨gx0, rfl, hown, hB⟩
    have zx0 := hB.size
    (try simp only [World.size_alloc] at zx0)
    have B0 := hid (B0.out.row hown hB)
    clear hown hB
    (try simp only [World.size_alloc] at B0)
    have B0 := hid (B0.out.alloc (.cells #[.int .i64 V0, .slice (some ⟨gx0, 0, none⟩) xs0.length xs0.length] 26))
    go_wp2_with fail
    refine (toInts a1 cap1 gs1 _ (B0.out.arg (.tail _ (.head _))) hl1).mono ?_
    rintro e x1 ⟨rfl, hown, hB⟩
    have zx1 := hB.size
    (try simp only [World.size_alloc] at zx1)
    have B0 := hid (B0.out.row hown hB)
    clear hown hB
    (try simp only [World.size_alloc] at B0)
    go_wp2_with fail
    refine (toInts a2 cap2 gs2 _ (B0.out.arg (.tail _ (.tail _ (.head _)))) hl2).mono ?_
    rintro e x2 ⟨rfl, hown, hB⟩
    have zx2 := hB.size
    (try simp only [World.size_alloc] at zx2)
    have B0 := hid (B0.out.row hown hB)
    clear hown hB
    (try simp only [World.size_alloc] at B0)
    obtain ⟨p00, p01⟩ := B0.out.two (.head _)
    go_wp2_with fail
    clear p00 p01
    refine (HI.out _ _ _ _ _ _ _ (B0.out.slI (.tail _ (.tail _ (.head _)))) (B0.out.slI (.tail _ (.head _))) (B0.out.slI (.head _))).mono ?_
    rintro e v9 ⟨rfl, hB⟩
    have zv9 := hB.size
    (try simp only [World.size_alloc] at zv9)
    have B0 := hid (B0.out.below hB)
    clear hB
    clear HS HI
    cases bb
    all_goals
      obtain ⟨lxb00, lxb01⟩ := B0.out.two (.head _)
      obtain ⟨lk00, lk01⟩ := B0.out.two (.tail _ (.head _))
      go_wp2_with fail
      go_region_with (first
        | (go_at_call 17; refine (toCx V0 a0 cap0 xs0 _ (B0.out.drew.arg (.head _)) hl0).mono ?_; rintro e f0 ⟨gf0, rfl, hown, hB⟩; have zf0 := hB.size; have C0 := hid (B0.out.drew.row hown hB); clear hown hB; obtain ⟨m00, m01⟩ := C0.out.two (.head _))
        | (go_at_call 20; refine (eqCx_yes V0 _ _ _ _ xs0 xs0 _ (C0.out.slI (.tail _ (.tail _ (.tail _ (.head _))))) (C0.out.slI (.head _)) hl0 hl0 rfl).mono ?_; rintro e h0 ⟨rfl, hB⟩))
      all_goals
        have zh0 := hB.size
        have D0 := hid (C0.out.below hB)
        clear hB C0 B0 m00 m01
        clear lxb00 lxb01
        clear lk00 lk01
        have B0 := D0
        clear D0
        skip
        go_wp2_with fail
        refine (toInts a1 cap1 gs1 _ (B0.out.arg (.tail _ (.head _))) hl1).mono ?_
        rintro e f1 ⟨rfl, hown, hB⟩
        have zf1 := hB.size
        (try simp only [World.size_alloc] at zf1)
        have B0 := hid (B0.out.row hown hB)
        clear hown hB
        (try simp only [World.size_alloc] at B0)
        go_wp2_with fail
        refine (eqInts_yes _ _ _ _ gs1 gs1 _ (B0.out.slI (.tail _ (.tail _ (.tail _ (.head _))))) (B0.out.slI (.head _)) hl1 hl1 rfl).mono ?_
        rintro e h1 ⟨rfl, hB⟩
        have zh1 := hB.size
        (try simp only [World.size_alloc] at zh1)
        have B0 := hid (B0.out.below hB)
        clear hB
        go_wp2_with fail
        refine (toInts a2 cap2 gs2 _ (B0.out.arg (.tail _ (.tail _ (.head _)))) hl2).mono ?_
        rintro e f2 ⟨rfl, hown, hB⟩
        have zf2 := hB.size
        (try simp only [World.size_alloc] at zf2)
        have B0 := hid (B0.out.row hown hB)
        clear hown hB
        (try simp only [World.size_alloc] at B0)
        go_wp2_with fail
        refine (eqInts_yes _ _ _ _ gs2 gs2 _ (B0.out.slI (.tail _ (.tail _ (.tail _ (.head _))))) (B0.out.slI (.head _)) hl2 hl2 rfl).mono ?_
        rintro e h2 ⟨rfl, hB⟩
        have zh2 := hB.size
        (try simp only [World.size_alloc] at zh2)
        have B0 := hid (B0.out.below hB)
        clear hB
        go_wp2_with fail
        go_ret
        exact ⟨rfl, B0.out.from0⟩

end Go.Proofs.Ytbaljngbmokiiaa
