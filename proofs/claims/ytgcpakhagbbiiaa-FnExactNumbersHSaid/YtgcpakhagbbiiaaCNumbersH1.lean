import Derived.Lib.SliceRun
import Derived.Lib.Overlaps
import Derived.Lib.AppendZerosOnto
import Derived.Laws.IdiomCopy
import Derived.Laws.NewBlocks
import Derived.Laws.Externs
import Derived.Laws.OwnMore
import Derived.Shelf.RegionOpen
import Derived.Lib.Walk
import Derived.BigQuiet
import Derived.Test.YtgcpakhagbbiiaaMB3
import Derived.Test.YtgcpakhagbbiiaaMB4
import Derived.Test.YtgcpakhagbbiiaaMB6
import Derived.Test.YtgcpakhagbbiiaaMB2
import Derived.Test.YtgcpakhagbbiiaaMB1
/-! NumbersH: the ways to choose, and the numbers h. -/
namespace Go.Proofs.Ytgcpakhagbbiiaa
open Go.RowKit

/-- The ways to choose i of p, as the program counts them. -/
def chN (p : Nat) : Nat → Nat
  | 0 => 1
  | i + 1 => chN p i * (p - i) / (i + 1)
theorem chN_small : ∀ p : Fin 7, ∀ i : Fin 7, i.val ≤ p.val → chN p.val i.val ≤ 20 ∧ chN p.val i.val * (p.val - i.val) ≤ 120 := by decide +kernel

theorem ch_wrap {m i : Nat} (h : m ≤ 120) : Value.int IntKind.i64 (wrap64 ((m : Int) / ((i : Int) + 1))) = Value.int IntKind.i64 ((m / (i + 1) : Nat) : Int) := by
  have h1 : ((m : Int) / ((i : Int) + 1)) = ((m / (i + 1) : Nat) : Int) := by simp
  have h2 : m / (i + 1) ≤ 120 := Nat.le_trans (Nat.div_le_self _ _) h
  rw [h1]
  obtain ⟨d, hd⟩ : ∃ d, d = m / (i + 1) := ⟨_, rfl⟩
  rw [← hd] at h2 ⊢
  clear h1 hd
  congr 1
  unfold wrap64; omega
/-- One step of the choice. -/
theorem ch_step {p q i c : Nat} (hp : p ≤ 6) (hq : q ≤ p) (hlt : i < q) (hc : c = chN p i) : ∃ m : Nat, m ≤ 120 ∧ (c : Int) * ((p : Int) - (i : Int)) = (m : Int) ∧ m / (i + 1) = chN p (i + 1) := by
  obtain ⟨h1, h2⟩ := chN_small ⟨p, by omega⟩ ⟨i, by omega⟩ (by simp only; omega)
  simp only at h1 h2
  rw [← hc] at h1 h2
  refine ⟨c * (p - i), h2, ?_, by rw [hc]; rfl⟩
  rw [show ((p : Int) - (i : Int)) = ((p - i : Nat) : Int) by omega]; simp

set_option maxHeartbeats 400000 in
theorem chooseS_any (p q : Nat) (w : World) (hp : p ≤ 6) (hq : q ≤ p) :
    Calls Try.prog 159 #[.int .i64 (p : Int), .int .i64 (q : Int)] w fun e w' => e = .returned (.int .i64 (chN p q : Int)) ∧ w = w' := by
  go_enter Try.func159, Try.ntmps159
  go_wp2
  go_loop [5, 6] (fun o x => ∃ i c : Nat, i ≤ q ∧ o = .int .i64 c ∧ x = .int .i64 i ∧ Hid (c = chN p i)) (fun _ x => q - (intOf x).toNat)
  case atStart => exact ⟨0, 1, Nat.zero_le _, rfl, rfl, hid rfl⟩
  case round =>
    obtain ⟨i, c, hi, rfl, rfl, Hc⟩ := hrel
    by_cases hlt : i < q
    · obtain ⟨m, h2, hmi, hc1⟩ := ch_step hp hq hlt Hc.out
      have Hc1 := hid hc1
      have hdl : m / (i + 1) ≤ 120 := Nat.le_trans (Nat.div_le_self _ _) h2
      clear hc1
      go_wp2
      go_round
      case rel => exact ⟨i + 1, m / (i + 1), by omega, ch_wrap h2, by go_num, Hc1⟩
      case measure => simp [intOf]; omega
    · obtain rfl : i = q := by omega
      go_wp2
      go_ret
      exact ⟨ret_int (by rw [← Hc.out]), rfl⟩

set_option maxHeartbeats 1000000 in
theorem choices_any (f : Int) (p q : Nat) (w : World) (hp : p ≤ 6) (hq : q ≤ p) :
    Calls Try.prog 214 #[.agg #[.int .i64 f, .int .i64 (p : Int), .int .i64 (q : Int)]] w fun e w' => e = .returned (.int .i64 (chN p q : Int)) ∧ Below w.heap.size w w' := by
  obtain ⟨W0, hW0⟩ : ∃ W0, W0 = w.alloc (.cells #[.int .i64 f, .int .i64 (p : Int), .int .i64 (q : Int)] 156) := ⟨_, rfl⟩
  have HB0 : Hid (Below w.heap.size w W0) := hid (by rw [hW0]; exact (Below.refl _ w).alloc (Nat.le_refl _) _)
  have k1 : W0.cell? ⟨w.heap.size, 1, none⟩ = some (.int .i64 (p : Int)) := by rw [hW0]; simp [go_sem]
  have k2 : W0.cell? ⟨w.heap.size, 2, none⟩ = some (.int .i64 (q : Int)) := by rw [hW0]; simp [go_sem]
  go_enter Try.func214, Try.ntmps214
  go_wp2_with fail
  rw [← hW0]
  clear hW0
  go_loopw [3, 7] (fun o x wr => ∃ i c : Nat, i ≤ q ∧ o = .int .i64 c ∧ x = .int .i64 i ∧ Hid (c = chN p i) ∧ wr = W0) (fun _ x _ => q - (RowKit.intOf x).toNat)
  case atStart => exact ⟨0, 1, Nat.zero_le _, rfl, rfl, hid rfl, rfl⟩
  case round =>
    obtain ⟨i, c, hi, rfl, rfl, Hc, rfl⟩ := hrel
    by_cases hlt : i < q
    · obtain ⟨m, h2, hmi, hc1⟩ := ch_step hp hq hlt Hc.out
      have Hc1 := hid hc1
      have hdl : m / (i + 1) ≤ 120 := Nat.le_trans (Nat.div_le_self _ _) h2
      clear hc1
      go_wp2_with fail
      go_roundw
      case rel => exact ⟨i + 1, m / (i + 1), by omega, ch_wrap h2, by go_num, Hc1, trivial⟩
      case measure => simp [RowKit.intOf]; omega
    · obtain rfl : i = q := by omega
      go_wp2_with fail
      go_ret
      exact ⟨ret_int (by rw [← Hc.out]), HB0.out⟩

/-- The sign of a share. -/
def sgH (q : Nat) : Int := 1 - ((q % 2 : Nat) : Int) * 2
set_option maxHeartbeats 1000000 in
theorem sign_any (f p : Int) (q : Nat) (w : World) (hq : q ≤ 6) :
    Calls Try.prog 213 #[.agg #[.int .i64 f, .int .i64 p, .int .i64 (q : Int)]] w fun e w' => e = .returned (.int .i64 (sgH q)) ∧ Below w.heap.size w w' := by
  have HB0 : Hid (Below w.heap.size w (w.alloc (.cells #[.int .i64 f, .int .i64 p, .int .i64 (q : Int)] 156))) := hid ((Below.refl _ w).alloc (Nat.le_refl _) _)
  go_enter Try.func213, Try.ntmps213
  go_wp2_with fail
  go_ret
  exact ⟨ret_int (by unfold sgH; go_num), HB0.out⟩
set_option maxHeartbeats 1000000 in
theorem countM_any (f p q : Int) (w : World) :
    Calls Try.prog 212 #[.agg #[.int .i64 f, .int .i64 p, .int .i64 q]] w fun e w' => e = .returned (.int .i64 f) ∧ Below w.heap.size w w' := by
  have HB0 : Hid (Below w.heap.size w (w.alloc (.cells #[.int .i64 f, .int .i64 p, .int .i64 q] 156))) := hid ((Below.refl _ w).alloc (Nat.le_refl _) _)
  go_enter Try.func212, Try.ntmps212
  go_wp2_with fail
  go_ret
  exact ⟨rfl, HB0.out⟩

end Go.Proofs.Ytgcpakhagbbiiaa

/-! CountFaces, the model's and the program's. -/
namespace Go.Proofs.Ytgcpakhagbbiiaa
open Go.RowKit

/-- The numbers of faces of the first n dimensions. -/
def countL (fs : List Int) (n : Nat) : List Int := (List.range n).map fun d : Nat => ((ofDim fs (d : Int)).length : Int)

theorem countL_len (fs : List Int) (n : Nat) : (countL fs n).length = n := by simp [countL]

theorem countL_snoc (fs : List Int) (n : Nat) : countL fs (n + 1) = countL fs n ++ [((ofDim fs (n : Int)).length : Int)] := by
  simp [countL, List.range_succ]

theorem countL_face (pre : List Int) (x : Nat) (n e : Nat) (he : ones x = e + 1) : countL (pre ++ [(x : Int)]) n = (countL pre n).set e (((ofDim pre (e : Int)).length : Int) + 1) := by
  apply List.ext_getElem?
  intro i
  by_cases hi : i < n
  · by_cases hie : e = i
    · subst hie
      rw [List.getElem?_set_self (by rw [countL_len]; exact hi)]
      simp [countL, hi, ofDim, List.filter_append, he]
    · rw [List.getElem?_set_ne hie]
      have : ¬ ((ones x : Int) = (i : Int) + 1) := by omega
      simp [countL, hi, ofDim, List.filter_append, this]
  · rw [List.getElem?_eq_none (by rw [countL_len]; omega), List.getElem?_eq_none (by rw [List.length_set, countL_len]; omega)]

theorem countL_at (pre : List Int) (n e : Nat) (hn : e < n) : (countL pre n)[e]?.getD 0 = ((ofDim pre (e : Int)).length : Int) := by
  simp [countL, hn]

/-- What CountFaces hands back. -/
noncomputable def countFacesR (V : Int) (fs : List Int) : List Int × Int := if isCB V fs then (countL fs (top fs + 1).toNat, 0) else ([], 1)

theorem countFacesR_len (V : Int) (fs : List Int) (_h : fs.length ≤ 1048576) : (countFacesR V fs).1.length ≤ 1048576 := by
  unfold countFacesR
  have := top_hi fs
  split
  · rw [countL_len]; omega
  · simp


end Go.Proofs.Ytgcpakhagbbiiaa

/-! CountFaces, the program's. -/
namespace Go.Proofs.Ytgcpakhagbbiiaa
open Go.RowKit

theorem dimE (f e : Nat) (w : World) (hf : f < 64) (he : ones f = e + 1) :
    Calls Try.prog 155 #[.int .i64 (f : Int)] w fun r w' => r = .returned (.int .i64 (e : Int)) ∧ w = w' :=
  (dim_any f w hf).mono fun _ _ ⟨h, hw⟩ => ⟨by rw [h, he]; congr 2; omega, hw⟩

theorem dimT (V : Int) (a0 : Option Addr) (cap : Nat) (fs : List Int) (T : Nat) (w : World) (hx : SlI w w.heap.size a0 fs) (hl : fs.length ≤ 1048576) (hf : ∀ x ∈ fs, 1 ≤ x ∧ x ≤ 63) (hT : top fs = (T : Int) - 1) :
    Calls Try.prog 154 #[.agg #[.int .i64 V, .slice a0 fs.length cap]] w fun e w' => e = .returned (.int .i64 ((T : Int) - 1)) ∧ Below w.heap.size w w' :=
  (dimI_any V a0 cap fs w hx hl hf).mono fun _ _ ⟨h, hw⟩ => ⟨by rw [h, hT], hw⟩

theorem countL_nil (n : Nat) : countL [] n = List.replicate n 0 := by
  apply List.ext_getElem?
  intro i
  by_cases hi : i < n
  · simp [countL, hi, ofDim]
  · rw [List.getElem?_eq_none (by rw [countL_len]; omega), List.getElem?_eq_none (by simp; omega)]

set_option maxHeartbeats 2000000 in
theorem implCountFaces (V : Int) (a0 : Option Addr) (cap : Nat) (fs : List Int) (w : World) (hx : SlI w w.heap.size a0 fs) (hl : fs.length ≤ 1048576) :
    Calls Try.prog 89 #[.agg #[.int .i64 V, .slice a0 fs.length cap]] w fun e w' => ∃ v, e = .returned (.tuple #[v, .int .i64 (countFacesR V fs).2]) ∧ Res w w' v (countFacesR V fs).1 := by
  have hB0 : Below w.heap.size w (w.alloc (.cells #[.int .i64 V, .slice a0 fs.length cap] 30)) := (Below.refl _ w).alloc (Nat.le_refl _) _
  have Hx := hid (hx.later hB0 (by simp))
  have Hx0 := hid hx
  by_cases hC : IsC V fs
  · refine pair_mono (show countFacesR V fs = (countL fs (top fs + 1).toNat, 0) by unfold countFacesR; rw [isCB_true hC, if_pos rfl]) ?_
    have Hf := hid hC.range63
    have HC := hid hC
    clear hC
    obtain ⟨T, hT⟩ : ∃ T : Nat, (T : Int) = top fs + 1 := ⟨(top fs + 1).toNat, by have := top_lo fs; omega⟩
    have hT6 : T ≤ 6 := by have := top_hi fs; omega
    have hTn : (top fs + 1).toNat = T := by omega
    rw [hTn]
    have HT := hid (show top fs = (T : Int) - 1 by omega)
    clear hT hTn
    go_enter Try.func89, Try.ntmps89
    go_wp2_with fail
    refine (isc_yes V a0 cap fs _ Hx.out hl HC.out).mono ?_
    rintro e w1 ⟨rfl, hB1⟩
    have k0 : w1.cell? ⟨w.heap.size, 0, none⟩ = some (.int .i64 V) := (hB1.cell (p := ⟨w.heap.size, 0, none⟩) (by simp)).trans (by simp [go_sem])
    have k1 : w1.cell? ⟨w.heap.size, 1, none⟩ = some (.slice a0 fs.length cap) := (hB1.cell (p := ⟨w.heap.size, 1, none⟩) (by simp)).trans (by simp [go_sem])
    have hB01 := hB0.trans (hB1.mono (by simp))
    have hs1 : w.heap.size < w1.heap.size := by have := hB1.size; simp at this; omega
    have hx1 := hid (hx.later hB01 hB01.size)
    clear hB1
    go_wp2_with fail
    refine (dimT V a0 cap fs T _ hx1.out hl Hf.out HT.out).mono ?_
    rintro e w2 ⟨rfl, hB2⟩
    have hB02 := hB01.trans (hB2.mono hB01.size)
    have hs2 : w.heap.size < w2.heap.size := Nat.lt_of_lt_of_le hs1 hB2.size
    have d1 : w2.cell? ⟨w.heap.size, 1, none⟩ = some (.slice a0 fs.length cap) := (hB2.cell (p := ⟨w.heap.size, 1, none⟩) hs1).trans k1
    clear k0 k1 hB2
    go_wp2_with (at_make; refine make_int (n := T) rfl rfl (by first | rfl | (show Value.int .i64 ((T : Int) - 1 + 1) = _; congr 1; omega)) (by first | rfl | (show Value.int .i64 ((T : Int) - 1 + 1) = _; congr 1; omega)) (by omega) ?_; intro w3 hown3 hgr3 hB3; have e1 : w3.cell? ⟨w.heap.size, 1, none⟩ = some (.slice a0 fs.length cap) := (hB3.cell (p := ⟨w.heap.size, 1, none⟩) hs2).trans d1)
    have hown0 : w3.ownsRow w2.heap.size 2 1 (.slice (some ⟨w2.heap.size, 0, none⟩) T T) T ((countL [] T).map (Value.int .i64)) := by rw [countL_nil]; exact hown3
    have Hown0 := hid hown0
    have HB3 := hid hB3
    clear hown3 hgr3 hown0 hB3 d1
    go_loopw [17] (fun i wr => ∃ k : Nat, k ≤ fs.length ∧ i = .int .i64 k ∧ wr.ownsRow w2.heap.size 2 1 (.slice (some ⟨w2.heap.size, 0, none⟩) T T) T ((countL (fs.take k) T).map (Value.int .i64)) ∧ Below w2.heap.size w2 wr) (fun i _ => fs.length - (intOf i).toNat)
    case atStart => exact ⟨0, Nat.zero_le _, rfl, by simpa using Hown0.out, HB3.out⟩
    case round =>
      obtain ⟨k, hk, rfl, hown, hB⟩ := hrel
      by_cases hlt : k < fs.length
      · obtain ⟨b, off, hb, rfl, hc⟩ : ∃ b off, b < w.heap.size ∧ a0 = some ⟨b, off, none⟩ ∧ ∀ i, i < fs.length → w.cell? ⟨b, off + i, none⟩ = some (.int .i64 (fs[i]?.getD 0)) := by
          rcases Hx0.out with rfl | h
          · simp at hlt
          · exact h
        have hxm := getD_mem hlt
        obtain ⟨x, hx⟩ : ∃ x : Nat, (x : Int) = fs[k]?.getD 0 := ⟨(fs[k]?.getD 0).toNat, by have := Hf.out _ hxm; omega⟩
        rw [← hx] at hxm
        have hxr := Hf.out _ hxm
        have hx64 : x < 64 := by omega
        have hck : wr.cell? ⟨b, off + k, none⟩ = some (.int .i64 (x : Int)) := by rw [hx]; exact (hB.cell (p := ⟨b, off + k, none⟩) (by show b < w2.heap.size; omega)).trans ((hB02.cell (p := ⟨b, off + k, none⟩) hb).trans (hc k hlt))
        have hi0 : (0 : Int) ≤ (k : Int) := by omega
        have hi1 : (k : Int) < (fs.length : Int) := by omega
        have hop := ones_pos ⟨x, hx64⟩ (by show x ≠ 0; omega)
        have htg := top_ge fs hxm
        rw [HT.out, Int.toNat_natCast] at htg
        obtain ⟨e, he⟩ : ∃ e, ones x = e + 1 := ⟨ones x - 1, by have : 0 < ones x := hop; omega⟩
        have heT : e < T := by omega
        have he0 : (0 : Int) ≤ (e : Int) := by omega
        have he1 : (e : Int) < (T : Int) := by omega
        have hcn := countL_at (fs.take k) T e heT
        obtain ⟨n, hn⟩ : ∃ n : Nat, n = (ofDim (fs.take k) (e : Int)).length := ⟨_, rfl⟩
        have hn6 : n ≤ 1048576 := by rw [hn]; exact Nat.le_trans (List.length_filter_le _ _) (by simp; omega)
        have hce : wr.cell? ⟨w2.heap.size, e, none⟩ = some (.int .i64 (n : Int)) := by
          rw [hown.cellAt e (by omega), hn, ← hcn]
          simp [countL, heT]
        have hfe := hown.frozenAt e
        have hst := hown.stored e (.int .i64 ((n : Int) + 1))
        have hstep : ((countL (fs.take k) T).map (Value.int .i64)).set e (.int .i64 ((n : Int) + 1)) = (countL (fs.take (k + 1)) T).map (Value.int .i64) := by
          rw [take_snoc hlt, ← hx, countL_face _ _ _ _ he, hn, List.map_set]
        rw [hstep] at hst
        have Hst := hid hst
        have HB := hid hB
        have He := hid he
        clear hstep hst hown hB hx hc hcn hn htg hop hxm hxr he
        go_wp2_with (go_at_call 155; refine (dimE x e _ hx64 He.out).mono ?_; rintro e w' ⟨rfl, rfl⟩)
        go_roundw
        case rel =>
          exact ⟨k + 1, by omega, by go_num, Hst.out.1, HB.out.grown Hst.out.2 HB.out.size (fun r e => by cases e; omega)⟩
        case measure => simp [intOf]; omega
      · go_wp2_with fail
        go_ret2
        obtain rfl : k = fs.length := by omega
        rw [List.take_of_length_le (Nat.le_refl _)] at hown
        exact ⟨_, rfl, ownsRow_base (by simpa [countL_len] using hown) (by omega), hB02.trans (hB.mono hB02.size)⟩
  · refine pair_mono (show countFacesR V fs = ([], 1) by unfold countFacesR; rw [isCB_false hC, if_neg (by simp)]) ?_
    go_enter Try.func89, Try.ntmps89
    go_wp2_with fail
    refine (isc_no V a0 cap fs _ Hx.out hl hC).mono ?_
    rintro e w1 ⟨rfl, hB1⟩
    have hB01 := hB0.trans (hB1.mono (by simp))
    go_wp2_with fail
    go_ret2
    exact ⟨_, rfl, res_nil _ _ hB01⟩

end Go.Proofs.Ytgcpakhagbbiiaa

/-! NumbersH: the program's numbers. -/
namespace Go.Proofs.Ytgcpakhagbbiiaa
open Go.RowKit

def termH (F : List Int) (T i j : Nat) : Int := F[j]?.getD 0 * sgH (i - j) * (chN (T - j) (i - j) : Int)
def hSum (F : List Int) (T i : Nat) : Nat → Int
  | 0 => 0
  | k + 1 => hSum F T i k + termH F T i k
structure SmallF (F : List Int) (T : Nat) : Prop where
  len : F.length = T + 1
  six : T ≤ 6
  rng : ∀ x ∈ F, 0 ≤ x ∧ x ≤ 63
theorem sgH_or (q : Nat) : sgH q = 1 ∨ sgH q = -1 := by unfold sgH; omega
theorem sgH_even {q : Nat} (h : q % 2 = 0) : sgH q = 1 := by unfold sgH; rw [h]; rfl
theorem sgH_odd {q : Nat} (h : q % 2 = 1) : sgH q = -1 := by unfold sgH; rw [h]; rfl
theorem term_rng {F : List Int} {T i j : Nat} (h : SmallF F T) (hi : i ≤ T) (hj : j ≤ i) : -1260 ≤ termH F T i j ∧ termH F T i j ≤ 1260 ∧ (0 ≤ F[j]?.getD 0 * (chN (T - j) (i - j) : Int) ∧ F[j]?.getD 0 * (chN (T - j) (i - j) : Int) ≤ 1260) := by
  have h6 := h.six
  have hl := h.len
  obtain ⟨c1, _⟩ := chN_small ⟨T - j, by omega⟩ ⟨i - j, by omega⟩ (by simp only; omega)
  simp only at c1
  have hx := h.rng _ (getD_mem (show j < F.length by omega))
  unfold termH
  obtain ⟨f, hf⟩ : ∃ f : Nat, F[j]?.getD 0 = (f : Int) := ⟨(F[j]?.getD 0).toNat, by omega⟩
  obtain ⟨c, hc⟩ : ∃ c, c = chN (T - j) (i - j) := ⟨_, rfl⟩
  rw [hf, ← hc]
  rw [← hc] at c1
  rw [hf] at hx
  have hm : f * c ≤ 63 * 20 := Nat.mul_le_mul (by omega) c1
  have he : (f : Int) * (c : Int) = ((f * c : Nat) : Int) := by simp
  rcases sgH_or (i - j) with e | e
  · rw [e, Int.mul_one, he]; omega
  · rw [e, Int.mul_neg, Int.mul_one, Int.neg_mul, he]; omega
theorem hSum_rng {F : List Int} {T i : Nat} (h : SmallF F T) (hi : i ≤ T) : ∀ k, k ≤ i + 1 → -(1260 * (k : Int)) ≤ hSum F T i k ∧ hSum F T i k ≤ 1260 * k
  | 0, _ => by simp [hSum]
  | k + 1, hk => by
    have ih := hSum_rng h hi k (by omega)
    have ht := term_rng h hi (show k ≤ i by omega)
    unfold hSum
    omega
def condH : Array Value := #[.func (.func 212) #[] #[], .func (.func 213) #[] #[], .func (.func 214) #[] #[]]
theorem factors_any (w : World) : Calls Try.prog 162 #[] w fun e w' => e = .returned (.slice (some ⟨w.heap.size, 0, none⟩) 3 3) ∧ w' = w.alloc (.cells condH 159) := by
  go_enter Try.func162, Try.ntmps162
  go_wp2_with fail
  go_ret
  exact ⟨rfl, rfl⟩

set_option maxRecDepth 100000 in
set_option maxHeartbeats 4000000 in
theorem numberH_any (b o cap j T : Nat) (F : List Int) (w : World) (hF : SmallF F T) (hb : b < w.heap.size) (hc : ∀ i, i < F.length → w.cell? ⟨b, o + i, none⟩ = some (.int .i64 (F[i]?.getD 0))) (hcap : F.length ≤ cap) (hj : j ≤ T) :
    Calls Try.prog 91 #[.slice (some ⟨b, o, none⟩) F.length cap, .int .i64 (j : Int)] w fun e w' => e = .returned (.int .i64 (hSum F T j (j + 1))) ∧ Below w.heap.size w w' := by
  have hl := hF.len
  have h6 := hF.six
  have HF := hid hF
  have Hc := hid hc
  clear hF hc
  have HL := hid hl
  have hL7 : F.length ≤ 7 := by omega
  have hjl : j + 1 ≤ F.length := by omega
  have hjj0 : (0 : Int) ≤ (j : Int) := by omega
  clear hl
  go_enter Try.func91, Try.ntmps91
  go_wp2_with fail
  go_loopw [5, 17] (fun s x wr => ∃ k : Nat, k ≤ j + 1 ∧ s = .int .i64 (hSum F T j k) ∧ x = .int .i64 k ∧ Hid (Below w.heap.size w wr)) (fun _ x _ => (j + 1) - (RowKit.intOf x).toNat)
  case atStart => exact ⟨0, Nat.zero_le _, rfl, rfl, hid (Below.refl _ _)⟩
  case round =>
    obtain ⟨k, hk, rfl, rfl, HB⟩ := hrel
    by_cases hlt : k < j + 1
    · have e0 : wr.cell? ⟨b, o + k, none⟩ = some (.int .i64 (F[k]?.getD 0)) := (HB.out.cell (p := ⟨b, o + k, none⟩) hb).trans (Hc.out k (by omega))
      have hfr := HF.out.rng _ (getD_mem (show k < F.length by omega))
      obtain ⟨f, hf⟩ : ∃ f : Nat, F[k]?.getD 0 = (f : Int) := ⟨(F[k]?.getD 0).toNat, by omega⟩
      have hi0 : (0 : Int) ≤ (k : Int) := by omega
      have hi1 : (k : Int) < (j : Int) + 1 := by omega
      have ht := term_rng HF.out hj (show k ≤ j by omega)
      have hs := hSum_rng HF.out hj k (by omega)
      have hsn : hSum F T j (k + 1) = hSum F T j k + termH F T j k := rfl
      have htm : termH F T j k = (f : Int) * sgH (j - k) * (chN (T - k) (j - k) : Int) := by unfold termH; rw [hf]
      have hsg := sgH_or (j - k)
      rw [hf] at e0 ht hfr
      obtain ⟨S, hS⟩ : ∃ S, S = hSum F T j k := ⟨_, rfl⟩
      rw [← hS] at hsn hs ⊢
      have eT : ((T - k : Nat) : Int) = (F.length : Int) - 1 - (k : Int) := by have := HL.out; omega
      have eJ : ((j - k : Nat) : Int) = (j : Int) - (k : Int) := by omega
      have h1c := hid (fun (W : World) => countM_any (f : Int) ((T - k : Nat) : Int) ((j - k : Nat) : Int) W)
      have h2c := hid (fun (W : World) => sign_any (f : Int) ((T - k : Nat) : Int) (j - k) W (by omega))
      have h3c := hid (fun (W : World) => choices_any (f : Int) (T - k) (j - k) W (by omega) (by omega))
      obtain ⟨sg, hsge⟩ : ∃ sg, sg = sgH (j - k) := ⟨_, rfl⟩
      obtain ⟨ch, hche⟩ : ∃ ch, ch = chN (T - k) (j - k) := ⟨_, rfl⟩
      rw [← hsge] at h2c hsg htm
      rw [← hche] at h3c htm ht
      rw [eT, eJ] at h1c h2c h3c
      have HFac := hid (show Calls Try.prog 162 #[] (wr.alloc (.cells #[.int .i64 (f : Int), .int .i64 ((F.length : Int) - 1 - (k : Int)), .int .i64 ((j : Int) - (k : Int))] 156)) fun e w' => e = .returned (.slice (some ⟨wr.heap.size + 1, 0, none⟩) 3 3) ∧ w' = (wr.alloc (.cells #[.int .i64 (f : Int), .int .i64 ((F.length : Int) - 1 - (k : Int)), .int .i64 ((j : Int) - (k : Int))] 156)).alloc (.cells condH 159) by
        have := factors_any (wr.alloc (.cells #[.int .i64 (f : Int), .int .i64 ((F.length : Int) - 1 - (k : Int)), .int .i64 ((j : Int) - (k : Int))] 156))
        rw [World.size_alloc] at this
        exact this)
      have p1 : (1 : Int) * (f : Int) = (f : Int) := by omega
      have hp2 : (f : Int) * sg ≤ 63 ∧ -63 ≤ (f : Int) * sg := by rcases hsg with e | e <;> rw [e] <;> omega
      have hp3 : (f : Int) * sg * (ch : Int) ≤ 1260 ∧ -1260 ≤ (f : Int) * sg * (ch : Int) := by rw [← htm]; exact ⟨ht.2.1, ht.1⟩
      obtain ⟨P2, hP2⟩ : ∃ P2, P2 = (f : Int) * sg := ⟨_, rfl⟩
      rw [← hP2] at hp2 hp3 htm
      obtain ⟨P3, hP3⟩ : ∃ P3, P3 = P2 * (ch : Int) := ⟨_, rfl⟩
      rw [← hP3] at hp3 htm
      have hw2 : IntKind.i64.wrap ((f : Int) * sg) = P2 := by rw [← hP2, IntKind.wrap_i64]; omega
      have hw3 : IntKind.i64.wrap (P2 * (ch : Int)) = P3 := by rw [← hP3, IntKind.wrap_i64]; omega
      have Hsn := hid (show hSum F T j (k + 1) = S + P3 by rw [hsn, htm])
      clear eT eJ hsge hche hf hS hsn htm ht hsg hP2 hP3
      go_wp2_with fail
      refine HFac.out.mono ?_
      rintro e w2 ⟨rfl, hw2e⟩
      have HB2 : Hid (Below wr.heap.size wr w2) := hid (by rw [hw2e]; exact ((Below.refl _ wr).alloc (Nat.le_refl _) _).alloc (by simp) _)
      have hz2 : w2.heap.size = wr.heap.size + 2 := by rw [hw2e]; simp
      have K1 : w2.heap[wr.heap.size]? = some (.cells #[.int .i64 (f : Int), .int .i64 ((F.length : Int) - 1 - (k : Int)), .int .i64 ((j : Int) - (k : Int))] 156 (0, 0)) := by rw [hw2e]; exact (Below.heap_alloc _ _ _ (by simp)).trans (heap_alloc_new _ _)
      have K2 : w2.heap[wr.heap.size + 1]? = some (.cells condH 159 (0, 0)) := by rw [hw2e]; have := heap_alloc_new (wr.alloc (.cells #[.int .i64 (f : Int), .int .i64 ((F.length : Int) - 1 - (k : Int)), .int .i64 ((j : Int) - (k : Int))] 156)) (.cells condH 159); rw [World.size_alloc] at this; exact this
      have HC : Hid (∀ W, Below w2.heap.size w2 W → (W.cell? ⟨wr.heap.size, 0, none⟩ = some (.int .i64 (f : Int)) ∧ W.cell? ⟨wr.heap.size, 1, none⟩ = some (.int .i64 ((F.length : Int) - 1 - (k : Int))) ∧ W.cell? ⟨wr.heap.size, 2, none⟩ = some (.int .i64 ((j : Int) - (k : Int)))) ∧ (W.cell? ⟨wr.heap.size + 1, 0, none⟩ = some (.func (.func 212) #[] #[]) ∧ W.cell? ⟨wr.heap.size + 1, 1, none⟩ = some (.func (.func 213) #[] #[]) ∧ W.cell? ⟨wr.heap.size + 1, 2, none⟩ = some (.func (.func 214) #[] #[]))) := hid (fun W h => by
        have q1 := (h.block wr.heap.size (by omega)).trans K1
        have q2 := (h.block (wr.heap.size + 1) (by omega)).trans K2
        refine ⟨⟨?_, ?_, ?_⟩, ?_, ?_, ?_⟩ <;> simp [World.cell?, q1, q2, condH])
      have hent1 : ∀ args w, (callFunc 212 args).run Try.prog w = .ok (.enter 212 args) w := enters_of Try.func212 (by kernel_rfl) rfl
      have hent2 : ∀ args w, (callFunc 213 args).run Try.prog w = .ok (.enter 213 args) w := enters_of Try.func213 (by kernel_rfl) rfl
      have hent3 : ∀ args w, (callFunc 214 args).run Try.prog w = .ok (.enter 214 args) w := enters_of Try.func214 (by kernel_rfl) rfl
      have Hz2 := hid hz2
      clear hw2e K1 K2 hz2 e0
      go_wp2_with fail
      refine wp_loop_rounds 4 ?_
      rw [rounds_succ]
      obtain ⟨⟨s0, s1, s2⟩, c0, c1, c2⟩ := HC.out w2 (Below.refl _ _)
      go_wp2_with (go_at_call 212; refine (h1c.out _).mono ?_; rintro e w3 ⟨rfl, hB3⟩)
      have HB3 := hid hB3
      clear hB3 s0 s1 s2 c0 c1 c2
      go_wp2_with fail
      rw [rounds_succ]
      obtain ⟨⟨s0, s1, s2⟩, c0, c1, c2⟩ := HC.out w3 HB3.out
      go_wp2_with (go_at_call 213; refine (h2c.out _).mono ?_; rintro e w4 ⟨rfl, hB4⟩)
      have HB4 := hid (HB3.out.trans (hB4.mono HB3.out.size))
      clear hB4 s0 s1 s2 c0 c1 c2
      go_wp2_with fail
      rw [rounds_succ]
      obtain ⟨⟨s0, s1, s2⟩, c0, c1, c2⟩ := HC.out w4 HB4.out
      go_wp2_with (go_at_call 214; refine (h3c.out _).mono ?_; rintro e w5 ⟨rfl, hB5⟩)
      have HB5 := hid (HB4.out.trans (hB5.mono HB4.out.size))
      clear hB5 s0 s1 s2 c0 c1 c2
      go_wp2_with fail
      rw [rounds_succ]
      go_wp2_with fail
      go_roundw
      case rel => exact ⟨k + 1, by omega, by rw [Hsn.out], by go_num, hid (HB.out.trans ((HB2.out.trans (HB5.out.mono HB2.out.size)).mono HB.out.size))⟩
      case measure => simp [RowKit.intOf]; omega
    · obtain rfl : k = j + 1 := by omega
      go_wp2_with fail
      go_ret
      exact ⟨ret_int rfl, HB.out⟩

end Go.Proofs.Ytgcpakhagbbiiaa

/-! slices.Insert of one pair. -/
namespace Go.Proofs.Ytgcpakhagbbiiaa
open Go.RowKit

theorem wp_copy_run {P : Program} (w : World) {o : Oper} {a : Act} {K : Act → World → Prop} {Q : Exit → Act → World → Prop} (d s : Operand) (t t' : TypeId)
    (ho : o.op = .call { callee := .builtin .copy, args := #[d, s], argTypes := #[t, t'] }) (v u : Value) (hd : a.eval d = v) (hs : a.eval s = u) {v' : Value} {w' : World}
    (hr : (Builtin.copy_ #[t, t'] o.type #[v, u]).run P w = .ok v' w') (h : K (a.put o.dst v') w') : o.wp P a w K Q := by
  unfold Oper.wp execOp
  simp only [ho, resolve, invoke, builtin, Sem.run_bind, Sem.run_pure, Result.andThen_ok, List.map_toArray, List.map_cons, List.map_nil, hd, hs, hr]
  exact h
theorem wpList_copy_run {P : Program} (w : World) {ops : Array Oper} {rest : List Oper} {o : Oper} {a : Act} {Q : Exit → Act → World → Prop} (hgd : o.guard = none) (d s : Operand) (t t' : TypeId)
    (ho : o.op = .call { callee := .builtin .copy, args := #[d, s], argTypes := #[t, t'] }) (v u : Value) (hd : a.eval d = v) (hs : a.eval s = u) {v' : Value} {w' : World}
    (hr : (Builtin.copy_ #[t, t'] o.type #[v, u]).run P w = .ok v' w') (h : wpList P ops Q rest (a.put o.dst v') w') : wpList P ops Q (o :: rest) a w :=
  wpList_plain hgd fun _ hK => wp_copy_run w d s t t' ho v u hd hs hr (hK _ _ h)
theorem step_copy_run {P : Program} {ops : Array Oper} {o : Oper} {a : Act} {w : World} {K : Act → World → Prop} {Q : Exit → Act → World → Prop} {E : Prop}
    (hg : o.guard = none) (d x : Operand) (dT sT : TypeId) (hop : o.op = Op.call { callee := Callee.builtin Builtin.copy, args := #[d, x], argTypes := #[dT, sT] })
    (v u : Value) (hd : a.eval d = v) (hx : a.eval x = u) {v' : Value} {w' : World} (hr : (Builtin.copy_ #[dT, sT] o.type #[v, u]).run P w = .ok v' w') (hK : K (a.put o.dst v') w') :
    if Region.wanted o (yielded ops a.tmps) = true then Oper.wp P o a w K Q else E := by
  have hw : Region.wanted o (yielded ops a.tmps) = true := by simp [Region.wanted, hg]
  rw [if_pos hw]
  exact wp_copy_run w d x dT sT hop v u hd hx hr hK

/-- 'copy' at elements of two cells. -/
theorem run_copy_two {P : Program} (w : World) (dT sT ty elem : TypeId) (b o dLen dCap : Nat) (a : Addr) (sLen sCap : Nat) (cs : List Value)
    (hu : P.underlying dT = some (.slice elem)) (hs : (P.info? elem).map (·.size) = some 2) (hn : cs.length = Nat.min sLen dLen * 2)
    (hsrc : ∀ j v, cs[j]? = some v → w.cell? (a.add j) = some v) (hc : ∀ j, j < cs.length → (w.cell? ⟨b, o + j, none⟩).isSome = true) (hf : ∀ j, j < cs.length → w.frozen? ⟨b, o + j, none⟩ = false) (h1 : ∀ v ∈ cs, v.oneCell' = true) :
    (Builtin.copy_ #[dT, sT] ty #[.slice (some ⟨b, o, none⟩) dLen dCap, .slice (some a) sLen sCap]).run P w = .ok (goInt (Nat.min sLen dLen)) (w.setCells b o cs) := by
  have hl := run_loadCells_list (P := P) w a cs hsrc
  have hst := run_storeCells_cells (P := P) b o cs 0 w (by simpa using hc) (by simpa using hf) h1
  cases hq : P.info? elem with
  | none => simp [hq] at hs
  | some i =>
    have hi : i.size = 2 := by simpa [hq] using hs
    simp [Builtin.copy_, run_underlying hu, Builtin.lenOf, Builtin.firstCells, sizeOf, typeInfo, hq, hi, ← hn, hl, hst]

/-- Values written over an array's cells. -/
def putA (cur : Array Value) : Nat → List Value → Array Value
  | _, [] => cur
  | o, v :: r => putA (cur.setIfInBounds o v) (o + 1) r
theorem putA_size : ∀ (vs : List Value) (cur : Array Value) (o : Nat), (putA cur o vs).size = cur.size
  | [], _, _ => rfl
  | v :: r, cur, o => by rw [putA, putA_size r]; simp
theorem putA_get : ∀ (vs : List Value) (cur : Array Value) (o j : Nat), o + vs.length ≤ cur.size → (putA cur o vs)[j]? = if o ≤ j ∧ j < o + vs.length then vs[j - o]? else cur[j]?
  | [], cur, o, j, _ => by
    rw [putA, if_neg (by simp)]
  | v :: r, cur, o, j, h => by
    simp only [List.length_cons] at h
    rw [putA, putA_get r _ (o + 1) j (by simp; omega)]
    by_cases h1 : o + 1 ≤ j ∧ j < o + 1 + r.length
    · rw [if_pos h1, if_pos (by simp only [List.length_cons]; omega), show j - o = (j - (o + 1)) + 1 by omega]
      simp
    · rw [if_neg h1]
      by_cases h2 : j = o
      · subst h2
        rw [if_pos (by simp only [List.length_cons]; omega)]
        simp [Array.getElem?_setIfInBounds]
        omega
      · rw [if_neg (by simp only [List.length_cons]; omega)]
        rw [Array.getElem?_setIfInBounds, if_neg (by omega)]
theorem setCells_heap {e : TypeId} {g : Nat} : ∀ (vs : List Value) (o : Nat) (w : World) (cur : Array Value), w.heap[g]? = some (.cells cur e (0, 0)) → (w.setCells g o vs).heap[g]? = some (.cells (putA cur o vs) e (0, 0))
  | [], _, _, _, h => h
  | v :: r, o, w, cur, h => by
    rw [World.setCells, putA]
    exact setCells_heap r (o + 1) _ _ (heap_setCell_same w g o cur e v h)
theorem setCells_grown {g : Nat} : ∀ (vs : List Value) (o : Nat) (w : World), w.grownBy (w.setCells g o vs) (some g)
  | [], _, w => ⟨rfl, rfl, rfl, Nat.le_refl _, fun _ _ _ => rfl⟩
  | v :: r, o, w => by
    rw [World.setCells]
    have h := setCells_grown (g := g) r (o + 1) (w.setCell ⟨g, o, none⟩ v)
    have h1 : w.grownBy (w.setCell ⟨g, o, none⟩ v) (some g) := ⟨rfl, rfl, rfl, by simp, fun k _ hk => heap_setCell_other w ⟨g, o, none⟩ k v (fun e => hk (by simp [e]))⟩
    exact ⟨h.os.trans h1.os, h.tape.trans h1.tape, h.output.trans h1.output, Nat.le_trans h1.size h.size, fun k hk hn => (h.block k (Nat.lt_of_lt_of_le hk h1.size) hn).trans (h1.block k hk hn)⟩
theorem setCells_output {g : Nat} (vs : List Value) (o : Nat) (w : World) : (w.setCells g o vs).output = w.output := (setCells_grown vs o w).output
theorem setCells_tape {g : Nat} (vs : List Value) (o : Nat) (w : World) : (w.setCells g o vs).tape = w.tape := (setCells_grown vs o w).tape
theorem setCells_os {g : Nat} (vs : List Value) (o : Nat) (w : World) : (w.setCells g o vs).os = w.os := (setCells_grown vs o w).os
theorem setCells_same {g : Nat} : ∀ (vs : List Value) (o : Nat) {w w' : World}, w.heap = w'.heap → (w.setCells g o vs).heap = (w'.setCells g o vs).heap
  | [], _, _, _, h => h
  | v :: r, o, w, w', h => by
    rw [World.setCells, World.setCells]
    exact setCells_same r (o + 1) (by unfold World.setCell; simp [h])
theorem setCells_size {g : Nat} : ∀ (vs : List Value) (o : Nat) (w : World), (w.setCells g o vs).heap.size = w.heap.size
  | [], _, _ => rfl
  | v :: r, o, w => by rw [World.setCells, setCells_size r]; simp

/-- What the row holds behind the insertion. -/
theorem put_two {cur : Array Value} {n i : Nat} {cs : List Value} {p q : Value} (hi : i ≤ n) (hcs : cs.length = n * 2) (hsz : (n + 1) * 2 ≤ cur.size) (hpre : ∀ j, j < i * 2 → cur[j]? = cs[j]?) :
    (putA (putA cur (i * 2 + 2) (cs.drop (i * 2))) (i * 2) [p, q]).toList.take ((n + 1) * 2) = cs.take (i * 2) ++ p :: q :: cs.drop (i * 2) := by
  apply List.ext_getElem?
  intro j
  rw [List.getElem?_take]
  have hd : (cs.drop (i * 2)).length = n * 2 - i * 2 := by rw [List.length_drop, hcs]
  by_cases hj : j < (n + 1) * 2
  · rw [if_pos hj, Array.getElem?_toList, putA_get _ _ _ _ (by rw [putA_size]; simp; omega), putA_get _ _ _ _ (by rw [hd]; omega), hd]
    have ht : (cs.take (i * 2)).length = i * 2 := by rw [List.length_take, hcs]; omega
    by_cases h1 : j < i * 2
    · rw [if_neg (by simp; omega), if_neg (by omega), hpre j h1, List.getElem?_append_left (by omega), List.getElem?_take, if_pos h1]
    · rw [List.getElem?_append_right (by omega), ht]
      by_cases h2 : j < i * 2 + 2
      · rw [if_pos (by simp; omega)]
        rcases (show j - i * 2 = 0 ∨ j - i * 2 = 1 by omega) with h3 | h3 <;> rw [h3] <;> rfl
      · rw [if_neg (by simp; omega), if_pos (by omega)]
        rw [show j - i * 2 = (j - (i * 2 + 2)) + 2 by omega]
        rfl
  · rw [if_neg hj, List.getElem?_eq_none]
    simp only [List.length_append, List.length_take, List.length_cons, hd, hcs]
    omega
theorem put_two' {cur : Array Value} {n i : Nat} {cs : List Value} {p q : Value} (hi : i ≤ n) (hcs : cs.length = n * 2) (hsz : (n + 1) * 2 ≤ cur.size) (hpre : ∀ j, j < i * 2 → cur[j]? = cs[j]?) :
    (putA (putA cur (i * 2) [p, q]) (i * 2 + 2) (cs.drop (i * 2))).toList.take ((n + 1) * 2) = cs.take (i * 2) ++ p :: q :: cs.drop (i * 2) := by
  rw [← put_two hi hcs hsz hpre]
  congr 2
  have hd : (cs.drop (i * 2)).length = n * 2 - i * 2 := by rw [List.length_drop, hcs]
  apply Array.ext_getElem?
  intro j
  rw [putA_get _ _ _ _ (by rw [putA_size, hd]; omega), putA_get _ _ _ _ (by simp; omega), putA_get _ _ _ _ (by rw [putA_size]; simp; omega), putA_get _ _ _ _ (by rw [hd]; omega)]
  by_cases h1 : i * 2 + 2 ≤ j ∧ j < i * 2 + 2 + (cs.drop (i * 2)).length
  · rw [if_pos h1, if_neg (by simp; omega), if_pos h1]
  · rw [if_neg h1]
    by_cases h2 : i * 2 ≤ j ∧ j < i * 2 + [p, q].length
    · rw [if_pos h2, if_pos h2]
    · rw [if_neg h2, if_neg h2, if_neg h1]

/-- The list with a pair put in at a place. -/
def insAt (xs : List Int) (i : Nat) (x y : Int) : List Int := xs.take (i * 2) ++ x :: y :: xs.drop (i * 2)
theorem insAt_map (xs : List Int) (i : Nat) (x y : Int) : (xs.map (Value.int .i64)).take (i * 2) ++ .int .i64 x :: .int .i64 y :: (xs.map (Value.int .i64)).drop (i * 2) = (insAt xs i x y).map (Value.int .i64) := by
  unfold insAt
  simp
theorem isSome_of {w : World} {g j : Nat} {cur : Array Value} {e : TypeId} (h : w.heap[g]? = some (.cells cur e (0, 0))) (hj : j < cur.size) : (w.cell? ⟨g, j, none⟩).isSome = true := by
  rw [cell_of_row w g j cur e (0, 0) h, Array.getElem?_eq_getElem hj]; rfl
theorem size_pair : (Try.prog.info? 69).map (·.size) = some 2 := by kernel_rfl





end Go.Proofs.Ytgcpakhagbbiiaa

/-! slices.Insert of one integer into a list without room. -/
namespace Go.Proofs.Ytgcpakhagbbiiaa
open Go.RowKit

theorem put_one {cur : Array Value} {n i : Nat} {cs : List Value} {p : Value} (hi : i ≤ n) (hcs : cs.length = n) (hsz : n + 1 ≤ cur.size) (hpre : ∀ j, j < i → cur[j]? = cs[j]?) :
    (putA (putA cur (i + 1) (cs.drop i)) i [p]).toList.take (n + 1) = cs.take i ++ p :: cs.drop i := by
  apply List.ext_getElem?
  intro j
  rw [List.getElem?_take]
  have hd : (cs.drop i).length = n - i := by rw [List.length_drop, hcs]
  by_cases hj : j < n + 1
  · rw [if_pos hj, Array.getElem?_toList, putA_get _ _ _ _ (by rw [putA_size]; simp; omega), putA_get _ _ _ _ (by rw [hd]; omega), hd]
    have ht : (cs.take i).length = i := by rw [List.length_take, hcs]; omega
    by_cases h1 : j < i
    · rw [if_neg (by simp; omega), if_neg (by omega), hpre j h1, List.getElem?_append_left (by omega), List.getElem?_take, if_pos h1]
    · rw [List.getElem?_append_right (by omega), ht]
      by_cases h2 : j < i + 1
      · rw [if_pos (by simp; omega), show j - i = 0 by omega]; rfl
      · rw [if_neg (by simp; omega), if_pos (by omega)]
        rw [show j - i = (j - (i + 1)) + 1 by omega]
        rfl
  · rw [if_neg hj, List.getElem?_eq_none]
    simp only [List.length_append, List.length_take, List.length_cons, hd, hcs]
    omega
theorem put_one' {cur : Array Value} {n i : Nat} {cs : List Value} {p : Value} (hi : i ≤ n) (hcs : cs.length = n) (hsz : n + 1 ≤ cur.size) (hpre : ∀ j, j < i → cur[j]? = cs[j]?) :
    (putA (putA cur i [p]) (i + 1) (cs.drop i)).toList.take (n + 1) = cs.take i ++ p :: cs.drop i := by
  rw [← put_one hi hcs hsz hpre]
  congr 2
  have hd : (cs.drop i).length = n - i := by rw [List.length_drop, hcs]
  apply Array.ext_getElem?
  intro j
  rw [putA_get _ _ _ _ (by rw [putA_size, hd]; omega), putA_get _ _ _ _ (by simp; omega), putA_get _ _ _ _ (by rw [putA_size]; simp; omega), putA_get _ _ _ _ (by rw [hd]; omega)]
  by_cases h1 : i + 1 ≤ j ∧ j < i + 1 + (cs.drop i).length
  · rw [if_pos h1, if_neg (by simp; omega), if_pos h1]
  · rw [if_neg h1]
    by_cases h2 : i ≤ j ∧ j < i + [p].length
    · rw [if_pos h2, if_pos h2]
    · rw [if_neg h2, if_neg h2, if_neg h1]
def insA1 (xs : List Int) (i : Nat) (x : Int) : List Int := xs.take i ++ x :: xs.drop i
theorem insA1_map (xs : List Int) (i : Nat) (x : Int) : (xs.map (Value.int .i64)).take i ++ .int .i64 x :: (xs.map (Value.int .i64)).drop i = (insA1 xs i x).map (Value.int .i64) := by
  unfold insA1
  simp
theorem size_i64A : (Try.prog.info? 2).map (·.size) = some 1 := by kernel_rfl

set_option maxRecDepth 100000 in
set_option maxHeartbeats 4000000 in
/-- There is no room: a new row. -/
theorem ins_growI (base g n i vb : Nat) (xs : List Int) (x : Int) (w : World) (hown : w.ownsRow base 2 1 (.slice (some ⟨g, 0, none⟩) n n) n (xs.map (Value.int .i64))) (hbase : base ≤ w.heap.size) (hn : n ≤ 1048575) (hi : i < n)
    (hv : w.heap[vb]? = some (.cells #[.int .i64 x] 2 (0, 0))) :
    Calls Try.prog 90 #[.slice (some ⟨g, 0, none⟩) n n, .int .i64 i, .slice (some ⟨vb, 0, none⟩) 1 1] w fun e w' => ∃ v', e = .returned v' ∧ w'.ownsRow base 2 1 v' (n + 1) ((insA1 xs i x).map (Value.int .i64)) ∧ Below base w w' := by
  obtain ⟨cs, hcs⟩ : ∃ cs, cs = xs.map (Value.int .i64) := ⟨_, rfl⟩
  rw [← insA1_map, ← hcs]
  rw [← hcs] at hown
  have h1 : ∀ v ∈ cs, v.oneCell' = true := fun v hv => by
    rw [hcs] at hv
    obtain ⟨z, _, rfl⟩ := List.mem_map.1 hv
    rfl
  clear hcs
  have hcl : cs.length = n := by have := hown.1; omega
  have hdl : (cs.drop (i)).length = n - i := by rw [List.length_drop, hcl]
  have hcell : ∀ j, j < n → w.cell? ⟨g, j, none⟩ = cs[j]? := fun j hj => hown.cellAt j (by omega)
  have hgw : g < w.heap.size := (hown.lt g rfl).2
  have hvw := lt_of_get hv
  obtain ⟨i0, hi0, hz0, hzs, hzb⟩ := info_parts info_i64
  obtain ⟨G, hG⟩ : ∃ G, G = grownCap w (n + 1) n 2 := ⟨_, rfl⟩
  have hGn : n + 1 ≤ G := by rw [hG]; exact grownCap_ge w _ _ _
  have hG63 : G ≤ maxLen := by rw [hG]; exact grownCap_le_maxLen w (n + 1) n 2 (by unfold maxLen; omega)
  have hik : i + (n + 1 - i) = n + 1 := by omega
  have hold : (Builtin.firstCells i0.size i (.slice (some ⟨g, 0, none⟩) i n)).run Try.prog w.drew = .ok (cs.take (i)).toArray w.drew := by
    rw [hzs]
    exact run_firstCells_some w.drew 1 i ⟨g, 0, none⟩ i n (cs.take (i)) (by rw [List.length_take]; omega) (fun j v hj => by
      rw [Addr.add_lit, Nat.zero_add]
      rw [List.getElem?_take] at hj
      split at hj
      · exact (hcell j (by omega)).trans hj
      · cases hj)
  have hrz := Lib.run_append_grow_zeros (P := Try.prog) w 22 3 22 2 i0 _ .i64 .i64 Try.underlying22 Try.underlying3 hi0 hz0 (some ⟨g, 0, none⟩) i n (cs.take (i)) hold (n + 1 - i) (by omega) (by omega) (by omega) (by omega) (by rw [hzb]; omega) (by rw [hzb, hik]; exact growslice_fits (by omega) (by omega))
  rw [hik, ← hG] at hrz
  obtain ⟨ROW, hROW⟩ : ∃ ROW : Array Value, ROW = (cs.take (i)).toArray ++ Builtin.zeroCells (Value.int .i64 0).cells (n + 1 - i) ++ Builtin.zeroCells (Value.int .i64 0).cells (G - (n + 1)) := ⟨_, rfl⟩
  rw [← hROW] at hrz
  have hRz : ROW.size = G := by
    rw [hROW]
    simp [Builtin.zeroCells, Value.cells, hcl]
    omega
  have hpre : ∀ j, j < i → ROW[j]? = cs[j]? := fun j hj => by
    have ht : (cs.take (i)).length = i := by rw [List.length_take, hcl]; omega
    rw [hROW, Array.getElem?_append_left (by simp; omega), Array.getElem?_append_left (by simp; omega)]
    simp only [List.getElem?_toArray]
    rw [List.getElem?_take, if_pos hj]
  clear hROW
  obtain ⟨W1, hW1⟩ : ∃ W1, W1 = w.drew.alloc (.cells ROW 2) := ⟨_, rfl⟩
  rw [← hW1] at hrz
  have hgg1 : W1.heap[w.heap.size]? = some (.cells ROW 2 (0, 0)) := by rw [hW1]; exact heap_alloc_new w.drew _
  have hgr1 : w.grownBy W1 none := by
    have := World.grownBy_alloc w.drew (.cells ROW 2) none
    rw [← hW1] at this
    exact ⟨this.os, this.tape, this.output, this.size, this.block⟩
  have hz1 : W1.heap.size = w.heap.size + 1 := by rw [hW1]; simp
  have hv1 : W1.heap[vb]? = some (.cells #[.int .i64 x] 2 (0, 0)) := (hgr1.block vb hvw (fun e => by cases e)).trans hv
  have hcp1 : ∀ (W : World), (∀ x, W.cell? x = W1.cell? x) → (∀ x, W.frozen? x = W1.frozen? x) → ∀ ty dc sc, (Builtin.copy_ #[22, 22] ty #[.slice (some ⟨w.heap.size, i, none⟩) (n + 1 - i) dc, .slice (some ⟨vb, 0, none⟩) 1 sc]).run Try.prog W = .ok (goInt (1 : Nat)) (W.setCells w.heap.size (i) [.int .i64 x]) := fun W hWc hWf ty dc sc => by
    have hm : Nat.min 1 (n + 1 - i) = 1 := by show min _ _ = _; omega
    have q0 := (box_cell hv1).1
    have h := run_copy_cells (P := Try.prog) W 22 22 ty 2 w.heap.size (i) (n + 1 - i) dc ⟨vb, 0, none⟩ 1 sc [.int .i64 x] Try.underlying22 size_i64A (by rw [hm]; rfl)
      (fun j v hj => by
        rw [Addr.add_lit, hWc, Nat.zero_add]
        rcases j with _ | j
        · rw [q0]; exact hj
        · cases hj)
      (fun j hj => by rw [hWc]; exact isSome_of hgg1 (by simp at hj; omega)) (fun j hj => by rw [hWf]; exact frozen_of_row W1 w.heap.size _ _ _ hgg1) (by simp [Value.oneCell'])
    exact h
  obtain ⟨W2, hW2⟩ : ∃ W2, W2 = W1.setCells w.heap.size (i) [.int .i64 x] := ⟨_, rfl⟩
  have hgg2 : W2.heap[w.heap.size]? = some (.cells (putA ROW (i) [.int .i64 x]) 2 (0, 0)) := by rw [hW2]; exact setCells_heap _ _ W1 ROW hgg1
  have hgr2 : W1.grownBy W2 (some w.heap.size) := by rw [hW2]; exact setCells_grown _ _ _
  have hcell2 : ∀ j, j < n → W2.cell? ⟨g, j, none⟩ = cs[j]? := fun j hj => (World.cell?_of_block (a := ⟨g, j, none⟩) ((hgr2.block g (by omega) (fun e => by injection e; omega)).trans (hgr1.block g hgw (fun e => by cases e)))).trans (hcell j hj)
  have hcp2 : ∀ (W : World), (∀ x, W.cell? x = W2.cell? x) → (∀ x, W.frozen? x = W2.frozen? x) → ∀ ty dc sc, (Builtin.copy_ #[22, 22] ty #[.slice (some ⟨w.heap.size, (i + 1), none⟩) (n - i) dc, .slice (some ⟨g, i, none⟩) (n - i) sc]).run Try.prog W = .ok (goInt (n - i : Nat)) (W.setCells w.heap.size ((i + 1)) (cs.drop (i))) := fun W hWc hWf ty dc sc => by
    have hm : Nat.min (n - i) (n - i) = n - i := by show min _ _ = _; omega
    have h := run_copy_cells (P := Try.prog) W 22 22 ty 2 w.heap.size ((i + 1)) (n - i) dc ⟨g, i, none⟩ (n - i) sc (cs.drop (i)) Try.underlying22 size_i64A (by rw [hm, hdl])
      (fun j v hj => by
        rw [Addr.add_lit, hWc]
        rw [List.getElem?_drop] at hj
        exact (hcell2 (i + j) (by have := (List.getElem?_eq_some_iff.1 hj).1; omega)).trans hj)
      (fun j hj => by rw [hWc]; exact isSome_of hgg2 (by rw [putA_size]; omega)) (fun j hj => by rw [hWf]; exact frozen_of_row W2 w.heap.size _ _ _ hgg2) (fun v hv => h1 v (List.mem_of_mem_drop hv))
    rw [hdl] at h
    exact h
  have HF : Hid (∀ W : World, (∀ k, W.heap[k]? = (W2.setCells w.heap.size ((i + 1)) (cs.drop (i))).heap[k]?) → W.heap.size = (W2.setCells w.heap.size ((i + 1)) (cs.drop (i))).heap.size → W.os = (W2.setCells w.heap.size ((i + 1)) (cs.drop (i))).os → W.tape = (W2.setCells w.heap.size ((i + 1)) (cs.drop (i))).tape → W.output = (W2.setCells w.heap.size ((i + 1)) (cs.drop (i))).output →
      W.ownsRow base 2 1 (.slice (some ⟨w.heap.size, 0, none⟩) (n + 1) G) (n + 1) (cs.take (i) ++ .int .i64 x :: cs.drop (i)) ∧ Below base w W) := hid (fun W h1 h2 h3 h4 h5 => by
    have hf := setCells_heap (g := w.heap.size) (cs.drop (i)) ((i + 1)) W2 _ hgg2
    have hgr := setCells_grown (g := w.heap.size) (cs.drop (i)) ((i + 1)) W2
    refine ⟨⟨by simp only [List.length_append, List.length_take, List.length_cons, hdl, hcl]; omega, .inr ⟨w.heap.size, G, _, rfl, hbase, (h1 _).trans hf, hGn, hG63, by rw [putA_size, putA_size]; omega, ?_⟩⟩, ?_⟩
    · rw [show i + 1 = i + 1 by omega]
      rw [Nat.mul_one]; exact put_one' (by omega) hcl (by omega) hpre
    · refine ⟨((h3.trans hgr.os).trans hgr2.os).trans hgr1.os, ((h4.trans hgr.tape).trans hgr2.tape).trans hgr1.tape, ((h5.trans hgr.output).trans hgr2.output).trans hgr1.output, by rw [h2]; exact Nat.le_trans hgr1.size (Nat.le_trans hgr2.size hgr.size), fun k hk => ?_⟩
      rw [h1]
      exact ((hgr.block k (by have := hgr1.size; have := hgr2.size; omega) (fun e => by injection e; omega)).trans (hgr2.block k (by have := hgr1.size; omega) (fun e => by injection e; omega))).trans (hgr1.block k (by omega) (fun e => by cases e)))
  have hkk : (n : Int) + 1 - (i : Int) = ((n + 1 - i : Nat) : Int) := by omega
  rw [← hkk] at hrz
  have hi0' : (0 : Int) ≤ (i : Int) := by omega
  have hi1 : (i : Int) ≤ (n : Int) := by omega
  have hi2 : ¬ ((i : Int) = (n : Int)) := by omega
  have hi3 : (i : Int) ≤ (n : Int) + 1 := by omega
  have hi6 : (n : Int) + 1 > (n : Int) := by omega
  have hw1 : IntKind.i64.wrap ((i : Int) + 1) = (i : Int) + 1 := by rw [IntKind.wrap_i64]; omega
  have hb1 : (0 : Int) ≤ (i : Int) + 1 := by omega
  have htn : ((i : Int) + 1).toNat = i + 1 := by omega
  have hb2 : ¬ (G = i + 1) := by omega
  have hb4 : ¬ (G = i) := by omega
  have hb6 : ¬ (n = i) := by omega
  have hb5 : (i : Int) + 1 ≤ (n : Int) + 1 := by omega
  have hin : i ≤ n := by omega
  have hg64 : G ≤ 9223372036854775807 := by have := hG63; unfold maxLen at this; omega
  subst hW2
  subst hW1
  have hE1 : ∀ x, ((w.alloc (.cells ROW 2)).drew).cell? x = (w.drew.alloc (.cells ROW 2)).cell? x := fun x => rfl
  have hE2 : ∀ x, ((w.alloc (.cells ROW 2)).drew).frozen? x = (w.drew.alloc (.cells ROW 2)).frozen? x := fun x => rfl
  have hF1 : ∀ z, (((w.alloc (.cells ROW 2)).drew.setCells w.heap.size (i) [.int .i64 x]).drew).cell? z = ((w.drew.alloc (.cells ROW 2)).setCells w.heap.size (i) [.int .i64 x]).cell? z := fun z => rfl
  have hF2 : ∀ z, (((w.alloc (.cells ROW 2)).drew.setCells w.heap.size (i) [.int .i64 x]).drew).frozen? z = ((w.drew.alloc (.cells ROW 2)).setCells w.heap.size (i) [.int .i64 x]).frozen? z := fun z => rfl
  clear hkk hgg1 hgr1 hz1 hv1 hgg2 hgr2 hcell2 hown hcell hold hpre h1 hcl hdl hv hG hRz hG63 hi0 hz0 hzs hzb
  go_enter Try.func90, Try.ntmps90
  go_wp2_with (first
    | (at_builtin; refine Lib.wpList_append_run _ rfl _ _ _ _ rfl _ _ rfl rfl _ _ hrz ?_)
    | (at_builtin; refine wpList_copy_run _ rfl _ _ 22 22 rfl _ _ rfl rfl (hcp1 _ hE1 hE2 _ _ _) ?_))
  go_region_law (refine step_copy_run rfl _ _ 22 22 rfl (.slice (some ⟨w.heap.size, (i + 1), none⟩) (n - i) (G - (i + 1))) (.slice (some ⟨g, i, none⟩) (n - i) (n - i)) (by simp [Act.eval, Act.put]) (by simp [Act.eval, Act.put]) (hcp2 _ hF1 hF2 3 (G - (i + 1)) (n - i)) ?_)
  go_wp2_with fail
  go_ret
  have hW : ((w.alloc (.cells ROW 2)).drew.setCells w.heap.size (i) [.int .i64 x]).drew.heap = ((w.drew.alloc (.cells ROW 2)).setCells w.heap.size (i) [.int .i64 x]).heap := rfl
  exact ⟨_, rfl, HF.out _ (fun k => by rw [setCells_same _ _ hW]) (by rw [setCells_same _ _ hW]) (by rw [setCells_os, setCells_os]; rfl) (by rw [setCells_tape, setCells_tape]; rfl) (by rw [setCells_output, setCells_output]; rfl)⟩



end Go.Proofs.Ytgcpakhagbbiiaa

/-! Joins: copies of lists. -/
namespace Go.Proofs.Ytgcpakhagbbiiaa
open Go.RowKit

/-- 'append([]int64{}, list...)' of a list that lies in memory. -/
theorem append_all {w : World} {ops : Array Oper} {rest : List Oper} {o : Oper} {a : Act} {Q : Exit → Act → World → Prop} (hgd : o.guard = none) {s y : Operand}
    (ho : o.op = .call { callee := .builtin .append, args := #[s, y], argTypes := #[22, 22] })
    {b off cap : Nat} {xs : List Int} (hl : xs.length ≤ 1048576) (hc : ∀ i, i < xs.length → w.cell? ⟨b, off + i, none⟩ = some (.int .i64 (xs[i]?.getD 0)))
    (hs : a.eval s = .slice (some ⟨w.heap.size, 0, none⟩) 0 0) (hy : a.eval y = .slice (some ⟨b, off, none⟩) xs.length cap)
    (hK : ∀ v' w', w'.ownsRow w.heap.size 2 1 v' xs.length (xs.map (Value.int .i64)) → Below w.heap.size w w' → (v' = .slice none 0 0 → False) → wpList Try.prog ops Q rest (a.put o.dst v') w') :
    wpList Try.prog ops Q (o :: rest) a (w.alloc (.cells #[] 2)) := by
  obtain ⟨i0, hi, hz0, hz1, hz2⟩ := info_parts info_i64
  refine wpList_append_own _ hgd s y 22 ho w.heap.size 2 i0 (.int .i64 0) 1 8 Try.underlying22 hi hz0 hz1 hz2 rfl (by decide) (.slice (some ⟨w.heap.size, 0, none⟩) 0 0) 0 [] hs (World.ownsRow_made w #[] 0 (Nat.le_refl _) (Nat.zero_le _) rfl) ⟨b, off, none⟩ xs.length cap (xs.map (Value.int .i64)) hy (by simp) ?_ (fun u hu => by obtain ⟨x, _, rfl⟩ := List.mem_map.1 hu; rfl) (by unfold maxLen; omega) (by omega) (by simp) ?_
  · intro j u hj
    have hjn : j < xs.length := by
      have := (List.getElem?_eq_some_iff.1 hj).1
      simpa using this
    rw [Addr.add_lit]
    refine (World.cell?_alloc_some w _ _ (show (w.cell? _).isSome = true by rw [hc j hjn]; rfl)).trans ?_
    rw [hc j hjn, ← hj]
    simp [List.getElem?_eq_getElem hjn]
  · intro v' w1 hown hgrow hnil
    refine hK v' w1 (by simpa using hown) (((Below.refl _ w).alloc (Nat.le_refl _) _).grown hgrow (by simp) (by intro k hk; simp [Value.ownBlock] at hk; omega)) (fun e => ?_)
    have := (hnil.1 e).1
    simp at this

theorem own_any (a0 : Option Addr) (cap : Nat) (xs : List Int) (w : World) (hx : SlI w w.heap.size a0 xs) (hl : xs.length ≤ 1048576) :
    Calls Try.prog 140 #[.slice a0 xs.length cap] w fun e w' => ∃ v, e = .returned v ∧ Res w w' v xs := by
  rcases hx with rfl | ⟨b, off, hb, rfl, hc⟩
  · have hr : Res w (w.alloc (.cells #[] 2)) (.slice (some ⟨w.heap.size, 0, none⟩) 0 0) [] := ⟨World.ownsRow_made w #[] 0 (Nat.le_refl _) (Nat.zero_le _) rfl, (Below.refl _ w).alloc (Nat.le_refl _) _⟩
    have Hr := hid hr
    clear hr
    cases a0 with
    | none =>
      go_enter Try.func140, Try.ntmps140
      go_wp2_with fail
      go_ret
      exact ⟨_, rfl, Hr.out⟩
    | some ad =>
      go_enter Try.func140, Try.ntmps140
      go_wp2_with fail
      go_ret
      exact ⟨_, rfl, Hr.out⟩
  · have Hc := hid hc
    clear hc
    go_enter Try.func140, Try.ntmps140
    go_wp2_with (at_builtin; refine append_all rfl rfl hl Hc.out rfl rfl ?_; intro v' w1 hown hB _)
    go_ret
    exact ⟨v', rfl, hown, hB⟩

/-- slices.Clone: nil of nil; else a copy. -/
theorem clone_any (a0 : Option Addr) (cap : Nat) (xs : List Int) (w : World) (hx : SlI w w.heap.size a0 xs) (hl : xs.length ≤ 1048576) :
    Calls Try.prog 180 #[.slice a0 xs.length cap] w fun e w' => ∃ v, e = .returned v ∧ Res w w' v xs := by
  have q22 : ∀ (w : World) (a : Option Addr) (n c n' c' : Nat), (binOp .eql 22 (.slice a n c) (.slice none n' c')).run Try.prog w = .ok (.bool a.isNone) w := fun w a n c n' c' => Lib.run_eql_slice_nil w _ _ a n c n' c' Try.underlying22
  rcases hx with rfl | ⟨b, off, hb, rfl, hc⟩
  · have hr : Res w (w.alloc (.cells #[] 2)) (.slice (some ⟨w.heap.size, 0, none⟩) 0 0) [] := ⟨World.ownsRow_made w #[] 0 (Nat.le_refl _) (Nat.zero_le _) rfl, (Below.refl _ w).alloc (Nat.le_refl _) _⟩
    have hr0 : Res w w (.slice none 0 0) [] := res_nil _ _ (Below.refl _ _)
    have Hr := hid hr
    have Hr0 := hid hr0
    clear hr hr0
    cases a0 with
    | none =>
      go_enter Try.func180, Try.ntmps180
      go_wp2_with fail
      go_ret
      exact ⟨_, rfl, Hr0.out⟩
    | some ad =>
      go_enter Try.func180, Try.ntmps180
      go_wp2_with fail
      go_ret
      exact ⟨_, rfl, Hr.out⟩
  · have Hc := hid hc
    clear hc
    go_enter Try.func180, Try.ntmps180
    go_wp2_with (at_builtin; refine append_all rfl rfl hl Hc.out rfl rfl ?_; intro v' w1 hown hB _)
    go_ret
    exact ⟨v', rfl, hown, hB⟩

/-- step_append_new in a plain region. -/
theorem plain_append_new {W : World} {H : Nat} {ops : Array Oper} {rest : List Oper} {o : Oper} {a : Act} {Q : Exit → Act → World → Prop} (hgd : o.guard = none) {s y : Operand}
    (ho : o.op = .call { callee := .builtin .append, args := #[s, y], argTypes := #[22, 22] })
    {base : Nat} {v : Value} {xs : List Int} {x : Int} (hown : W.ownsRow base 2 1 v xs.length (xs.map (Value.int .i64))) (hH : W.heap.size = H) (hbase : base ≤ H) (hl : xs.length ≤ 1099511627776)
    (hs : a.eval s = v) (hy : a.eval y = .slice (some ⟨H, 0, none⟩) 1 1)
    (hK : ∀ g cap w', w'.ownsRow base 2 1 (.slice (some ⟨g, 0, none⟩) (xs ++ [x]).length cap) (xs ++ [x]).length ((xs ++ [x]).map (Value.int .i64)) → (W.alloc (.cells #[.int .i64 x] 2)).grownBy w' v.ownBlock →
      wpList Try.prog ops Q rest (a.put o.dst (.slice (some ⟨g, 0, none⟩) (xs ++ [x]).length cap)) w') :
    wpList Try.prog ops Q (o :: rest) a (W.alloc (.cells #[.int .i64 x] 2)) := by
  subst hH
  obtain ⟨i0, hi, hz0, hz1, hz2⟩ := info_parts info_i64
  refine wpList_append_lies (W.alloc (.cells #[.int .i64 x] 2)) hgd s y 22 ho base 2 i0 (.int .i64 0) 1 8 Try.underlying22 hi hz0 hz1 hz2 rfl (by decide) v _ _ hs (hown.alloc _) ⟨W.heap.size, 0, none⟩ 1 1 [.int .i64 x] hy rfl (cell_one_new _ _ _) (by simp [Value.oneCell']) (by decide) (by unfold maxLen; omega) (by omega) (by simp; omega) _ rfl ?_
  intro g cap w1 hown1 hg _ _
  have e : (xs ++ [x]).length = xs.length + 1 := by simp
  have h := hK g cap w1 (by rw [e]; simpa using hown1) hg
  rw [e] at h
  exact h

end Go.Proofs.Ytgcpakhagbbiiaa

/-! 'out.Faces = append(out.Faces, x)' in the model's loops, where the complex that is built has a number of vertices of its own (OutW, with that number). -/
namespace Go.Proofs.Ytgcpakhagbbiiaa
open Go.RowKit

/-- The same, where what is built has another number of vertices: B is the heap's size when the call began. -/
structure OutU (w W : World) (V U : Int) (sl : Value) (Bo : Nat) (xs : List Int) (a : Option Addr) (c : Nat) : Prop where
  below : Below w.heap.size w W
  kbox : W.heap[w.heap.size]? = some (.cells #[.int .i64 V, sl] 30 (0, 0))
  res : W.heap[w.heap.size + 1]? = some (.cells #[.int .i64 0, .slice none 0 0] 30 (0, 0))
  out : W.heap[Bo]? = some (.cells #[.int .i64 U, .slice a xs.length c] 30 (0, 0))
  own : W.ownsRow w.heap.size 2 1 (.slice a xs.length c) xs.length (xs.map (Value.int .i64))
  bo : w.heap.size + 1 < Bo

/-- Draws alone. -/
theorem OutU.drew {w W : World} {V U : Int} {sl : Value} {Bo : Nat} {xs : List Int} {a : Option Addr} {c : Nat} (h : OutU w W V U sl Bo xs a c) : OutU w W.drew V U sl Bo xs a c :=
  ⟨⟨h.below.os, h.below.tape, h.below.output, h.below.size, h.below.block⟩, h.kbox, h.res, h.out, h.own, h.bo⟩

theorem OutU.drewN {w W : World} {V U : Int} {sl : Value} {Bo : Nat} {xs : List Int} {a : Option Addr} {c : Nat} (h : OutU w W V U sl Bo xs a c) (n : Nat) : OutU w (W.drewN n) V U sl Bo xs a c :=
  ⟨⟨h.below.os, h.below.tape, h.below.output, h.below.size, h.below.block⟩, h.kbox, h.res, h.out, h.own, h.bo⟩

/-- Whatever keeps all that lay. -/
theorem OutU.later {w W W' : World} {V U : Int} {sl : Value} {Bo : Nat} {xs : List Int} {a : Option Addr} {c : Nat} (h : OutU w W V U sl Bo xs a c) (hb : Below W.heap.size W W') : OutU w W' V U sl Bo xs a c where
  below := h.below.trans (hb.mono h.below.size)
  kbox := (hb.block _ (lt_get h.kbox)).trans h.kbox
  res := (hb.block _ (lt_get h.res)).trans h.res
  out := (hb.block _ (lt_get h.out)).trans h.out
  own := ownsRow_below h.own hb (fun g hg => (h.own.lt g hg).2)
  bo := h.bo

/-- A face more. -/
theorem OutU.step {w W w2 : World} {V U : Int} {sl : Value} {Bo : Nat} {xs : List Int} {a : Option Addr} {c : Nat} (h : OutU w W V U sl Bo xs a c) {x : Int} {g cap : Nat} {o : Obj}
    (hown : w2.ownsRow w.heap.size 2 1 (.slice (some ⟨g, 0, none⟩) (xs ++ [x]).length cap) (xs ++ [x]).length ((xs ++ [x]).map (Value.int .i64))) (hg : (W.alloc o).grownBy w2 (Value.ownBlock (.slice a xs.length c))) :
    OutU w (w2.setCell ⟨Bo, 1, none⟩ (.slice (some ⟨g, 0, none⟩) (xs ++ [x]).length cap)) V U sl Bo (xs ++ [x]) (some ⟨g, 0, none⟩) cap := by
  have hgr : W.grownBy w2 (Value.ownBlock (.slice a xs.length c)) := (World.grownBy_alloc W o _).trans hg
  have hbo := h.bo
  have k2 := (hgr.block _ (lt_get h.kbox) (row_ne h.own h.kbox (by decide))).trans h.kbox
  have r2 := (hgr.block _ (lt_get h.res) (row_ne h.own h.res (by decide))).trans h.res
  have o2 := (hgr.block _ (lt_get h.out) (row_ne h.own h.out (by decide))).trans h.out
  refine ⟨?_, ?_, ?_, ?_, ?_, h.bo⟩
  · exact (h.below.grown hgr h.below.size (fun k hk => (h.own.lt k hk).1)).setCell (p := ⟨Bo, 1, none⟩) (by simp only; omega) _
  · exact (Below.heap_setCell _ _ _ _ (by simp only; omega)).trans k2
  · exact (Below.heap_setCell _ _ _ _ (by simp only; omega)).trans r2
  · simp only [World.setCell, Array.getElem?_modify, o2]
    simp
  · exact ownsRow_set hown (by
      have := row_ne hown o2 (by decide)
      exact fun e => this e.symm) _

/-- The model's loops hand back what they have built. -/
theorem OutU.done {w W : World} {V U : Int} {sl : Value} {Bo : Nat} {xs : List Int} {a : Option Addr} {c : Nat} (h : OutU w W V U sl Bo xs a c) (u v : Value) :
    Res w ((W.setCell ⟨w.heap.size + 1, 0, none⟩ u).setCell ⟨w.heap.size + 1, 1, none⟩ v) (.slice a xs.length c) xs := by
  have hn := row_ne h.own h.res (by decide)
  exact ⟨ownsRow_set (ownsRow_set h.own (fun e => hn e.symm) _) (fun e => hn e.symm) _, (h.below.setCell (p := ⟨w.heap.size + 1, 0, none⟩) (by simp) _).setCell (p := ⟨w.heap.size + 1, 1, none⟩) (by simp) _⟩

theorem OutU.stepN {w W w2 : World} {V U : Int} {sl : Value} {Bo : Nat} {xs : List Int} {a : Option Addr} {c : Nat} (h : OutU w W V U sl Bo xs a c) {x : Int} {g cap : Nat} {o : Obj} {n : Nat}
    (hown : w2.ownsRow w.heap.size 2 1 (.slice (some ⟨g, 0, none⟩) (xs ++ [x]).length cap) (xs ++ [x]).length ((xs ++ [x]).map (Value.int .i64))) (hg : ((W.drewN n).alloc o).grownBy w2 (Value.ownBlock (.slice a xs.length c))) :
    OutU w (w2.setCell ⟨Bo, 1, none⟩ (.slice (some ⟨g, 0, none⟩) (xs ++ [x]).length cap)) V U sl Bo (xs ++ [x]) (some ⟨g, 0, none⟩) cap := (h.drewN n).step hown hg

/-- The out block behind an append. -/
theorem OutU.mid {w W w2 : World} {V U : Int} {sl : Value} {Bo : Nat} {xs : List Int} {a : Option Addr} {c : Nat} (h : OutU w W V U sl Bo xs a c) {n : Nat} {o : Obj} (hg : ((W.drewN n).alloc o).grownBy w2 (Value.ownBlock (.slice a xs.length c))) :
    w2.cell? ⟨Bo, 1, none⟩ = some (.slice a xs.length c) ∧ w2.frozen? ⟨Bo, 1, none⟩ = false := by
  have hgr : (W.drewN n).grownBy w2 (Value.ownBlock (.slice a xs.length c)) := (World.grownBy_alloc _ o _).trans hg
  have o2 := (hgr.block _ (lt_get (h.drewN n).out) (row_ne (h.drewN n).own (h.drewN n).out (by decide))).trans (h.drewN n).out
  constructor <;> simp [World.cell?, World.frozen?, o2]

/-- The given complex's box behind an append. -/
theorem OutU.midK {w W w2 : World} {V U : Int} {sl : Value} {Bo : Nat} {xs : List Int} {a : Option Addr} {c : Nat} (h : OutU w W V U sl Bo xs a c) {n : Nat} {o : Obj} (hg : ((W.drewN n).alloc o).grownBy w2 (Value.ownBlock (.slice a xs.length c))) :
    w2.cell? ⟨w.heap.size, 1, none⟩ = some sl := by
  have hgr : (W.drewN n).grownBy w2 (Value.ownBlock (.slice a xs.length c)) := (World.grownBy_alloc _ o _).trans hg
  have o2 := (hgr.block _ (lt_get (h.drewN n).kbox) (row_ne (h.drewN n).own (h.drewN n).kbox (by decide))).trans (h.drewN n).kbox
  simp [World.cell?, o2]

/-- What lay before the call, behind an append. -/
theorem OutU.midX {w W w2 : World} {V U : Int} {sl : Value} {Bo : Nat} {xs : List Int} {a : Option Addr} {c : Nat} (h : OutU w W V U sl Bo xs a c) {n : Nat} {o : Obj} (hg : ((W.drewN n).alloc o).grownBy w2 (Value.ownBlock (.slice a xs.length c))) {p : Addr} (hp : p.block < w.heap.size) :
    w2.cell? p = W.cell? p := by
  have hgr : (W.drewN n).grownBy w2 (Value.ownBlock (.slice a xs.length c)) := (World.grownBy_alloc _ o _).trans hg
  have hlt : p.block < (W.drewN n).heap.size := Nat.lt_of_lt_of_le hp h.below.size
  have h2 : w2.heap[p.block]? = W.heap[p.block]? := hgr.block _ hlt (by
    intro he
    have := (h.own.lt _ he.symm).1
    omega)
  simp only [World.cell?, h2]

end Go.Proofs.Ytgcpakhagbbiiaa

/-! Finite facts on bits, decided. -/
namespace Go.Proofs.Ytgcpakhagbbiiaa
open Go.RowKit

theorem andNot_fin : ∀ x : Nat, x < 64 → ∀ s : Nat, s < 64 → (bits BinOp.andNot IntKind.i64 (x : Int) (s : Int) == 0) = decide (x &&& s = x) := by
  decide +kernel

end Go.Proofs.Ytgcpakhagbbiiaa

/-! The numbers from 1 to n that are wanted, ascending. -/
namespace Go.Proofs.Ytgcpakhagbbiiaa
open Go.RowKit

/-- The numbers from 1 to k of which p says yes. -/
def pickTo (p : Int → Bool) : Nat → List Int
  | 0 => []
  | k + 1 => pickTo p k ++ (if p ((k : Int) + 1) then [(k : Int) + 1] else [])

theorem pickTo_len (p : Int → Bool) : ∀ k, (pickTo p k).length ≤ k
  | 0 => by simp [pickTo]
  | k + 1 => by
    have := pickTo_len p k
    simp only [pickTo, List.length_append]
    split <;> simp <;> omega

theorem mem_pickTo {p : Int → Bool} {x : Int} : ∀ k : Nat, x ∈ pickTo p k ↔ 1 ≤ x ∧ x ≤ k ∧ p x = true
  | 0 => by simp [pickTo]; omega
  | k + 1 => by
    have ih := mem_pickTo (p := p) (x := x) k
    simp only [pickTo, List.mem_append, ih]
    constructor
    · rintro (⟨h1, h2, h3⟩ | h)
      · exact ⟨h1, by omega, h3⟩
      · split at h
        · rename_i hp
          simp at h
          subst h
          exact ⟨by omega, by omega, hp⟩
        · simp at h
    · rintro ⟨h1, h2, h3⟩
      by_cases he : x = (k : Int) + 1
      · subst he
        right
        rw [if_pos h3]; simp
      · exact .inl ⟨h1, by omega, h3⟩

theorem pickTo_asc (p : Int → Bool) : ∀ k : Nat, (pickTo p k).Pairwise (· < ·)
  | 0 => by simp [pickTo]
  | k + 1 => by
    simp only [pickTo]
    rw [List.pairwise_append]
    refine ⟨pickTo_asc p k, by split <;> simp, fun a ha b hb => ?_⟩
    have h1 := (mem_pickTo k).1 ha
    split at hb
    · simp at hb; omega
    · simp at hb

theorem pickTo_congr {p q : Int → Bool} : ∀ k : Nat, (∀ x : Int, 1 ≤ x → x ≤ k → p x = q x) → pickTo p k = pickTo q k
  | 0, _ => rfl
  | k + 1, h => by
    simp only [pickTo]
    rw [pickTo_congr k (fun x h1 h2 => h x h1 (by omega)), h ((k : Int) + 1) (by omega) (by omega)]

/-- Two ascending lists with the same members are one. -/
theorem asc_ext : ∀ {xs ys : List Int}, xs.Pairwise (· < ·) → ys.Pairwise (· < ·) → (∀ x, x ∈ xs ↔ x ∈ ys) → xs = ys
  | [], [], _, _, _ => rfl
  | [], y :: ys, _, _, h => absurd ((h y).2 (by simp)) (by simp)
  | x :: xs, [], _, _, h => absurd ((h x).1 (by simp)) (by simp)
  | x :: xs, y :: ys, hx, hy, h => by
    have hx' := List.pairwise_cons.1 hx
    have hy' := List.pairwise_cons.1 hy
    have hxy : x = y := by
      have h1 := (h x).1 (by simp)
      have h2 := (h y).2 (by simp)
      rcases List.mem_cons.1 h1 with h1 | h1
      · exact h1
      · rcases List.mem_cons.1 h2 with h2 | h2
        · exact h2.symm
        · have a := hy'.1 _ h1
          have b := hx'.1 _ h2
          omega
    subst hxy
    congr 1
    refine asc_ext hx'.2 hy'.2 fun z => ?_
    have hz := h z
    simp only [List.mem_cons] at hz
    constructor
    · intro hm
      rcases hz.1 (.inr hm) with rfl | h'
      · exact absurd (hx'.1 _ hm) (by omega)
      · exact h'
    · intro hm
      rcases hz.2 (.inr hm) with rfl | h'
      · exact absurd (hy'.1 _ hm) (by omega)
      · exact h'

end Go.Proofs.Ytgcpakhagbbiiaa

/-! l04Put: a number put into an ascending list. -/
namespace Go.Proofs.Ytgcpakhagbbiiaa
open Go.RowKit

def InsL (xs : List Int) (n : Int) (ys : List Int) : Prop := ys.Pairwise (· < ·) ∧ ∀ x, x ∈ ys ↔ x = n ∨ x ∈ xs
theorem asc_at {xs : List Int} (h : xs.Pairwise (· < ·)) {i j : Nat} (hij : i < j) (hj : j < xs.length) : xs[i]?.getD 0 < xs[j]?.getD 0 := by
  rw [List.getElem?_eq_getElem (by omega), List.getElem?_eq_getElem hj]
  exact List.pairwise_iff_getElem.1 h i j (by omega) hj hij
theorem ins_same {xs : List Int} (h : xs.Pairwise (· < ·)) {n : Int} {t : Nat} (ht : t < xs.length) (he : xs[t]?.getD 0 = n) : InsL xs n xs := by
  refine ⟨h, fun x => ⟨.inr, ?_⟩⟩
  rintro (rfl | hx)
  · rw [← he]; exact getD_mem ht
  · exact hx
theorem ins_new {xs : List Int} (h : xs.Pairwise (· < ·)) {n : Int} {t : Nat} (ht : t ≤ xs.length) (h1 : ∀ j, j < t → xs[j]?.getD 0 < n) (h2 : ∀ j, t ≤ j → j < xs.length → n < xs[j]?.getD 0) : InsL xs n (xs.take t ++ ([n] ++ xs.drop t)) := by
  have a1 : ∀ x ∈ xs.take t, x < n := by
    intro x hx
    obtain ⟨i, hi, rfl⟩ := List.getElem_of_mem hx
    have hi' : i < t := by simp at hi; omega
    have := h1 i hi'
    rw [List.getElem?_eq_getElem (by omega)] at this
    simpa using this
  have a2 : ∀ x ∈ xs.drop t, n < x := by
    intro x hx
    obtain ⟨i, hi, rfl⟩ := List.getElem_of_mem hx
    have hi' : t + i < xs.length := by simp at hi; omega
    have := h2 (t + i) (by omega) hi'
    rw [List.getElem?_eq_getElem hi'] at this
    simpa using this
  refine ⟨?_, fun x => ?_⟩
  · rw [List.pairwise_append]
    refine ⟨h.sublist (List.take_sublist _ _), ?_, ?_⟩
    · rw [List.singleton_append, List.pairwise_cons]
      exact ⟨a2, h.sublist (List.drop_sublist _ _)⟩
    · intro a ha b hb
      have := a1 a ha
      rcases List.mem_append.1 hb with hb | hb
      · simp at hb; omega
      · have := a2 b hb; omega
  · have e : x ∈ xs ↔ x ∈ xs.take t ∨ x ∈ xs.drop t := by rw [← List.mem_append, List.take_append_drop]
    simp only [List.mem_append, List.mem_singleton]
    rw [e]
    constructor
    · rintro (h | h | h)
      · exact .inr (.inl h)
      · exact .inl h
      · exact .inr (.inr h)
    · rintro (h | h | h)
      · exact .inr (.inl h)
      · exact .inl h
      · exact .inr (.inr h)

/-- 'append(row, list...)' of a list that begins anywhere. -/
theorem append_ints_ad {w : World} {ops : Array Oper} {rest : List Oper} {o : Oper} {a : Act} {Q : Exit → Act → World → Prop} (hgd : o.guard = none) {s y : Operand}
    (ho : o.op = .call { callee := .builtin .append, args := #[s, y], argTypes := #[22, 22] })
    {base : Nat} {v : Value} {xs ys : List Int} {ad : Addr} {m c : Nat} (hm : m = ys.length) (hown : w.ownsRow base 2 1 v xs.length (xs.map (Value.int .i64))) (hbase : base ≤ w.heap.size) (hl : xs.length ≤ 1048576) (hly : ys.length ≤ 1048576)
    (hs : a.eval s = v) (hy : a.eval y = .slice (some ad) m c) (hc : ∀ i, i < ys.length → w.cell? (ad.add i) = some (.int .i64 (ys[i]?.getD 0)))
    (hK : ∀ v' w', w'.ownsRow base 2 1 v' (xs ++ ys).length ((xs ++ ys).map (Value.int .i64)) → w.grownBy w' v.ownBlock → Below base w w' → wpList Try.prog ops Q rest (a.put o.dst v') w') :
    wpList Try.prog ops Q (o :: rest) a w := by
  subst hm
  obtain ⟨i0, hi, hz0, hz1, hz2⟩ := info_parts info_i64
  refine wpList_append_own_at w hgd s y 22 ho base 2 i0 (.int .i64 0) 1 8 Try.underlying22 hi hz0 hz1 hz2 rfl (by decide) v _ _ hs hown ad ys.length c (ys.map (Value.int .i64)) hy (by simp) (fun j u hj => ?_) (fun u hu => ?_) (by unfold maxLen; omega) (by omega) hbase ?_
  · have hjl : j < ys.length := by
      have := (List.getElem?_eq_some_iff.1 hj).1
      simpa using this
    have := hc j hjl
    rw [List.getElem?_map, List.getElem?_eq_getElem hjl] at hj
    rw [List.getElem?_eq_getElem hjl] at this
    simp at hj this
    rw [this, hj]
  · obtain ⟨x, _, rfl⟩ := List.mem_map.1 hu
    rfl
  · intro v' w1 hown1 hgrow1 _ _
    exact hK v' w1 (by simpa using hown1) hgrow1 ((Below.refl base w).grown hgrow1 hbase (fun k hk => (hown.lt k hk).1))

set_option maxRecDepth 100000 in
set_option maxHeartbeats 4000000 in
theorem putS_any (base g cap : Nat) (xs : List Int) (n : Int) (w : World) (hown : w.ownsRow base 2 1 (.slice (some ⟨g, 0, none⟩) xs.length cap) xs.length (xs.map (Value.int .i64))) (hasc : xs.Pairwise (· < ·)) (hl : xs.length ≤ 64) (hb : base ≤ w.heap.size) :
    Calls Try.prog 75 #[.slice (some ⟨g, 0, none⟩) xs.length cap, .int .i64 n] w fun e w' => ∃ (g' cap' : Nat) (ys : List Int), e = .returned (.slice (some ⟨g', 0, none⟩) ys.length cap') ∧ w'.ownsRow base 2 1 (.slice (some ⟨g', 0, none⟩) ys.length cap') ys.length (ys.map (Value.int .i64)) ∧ Below w.heap.size w w' ∧ InsL xs n ys := by
  have hcs : ∀ t, t < xs.length → w.cell? ⟨g, t, none⟩ = some (.int .i64 (xs[t]?.getD 0)) := by
    intro t ht
    rw [hown.cellAt t (by omega)]
    simp [ht]
  have hcap : xs.length ≤ cap := by
    rcases hown.2 with ⟨h1, _⟩ | ⟨_, _, _, h1, _, _, h2, _⟩
    · cases h1
    · injection h1 with _ _ h3; omega
  have hgl := (hown.lt g rfl).2
  have Hcs := hid hcs
  have Hown := hid hown
  have Hasc := hid hasc
  clear hcs hown hasc
  go_enter Try.func75, Try.ntmps75
  go_wp2_with fail
  go_loopw [5] (fun tv wx => ∃ t : Nat, t ≤ xs.length ∧ tv = .int .i64 t ∧ Hid (∀ j, t ≤ j → j < xs.length → n ≤ xs[j]?.getD 0) ∧ Hid (wx = w)) (fun tv _ => (intOf tv).toNat)
  case atStart => exact ⟨xs.length, Nat.le_refl _, rfl, hid (fun j h1 h2 => by omega), hid rfl⟩
  case round =>
    obtain ⟨t, ht, rfl, HH, HW⟩ := hrel
    have hww : wr = w := HW.out
    clear HW
    subst hww
    by_cases hc : 0 < t ∧ n ≤ xs[t - 1]?.getD 0
    · obtain ⟨hpos, hge⟩ := hc
      obtain ⟨x, hx⟩ : ∃ x, x = xs[t - 1]?.getD 0 := ⟨_, rfl⟩
      obtain ⟨q, rfl⟩ : ∃ q, t = q + 1 := ⟨t - 1, by omega⟩
      rw [Nat.add_sub_cancel] at hx hge
      have hcx := Hcs.out q (by omega)
      rw [← hx] at hcx hge
      have hi0 : (0 : Int) ≤ (q : Int) := by omega
      have hi1 : (q : Int) < (xs.length : Int) := by omega
      have hpz : (0 : Int) < ((q + 1 : Nat) : Int) := by omega
      have hsb : wrap64 (((q + 1 : Nat) : Int) - 1) = (q : Int) := by rw [show (((q + 1 : Nat) : Int) - 1) = (q : Int) by omega]; exact IntWalk.wrap64_in _ ⟨by omega, by omega⟩
      have HH' : Hid (∀ j, q ≤ j → j < xs.length → n ≤ xs[j]?.getD 0) := hid (fun j h1 h2 => by
        by_cases e : q = j
        · subst e; rw [← hx]; exact hge
        · exact HH.out j (by omega) h2)
      clear hx HH
      go_wp2_with fail
      go_roundw
      case rel => exact ⟨q, by omega, rfl, HH', trivial⟩
      case measure => simp [intOf]
    · -- the place is found
      have Hlow : Hid (∀ j, j < t → xs[j]?.getD 0 < n) := hid (fun j hj => by
        have hlt : ¬ n ≤ xs[t - 1]?.getD 0 := fun h => hc ⟨by omega, h⟩
        by_cases e : j = t - 1
        · subst e; omega
        · have := asc_at Hasc.out (show j < t - 1 by omega) (by omega)
          omega)
      have Hcond : Hid (t = 0 ∨ ∃ q, t = q + 1 ∧ ¬ n ≤ xs[q]?.getD 0) := hid (by
        rcases Nat.eq_zero_or_pos t with h | h
        · exact .inl h
        · exact .inr ⟨t - 1, by omega, fun hh => hc ⟨h, hh⟩⟩)
      clear hc
      have hic : t ≤ cap := by omega
      have hi0 : (0 : Int) ≤ (t : Int) := by omega
      have hi2 : (t : Int) ≤ (xs.length : Int) := by omega
      by_cases heq : t < xs.length ∧ xs[t]?.getD 0 = n
      · have Hins := hid (ins_same Hasc.out heq.1 heq.2)
        have hct := Hcs.out t heq.1
        rw [heq.2] at hct
        have hi1 : (t : Int) < (xs.length : Int) := by omega
        clear heq HH Hlow
        rcases Hcond.out with rfl | ⟨q, rfl, hq⟩
        · clear Hcond
          go_wp2_with fail
          go_ret
          exact ⟨g, cap, xs, rfl, Hown.out, Below.refl _ _, Hins.out⟩
        · clear Hcond
          obtain ⟨x, hx⟩ : ∃ x, x = xs[q]?.getD 0 := ⟨_, rfl⟩
          have hcx := Hcs.out q (by omega)
          rw [← hx] at hcx hq
          have hj0 : (0 : Int) ≤ (q : Int) := by omega
          have hj1 : (q : Int) < (xs.length : Int) := by omega
          have hpz : (0 : Int) < ((q + 1 : Nat) : Int) := by omega
          have hsb : wrap64 (((q + 1 : Nat) : Int) - 1) = (q : Int) := by rw [show (((q + 1 : Nat) : Int) - 1) = (q : Int) by omega]; exact IntWalk.wrap64_in _ ⟨by omega, by omega⟩
          clear hx
          go_wp2_with fail
          go_ret
          exact ⟨g, cap, xs, rfl, Hown.out, Below.refl _ _, Hins.out⟩
      · have Hins : Hid (InsL xs n (xs.take t ++ ([n] ++ xs.drop t))) := hid (ins_new Hasc.out ht Hlow.out (fun j h1 h2 => by
          by_cases e : j = t
          · subst e
            have := HH.out j (Nat.le_refl _) h2
            have : xs[j]?.getD 0 ≠ n := fun h => heq ⟨h2, h⟩
            omega
          · have h3 := asc_at Hasc.out (show t < j by omega) h2
            have := HH.out t (Nat.le_refl _) (by omega)
            omega))
        have Hnt : Hid (t < xs.length → xs[t]?.getD 0 ≠ n) := hid (fun h1 h2 => heq ⟨h1, h2⟩)
        have Hone : Hid ((wr.alloc (.cells #[.int .i64 n] 2)).ownsRow wr.heap.size 2 1 (.slice (some ⟨wr.heap.size, 0, none⟩) 1 1) [n].length ([n].map (Value.int .i64))) := hid ⟨by simp, .inr ⟨wr.heap.size, 1, _, rfl, Nat.le_refl _, heap_alloc_new wr _, Nat.le_refl _, by unfold maxLen; omega, by simp, by simp⟩⟩
        have Hc2 : Hid (¬ (0 : Int) < (t : Int) ∨ ∃ (x : Int), (0 : Int) < (t : Int) ∧ (0 : Int) ≤ (t : Int) - 1 ∧ (t : Int) - 1 < (xs.length : Int) ∧ wr.cell? ⟨g, t - 1, none⟩ = some (.int .i64 x) ∧ ¬ n ≤ x) := hid (by
          rcases Hcond.out with h | ⟨q, h, hq⟩
          · exact .inl (by omega)
          · obtain rfl : q = t - 1 := by omega
            exact .inr ⟨xs[t - 1]?.getD 0, by omega, by omega, by omega, Hcs.out (t - 1) (by omega), hq⟩)
        have Hct : Hid (¬ (t : Int) < (xs.length : Int) ∨ ∃ y : Int, (t : Int) < (xs.length : Int) ∧ wr.cell? ⟨g, t, none⟩ = some (.int .i64 y) ∧ (y == n) = false) := hid (by
          by_cases h : t < xs.length
          · exact .inr ⟨xs[t]?.getD 0, by omega, Hcs.out t h, by simpa using Hnt.out h⟩
          · exact .inl (by omega))
        obtain ⟨A, hA, hsrc⟩ : ∃ A : Addr, (if cap = t then some (⟨g, 0, none⟩ : Addr) else some ⟨g, t, none⟩) = some A ∧ Hid (∀ i, i < (xs.drop t).length → (wr.alloc (.cells #[.int .i64 n] 2)).cell? (A.add i) = some (.int .i64 ((xs.drop t)[i]?.getD 0))) := by
          by_cases h : cap = t
          · refine ⟨⟨g, 0, none⟩, by simp [h], hid (fun i hi => ?_)⟩
            simp at hi
            omega
          · refine ⟨⟨g, t, none⟩, by simp [h], hid (fun i hi => ?_)⟩
            have hit : t + i < xs.length := by simp at hi; omega
            have hadd : (⟨g, t, none⟩ : Addr).add i = ⟨g, t + i, none⟩ := by unfold Addr.add; split <;> simp_all
            rw [hadd, List.getElem?_drop, ← Hcs.out (t + i) hit]
            exact ((Below.refl wr.heap.size wr).alloc (Nat.le_refl _) _).cell (p := ⟨g, t + i, none⟩) hgl
        have Hsrc2 : Hid (∀ i, i < (xs.drop t).length → (wr.alloc (.cells #[.int .i64 n] 2)).cell? ((⟨g, t, none⟩ : Addr).add i) = some (.int .i64 ((xs.drop t)[i]?.getD 0))) := hid (fun i hi => by
          have hit : t + i < xs.length := by simp at hi; omega
          have hadd : (⟨g, t, none⟩ : Addr).add i = ⟨g, t + i, none⟩ := by unfold Addr.add; split <;> simp_all
          rw [hadd, List.getElem?_drop, ← Hcs.out (t + i) hit]
          exact ((Below.refl wr.heap.size wr).alloc (Nat.le_refl _) _).cell (p := ⟨g, t + i, none⟩) hgl)
        have hdl : xs.length - t = (xs.drop t).length := by simp
        have Hdl : Hid ((xs.drop t).length ≤ 64) := hid (by simp; omega)
        have htl : (xs.take t).length = t := by simp; omega
        have HOwn := hid (fun (W : World) (h : Below wr.heap.size wr W) => own_any (some ⟨g, 0, none⟩) cap (xs.take t) W (.inr ⟨g, 0, Nat.lt_of_lt_of_le hgl h.size, rfl, fun i hi => by
          have hit : i < t := by simpa [htl] using hi
          rw [Nat.zero_add, List.getElem?_take_of_lt hit, ← Hcs.out i (by omega)]
          exact h.cell (p := ⟨g, i, none⟩) hgl⟩) (by rw [htl]; omega))
        rw [htl] at HOwn
        have hsz1 : wr.heap.size ≤ (wr.alloc (.cells #[.int .i64 n] 2)).heap.size := by simp
        obtain ⟨xd, hxd⟩ : ∃ xd, xd = xs.drop t := ⟨_, rfl⟩
        obtain ⟨xt, hxt⟩ : ∃ xt, xt = xs.take t := ⟨_, rfl⟩
        rw [← hxd] at Hins hsrc Hsrc2 hdl Hdl
        rw [← hxt] at Hins HOwn htl
        obtain ⟨dl, hdle⟩ : ∃ dl, dl = xs.length - t := ⟨_, rfl⟩
        rw [← hdle] at hdl
        have Htl := hid htl
        have Hdle := hid hdle
        have Hdl2 := hid hdl
        clear Hcond Hnt heq HH Hlow hxd hxt htl hdle hdl
        rcases Hc2.out with hz | ⟨x, hpz, hj0, hj1, hcx, hlx⟩
        all_goals
          rcases Hct.out with hni | ⟨y, hi1, hct, hne⟩
        all_goals
          clear Hc2 Hct
          go_wp2_with (at_builtin; first
            | (refine append_ints_ad rfl rfl (m := xs.length - t) (c := cap - t) (ad := A) (by rw [← Hdle.out]; exact Hdl2.out) Hone.out hsz1 (by simp) (by have := Hdl.out; omega) rfl rfl hsrc.out ?_; intro v2 w2 hown2 hgrow2 hB2)
            | (refine append_ints_ad rfl rfl (m := xs.length - t) (c := cap - t) (ad := ⟨g, t, none⟩) (by rw [← Hdle.out]; exact Hdl2.out) Hone.out hsz1 (by simp) (by have := Hdl.out; omega) rfl rfl Hsrc2.out ?_; intro v2 w2 hown2 hgrow2 hB2))
          have hB20 : Below wr.heap.size wr w2 := ((Below.refl wr.heap.size wr).alloc (Nat.le_refl _) _).trans (hB2.mono (Nat.le_refl _))
          obtain ⟨_, av, cv, rfl, hs2⟩ := ownsRow_slI hown2
          have hsa : ∃ b2 off2, b2 < w2.heap.size ∧ av = some ⟨b2, off2, none⟩ ∧ ∀ i, i < ([n] ++ xd).length → w2.cell? ⟨b2, off2 + i, none⟩ = some (.int .i64 (([n] ++ xd)[i]?.getD 0)) := by
            rcases hs2 with h | h
            · simp at h
            · exact h
          obtain ⟨b2, off2, hb2, rfl, hc2⟩ := hsa
          have HB20 := hid hB20
          have HO := hid (HOwn.out w2 hB20)
          have Hc2 := hid hc2
          clear hown2 hgrow2 hB2 hs2 hB20 hc2
          go_wp2_with fail
          refine HO.out.mono ?_
          rintro e w3 ⟨v3, rfl, hr3⟩
          have HR3 := hid hr3
          have hsz3 := hr3.2.size
          have Hc3 : Hid (∀ i, i < ([n] ++ xd).length → w3.cell? ((⟨b2, off2, none⟩ : Addr).add i) = some (.int .i64 (([n] ++ xd)[i]?.getD 0))) := hid (fun i hi => by
            have hadd : (⟨b2, off2, none⟩ : Addr).add i = ⟨b2, off2 + i, none⟩ := by unfold Addr.add; split <;> simp_all
            rw [hadd, ← Hc2.out i hi]
            exact hr3.2.cell (p := ⟨b2, off2 + i, none⟩) hb2)
          have hxtl : xt.length ≤ 1048576 := by have := Htl.out; omega
          have hxdl : ([n] ++ xd).length ≤ 1048576 := by have := Hdl.out; simp; omega
          clear hr3
          go_wp2_with (at_builtin; refine append_ints_ad rfl rfl (ad := ⟨b2, off2, none⟩) rfl HR3.out.1 hsz3 hxtl hxdl rfl rfl Hc3.out ?_; intro v4 w4 hown4 hgrow4 hB4)
          have hB40 := HB20.out.trans ((HR3.out.2.trans (hB4.mono (Nat.le_refl _))).mono HB20.out.size)
          rcases hown4.2 with ⟨_, h0⟩ | ⟨g', cap', cur, rfl, hrest⟩
          · simp at h0
          · have Hown4 := hid hown4
            have HB40 := hid hB40
            clear hown4 hgrow4 hB4 hB40 hrest
            go_wp2_with fail
            go_ret
            exact ⟨g', cap', _, rfl, ownsRow_base Hown4.out (Nat.le_trans hb HB20.out.size), HB40.out, Hins.out⟩

end Go.Proofs.Ytgcpakhagbbiiaa

/-! CountFaces' list has no room; slices.Insert at its front. -/
namespace Go.Proofs.Ytgcpakhagbbiiaa
open Go.RowKit

set_option maxHeartbeats 2000000 in
theorem countC_any (V : Int) (a0 : Option Addr) (cap : Nat) (fs : List Int) (w : World) (hx : SlI w w.heap.size a0 fs) (hl : fs.length ≤ 1048576) (hC : IsC V fs) (T : Nat) (hTn : (top fs + 1).toNat = T) :
    Calls Try.prog 89 #[.agg #[.int .i64 V, .slice a0 fs.length cap]] w fun e w' => ∃ g, e = .returned (.tuple #[.slice (some ⟨g, 0, none⟩) T T, .int .i64 0]) ∧ Res w w' (.slice (some ⟨g, 0, none⟩) T T) (countL fs T) := by
  have hB0 : Below w.heap.size w (w.alloc (.cells #[.int .i64 V, .slice a0 fs.length cap] 30)) := (Below.refl _ w).alloc (Nat.le_refl _) _
  have Hx := hid (hx.later hB0 (by simp))
  have Hx0 := hid hx
  have Hf := hid hC.range63
  have HC := hid hC
  clear hC
  have hT6 : T ≤ 6 := by have := top_hi fs; omega
  have HT := hid (show top fs = (T : Int) - 1 by have := top_lo fs; omega)
  clear hTn
  go_enter Try.func89, Try.ntmps89
  go_wp2_with fail
  refine (isc_yes V a0 cap fs _ Hx.out hl HC.out).mono ?_
  rintro e w1 ⟨rfl, hB1⟩
  have k0 : w1.cell? ⟨w.heap.size, 0, none⟩ = some (.int .i64 V) := (hB1.cell (p := ⟨w.heap.size, 0, none⟩) (by simp)).trans (by simp [go_sem])
  have k1 : w1.cell? ⟨w.heap.size, 1, none⟩ = some (.slice a0 fs.length cap) := (hB1.cell (p := ⟨w.heap.size, 1, none⟩) (by simp)).trans (by simp [go_sem])
  have hB01 := hB0.trans (hB1.mono (by simp))
  have hs1 : w.heap.size < w1.heap.size := by have := hB1.size; simp at this; omega
  have hx1 := hid (hx.later hB01 hB01.size)
  clear hB1
  go_wp2_with fail
  refine (dimT V a0 cap fs T _ hx1.out hl Hf.out HT.out).mono ?_
  rintro e w2 ⟨rfl, hB2⟩
  have hB02 := hB01.trans (hB2.mono hB01.size)
  have hs2 : w.heap.size < w2.heap.size := Nat.lt_of_lt_of_le hs1 hB2.size
  have d1 : w2.cell? ⟨w.heap.size, 1, none⟩ = some (.slice a0 fs.length cap) := (hB2.cell (p := ⟨w.heap.size, 1, none⟩) hs1).trans k1
  clear k0 k1 hB2
  go_wp2_with (at_make; refine make_int (n := T) rfl rfl (by first | rfl | (show Value.int .i64 ((T : Int) - 1 + 1) = _; congr 1; omega)) (by first | rfl | (show Value.int .i64 ((T : Int) - 1 + 1) = _; congr 1; omega)) (by omega) ?_; intro w3 hown3 hgr3 hB3; have e1 : w3.cell? ⟨w.heap.size, 1, none⟩ = some (.slice a0 fs.length cap) := (hB3.cell (p := ⟨w.heap.size, 1, none⟩) hs2).trans d1)
  have hown0 : w3.ownsRow w2.heap.size 2 1 (.slice (some ⟨w2.heap.size, 0, none⟩) T T) T ((countL [] T).map (Value.int .i64)) := by rw [countL_nil]; exact hown3
  have Hown0 := hid hown0
  have HB3 := hid hB3
  clear hown3 hgr3 hown0 hB3 d1
  go_loopw [17] (fun i wr => ∃ k : Nat, k ≤ fs.length ∧ i = .int .i64 k ∧ wr.ownsRow w2.heap.size 2 1 (.slice (some ⟨w2.heap.size, 0, none⟩) T T) T ((countL (fs.take k) T).map (Value.int .i64)) ∧ Below w2.heap.size w2 wr) (fun i _ => fs.length - (intOf i).toNat)
  case atStart => exact ⟨0, Nat.zero_le _, rfl, by simpa using Hown0.out, HB3.out⟩
  case round =>
    obtain ⟨k, hk, rfl, hown, hB⟩ := hrel
    by_cases hlt : k < fs.length
    · obtain ⟨b, off, hb, rfl, hc⟩ : ∃ b off, b < w.heap.size ∧ a0 = some ⟨b, off, none⟩ ∧ ∀ i, i < fs.length → w.cell? ⟨b, off + i, none⟩ = some (.int .i64 (fs[i]?.getD 0)) := by
        rcases Hx0.out with rfl | h
        · simp at hlt
        · exact h
      have hxm := getD_mem hlt
      obtain ⟨x, hx⟩ : ∃ x : Nat, (x : Int) = fs[k]?.getD 0 := ⟨(fs[k]?.getD 0).toNat, by have := Hf.out _ hxm; omega⟩
      rw [← hx] at hxm
      have hxr := Hf.out _ hxm
      have hx64 : x < 64 := by omega
      have hck : wr.cell? ⟨b, off + k, none⟩ = some (.int .i64 (x : Int)) := by rw [hx]; exact (hB.cell (p := ⟨b, off + k, none⟩) (by show b < w2.heap.size; omega)).trans ((hB02.cell (p := ⟨b, off + k, none⟩) hb).trans (hc k hlt))
      have hi0 : (0 : Int) ≤ (k : Int) := by omega
      have hi1 : (k : Int) < (fs.length : Int) := by omega
      have hop := ones_pos ⟨x, hx64⟩ (by show x ≠ 0; omega)
      have htg := top_ge fs hxm
      rw [HT.out, Int.toNat_natCast] at htg
      obtain ⟨e, he⟩ : ∃ e, ones x = e + 1 := ⟨ones x - 1, by have : 0 < ones x := hop; omega⟩
      have heT : e < T := by omega
      have he0 : (0 : Int) ≤ (e : Int) := by omega
      have he1 : (e : Int) < (T : Int) := by omega
      have hcn := countL_at (fs.take k) T e heT
      obtain ⟨n, hn⟩ : ∃ n : Nat, n = (ofDim (fs.take k) (e : Int)).length := ⟨_, rfl⟩
      have hn6 : n ≤ 1048576 := by rw [hn]; exact Nat.le_trans (List.length_filter_le _ _) (by simp; omega)
      have hce : wr.cell? ⟨w2.heap.size, e, none⟩ = some (.int .i64 (n : Int)) := by
        rw [hown.cellAt e (by omega), hn, ← hcn]
        simp [countL, heT]
      have hfe := hown.frozenAt e
      have hst := hown.stored e (.int .i64 ((n : Int) + 1))
      have hstep : ((countL (fs.take k) T).map (Value.int .i64)).set e (.int .i64 ((n : Int) + 1)) = (countL (fs.take (k + 1)) T).map (Value.int .i64) := by
        rw [take_snoc hlt, ← hx, countL_face _ _ _ _ he, hn, List.map_set]
      rw [hstep] at hst
      have Hst := hid hst
      have HB := hid hB
      have He := hid he
      clear hstep hst hown hB hx hc hcn hn htg hop hxm hxr he
      go_wp2_with (go_at_call 155; refine (dimE x e _ hx64 He.out).mono ?_; rintro e w' ⟨rfl, rfl⟩)
      go_roundw
      case rel =>
        exact ⟨k + 1, by omega, by go_num, Hst.out.1, HB.out.grown Hst.out.2 HB.out.size (fun r e => by cases e; omega)⟩
      case measure => simp [intOf]; omega
    · go_wp2_with fail
      go_ret2
      obtain rfl : k = fs.length := by omega
      rw [List.take_of_length_le (Nat.le_refl _)] at hown
      exact ⟨_, rfl, ownsRow_base (by simpa [countL_len] using hown) (by omega), hB02.trans (hB.mono hB02.size)⟩

set_option maxRecDepth 100000 in
set_option maxHeartbeats 4000000 in
theorem insF_any (base g n vb : Nat) (xs : List Int) (x : Int) (w : World) (hown : w.ownsRow base 2 1 (.slice (some ⟨g, 0, none⟩) n n) n (xs.map (Value.int .i64))) (hbase : base ≤ w.heap.size) (hn : n ≤ 1048575)
    (hv : w.heap[vb]? = some (.cells #[.int .i64 x] 2 (0, 0))) :
    Calls Try.prog 90 #[.slice (some ⟨g, 0, none⟩) n n, .int .i64 0, .slice (some ⟨vb, 0, none⟩) 1 1] w fun e w' => ∃ v', e = .returned v' ∧ w'.ownsRow base 2 1 v' (n + 1) ((x :: xs).map (Value.int .i64)) ∧ Below base w w' := by
  by_cases h0 : n = 0
  · subst h0
    obtain rfl : xs = [] := by
      have := hown.1
      simpa using this
    have Hown := hid hown
    have HC : Hid (∀ i, i < [x].length → w.cell? ((⟨vb, 0, none⟩ : Addr).add i) = some (.int .i64 ([x][i]?.getD 0))) := hid (fun i hi => by
      obtain rfl : i = 0 := by simpa using hi
      exact (box_cell hv).1)
    clear hown hv
    go_enter Try.func90, Try.ntmps90
    go_wp2_with (at_builtin; refine append_ints_ad (xs := []) (ys := [x]) (ad := ⟨vb, 0, none⟩) rfl rfl rfl Hown.out hbase (by simp) (by simp) rfl rfl HC.out ?_; intro v' w' hown' hg' hB')
    go_ret
    exact ⟨v', rfl, by simpa using hown', hB'⟩
  · have h := ins_growI base g n 0 vb xs x w hown hbase hn (by omega) hv
    simpa [insA1] using h

end Go.Proofs.Ytgcpakhagbbiiaa

/-! impl.NumbersH. -/
namespace Go.Proofs.Ytgcpakhagbbiiaa
open Go.RowKit

def facesH (fs : List Int) (T : Nat) : List Int := 1 :: countL fs T
def partH (F : List Int) (T m k : Nat) : List Int := (List.range m).map fun i => if i < k then hSum F T i (i + 1) else 0
theorem partH_len (F : List Int) (T m k : Nat) : (partH F T m k).length = m := by simp [partH]
theorem partH_zero (F : List Int) (T m : Nat) : partH F T m 0 = List.replicate m 0 := by
  apply List.ext_getElem (by simp [partH])
  intro i h1 h2
  simp [partH]
theorem partH_set (F : List Int) (T m k : Nat) : (partH F T m k).set k (hSum F T k (k + 1)) = partH F T m (k + 1) := by
  apply List.ext_getElem (by simp [partH])
  intro i h1 h2
  rw [List.getElem_set]
  simp only [partH, List.getElem_map, List.getElem_range]
  by_cases e : k = i
  · subst e; simp
  · rw [if_neg e]
    by_cases h : i < k
    · rw [if_pos h, if_pos (by omega)]
    · rw [if_neg h, if_neg (by omega)]
def numHL (fs : List Int) (T : Nat) : List Int := partH (facesH fs T) T (T + 1) (T + 1)
noncomputable def numHR (V : Int) (fs : List Int) : List Int × Int := if isCB V fs then (numHL fs (top fs + 1).toNat, 0) else ([], 1)
theorem numHR_len (V : Int) (fs : List Int) (_h : fs.length ≤ 1048576) : (numHR V fs).1.length ≤ 1048576 := by
  unfold numHR
  have := top_hi fs
  split
  · unfold numHL; rw [partH_len]; omega
  · simp
theorem small_faces {V : Int} {fs : List Int} (hC : IsC V fs) {T : Nat} (hT : T ≤ 6) : SmallF (facesH fs T) T where
  len := by simp [facesH, countL_len]
  six := hT
  rng := fun x hx => by
    unfold facesH at hx
    rcases List.mem_cons.1 hx with rfl | hx
    · omega
    · unfold countL at hx
      obtain ⟨d, _, rfl⟩ := List.mem_map.1 hx
      have h1 : (ofDim fs (d : Int)).length ≤ fs.length := List.length_filter_le _ _
      have h2 := hC.len63
      omega

set_option maxRecDepth 1000000 in
set_option maxHeartbeats 4000000 in
theorem implNumbersH (V : Int) (a0 : Option Addr) (cap : Nat) (fs : List Int) (w : World) (hx : SlI w w.heap.size a0 fs) (hl : fs.length ≤ 1048576) :
    Calls Try.prog 46 #[.agg #[.int .i64 V, .slice a0 fs.length cap]] w fun e w' => ∃ v, e = .returned (.tuple #[v, .int .i64 (numHR V fs).2]) ∧ Res w w' v (numHR V fs).1 := by
  obtain ⟨W0, hW0⟩ : ∃ W0, W0 = w.alloc (.cells #[.int .i64 V, .slice a0 fs.length cap] 30) := ⟨_, rfl⟩
  have hB0 : Below w.heap.size w W0 := by rw [hW0]; exact (Below.refl _ w).alloc (Nat.le_refl _) _
  by_cases hC : IsC V fs
  · obtain ⟨T, hT⟩ : ∃ T : Nat, T = (top fs + 1).toNat := ⟨_, rfl⟩
    have hT6 : T ≤ 6 := by have := top_hi fs; omega
    refine pair_mono (show numHR V fs = (numHL fs T, 0) by unfold numHR; rw [isCB_true hC, if_pos rfl, hT]) ?_
    have HK := hid (countC_any V a0 cap fs W0 (hx.later hB0 hB0.size) hl hC T hT.symm)
    have hF := small_faces hC hT6
    obtain ⟨F, hFe⟩ : ∃ F, F = facesH fs T := ⟨_, rfl⟩
    obtain ⟨m, hm⟩ : ∃ m, m = T + 1 := ⟨_, rfl⟩
    have Hres := hid (show numHL fs T = partH F T m m by rw [hFe, hm]; rfl)
    have HFe := hid (show F = 1 :: countL fs T from hFe)
    rw [← hFe] at hF
    have HF := hid hF
    have HFl : Hid (F.length = m) := hid (by rw [hF.len, hm])
    have hm7 : m ≤ 7 := by omega
    have Hm := hid hm
    have HB0 := hid hB0
    clear hx hC hT hB0 hF hFe hm
    rw [hW0] at HK
    go_enter Try.func46, Try.ntmps46
    go_wp2_with fail
    refine HK.out.mono ?_
    rintro e w1 ⟨g, rfl, hr1⟩
    rw [← hW0] at hr1
    have hown1 := hr1.1
    rw [countL_len] at hown1
    have hb1 : Below w1.heap.size w1 (w1.alloc (.cells #[.int .i64 1] 2)) := (Below.refl _ w1).alloc (Nat.le_refl _) _
    have HI := hid (insF_any W0.heap.size g T w1.heap.size (countL fs T) 1 (w1.alloc (.cells #[.int .i64 1] 2)) (row_later (B := 0) hown1 hb1 rfl) (Nat.le_trans hr1.2.size hb1.size) (by omega) (heap_alloc_new _ _))
    rw [← HFe.out] at HI
    rw [← Hm.out] at HI
    have HB1 := hid (hr1.2.trans (hb1.mono hr1.2.size))
    clear hr1 hown1 hb1
    go_wp2_with fail
    refine HI.out.mono ?_
    rintro e w2 ⟨v2, rfl, hown2, hB2⟩
    have HB2 := hid (HB0.out.trans ((HB1.out.trans hB2).mono HB0.out.size))
    have hz2 := (HB1.out.trans hB2).size
    rcases hown2.2 with ⟨_, hn0⟩ | ⟨gF, cF, cur, rfl, hgF, hhF, hcF, _, _, _⟩
    · have := Hm.out; omega
    have hgz := lt_of_get hhF
    have Hown2 := hid hown2
    have HNum := hid (fun (W : World) (h : Below w2.heap.size w2 W) (j : Nat) (hj : j ≤ T) => numberH_any gF 0 cF j T F W HF.out (Nat.lt_of_lt_of_le hgz h.size) (fun i hi => by
      rw [h.cell (p := ⟨gF, 0 + i, none⟩) hgz, Nat.zero_add, Hown2.out.cellAt i (by have := HFl.out; omega)]
      simp [List.getElem?_eq_getElem hi]) (by rw [HFl.out]; exact hcF) hj)
    rw [HFl.out] at HNum
    clear hB2 hown2 hhF
    go_wp2_with (refine make_int (n := m) rfl rfl rfl rfl (by omega) ?_; intro w3 hown3 hg3 hB3)
    have hown30 : w3.ownsRow w2.heap.size 2 1 (.slice (some ⟨w2.heap.size, 0, none⟩) m m) m ((partH F T m 0).map (Value.int .i64)) := by rw [partH_zero]; exact hown3
    have Hown3 := hid hown30
    have HB3 := hid hB3
    clear hown3 hg3 hB3 hown30
    go_wp2_with fail
    go_loopw [24] (fun x wr => ∃ k : Nat, k ≤ m ∧ x = .int .i64 k ∧ Hid (wr.ownsRow w2.heap.size 2 1 (.slice (some ⟨w2.heap.size, 0, none⟩) m m) m ((partH F T m k).map (Value.int .i64))) ∧ Hid (Below w2.heap.size w2 wr)) (fun x _ => m - (RowKit.intOf x).toNat)
    case atStart => exact ⟨0, Nat.zero_le _, rfl, Hown3, HB3⟩
    case round =>
      clear Hown3 HB3
      obtain ⟨k, hk, rfl, HO, HB⟩ := hrel
      by_cases hlt : k < m
      · have hi0 : (0 : Int) ≤ (k : Int) := by omega
        have hi1 : (k : Int) < (m : Int) := by omega
        have HN := hid (HNum.out wr HB.out k (by have := Hm.out; omega))
        obtain ⟨z, hz⟩ : ∃ z, z = hSum F T k (k + 1) := ⟨_, rfl⟩
        have hset := partH_set F T m k
        rw [← hz] at HN hset
        have Hset := hid (show ((partH F T m k).map (Value.int .i64)).set k (.int .i64 z) = (partH F T m (k + 1)).map (Value.int .i64) by rw [← hset, List.map_set])
        clear hz hset
        go_wp2_with fail
        refine HN.out.mono ?_
        rintro e w4 ⟨rfl, hB4⟩
        have hO4 := row_later (B := 0) HO.out hB4 rfl
        have hce : (w4.cell? ⟨w2.heap.size, k, none⟩).isSome = true := by rw [hO4.cellAt k (by omega), List.getElem?_map, List.getElem?_eq_getElem (by rw [partH_len]; exact hlt)]; rfl
        obtain ⟨q, hq⟩ := Option.isSome_iff_exists.1 hce
        have hfe := hO4.frozenAt k
        have hst := hO4.stored k (.int .i64 z)
        rw [Hset.out] at hst
        have Hst := hid hst
        have HB4 := hid (HB.out.trans (hB4.mono HB.out.size))
        clear hB4 hO4 hst hce
        go_wp2_with fail
        go_roundw
        case rel => exact ⟨k + 1, by omega, by go_num, hid Hst.out.1, hid (HB4.out.grown Hst.out.2 HB4.out.size (fun r e => by cases e; omega))⟩
        case measure => simp [RowKit.intOf]; omega
      · obtain rfl : k = m := by omega
        have ho := HO.out
        go_wp2_with fail
        go_ret2
        rw [Hres.out]
        exact ⟨_, rfl, by rw [partH_len]; exact ownsRow_base ho HB2.out.size, HB2.out.trans (HB.out.mono HB2.out.size)⟩
  · refine pair_mono (show numHR V fs = ([], 1) by unfold numHR; rw [isCB_false hC, if_neg (by simp)]) ?_
    have HK := hid (implCountFaces V a0 cap fs W0 (hx.later hB0 hB0.size) hl)
    rw [show countFacesR V fs = ([], 1) by unfold countFacesR; rw [isCB_false hC, if_neg (by simp)]] at HK
    have HB0 := hid hB0
    rw [hW0] at HK
    clear hx hC hB0
    go_enter Try.func46, Try.ntmps46
    go_wp2_with fail
    refine HK.out.mono ?_
    rintro e w1 ⟨v1, rfl, hr1⟩
    rw [← hW0] at hr1
    go_wp2_with fail
    go_ret2
    exact ⟨_, rfl, res_nil _ _ (HB0.out.trans (hr1.2.mono HB0.out.size))⟩

end Go.Proofs.Ytgcpakhagbbiiaa

/-! spec.NumbersH. -/
namespace Go.Proofs.Ytgcpakhagbbiiaa
open Go.RowKit

def hsL (F : List Int) (T k : Nat) : List Int := (List.range k).map fun i => hSum F T i (i + 1)
theorem hsL_len (F : List Int) (T k : Nat) : (hsL F T k).length = k := by simp [hsL]
theorem hsL_snoc (F : List Int) (T k : Nat) : hsL F T (k + 1) = hsL F T k ++ [hSum F T k (k + 1)] := by simp [hsL, List.range_succ]
theorem hsL_all (F : List Int) (T m : Nat) : partH F T m m = hsL F T m := by
  apply List.ext_getElem (by simp [partH, hsL])
  intro i h1 h2
  have : i < m := by simpa [partH] using h1
  simp [partH, hsL, this]

set_option maxRecDepth 1000000 in
set_option maxHeartbeats 4000000 in
theorem lH_any (V : Int) (a0 : Option Addr) (cap : Nat) (fs : List Int) (w : World) (hx : SlI w w.heap.size a0 fs) (hl : fs.length ≤ 1048576) (hC : IsC V fs) (T : Nat) (hT : (top fs + 1).toNat = T) :
    Calls Try.prog 88 #[.agg #[.int .i64 V, .slice a0 fs.length cap]] w fun e w' => ∃ v, e = .returned v ∧ Res w w' v (numHL fs T) := by
  obtain ⟨W0, hW0⟩ : ∃ W0, W0 = w.alloc (.cells #[.int .i64 V, .slice a0 fs.length cap] 30) := ⟨_, rfl⟩
  have hB0 : Below w.heap.size w W0 := by rw [hW0]; exact (Below.refl _ w).alloc (Nat.le_refl _) _
  have hs0 : W0.heap.size = w.heap.size + 1 := by rw [hW0]; simp
  have hkb : W0.heap[w.heap.size]? = some (.cells #[.int .i64 V, .slice a0 fs.length cap] 30 (0, 0)) := by rw [hW0]; exact heap_alloc_new _ _
  have hT6 : T ≤ 6 := by have := top_hi fs; omega
  have htp : top fs = (T : Int) - 1 := by have := top_lo fs; omega
  have HD := hid (dimS_any V a0 cap fs W0 (hx.later hB0 hB0.size) hl hC.range63)
  rw [htp] at HD
  have HO := hid (fun (W : World) (h : Below w.heap.size w W) (d : Int) (h0 : 0 ≤ d) (h1 : d ≤ 5) => of_any V a0 cap fs d W (hx.later h h.size) hl hC.range63 h0 h1)
  have hF := small_faces hC hT6
  have hFe : facesH fs T = 1 :: countL fs T := rfl
  have hnum : numHL fs T = hsL (facesH fs T) T (T + 1) := by unfold numHL; exact hsL_all _ _ _
  obtain ⟨F, hF0⟩ : ∃ F, F = facesH fs T := ⟨_, rfl⟩
  rw [← hF0] at hF hFe hnum
  have HF := hid hF
  have HFe := hid hFe
  have Hnum := hid hnum
  have HFl := hid hF.len
  have HB0 := hid hB0
  have Hkb := hid hkb
  clear hx hC hT htp hF hFe hnum hF0 hB0 hkb
  rw [hW0] at HD
  go_enter Try.func88, Try.ntmps88
  go_wp2_with fail
  refine HD.out.mono ?_
  rintro e w1 ⟨rfl, hB1⟩
  rw [← hW0] at hB1
  have Kb1 := hid ((hB1.block w.heap.size (by omega)).trans Hkb.out)
  have HB1 := hid (HB0.out.trans (hB1.mono HB0.out.size))
  have hz1 := lt_of_get Kb1.out
  have hown0 : ((w1.alloc (.cells #[.int .i64 1] 2)).alloc (.cells #[] 2)).ownsRow w1.heap.size 2 1 (.slice (some ⟨w1.heap.size, 0, none⟩) 1 1) 1 [.int .i64 1] := ⟨rfl, .inr ⟨w1.heap.size, 1, #[.int .i64 1], rfl, Nat.le_refl _, (Below.heap_alloc _ _ _ (by simp)).trans (heap_alloc_new _ _), Nat.le_refl _, by simp [maxLen], rfl, rfl⟩⟩
  have hblk0 : ((w1.alloc (.cells #[.int .i64 1] 2)).alloc (.cells #[] 2)).heap[w1.heap.size + 1]? = some (.cells #[] 2 (0, 0)) := by
    have := heap_alloc_new (w1.alloc (.cells #[.int .i64 1] 2)) (.cells #[] 2)
    rw [World.size_alloc] at this
    exact this
  have hbel0 : Below w1.heap.size w1 ((w1.alloc (.cells #[.int .i64 1] 2)).alloc (.cells #[] 2)) := ((Below.refl _ w1).alloc (Nat.le_refl _) _).alloc (by simp) _
  have Hown0 := hid hown0
  have Hblk0 := hid hblk0
  have Hbel0 := hid hbel0
  clear hown0 hblk0 hbel0 hB1
  go_wp2_with fail
  go_loopw [4, 6] (fun fv di wr => ∃ (d : Nat) (v : Value), d ≤ T ∧ fv = v ∧ di = .int .i64 d ∧ Hid (wr.ownsRow w1.heap.size 2 1 v (1 :: countL fs d).length ((1 :: countL fs d).map (Value.int .i64))) ∧ Hid (v.ownBlock ≠ some (w1.heap.size + 1)) ∧ Hid (wr.heap[w1.heap.size + 1]? = some (.cells #[] 2 (0, 0))) ∧ Hid (Below w1.heap.size w1 wr)) (fun _ di _ => T - (RowKit.intOf di).toNat)
  case atStart => exact ⟨0, _, Nat.zero_le _, rfl, rfl, hid (by have h := Hown0.out; rw [show (1 :: countL fs 0) = [1] by simp [countL]]; exact h), hid (by simp [Value.ownBlock]), Hblk0, Hbel0⟩
  case round =>
    clear Hown0 Hblk0 Hbel0
    obtain ⟨d, v, hd, rfl, rfl, HW, Hne, Hblk, HB⟩ := hrel
    obtain ⟨k0, k1, _, _⟩ := two_of ((HB.out.block _ hz1).trans Kb1.out)
    by_cases hlt : d < T
    · have hi0 : (0 : Int) ≤ (d : Int) := by omega
      have hi1 : (d : Int) < (T : Int) := by omega
      have HOd := hid (HO.out wr (HB1.out.trans (HB.out.mono HB1.out.size)) (d : Int) (by omega) (by omega))
      have hsn := hid (show (1 :: countL fs (d + 1)) = (1 :: countL fs d) ++ [((ofDim fs (d : Int)).length : Int)] by rw [countL_snoc]; rfl)
      have hcl : (1 :: countL fs d).length ≤ 64 := by simp [countL_len]; omega
      go_wp2_with fail
      refine HOd.out.mono ?_
      rintro e w3 ⟨v3, rfl, hr⟩
      obtain ⟨_, av, cv, rfl, _⟩ := ownsRow_slI hr.1
      have hown3 := row_later (B := 0) HW.out hr.2 rfl
      have hblk3 := (hr.2.block _ (lt_of_get Hblk.out)).trans Hblk.out
      have hB3 := HB.out.trans (hr.2.mono HB.out.size)
      have hsz3 := hB3.size
      have Hblk3 := hid hblk3
      have HB3 := hid hB3
      clear hr k0 k1 hblk3 hB3
      go_wp2_with (at_builtin; refine append_int_at rfl rfl hown3 hsz3 (by omega) rfl rfl ?_; intro v' w4 hown4 hgrow4 hat4 hB4)
      have hlt3 := lt_of_get Hblk3.out
      have Hat4 := hid (show v'.ownBlock ≠ some (w1.heap.size + 1) by
        rcases hat4 with h | h
        · rw [h]; exact Hne.out
        · rw [h]; intro e; injection e with e; omega)
      have Hblk4 := hid ((hgrow4.block _ hlt3 (fun e => Hne.out e.symm)).trans Hblk3.out)
      have Hown4 := hid hown4
      have HB4 := hid (HB3.out.trans hB4)
      clear hown3 hown4 hgrow4 hat4 hB4
      go_wp2_with fail
      go_roundw
      case rel => exact ⟨d + 1, v', by omega, rfl, by go_num, hid (by rw [hsn.out]; exact Hown4.out), Hat4, Hblk4, HB4⟩
      case measure => simp [RowKit.intOf]; omega
    · obtain rfl : d = T := by omega
      rw [← HFe.out, HFl.out] at HW
      rcases HW.out.2 with ⟨_, hn0⟩ | ⟨gF, cF, cur, rfl, hgF, hhF, hcF, _, _, _⟩
      · omega
      have HCF := hid (fun (i : Nat) (hi : i < F.length) => (show wr.cell? ⟨gF, i, none⟩ = some (.int .i64 (F[i]?.getD 0)) by rw [HW.out.cellAt i (by have := HFl.out; omega)]; simp [List.getElem?_eq_getElem hi]))
      have hneF : gF ≠ w1.heap.size + 1 := fun e => Hne.out (by simp [Value.ownBlock, e])
      have hout : wr.ownsRow w1.heap.size 2 1 (.slice (some ⟨w1.heap.size + 1, 0, none⟩) 0 0) 0 [] := ⟨rfl, .inr ⟨w1.heap.size + 1, 0, #[], rfl, by omega, Hblk.out, Nat.le_refl _, by simp, rfl, rfl⟩⟩
      have Hout := hid hout
      have HhF := hid hhF
      clear hhF hout k0 k1 hgF
      have HBx := hid HB.out
      go_wp2_with fail
      go_loopw [5, 7] (fun ov iv wy => ∃ (k : Nat) (v2 : Value), k ≤ d + 1 ∧ ov = v2 ∧ iv = .int .i64 k ∧ Hid (wy.ownsRow w1.heap.size 2 1 v2 (hsL F d k).length ((hsL F d k).map (Value.int .i64))) ∧ Hid (v2.ownBlock ≠ some gF) ∧ Hid (wy.heap[gF]? = some (.cells cur 2 (0, 0))) ∧ Hid (Below w1.heap.size w1 wy)) (fun _ iv _ => d + 1 - (RowKit.intOf iv).toNat)
      case atStart => exact ⟨0, _, Nat.zero_le _, rfl, rfl, Hout, hid (by simp [Value.ownBlock]; omega), HhF, HBx⟩
      case round =>
        clear Hout HBx
        obtain ⟨k, v2, hk, rfl, rfl, HR, Hn2, HgF, HB2⟩ := hrel
        have hsz := HB2.out.size
        have HFc := hid (fun (i : Nat) (hi : i < F.length) => (show wr.cell? ⟨gF, i, none⟩ = some (.int .i64 (F[i]?.getD 0)) by
          rw [World.cell?_of_block (a := ⟨gF, i, none⟩) (HgF.out.trans HhF.out.symm)]
          exact HCF.out i hi))
        by_cases hkt : k ≤ d
        · have hi0 : (0 : Int) ≤ (k : Int) := by omega
          have hi1 : (k : Int) ≤ (d : Int) := by omega
          go_wp2_with fail
          go_loopw [8, 9] (fun sv jv wx => ∃ q : Nat, q ≤ k + 1 ∧ sv = .int .i64 (hSum F d k q) ∧ jv = .int .i64 q ∧ Hid (Below wr.heap.size wr wx)) (fun _ jv _ => k + 1 - (RowKit.intOf jv).toNat)
          case atStart => exact ⟨0, Nat.zero_le _, rfl, rfl, hid (Below.refl _ _)⟩
          case round =>
            obtain ⟨q, hq, rfl, rfl, HBq⟩ := hrel
            by_cases hqk : q ≤ k
            · have e0 := (HBq.out.cell (p := ⟨gF, q, none⟩) (lt_of_get HgF.out)).trans (HFc.out q (by have := HFl.out; omega))
              have hj0 : (0 : Int) ≤ (q : Int) := by omega
              have hj1 : (q : Int) ≤ (k : Int) := by omega
              have hj2 : (q : Int) < (d : Int) + 1 := by omega
              have ht := term_rng HF.out hkt hqk
              have hs := hSum_rng HF.out hkt q (by omega)
              have hfr := HF.out.rng _ (getD_mem (show q < F.length by have := HFl.out; omega))
              have hsn : hSum F d k (q + 1) = hSum F d k q + termH F d k q := rfl
              have eT : ((d - q : Nat) : Int) = (d : Int) - (q : Int) := by omega
              have eJ : ((k - q : Nat) : Int) = (k : Int) - (q : Int) := by omega
              have h3c := hid (fun (W : World) => chooseS_any (d - q) (k - q) W (by omega) (by omega))
              rw [eT, eJ] at h3c
              obtain ⟨f, hf⟩ : ∃ f, f = F[q]?.getD 0 := ⟨_, rfl⟩
              obtain ⟨ch, hch⟩ : ∃ ch, ch = chN (d - q) (k - q) := ⟨_, rfl⟩
              obtain ⟨sm, hsm⟩ : ∃ sm, sm = hSum F d k q := ⟨_, rfl⟩
              have htm : termH F d k q = f * sgH (k - q) * (ch : Int) := by unfold termH; rw [hf, hch]
              rw [← hf, ← hch] at ht
              rw [← hf] at e0 hfr
              rw [← hch] at h3c
              rw [← hsm] at hsn hs ⊢
              obtain ⟨P, hP⟩ : ∃ P, P = f * (ch : Int) := ⟨_, rfl⟩
              rw [← hP] at ht
              have hw3 : IntKind.i64.wrap (f * (ch : Int)) = P := by rw [← hP, IntKind.wrap_i64]; omega
              by_cases hod : (k - q) % 2 = 1
              · have Hsn := hid (show hSum F d k (q + 1) = sm + -P by rw [hsn, htm, sgH_odd hod, hP]; simp [Int.neg_mul])
                have hmd : (((k : Int) - (q : Int)) % 2 == 1) = true := by rw [← eJ]; simp; omega
                clear hsn htm hf hch hsm hP eT eJ
                go_wp2_with fail
                go_quiet ((go_at_call 159; exact quiet_of_eq (h3c.out _)))
                go_wp2_with fail
                exact ⟨⟨q + 1, by omega, by rw [Hsn.out], by go_num, hid (HBq.out.trans (Below.mono ⟨rfl, rfl, rfl, Nat.le_refl _, fun _ _ => rfl⟩ HBq.out.size))⟩, by simp [RowKit.intOf]; omega⟩
              · have Hsn := hid (show hSum F d k (q + 1) = sm + P by rw [hsn, htm, sgH_even (by omega), hP]; simp)
                have hmd : (((k : Int) - (q : Int)) % 2 == 1) = false := by rw [← eJ]; simp; omega
                clear hsn htm hf hch hsm hP eT eJ
                go_wp2_with fail
                go_quiet ((go_at_call 159; exact quiet_of_eq (h3c.out _)))
                go_wp2_with fail
                exact ⟨⟨q + 1, by omega, by rw [Hsn.out], by go_num, hid (HBq.out.trans (Below.mono ⟨rfl, rfl, rfl, Nat.le_refl _, fun _ _ => rfl⟩ HBq.out.size))⟩, by simp [RowKit.intOf]; omega⟩
            · obtain rfl : q = k + 1 := by omega
              have hown3 := row_later (B := 0) HR.out HBq.out rfl
              have HB3 := hid (HB2.out.trans (HBq.out.mono HB2.out.size))
              have hsz3 := HB3.out.size
              have HgF3 := hid ((HBq.out.block _ (lt_of_get HgF.out)).trans HgF.out)
              have hxl : (hsL F d k).length ≤ 64 := by rw [hsL_len]; omega
              go_wp2_with (at_builtin; refine append_int_at rfl rfl hown3 hsz3 (by omega) rfl rfl ?_; intro v' w4 hown4 hgrow4 hat4 hB4)
              have hlt3 := lt_of_get HgF3.out
              have Hat4 := hid (show v'.ownBlock ≠ some gF by
                rcases hat4 with h | h
                · rw [h]; exact Hn2.out
                · rw [h]; intro e; injection e with e; omega)
              have HgF4 := hid ((hgrow4.block _ hlt3 (fun e => Hn2.out e.symm)).trans HgF3.out)
              have Hown4 := hid hown4
              have HB4 := hid (HB3.out.trans hB4)
              clear hown3 hown4 hgrow4 hat4 hB4
              go_wp2_with fail
              go_roundw
              case rel => exact ⟨k + 1, v', by omega, rfl, by go_num, hid (by rw [hsL_snoc]; exact Hown4.out), Hat4, HgF4, HB4⟩
              case measure => simp [RowKit.intOf]; omega
        · obtain rfl : k = d + 1 := by omega
          rw [← Hnum.out] at HR
          go_wp2_with fail
          go_ret
          exact ⟨_, rfl, ownsRow_base HR.out HB1.out.size, HB1.out.trans (HB2.out.mono HB1.out.size)⟩

set_option maxRecDepth 100000 in
set_option maxHeartbeats 2000000 in
theorem specNumbersH (V : Int) (a0 : Option Addr) (cap : Nat) (fs : List Int) (w : World) (hx : SlI w w.heap.size a0 fs) (hl : fs.length ≤ 1048576) :
    Calls Try.prog 45 #[.agg #[.int .i64 V, .slice a0 fs.length cap]] w fun e w' => ∃ v, e = .returned (.tuple #[v, .int .i64 (numHR V fs).2]) ∧ Res w w' v (numHR V fs).1 := by
  have hB0 : Below w.heap.size w (w.alloc (.cells #[.int .i64 V, .slice a0 fs.length cap] 30)) := (Below.refl _ w).alloc (Nat.le_refl _) _
  have Hx := hid (hx.later hB0 (by simp))
  by_cases hC : IsC V fs
  · obtain ⟨T, hT⟩ : ∃ T : Nat, (top fs + 1).toNat = T := ⟨_, rfl⟩
    refine pair_mono (show numHR V fs = (numHL fs T, 0) by unfold numHR; rw [isCB_true hC, if_pos rfl, hT]) ?_
    have HI := hid (is_yes V a0 cap fs _ Hx.out hl hC)
    have HL := hid (fun (W : World) (h : Below w.heap.size w W) => lH_any V a0 cap fs W (hx.later h h.size) hl hC T hT)
    have HB0 := hid hB0
    clear hx hC hT hB0
    go_enter Try.func45, Try.ntmps45
    go_wp2_with fail
    refine HI.out.mono ?_
    rintro e w1 ⟨rfl, hB1⟩
    have k0 : w1.cell? ⟨w.heap.size, 0, none⟩ = some (.int .i64 V) := (hB1.cell (p := ⟨w.heap.size, 0, none⟩) (by simp)).trans (by simp [go_sem])
    have k1 : w1.cell? ⟨w.heap.size, 1, none⟩ = some (.slice a0 fs.length cap) := (hB1.cell (p := ⟨w.heap.size, 1, none⟩) (by simp)).trans (by simp [go_sem])
    have HB1 := hid (HB0.out.trans (hB1.mono (by simp)))
    have HLq := hid (HL.out w1 HB1.out)
    clear hB1
    go_wp2_with fail
    refine HLq.out.mono ?_
    rintro e w2 ⟨v2, rfl, hr2⟩
    have Hr2 := hid hr2
    clear hr2 k0 k1
    go_wp2_with fail
    go_ret2
    exact ⟨_, rfl, ownsRow_base Hr2.out.1 HB1.out.size, HB1.out.trans (Hr2.out.2.mono HB1.out.size)⟩
  · refine pair_mono (show numHR V fs = ([], 1) by unfold numHR; rw [isCB_false hC, if_neg (by simp)]) ?_
    go_enter Try.func45, Try.ntmps45
    go_wp2_with fail
    refine (is_no V a0 cap fs _ Hx.out hl hC).mono ?_
    rintro e w1 ⟨rfl, hB1⟩
    go_wp2_with fail
    go_ret2
    exact ⟨_, rfl, res_nil _ _ (hB0.trans (hB1.mono (by simp)))⟩

end Go.Proofs.Ytgcpakhagbbiiaa

/-! The law on NumbersH, walked. -/
namespace Go.Proofs.Ytgcpakhagbbiiaa
open Go.RowKit

set_option maxRecDepth 100000 in
set_option maxHeartbeats 4000000 in
theorem law_NumbersH (V : Int) (a : Option Addr) (cap : Nat) (xs : List Int) (w : World) (hx : SlI w w.heap.size a xs) (hn : xs.length ≤ 9223372036854775807) :
    Calls Try.prog 10 #[.agg #[.int .i64 V, .slice a xs.length cap]] w fun e w' => e = .returned (.bool true) ∧ Below w.heap.size w w' := by
  have hB0 : Below w.heap.size w (w.alloc (.cells #[.int .i64 V, .slice a xs.length cap] 24)) := (Below.refl _ w).alloc (Nat.le_refl _) _
  obtain ⟨r, hr⟩ : ∃ r, r = szR 1048576 xs.length := ⟨_, rfl⟩
  have Hr := hid hr
  by_cases hl : 1048576 < xs.length
  · have hr1 : r = -1 := by rw [hr]; exact szR_big (by omega)
    clear hr
    go_enter Try.func10, Try.ntmps10
    go_wp2_with fail
    refine (szCx V a xs.length cap 1048576 _ (by omega) (by omega) hn).mono ?_
    rintro e w1 ⟨rfl, hB1⟩
    rw [← Hr.out]
    go_wp2_with fail
    go_ret
    exact ⟨rfl, hB0.trans (hB1.mono (by simp))⟩
  · have hr1 : 0 ≤ r := by rw [hr, szR_fit (by omega)]; omega
    have hl' : xs.length ≤ 1048576 := by omega
    clear hr hl
    have F0 : Facts w w [(a, xs)] [] [] := ⟨Below.refl _ _, by simpa using hx, by simp, by simp⟩
    have F1 := F0.alloc (.cells #[.int .i64 V, .slice a xs.length cap] 24)
    obtain ⟨R, hR⟩ : ∃ R, R = numHR V xs := ⟨_, rfl⟩
    have hRl : R.1.length ≤ 1048576 := by rw [hR]; exact numHR_len V xs hl'
    obtain ⟨ys, c⟩ := R
    have HS : Hid (∀ a' cap' w', SlI w' w'.heap.size a' xs → Calls Try.prog 45 #[.agg #[.int .i64 V, .slice a' xs.length cap']] w' fun e w'' => ∃ v, e = .returned (.tuple #[v, .int .i64 c]) ∧ Res w' w'' v ys) :=
      hid (fun a' cap' w' h => by have := specNumbersH V a' cap' xs w' h hl'; rwa [← hR] at this)
    have HI : Hid (∀ a' cap' w', SlI w' w'.heap.size a' xs → Calls Try.prog 46 #[.agg #[.int .i64 V, .slice a' xs.length cap']] w' fun e w'' => ∃ v, e = .returned (.tuple #[v, .int .i64 c]) ∧ Res w' w'' v ys) :=
      hid (fun a' cap' w' h => by have := implNumbersH V a' cap' xs w' h hl'; rwa [← hR] at this)
    have hcc : (c != c) = false := by simp
    simp only at hRl
    clear hR hx hB0 F0
    go_enter Try.func10, Try.ntmps10
    go_wp2_with fail
    refine (szCx V a xs.length cap 1048576 _ (by omega) (by omega) hn).mono ?_
    rintro e w1 ⟨rfl, hB1⟩
    rw [← Hr.out]
    have F2 := F1.below hB1
    have z1 := hB1.size
    simp only [World.size_alloc] at z1
    obtain ⟨k0, k1⟩ := F2.two (.head _)
    go_wp2_with fail
    refine (toCx V a cap xs _ (F2.arg (.head _)) hl').mono ?_
    rintro e w2 ⟨g2, rfl, hown2, hB2⟩
    have F3 := F2.below hB2
    have z2 := hB2.size
    clear k0 k1
    go_wp2_with fail
    refine (HS.out _ _ _ (owned_slI hown2)).mono ?_
    rintro e w3 ⟨vw, rfl, hres3⟩
    have z3 := hres3.2.size
    obtain ⟨_, aw, cw, rfl, _⟩ := ownsRow_slI hres3.1
    have F4 := F3.slice hres3.1 hres3.2
    obtain ⟨k0, k1⟩ := F4.two (.head _)
    clear hown2 hB1 hB2 hres3
    go_wp2_with fail
    refine (toCx V a cap xs _ (F4.arg (.head _)) hl').mono ?_
    rintro e w4 ⟨g4, rfl, hown4, hB4⟩
    have z4 := hB4.size
    have F5 := (F4.slice hown4 hB4).alloc (.cells #[.int .i64 V, .slice (some ⟨g4, 0, none⟩) xs.length xs.length] 30)
    clear k0 k1 hown4 hB4
    go_wp2_with fail
    refine (HI.out _ _ _ (F5.slI (.head _))).mono ?_
    rintro e w5 ⟨vg, rfl, hres5⟩
    have z5 := hres5.2.size
    obtain ⟨_, ag, cg, rfl, _⟩ := ownsRow_slI hres5.1
    have F6 := F5.slice hres5.1 hres5.2
    simp only [World.size_alloc] at z4 z5 F6
    clear hres5
    go_wp2_with fail
    refine (eqInts_yes _ _ _ _ ys ys _ (F6.slI (.head _)) (F6.slI (.tail _ (.tail _ (.head _)))) hRl hRl rfl).mono ?_
    rintro e w6 ⟨rfl, hB6⟩
    have F7 := F6.below hB6
    have F7d := F7.drew
    obtain ⟨j0, j1⟩ := F7.two (.head _)
    obtain ⟨k0, k1⟩ := F7.two (.tail _ (.head _))
    have G7 := hid F7d
    clear F1 F2 F3 F4 F5 F6 F7 F7d hB6
    go_wp2_with fail
    go_region_with (first
      | (go_at_call 18; refine (toCx V a cap xs _ (G7.out.arg (.head _)) hl').mono ?_; rintro e w7 ⟨g7, rfl, hown7, hB7⟩; obtain ⟨j07, j17⟩ := (G7.out.below hB7).two (.head _); have F8 := hid (G7.out.slice hown7 hB7); clear hown7 hB7)
      | (go_at_call 22; refine (eqCx_yes V _ _ _ _ xs xs _ (F8.out.slI (.tail _ (.tail _ (.head _)))) (F8.out.slI (.head _)) hl' hl' rfl).mono ?_; rintro e w8 ⟨rfl, hB8⟩))
    all_goals
      have F9 := F8.out.below hB8
      have G9 := hid F9
      obtain ⟨j09, j19⟩ := F9.two (.head _)
      clear F8 F9 hB8 G7 k0 k1 j0 j1 j07 j17
      go_wp2_with fail
      refine (markCx V _ _ _ xs 1 _ (G9.out.own (.tail _ (.tail _ (.head _)))) hl' (by omega) (by omega)).mono ?_
      rintro e w10 ⟨rfl, hown10, hg10⟩
      have G10 := hid (G9.out.mark (ys := count 1 xs.length) (L' := [⟨w4.heap.size + 1, w5.heap.size, .slice ag ys.length cg, ys⟩, ⟨w2.heap.size, w3.heap.size, .slice aw ys.length cw, ys⟩]) (.tail _ (.tail _ (.head _))) (by rw [count_len]; exact hown10) hg10 (by simp only; omega) (by simp; omega) (by simp <;> omega))
      clear G9 hown10 hg10 j09 j19
      go_wp2_with fail
      refine (eqInts_yes _ _ _ _ ys ys _ (G10.out.slI (.head _)) (G10.out.slI (.tail _ (.head _))) hRl hRl rfl).mono ?_
      rintro e w11 ⟨rfl, hB11⟩
      have G11 := hid (G10.out.below hB11)
      clear G10 hB11
      go_wp2_with fail
      refine (markInts _ _ _ ys 1 _ (G11.out.own (.head _)) hRl (by omega) (by omega)).mono ?_
      rintro e w12 ⟨rfl, hown12, hg12⟩
      have G12 := hid (G11.out.mark (ys := count 1 ys.length) (L' := [⟨w4.heap.size + 1, w5.heap.size, .slice ag ys.length cg, count 1 ys.length⟩, ⟨w2.heap.size, w3.heap.size, .slice aw ys.length cw, ys⟩]) (.head _) (by rw [count_len]; exact hown12) hg12 (by simp only; omega) (by simp; omega) (by simp; omega))
      clear G11 hown12 hg12
      go_wp2_with fail
      refine (heldInts _ _ ys.length _ 1 _ rfl (G12.out.slI (.head _)) hRl (by omega) (by omega)).mono ?_
      rintro e w13 ⟨rfl, hB13⟩
      have G13 := hid (G12.out.below hB13)
      obtain ⟨k0, k1⟩ := G13.out.two (.tail _ (.head _))
      clear G12 hB13
      have hnn : ((1 : Int) + ys.length != 1 + ys.length) = false := by simp
      go_wp2_with fail
      refine (toCx V a cap xs _ (G13.out.arg (.head _)) hl').mono ?_
      rintro e w14 ⟨g14, rfl, hown14, hB14⟩
      have G14 := hid (G13.out.below hB14)
      have Hown14 := hid (owned_slI hown14)
      clear G13 hB14 hown14 k0 k1
      go_wp2_with fail
      refine (HI.out _ _ _ Hown14.out).mono ?_
      rintro e w15 ⟨vh, rfl, hres15⟩
      obtain ⟨_, ah, ch, rfl, _⟩ := ownsRow_slI hres15.1
      have G15 := hid (G14.out.slice hres15.1 hres15.2)
      clear G14 Hown14 hres15
      go_wp2_with fail
      refine (eqInts_yes _ _ _ _ ys ys _ (G15.out.slI (.head _)) (G15.out.slI (.tail _ (.tail _ (.head _)))) hRl hRl rfl).mono ?_
      rintro e w16 ⟨rfl, hB16⟩
      have G16 := hid (G15.out.below hB16)
      clear G15 hB16
      go_wp2_with fail
      refine (heldInts _ _ ys.length _ 1 _ rfl (G16.out.slI (.tail _ (.head _))) hRl (by omega) (by omega)).mono ?_
      rintro e w17 ⟨rfl, hB17⟩
      have G17 := hid (G16.out.below hB17)
      clear G16 hB17
      go_wp2_with fail
      go_ret
      exact ⟨rfl, G17.out.from0⟩

end Go.Proofs.Ytgcpakhagbbiiaa
