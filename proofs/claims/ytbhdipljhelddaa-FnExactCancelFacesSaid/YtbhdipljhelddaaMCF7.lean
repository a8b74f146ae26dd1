import Derived.Maps.OwnIn
import Derived.Sort.OwnSortedInts
import Derived.Lib.AppendZeros
import Derived.Lib.SliceRun
import Derived.Laws.OwnMore
import Derived.Shelf.SlLaysF0
import Derived.Ground.SlsfProg
import Derived.Test.YtbhdipljhelddaaProg
import Derived.Test.YtbhdipljhelddaaMCF1
import Derived.Test.YtbhdipljhelddaaMCF2
import Derived.Test.YtbhdipljhelddaaMCF4
import Derived.Test.YtbhdipljhelddaaMCF5
import Derived.Test.YtbhdipljhelddaaMCF6
/-! isAcyclic, and IsAcyclicPairing's door, the program's. -/
namespace Go.Proofs.Ytbhdipljhelddaa
open Go.RowKit

theorem sub_len : ∀ (A B : List Nat), A.Nodup → (∀ x ∈ A, x ∈ B) → A.length ≤ B.length
  | [], _, _, _ => by simp
  | x :: A, B, hn, h => by
    obtain ⟨h1, h2⟩ := List.nodup_cons.1 hn
    have ih := sub_len A (B.erase x) h2 (fun y hy => (List.mem_erase_of_ne (fun e => h1 (by rw [← e]; exact hy))).2 (h y (List.mem_cons_of_mem _ hy)))
    have hx : x ∈ B := h x (by simp)
    have hl := List.length_erase_of_mem hx
    have hp : 0 < B.length := List.length_pos_of_mem hx
    simp only [List.length_cons]
    omega
/-- All pairs have settled exactly if there is no cycle. -/
theorem stl_all {ps : List Int} {n : Nat} {L : List Nat} (h : Stl ps n L) (hs : SatTo ps n n L) : NoCycle ps n ↔ L.length = n := by
  constructor
  · intro hc
    have hall := acyclic_settled hc hs
    have h1 := sub_len (List.range n) L List.nodup_range (fun x hx => hall x (by simpa using hx))
    rw [List.length_range] at h1
    have := h.len
    omega
  · intro hl
    refine settled_acyclic h.ord (fun i hi => Classical.byContradiction fun hn => ?_)
    have := nodup_le n (L ++ [i]) (by
      rw [List.nodup_append]
      exact ⟨h.nodup, by simp, fun a ha b hb => by simp at hb; subst hb; exact fun e => hn (e ▸ ha)⟩) (fun j hj => by
      rcases List.mem_append.1 hj with h1 | h1
      · exact h.lt j h1
      · simp at h1; omega)
    simp at this
    omega
theorem stl_acyB {ps : List Int} {n : Nat} {L : List Nat} (h : Stl ps n L) (hs : SatTo ps n n L) : ((L.length : Int) == (n : Int)) = acyB ps n := by
  by_cases hc : NoCycle ps n
  · rw [acyB_true hc]
    rw [(stl_all h hs).1 hc]
    simp
  · rw [acyB_false hc]
    have : L.length ≠ n := fun e => hc ((stl_all h hs).2 e)
    simp
    omega

set_option maxRecDepth 1000000 in
set_option maxHeartbeats 2000000 in
theorem isAcy_any (a1 : Option Addr) (n cap1 : Nat) (ps : List Int) (w : World) (hx1 : SlI w w.heap.size a1 ps) (hp : ps.length = 2 * n) (hn : n ≤ 1048576) (hw : ∀ x ∈ ps, (Lit.int .i64 x).wf = true) (hd : LowsApart ps n) (hh : HighsB ps n) :
    Calls Try.prog 174 #[.slice a1 n cap1] w fun e w' => e = .returned (.bool (acyB ps n)) ∧ Below w.heap.size w w' := by
  have HS := hid (callsIn_wide.1 (settled_in a1 n cap1 ps w hx1 hp hn hw hd hh))
  clear hx1 hp hw hd hh
  go_enter Try.func174, Try.ntmps174
  go_wp2_with (go_at_call 61; refine HS.out.mono ?_; rintro e w1 ⟨L, v, rfl, hS, hsat, hr⟩; obtain ⟨_, av, cp, rfl, _⟩ := pairs_form hr.1; rw [setP_len]; have he := stl_acyB hS hsat; have hB := hid hr.2; clear hS hsat hr)
  go_ret
  exact ⟨rfl, hB.out⟩


end Go.Proofs.Ytbhdipljhelddaa

/-! CountGradientWays, the program's. -/
namespace Go.Proofs.Ytbhdipljhelddaa
open Go.RowKit Go.Shelf

attribute [local go_sem] Oper.semAt_some

theorem pairs_slI {w : World} {base e n : Nat} {v : Value} {L : List (Int × Int)} (h : w.ownsRow base e 2 v n ((flatP L).map (Value.int .i64))) :
    n = L.length ∧ ∃ a cap, v = .slice a L.length cap ∧ SlI w w.heap.size a (flatP L) := by
  have hl := h.1
  simp [flatP_len] at hl
  have hn : n = L.length := by omega
  refine ⟨hn, ?_⟩
  rcases h.2 with ⟨rfl, hn0⟩ | ⟨g, cap, cur, rfl, _, hg, _⟩
  · have : L = [] := List.eq_nil_of_length_eq_zero (by omega)
    subst this
    exact ⟨none, 0, rfl, .inl rfl⟩
  · refine ⟨_, cap, by rw [hn], .inr ⟨g, 0, (Array.getElem?_eq_some_iff.1 hg).1, rfl, fun i hi => ?_⟩⟩
    have := h.cells (g := g) rfl i (.int .i64 ((flatP L)[i]?.getD 0)) (by simp [hi])
    have hadd : (⟨g, 0, none⟩ : Addr).add i = ⟨g, i, none⟩ := by unfold Addr.add; split <;> simp_all
    rw [hadd] at this
    simpa using this

/-- Ahead of settled pair k. -/
def GwIn (w3 : World) (M C n c2 : Nat) (a2 : Option Addr) (a b : Int) (ps : List Int) (L : List Nat) (a' : Act) (W : World) : Prop :=
  ∃ (k : Nat) (Ds : List Nat) (us : Nat → Value), a' = { tmps := List.toArray (us 0 :: us 1 :: (.int .i64 a) :: us 3 :: us 4 :: us 5 :: us 6 :: us 7 :: us 8 :: us 9 :: us 10 :: us 11 :: (.map (some M)) :: (.pointer (some ⟨C + 1, 0, none⟩)) :: us 14 :: us 15 :: us 16 :: us 17 :: us 18 :: us 19 :: us 20 :: us 21 :: us 22 :: us 23 :: us 24 :: us 25 :: us 26 :: us 27 :: us 28 :: us 29 :: us 30 :: us 31 :: us 32 :: us 33 :: us 34 :: us 35 :: us 36 :: us 37 :: us 38 :: us 39 :: us 40 :: us 41 :: us 42 :: us 43 :: us 44 :: us 45 :: us 46 :: (.slice a2 n c2) :: (.int .i64 (n : Int)) :: (.int .i64 (k : Int)) :: us 50 :: us 51 :: us 52 :: us 53 :: us 54 :: us 55 :: us 56 :: us 57 :: us 58 :: us 59 :: us 60 :: us 61 :: us 62 :: us 63 :: us 64 :: us 65 :: us 66 :: us 67 :: us 68 :: us 69 :: []), defers := marks Ds } ∧ Hid (GwW w3 W (1 + 64 * k) (gwV ps n b L k) Ds) ∧ k ≤ n
theorem gwIn_of {w3 W : World} {M C n c2 : Nat} {a2 : Option Addr} {a b : Int} {ps : List Int} {L : List Nat} {k : Nat} {Ds : List Nat} (tm : Array Value) (ds : List Deferred) (hds : ds = marks Ds)
    (h : tm = List.toArray (tm.getD 0 undef :: tm.getD 1 undef :: (.int .i64 a) :: tm.getD 3 undef :: tm.getD 4 undef :: tm.getD 5 undef :: tm.getD 6 undef :: tm.getD 7 undef :: tm.getD 8 undef :: tm.getD 9 undef :: tm.getD 10 undef :: tm.getD 11 undef :: (.map (some M)) :: (.pointer (some ⟨C + 1, 0, none⟩)) :: tm.getD 14 undef :: tm.getD 15 undef :: tm.getD 16 undef :: tm.getD 17 undef :: tm.getD 18 undef :: tm.getD 19 undef :: tm.getD 20 undef :: tm.getD 21 undef :: tm.getD 22 undef :: tm.getD 23 undef :: tm.getD 24 undef :: tm.getD 25 undef :: tm.getD 26 undef :: tm.getD 27 undef :: tm.getD 28 undef :: tm.getD 29 undef :: tm.getD 30 undef :: tm.getD 31 undef :: tm.getD 32 undef :: tm.getD 33 undef :: tm.getD 34 undef :: tm.getD 35 undef :: tm.getD 36 undef :: tm.getD 37 undef :: tm.getD 38 undef :: tm.getD 39 undef :: tm.getD 40 undef :: tm.getD 41 undef :: tm.getD 42 undef :: tm.getD 43 undef :: tm.getD 44 undef :: tm.getD 45 undef :: tm.getD 46 undef :: (.slice a2 n c2) :: (.int .i64 (n : Int)) :: (.int .i64 (k : Int)) :: tm.getD 50 undef :: tm.getD 51 undef :: tm.getD 52 undef :: tm.getD 53 undef :: tm.getD 54 undef :: tm.getD 55 undef :: tm.getD 56 undef :: tm.getD 57 undef :: tm.getD 58 undef :: tm.getD 59 undef :: tm.getD 60 undef :: tm.getD 61 undef :: tm.getD 62 undef :: tm.getD 63 undef :: tm.getD 64 undef :: tm.getD 65 undef :: tm.getD 66 undef :: tm.getD 67 undef :: tm.getD 68 undef :: tm.getD 69 undef :: [])) (HW : Hid (GwW w3 W (1 + 64 * k) (gwV ps n b L k) Ds)) (h1 : k ≤ n) : GwIn w3 M C n c2 a2 a b ps L { tmps := tm, defers := ds } W :=
  ⟨k, Ds, fun i => tm.getD i undef, by rw [hds]; exact congrArg (fun t => ({ tmps := t, defers := marks Ds } : Act)) h, HW, h1⟩


end Go.Proofs.Ytbhdipljhelddaa

/-! Dimensions of any numbers. -/
namespace Go.Proofs.Ytbhdipljhelddaa
open Go.RowKit Go.Shelf

set_option maxRecDepth 100000 in
set_option maxHeartbeats 1000000 in
theorem oc_free (x : Int) (w : World) : Calls Try.prog 163 #[.int .u64 x] w fun e w' => ∃ c, e = .returned (.int .i64 c) ∧ w = w' := by
  go_enter Try.func163, Try.ntmps163
  go_wp2
  go_ret
  exact ⟨_, rfl, rfl⟩
set_option maxHeartbeats 400000 in
theorem dim_free (x : Int) (w : World) : Calls Try.prog 107 #[.int .i64 x] w fun e w' => ∃ c, e = .returned (.int .i64 c) ∧ w = w' := by
  go_enter Try.func107, Try.ntmps107
  go_wp2_with fail
  refine (oc_free _ _).mono ?_
  rintro e w' ⟨c, rfl, rfl⟩
  go_wp2_with fail
  go_ret
  exact ⟨_, rfl, rfl⟩

end Go.Proofs.Ytbhdipljhelddaa

/-! l06Critical. -/
namespace Go.Proofs.Ytbhdipljhelddaa
open Go.RowKit

theorem mem_critL {fs ps : List Int} {x : Int} : x ∈ critL fs ps ↔ critB fs ps x = true := by
  unfold critL critB
  simp

set_option maxRecDepth 1000000 in
set_option maxHeartbeats 2000000 in
theorem crit6_any (V : Int) (a0 : Option Addr) (cap : Nat) (fs : List Int) (a1 : Option Addr) (n cap1 : Nat) (ps : List Int) (f : Int) (w : World) (hx : SlI w w.heap.size a0 fs) (hx1 : SlI w w.heap.size a1 ps) (hl : fs.length ≤ 1048576) (hp : ps.length = 2 * n) (hn : n ≤ 1048576) :
    Calls Try.prog 111 #[.agg #[.int .i64 V, .slice a0 fs.length cap], .slice a1 n cap1, .int .i64 f] w fun e w' => e = .returned (.bool (critB fs ps f)) ∧ Below w.heap.size w w' := by
  have hB0 : Below w.heap.size w (w.alloc (.cells #[.int .i64 V, .slice a0 fs.length cap] 28)) := (Below.refl _ w).alloc (Nat.le_refl _) _
  have HN := hid (critS_any V a0 cap fs a1 n cap1 ps _ (hx.later hB0 hB0.size) (hx1.later hB0 hB0.size) hl hp hn)
  obtain ⟨E, hE⟩ : ∃ E, E = critB fs ps f := ⟨_, rfl⟩
  rw [← hE]
  have HE := hid hE
  obtain ⟨C, hC⟩ : ∃ C, C = critL fs ps := ⟨_, rfl⟩
  have hml : C.length ≤ 1048576 := by rw [hC]; exact Nat.le_trans (List.length_filter_le _ _) hl
  have HMem : Hid (f ∈ C ↔ critB fs ps f = true) := hid (by rw [hC]; exact mem_critL)
  rw [← hC] at HN
  have HB0 := hid hB0
  clear hx hx1 hp hE hC hB0
  go_enter Try.func111, Try.ntmps111
  go_wp2_with fail
  refine HN.out.mono ?_
  rintro e w1 ⟨v, rfl, hR⟩
  obtain ⟨_, av, cv, rfl, hs⟩ := ownsRow_slI hR.1
  have HS := hid hs
  have HB1 := hid (HB0.out.trans (hR.2.mono HB0.out.size))
  clear hR hs
  go_wp2_with fail
  go_loopw [8] (fun i wr => ∃ k : Nat, k ≤ C.length ∧ i = .int .i64 k ∧ Hid (f ∉ C.take k) ∧ wr = w1) (fun i _ => C.length - (intOf i).toNat)
  case atStart => exact ⟨0, Nat.zero_le _, rfl, hid (by simp), rfl⟩
  case round =>
    obtain ⟨k, hk, rfl, Hk, rfl⟩ := hrel
    by_cases hlt : k < C.length
    · obtain ⟨y, hy⟩ : ∃ y, y = C[k]?.getD 0 := ⟨_, rfl⟩
      obtain ⟨g, off, hgb, rfl, hcl⟩ : ∃ g off, g < wr.heap.size ∧ av = some ⟨g, off, none⟩ ∧ ∀ i, i < C.length → wr.cell? ⟨g, off + i, none⟩ = some (.int .i64 (C[i]?.getD 0)) := by
        rcases HS.out with h | h
        · rw [h] at hlt; simp at hlt
        · exact h
      have hck : wr.cell? ⟨g, off + k, none⟩ = some (.int .i64 y) := by rw [hy]; exact hcl k hlt
      have hi0 : (0 : Int) ≤ (k : Int) := by omega
      have hi1 : (k : Int) < (C.length : Int) := by omega
      have Hy := hid hy
      clear hcl hy
      by_cases hyf : y = f
      · have hd : (y == f) = true := by simp [hyf]
        have He : Hid (E = true) := hid (by rw [HE.out]; exact HMem.out.1 (by rw [← hyf, Hy.out]; exact getD_mem hlt))
        clear hyf
        go_wp2_with fail
        go_ret
        exact ⟨ret_bool (by rw [He.out]), HB1.out⟩
      · have hd : (y == f) = false := by simp [hyf]
        have He : Hid (f ∉ C.take (k + 1)) := hid (by
          rw [take_snoc hlt, ← Hy.out]
          intro h
          rcases List.mem_append.1 h with h | h
          · exact Hk.out h
          · simp at h; exact hyf h.symm)
        clear hyf
        go_wp2_with fail
        go_roundw
        case rel => exact ⟨k + 1, by omega, by go_num, He, by first | rfl | trivial⟩
        case measure => simp [intOf]; omega
    · have He : Hid (E = false) := hid (by
        have h2 := Hk.out
        rw [List.take_of_length_le (by omega)] at h2
        rw [HE.out]
        cases h3 : critB fs ps f
        · rfl
        · exact absurd (HMem.out.2 h3) h2)
      go_wp2_with fail
      go_ret
      exact ⟨ret_bool (by rw [He.out]), HB1.out⟩

end Go.Proofs.Ytbhdipljhelddaa

/-! WaysBetween, the model's. -/
namespace Go.Proofs.Ytbhdipljhelddaa
open Go.RowKit

/-- The ways by the first k faces below b. -/
def wsPart (ps : List Int) (n b : Nat) (a : Int) (k : Nat) : Int := (((belowR b 63).take k).map (gw ps n a)).sum
theorem wsPart_succ {ps : List Int} {n b : Nat} {a : Int} {k : Nat} (hk : k < (belowR b 63).length) : wsPart ps n b a (k + 1) = wsPart ps n b a k + gw ps n a ((belowR b 63)[k]?.getD 0) := by
  unfold wsPart
  rw [List.take_add_one, List.getElem?_eq_getElem hk]
  simp only [Option.toList_some, List.map_append, List.map_cons, List.map_nil, List.sum_append, List.sum_cons, List.sum_nil, Option.getD_some, Int.add_zero]
theorem wsPart_all {ps : List Int} {n b : Nat} (hb : b < 64) (a : Int) : wsPart ps n b a (belowR b 63).length = wsum ps n (b : Int) a := by
  unfold wsPart wsum
  rw [List.take_length, Int.toNat_natCast]
  have e := sides_below ⟨b, hb⟩
  simp only at e
  have e2 : (sidesF b).map (fun s => gw ps n a (s.val : Int)) = ((belowR b 63).map (gw ps n a)).reverse := by
    rw [← List.map_reverse, ← e, List.map_map]
    rfl
  rw [e2, int_sum_reverse]

set_option maxRecDepth 1000000 in
set_option maxHeartbeats 2000000 in
theorem between_any (a1 : Option Addr) (n cap : Nat) (ps : List Int) (b : Nat) (a : Int) (w : World) (hx : SlI w w.heap.size a1 ps) (hp : ps.length = 2 * n) (hl : n ≤ 1048576) (hh : HighsB ps n) (hc : NoCycle ps n) (hb : b < 64) :
    Calls Try.prog 51 #[.slice a1 n cap, .int .i64 (b : Int), .int .i64 a] w fun e w' => e = .returned (.int .i64 (wrap64 (wsum ps n (b : Int) a))) ∧ Below w.heap.size w w' := by
  have HN := hid (below_any b w hb)
  have HH := hid (fun y w' (h : Below w.heap.size w w') => ways_any a1 n cap ps a y w' (hx.later h h.size) hp hl hh hc)
  obtain ⟨E, hE⟩ : ∃ E, E = wsum ps n (b : Int) a := ⟨_, rfl⟩
  rw [← hE]
  have HE := hid (hE.trans (wsPart_all (ps := ps) (n := n) hb a).symm)
  obtain ⟨m, hm⟩ : ∃ m, m = (belowR b 63).length := ⟨_, rfl⟩
  have hml : m ≤ 63 := by rw [hm]; exact belowR_len _ _
  have Hm := hid hm
  rw [← hm] at HN HE
  clear hx hp hh hc hE hm
  go_enter Try.func51, Try.ntmps51
  go_wp2_with fail
  refine HN.out.mono ?_
  rintro e w1 ⟨v, rfl, hR, hB1⟩
  obtain ⟨hgb, av, cv, rfl, hs⟩ := ownsRow_slI hR
  have HS := hid hs
  have HB1 := hid hB1
  rw [← Hm.out]
  clear hR hs hgb hB1
  go_wp2_with fail
  go_loopw [8, 9] (fun t i wr => ∃ k : Nat, k ≤ m ∧ i = .int .i64 k ∧ t = .int .i64 (wrap64 (wsPart ps n b a k)) ∧ Below w1.heap.size w1 wr) (fun _ i _ => m - (intOf i).toNat)
  case atStart => exact ⟨0, Nat.zero_le _, rfl, by simp [wsPart, wrap64], Below.refl _ _⟩
  case round =>
    obtain ⟨k, hk, rfl, rfl, hB⟩ := hrel
    by_cases hlt : k < m
    · obtain ⟨y, hy⟩ : ∃ y, y = (belowR b 63)[k]?.getD 0 := ⟨_, rfl⟩
      obtain ⟨g, off, hgb, rfl, hcl⟩ : ∃ g off, g < w1.heap.size ∧ av = some ⟨g, off, none⟩ ∧ ∀ i, i < (belowR b 63).length → w1.cell? ⟨g, off + i, none⟩ = some (.int .i64 ((belowR b 63)[i]?.getD 0)) := by
        rcases HS.out with h | h
        · have := Hm.out; rw [h] at this; simp at this; omega
        · exact h
      have hck : wr.cell? ⟨g, off + k, none⟩ = some (.int .i64 y) := by rw [hy]; exact (hB.cell (p := ⟨g, off + k, none⟩) hgb).trans (hcl k (by have := Hm.out; omega))
      have HC := hid (HH.out y wr (HB1.out.trans (hB.mono HB1.out.size)))
      have hsum : Hid (wrap64 (wrap64 (wsPart ps n b a k) + wrap64 (gw ps n a y)) = wrap64 (wsPart ps n b a (k + 1))) := hid (by rw [wrap64_add, wsPart_succ (by have := Hm.out; omega), ← hy])
      have hi0 : (0 : Int) ≤ (k : Int) := by omega
      have hi1 : (k : Int) < (m : Int) := by omega
      have HB := hid hB
      clear hy hcl hB
      go_wp2_with fail
      refine HC.out.mono ?_
      rintro e w2 ⟨rfl, hB2⟩
      have HB2 := hid (HB.out.trans (hB2.mono HB.out.size))
      clear hB2
      go_wp2_with fail
      go_roundw
      case rel => exact ⟨k + 1, by omega, by go_num, congrArg (Value.int .i64) hsum.out, HB2.out⟩
      case measure => simp [intOf]; omega
    · obtain rfl : k = m := by omega
      go_wp2_with fail
      go_ret
      exact ⟨ret_int (by rw [HE.out]), HB1.out.trans (hB.mono HB1.out.size)⟩

/-- b and a are critical faces, b of one dimension more. -/
def suchB (fs ps : List Int) (b a : Int) : Bool := critB fs ps b && (critB fs ps a && decide (ones b.toNat = ones a.toNat + 1))
noncomputable def givenR (V : Int) (fs : List Int) (n : Nat) (ps : List Int) (b a : Int) : Int := if pcodeR V fs n ps = 0 then (if suchB fs ps b a then (if acyB ps n then 0 else 5) else 2) else pcodeR V fs n ps
noncomputable def waysBR (V : Int) (fs : List Int) (n : Nat) (ps : List Int) (b a : Int) : Int × Int := if givenR V fs n ps b a = 0 then (wrap64 (wsum ps n b a), 0) else (0, givenR V fs n ps b a)

set_option maxRecDepth 1000000 in
set_option maxHeartbeats 4000000 in
theorem given_any (V : Int) (a0 : Option Addr) (cap : Nat) (fs : List Int) (a1 : Option Addr) (n cap1 : Nat) (ps : List Int) (b a : Int) (w : World) (hx : SlI w w.heap.size a0 fs) (hx1 : SlI w w.heap.size a1 ps) (hl : fs.length ≤ 1048576) (hp : ps.length = 2 * n) (hn : n ≤ 1048576) :
    Calls Try.prog 50 #[.agg #[.int .i64 V, .slice a0 fs.length cap], .slice a1 n cap1, .int .i64 b, .int .i64 a] w fun e w' => e = .returned (.int .i64 (givenR V fs n ps b a)) ∧ Below w.heap.size w w' := by
  have hB0 : Below w.heap.size w (w.alloc (.cells #[.int .i64 V, .slice a0 fs.length cap] 28)) := (Below.refl _ w).alloc (Nat.le_refl _) _
  have HK := hid (pcode_spec V a0 cap fs a1 n cap1 ps _ (hx.later hB0 hB0.size) (hx1.later hB0 hB0.size) hl hp hn)
  have HB0 := hid hB0
  obtain ⟨E, hE⟩ : ∃ E, E = givenR V fs n ps b a := ⟨_, rfl⟩
  rw [← hE]
  by_cases hpc : pcodeR V fs n ps = 0
  · have hCO : IsC V fs ∧ OkTo fs ps n := by
      rcases pcode_cases V fs n ps with ⟨hC, ho, _⟩ | ⟨_, _, h2, _⟩ | ⟨_, h2, _⟩
      · exact ⟨hC, ho⟩
      · rw [h2] at hpc; cases hpc
      · rw [h2] at hpc; cases hpc
    have hE1 : E = if suchB fs ps b a then (if acyB ps n then 0 else 5) else 2 := by rw [hE, givenR, if_pos hpc]
    rw [hpc] at HK
    have HCb := hid (fun w1 (h : Below w.heap.size w w1) => crit6_any V a0 cap fs a1 n cap1 ps b w1 (hx.later h h.size) (hx1.later h h.size) hl hp hn)
    have HCa := hid (fun w1 (h : Below w.heap.size w w1) => crit6_any V a0 cap fs a1 n cap1 ps a w1 (hx.later h h.size) (hx1.later h h.size) hl hp hn)
    have HA := hid (fun w1 (h : Below w.heap.size w w1) => acyclicS_any a1 n cap1 ps w1 (hx1.later h h.size) hp hn (okTo_highs hCO.1 hCO.2) (okTo_lows hCO.1 hCO.2))
    have Hr := hid hCO.1.range63
    clear hx hx1 hp hpc hCO hE hB0
    have Hm := hid (fun f (h : critB fs ps f = true) => (show f ∈ fs by unfold critB at h; simp at h; exact h.1))
    cases hcb : critB fs ps b
    · have He : Hid (E = 2) := hid (by rw [hE1, if_neg (by unfold suchB; rw [hcb]; simp)])
      rw [hcb] at HCb
      clear hE1 hcb
      go_enter Try.func50, Try.ntmps50
      go_wp2_with (first
        | (go_at_call 110; refine HK.out.mono ?_; rintro e w1 ⟨rfl, hB1⟩; have HB1 := hid (HB0.out.trans (hB1.mono (by simp))); have k0 : w1.cell? ⟨w.heap.size, 0, none⟩ = some (.int .i64 V) := (hB1.cell (p := ⟨w.heap.size, 0, none⟩) (by simp)).trans (by simp [go_sem]); have k1 : w1.cell? ⟨w.heap.size, 1, none⟩ = some (.slice a0 fs.length cap) := (hB1.cell (p := ⟨w.heap.size, 1, none⟩) (by simp)).trans (by simp [go_sem]); have hs1 : w.heap.size < w1.heap.size := (by have := hB1.size; simp at this; omega); have HCb1 := hid (HCb.out w1 HB1.out); clear hB1)
        | (go_at_call 111; refine HCb1.out.mono ?_; rintro e w2 ⟨rfl, hB2⟩; have m0 := (hB2.cell (p := ⟨w.heap.size, 0, none⟩) hs1).trans k0; have m1 := (hB2.cell (p := ⟨w.heap.size, 1, none⟩) hs1).trans k1; have HB2 := hid (HB1.out.trans (hB2.mono HB1.out.size)); have HCa2 := hid (HCa.out w2 HB2.out); clear hB2 k0 k1 HCb1))
      go_ret
      exact ⟨ret_int (by rw [He.out]), HB2.out⟩
    · cases hca : critB fs ps a
      · have He : Hid (E = 2) := hid (by rw [hE1, if_neg (by unfold suchB; rw [hca]; simp)])
        rw [hcb] at HCb
        rw [hca] at HCa
        clear hE1 hcb hca
        go_enter Try.func50, Try.ntmps50
        go_wp2_with (first
          | (go_at_call 110; refine HK.out.mono ?_; rintro e w1 ⟨rfl, hB1⟩; have HB1 := hid (HB0.out.trans (hB1.mono (by simp))); have k0 : w1.cell? ⟨w.heap.size, 0, none⟩ = some (.int .i64 V) := (hB1.cell (p := ⟨w.heap.size, 0, none⟩) (by simp)).trans (by simp [go_sem]); have k1 : w1.cell? ⟨w.heap.size, 1, none⟩ = some (.slice a0 fs.length cap) := (hB1.cell (p := ⟨w.heap.size, 1, none⟩) (by simp)).trans (by simp [go_sem]); have hs1 : w.heap.size < w1.heap.size := (by have := hB1.size; simp at this; omega); have HCb1 := hid (HCb.out w1 HB1.out); clear hB1)
          | (go_at_call 111; refine HCa2.out.mono ?_; rintro e w3 ⟨rfl, hB3⟩; have HB3 := hid (HB2.out.trans (hB3.mono HB2.out.size)); have HA3 := hid (HA.out w3 HB3.out); clear hB3 m0 m1 HCa2) | (go_at_call 111; refine HCb1.out.mono ?_; rintro e w2 ⟨rfl, hB2⟩; have m0 := (hB2.cell (p := ⟨w.heap.size, 0, none⟩) hs1).trans k0; have m1 := (hB2.cell (p := ⟨w.heap.size, 1, none⟩) hs1).trans k1; have HB2 := hid (HB1.out.trans (hB2.mono HB1.out.size)); have HCa2 := hid (HCa.out w2 HB2.out); clear hB2 k0 k1 HCb1))
        go_ret
        exact ⟨ret_int (by rw [He.out]), HB3.out⟩
      · obtain ⟨bn, rfl⟩ : ∃ bn : Nat, b = (bn : Int) := ⟨b.toNat, by have := Hr.out b (Hm.out b hcb); omega⟩
        obtain ⟨an, rfl⟩ : ∃ an : Nat, a = (an : Int) := ⟨a.toNat, by have := Hr.out a (Hm.out a hca); omega⟩
        have hbn : bn < 64 := by have := Hr.out _ (Hm.out _ hcb); omega
        have han : an < 64 := by have := Hr.out _ (Hm.out _ hca); omega
        have hob := ones_le bn
        have hoa := ones_le an
        by_cases hones : ones bn = ones an + 1
        · have hs : suchB fs ps (bn : Int) (an : Int) = true := by unfold suchB; rw [hcb, hca]; simp [hones]
          rw [hcb] at HCb
          rw [hca] at HCa
          rw [if_pos hs] at hE1
          have hon : ((ones bn : Int) != (ones an : Int) + 1) = false := by simp; omega
          cases hac : acyB ps n
          · have He : Hid (E = 5) := hid (by rw [hE1, hac]; simp)
            rw [hac] at HA
            clear hE1 hcb hca hs hones hac
            go_enter Try.func50, Try.ntmps50
            go_wp2_with (first
              | (go_at_call 110; refine HK.out.mono ?_; rintro e w1 ⟨rfl, hB1⟩; have HB1 := hid (HB0.out.trans (hB1.mono (by simp))); have k0 : w1.cell? ⟨w.heap.size, 0, none⟩ = some (.int .i64 V) := (hB1.cell (p := ⟨w.heap.size, 0, none⟩) (by simp)).trans (by simp [go_sem]); have k1 : w1.cell? ⟨w.heap.size, 1, none⟩ = some (.slice a0 fs.length cap) := (hB1.cell (p := ⟨w.heap.size, 1, none⟩) (by simp)).trans (by simp [go_sem]); have hs1 : w.heap.size < w1.heap.size := (by have := hB1.size; simp at this; omega); have HCb1 := hid (HCb.out w1 HB1.out); clear hB1)
              | (go_at_call 111; refine HCa2.out.mono ?_; rintro e w3 ⟨rfl, hB3⟩; have HB3 := hid (HB2.out.trans (hB3.mono HB2.out.size)); have HA3 := hid (HA.out w3 HB3.out); clear hB3 m0 m1 HCa2) | (go_at_call 111; refine HCb1.out.mono ?_; rintro e w2 ⟨rfl, hB2⟩; have m0 := (hB2.cell (p := ⟨w.heap.size, 0, none⟩) hs1).trans k0; have m1 := (hB2.cell (p := ⟨w.heap.size, 1, none⟩) hs1).trans k1; have HB2 := hid (HB1.out.trans (hB2.mono HB1.out.size)); have HCa2 := hid (HCa.out w2 HB2.out); clear hB2 k0 k1 HCb1)
              | (go_at_call 95; refine (ones_any _ _ (by assumption)).mono ?_; rintro e w' ⟨rfl, rfl⟩)
              | (go_at_call 112; refine HA3.out.mono ?_; rintro e w4 ⟨rfl, hB4⟩; have HB4 := hid (HB3.out.trans (hB4.mono HB3.out.size)); clear hB4))
            go_ret
            exact ⟨ret_int (by rw [He.out]), HB4.out⟩
          · have He : Hid (E = 0) := hid (by rw [hE1, hac]; simp)
            rw [hac] at HA
            clear hE1 hcb hca hs hones hac
            go_enter Try.func50, Try.ntmps50
            go_wp2_with (first
              | (go_at_call 110; refine HK.out.mono ?_; rintro e w1 ⟨rfl, hB1⟩; have HB1 := hid (HB0.out.trans (hB1.mono (by simp))); have k0 : w1.cell? ⟨w.heap.size, 0, none⟩ = some (.int .i64 V) := (hB1.cell (p := ⟨w.heap.size, 0, none⟩) (by simp)).trans (by simp [go_sem]); have k1 : w1.cell? ⟨w.heap.size, 1, none⟩ = some (.slice a0 fs.length cap) := (hB1.cell (p := ⟨w.heap.size, 1, none⟩) (by simp)).trans (by simp [go_sem]); have hs1 : w.heap.size < w1.heap.size := (by have := hB1.size; simp at this; omega); have HCb1 := hid (HCb.out w1 HB1.out); clear hB1)
              | (go_at_call 111; refine HCa2.out.mono ?_; rintro e w3 ⟨rfl, hB3⟩; have HB3 := hid (HB2.out.trans (hB3.mono HB2.out.size)); have HA3 := hid (HA.out w3 HB3.out); clear hB3 m0 m1 HCa2) | (go_at_call 111; refine HCb1.out.mono ?_; rintro e w2 ⟨rfl, hB2⟩; have m0 := (hB2.cell (p := ⟨w.heap.size, 0, none⟩) hs1).trans k0; have m1 := (hB2.cell (p := ⟨w.heap.size, 1, none⟩) hs1).trans k1; have HB2 := hid (HB1.out.trans (hB2.mono HB1.out.size)); have HCa2 := hid (HCa.out w2 HB2.out); clear hB2 k0 k1 HCb1)
              | (go_at_call 95; refine (ones_any _ _ (by assumption)).mono ?_; rintro e w' ⟨rfl, rfl⟩)
              | (go_at_call 112; refine HA3.out.mono ?_; rintro e w4 ⟨rfl, hB4⟩; have HB4 := hid (HB3.out.trans (hB4.mono HB3.out.size)); clear hB4))
            go_ret
            exact ⟨ret_int (by rw [He.out]), HB4.out⟩
        · have He : Hid (E = 2) := hid (by rw [hE1, if_neg (by unfold suchB; simp [hones])])
          rw [hcb] at HCb
          rw [hca] at HCa
          have hon : ((ones bn : Int) != (ones an : Int) + 1) = true := by simp; omega
          clear hE1 hcb hca hones
          go_enter Try.func50, Try.ntmps50
          go_wp2_with (first
            | (go_at_call 110; refine HK.out.mono ?_; rintro e w1 ⟨rfl, hB1⟩; have HB1 := hid (HB0.out.trans (hB1.mono (by simp))); have k0 : w1.cell? ⟨w.heap.size, 0, none⟩ = some (.int .i64 V) := (hB1.cell (p := ⟨w.heap.size, 0, none⟩) (by simp)).trans (by simp [go_sem]); have k1 : w1.cell? ⟨w.heap.size, 1, none⟩ = some (.slice a0 fs.length cap) := (hB1.cell (p := ⟨w.heap.size, 1, none⟩) (by simp)).trans (by simp [go_sem]); have hs1 : w.heap.size < w1.heap.size := (by have := hB1.size; simp at this; omega); have HCb1 := hid (HCb.out w1 HB1.out); clear hB1)
            | (go_at_call 111; refine HCa2.out.mono ?_; rintro e w3 ⟨rfl, hB3⟩; have HB3 := hid (HB2.out.trans (hB3.mono HB2.out.size)); have HA3 := hid (HA.out w3 HB3.out); clear hB3 m0 m1 HCa2) | (go_at_call 111; refine HCb1.out.mono ?_; rintro e w2 ⟨rfl, hB2⟩; have m0 := (hB2.cell (p := ⟨w.heap.size, 0, none⟩) hs1).trans k0; have m1 := (hB2.cell (p := ⟨w.heap.size, 1, none⟩) hs1).trans k1; have HB2 := hid (HB1.out.trans (hB2.mono HB1.out.size)); have HCa2 := hid (HCa.out w2 HB2.out); clear hB2 k0 k1 HCb1)
            | (go_at_call 95; refine (ones_any _ _ (by assumption)).mono ?_; rintro e w' ⟨rfl, rfl⟩))
          go_ret
          exact ⟨ret_int (by rw [He.out]), HB3.out⟩
  · have hE1 : E = pcodeR V fs n ps := by rw [hE, givenR, if_neg hpc]
    rw [← hE1] at hpc HK
    have hcn : (E == 0) = false := by simpa using hpc
    clear hx hx1 hp hpc hE hE1 hB0
    go_enter Try.func50, Try.ntmps50
    go_wp2_with fail
    refine HK.out.mono ?_
    rintro e w1 ⟨rfl, hB1⟩
    go_wp2_with fail
    go_ret
    exact ⟨rfl, HB0.out.trans (hB1.mono (by simp))⟩

theorem given_zero {V : Int} {fs : List Int} {n : Nat} {ps : List Int} {b a : Int} (h : givenR V fs n ps b a = 0) : pcodeR V fs n ps = 0 ∧ suchB fs ps b a = true ∧ NoCycle ps n := by
  unfold givenR at h
  split at h
  · rename_i hp
    split at h
    · rename_i hs
      split at h
      · rename_i ha
        refine ⟨hp, hs, Classical.byContradiction fun hn => ?_⟩
        rw [acyB_false hn] at ha
        cases ha
      · cases h
    · cases h
  · rename_i hp
    exact absurd h hp
theorem such_lt {fs ps : List Int} {b a : Int} (hr : ∀ x ∈ fs, 1 ≤ x ∧ x ≤ 63) (h : suchB fs ps b a = true) : (∃ bn : Nat, b = (bn : Int) ∧ bn < 64) ∧ (0 ≤ a ∧ a < 64) := by
  unfold suchB critB at h
  simp at h
  have h1 := hr _ h.1.1
  have h2 := hr _ h.2.1.1
  exact ⟨⟨b.toNat, by omega, by omega⟩, by omega, by omega⟩


end Go.Proofs.Ytbhdipljhelddaa

/-! acyclicCode. -/
namespace Go.Proofs.Ytbhdipljhelddaa
open Go.RowKit

noncomputable def acodeR (V : Int) (fs : List Int) (n : Nat) (ps : List Int) (s : Bool) : Int := if pcodeR V fs n ps = 0 then (if s then (if acyB ps n then 0 else 5) else 2) else pcodeR V fs n ps

set_option maxRecDepth 1000000 in
set_option maxHeartbeats 2000000 in
theorem acode_any (V : Int) (a0 : Option Addr) (cap : Nat) (fs : List Int) (a1 : Option Addr) (n cap1 : Nat) (ps : List Int) (s : Bool) (w : World) (hx : SlI w w.heap.size a0 fs) (hx1 : SlI w w.heap.size a1 ps) (hl : fs.length ≤ 1048576) (hp : ps.length = 2 * n) (hn : n ≤ 1048576) (hw : ∀ x ∈ ps, (Lit.int .i64 x).wf = true) :
    Calls Try.prog 117 #[.agg #[.int .i64 V, .slice a0 fs.length cap], .slice a1 n cap1, .bool s] w fun e w' => e = .returned (.int .i64 (acodeR V fs n ps s)) ∧ Below w.heap.size w w' := by
  have hB0 : Below w.heap.size w (w.alloc (.cells #[.int .i64 V, .slice a0 fs.length cap] 28)) := (Below.refl _ w).alloc (Nat.le_refl _) _
  have HK := hid (pcode_impl V a0 cap fs a1 n cap1 ps _ (hx.later hB0 hB0.size) (hx1.later hB0 hB0.size) hl hp hn hw)
  have HB0 := hid hB0
  obtain ⟨E, hE⟩ : ∃ E, E = acodeR V fs n ps s := ⟨_, rfl⟩
  rw [← hE]
  by_cases hpc : pcodeR V fs n ps = 0
  · have hCO : IsC V fs ∧ OkTo fs ps n := by
      rcases pcode_cases V fs n ps with ⟨hC, ho, _⟩ | ⟨_, _, h2, _⟩ | ⟨_, h2, _⟩
      · exact ⟨hC, ho⟩
      · rw [h2] at hpc; cases hpc
      · rw [h2] at hpc; cases hpc
    have hE1 : E = if s then (if acyB ps n then 0 else 5) else 2 := by rw [hE, acodeR, if_pos hpc]
    rw [hpc] at HK
    have HA := hid (fun w1 (h : Below w.heap.size w w1) => isAcy_any a1 n cap1 ps w1 (hx1.later h h.size) hp hn hw (okTo_apart hCO.2) (okTo_highs hCO.1 hCO.2))
    clear hx hx1 hp hw hpc hCO hE hB0
    cases s
    · have He : Hid (E = 2) := hid (by rw [hE1]; simp)
      clear hE1
      go_enter Try.func117, Try.ntmps117
      go_wp2_with fail
      refine HK.out.mono ?_
      rintro e w1 ⟨rfl, hB1⟩
      go_wp2_with fail
      go_ret
      exact ⟨ret_int (by rw [He.out]), HB0.out.trans (hB1.mono (by simp))⟩
    · cases hac : acyB ps n
      · have He : Hid (E = 5) := hid (by rw [hE1, hac]; simp)
        rw [hac] at HA
        clear hE1 hac
        go_enter Try.func117, Try.ntmps117
        go_wp2_with fail
        refine HK.out.mono ?_
        rintro e w1 ⟨rfl, hB1⟩
        have HB1 := hid (HB0.out.trans (hB1.mono (by simp)))
        clear hB1
        go_wp2_with fail
        refine (HA.out w1 HB1.out).mono ?_
        rintro e w2 ⟨rfl, hB2⟩
        go_wp2_with fail
        go_ret
        exact ⟨ret_int (by rw [He.out]), HB1.out.trans (hB2.mono HB1.out.size)⟩
      · have He : Hid (E = 0) := hid (by rw [hE1, hac]; simp)
        rw [hac] at HA
        clear hE1 hac
        go_enter Try.func117, Try.ntmps117
        go_wp2_with fail
        refine HK.out.mono ?_
        rintro e w1 ⟨rfl, hB1⟩
        have HB1 := hid (HB0.out.trans (hB1.mono (by simp)))
        clear hB1
        go_wp2_with fail
        refine (HA.out w1 HB1.out).mono ?_
        rintro e w2 ⟨rfl, hB2⟩
        go_wp2_with fail
        go_ret
        exact ⟨ret_int (by rw [He.out]), HB1.out.trans (hB2.mono HB1.out.size)⟩
  · have hE1 : E = pcodeR V fs n ps := by rw [hE, acodeR, if_neg hpc]
    rw [← hE1] at hpc HK
    have hcn : (E != 0) = true := by simpa using hpc
    clear hx hx1 hp hw hpc hE hE1 hB0
    go_enter Try.func117, Try.ntmps117
    go_wp2_with fail
    refine HK.out.mono ?_
    rintro e w1 ⟨rfl, hB1⟩
    go_wp2_with fail
    go_ret
    exact ⟨rfl, HB0.out.trans (hB1.mono (by simp))⟩

end Go.Proofs.Ytbhdipljhelddaa

/-! waysFrom, walked. -/
namespace Go.Proofs.Ytbhdipljhelddaa
open Go.RowKit Go.Shelf

attribute [local go_sem] Oper.semAt_some

theorem CntM.same {W W' : World} {b N : Nat} {f : Int → Int} (h : CntM W b N f) (he : W'.heap[b]? = W.heap[b]?) : CntM W' b N f := by
  obtain ⟨D, h0, ⟨es, clock, hb, rest⟩, h2⟩ := h
  exact ⟨D, h0, ⟨es, clock, he.trans hb, rest⟩, h2⟩
theorem keepB_ownIn {β : Type} {Bs : List Nat} {lo k lo' k' : Nat} {W0 : World} (h0 : lo + k ≤ W0.heap.size) (hB : ∀ q ∈ Bs, q < W0.heap.size) (h1 : lo + k ≤ lo') (hB1 : ∀ q ∈ Bs, q < lo') : OwnIn lo' k' (fun (_ : β) W => KeepP Bs lo k W0 W) := by
  intro s A C row h hg hr
  refine h.trans ⟨hg.size, fun r hr2 => hg.block r ?_ (fun e => ?_)⟩
  · have := h.size
    rcases hr2 with h2 | h2
    · have := hB r h2; omega
    · omega
  · have := (hr r e.symm).1
    rcases hr2 with h2 | h2
    · have := hB1 r h2; omega
    · omega
theorem lows_ownIn {β : Type} {M n m : Nat} {ps : List Int} {lo k : Nat} (h0 : M < lo) : OwnIn lo k (fun (_ : β) W => W.ownsMap Try.prog 2 pairElem M n (lowsD ps m)) := by
  intro s A C row h hg hr
  exact h.kept hg (fun e => by have := (hr _ e.symm).1; omega)
theorem SeqStopsP.inRound {α : Type} {F : Fence} {n : Nat} {P : Program} {g : Nat} {lb : Array Value} {encs : α → Array Value} {Bs : List Nat} {k : Nat} {L : List α} {w0 : World} (l : Nat) (h : SeqStopsP F n P g lb encs Bs k L w0) : SeqStopsP (F.inRound l) n P g lb encs Bs k L w0 := h

theorem downL_prefix {n i : Nat} {pre : List Nat} (h : pre ++ [i] <+: downL n) : pre.length < n ∧ i = n - 1 - pre.length := by
  have hl := h.length_le
  rw [downL_len] at hl
  simp at hl
  refine ⟨by omega, ?_⟩
  have h1 := List.prefix_iff_eq_take.1 h
  have h2 : (pre ++ [i]).length = pre.length + 1 := by simp
  rw [h2, downL_take (by omega)] at h1
  have h3 := List.append_inj' h1 rfl
  simpa using h3.2

set_option maxRecDepth 1000000 in
set_option maxHeartbeats 4000000 in
theorem wfrom_in (a1 : Option Addr) (n cap1 : Nat) (qs : List Int) (b : Nat) (w : World) (hx1 : SlI w w.heap.size a1 qs) (hp : qs.length = 2 * n) (hn : n ≤ 1048576) (hw : ∀ x ∈ qs, (Lit.int .i64 x).wf = true) (hd : LowsApart qs n) (hh : HighsB qs n) (hO : OrdQ qs n) (hlo : ∀ i, i < n → 0 ≤ at0 qs (i * 2) ∧ at0 qs (i * 2) < 64) (hb : b < 64) :
    CallsIn Fence.wide 20 Try.prog 118 #[.slice a1 n cap1, .int .i64 (b : Int)] w fun e w' => ∃ N f, e = .returned (.map (some w.heap.size)) ∧ CntM w' w.heap.size N f ∧ (∀ a, 0 ≤ a → a < 64 → f a = wrap64 (wsum qs n (b : Int) a)) ∧ Below w.heap.size w w' := by
  have HLw := hid (fun w1 (hb : Below w.heap.size w w1) => lows_any a1 n cap1 qs w1 (hx1.later hb hb.size) hp hn hw)
  have Hy := hid hx1
  have Hp := hid hp
  have Hw := hid hw
  have HD := hid hd
  have HH := hid hh
  have HO := hid hO
  have Hlo := hid hlo
  have hmm := @run_makeMap Try.prog
  clear hx1 hp hw hd hh hO hlo
  refine callsIn_of_wp_marks Try.func118 rfl trivial ?_ rfl
  simp only [Try.ntmps118, List.size_toArray, List.length_cons, List.length_nil, Nat.reduceAdd, Nat.reduceSub, Array.replicate_succ, Array.replicate_zero, List.push_toArray, List.append_toArray, List.nil_append, List.cons_append]
  gi_wp2_with (first
    | (refine ⟨trivial, ?_⟩; gi_at_call 175; refine (sides_in _ _ _).mono ?_; rintro e w' ⟨rfl, rfl⟩))
  obtain ⟨W0, hW0⟩ : ∃ W0, W0 = ((w.alloc (.map #[] 0)).alloc (.cells #[.map (some w.heap.size)] 92)).alloc (.cells #[.int .i64 (b : Int)] 2) := ⟨_, rfl⟩
  have hs0 : W0.heap.size = w.heap.size + 3 := by rw [hW0]; simp
  have hbb : W0.heap[w.heap.size + 1 + 1]? = some (.cells #[.int .i64 (b : Int)] 2 (0, 0)) := by
    have := heap_alloc_new ((w.alloc (.map #[] 0)).alloc (.cells #[.map (some w.heap.size)] 92)) (.cells #[.int .i64 (b : Int)] 2)
    rw [World.size_alloc, World.size_alloc] at this
    rw [hW0]
    exact this
  have H0 : Hid (GwW w W0 0 (sideU []) []) := by
    have e3 := heap_alloc_new (w.alloc (.map #[] 0)) (.cells #[.map (some w.heap.size)] 92)
    rw [World.size_alloc] at e3
    rw [hW0]
    exact hid {
      below := (((Below.refl _ w).alloc (Nat.le_refl _) _).alloc (by simp) _).alloc (by simp; omega) _
      cnt := ((CntM.made w).alloc _).alloc _
      b1 := (Below.heap_alloc _ _ _ (by simp)).trans e3
      nodup := by simp
      marks := by simp }
  rw [← hW0]
  clear hW0 hmm
  refine wpIn_rangeFunc_P rfl (by decide) (gf := 207) (lb := #[.pointer (some ⟨w.heap.size + 1 + 1, 0, none⟩)]) rfl trivial (enters_of Try.func207 (by kernel_rfl) rfl)
    (sides_P 19 (by decide) (w.heap.size + 1 + 1) b hb W0 (by omega) hbb) (by simp; omega) (Below.refl _ _) (fun _ => rfl)
    (fun pre W' => GwW w W' pre.length (sideU pre) [])
    (fun _ _ _ => False)
    (gw_ownIn (by omega) (by simp))
    (fun _ => ownIn_pure _ _ _)
    H0.out
    (fun z => { tmps := List.toArray ((.slice a1 n cap1) :: (.int .i64 (b : Int)) :: (undef) :: (undef) :: (.map none) :: (.pointer (some ⟨w.heap.size + 1, 0, none⟩)) :: (.int .i64 (z.val : Int)) :: (undef) :: (undef) :: (undef) :: (undef) :: (.map (some w.heap.size)) :: (.int .i64 (b : Int)) :: (.func (.func 207) #[] #[.pointer (some ⟨w.heap.size + 1 + 1, 0, none⟩)]) :: (.int .i64 (z.val : Int)) :: (undef) :: (undef) :: (undef) :: (undef) :: (undef) :: (undef) :: (undef) :: (undef) :: (undef) :: (undef) :: (undef) :: (undef) :: (undef) :: (undef) :: (undef) :: (undef) :: (undef) :: (undef) :: (undef) :: (undef) :: (undef) :: (undef) :: []), defers := [] }) ?assign ?body ?done ?stop
  case assign =>
    intro l z W4 K hK
    gi_wp2
    exact hK
  case body =>
    rintro l pre z W4 hpre hsz4 hS
    have hzw : (Lit.int .i64 (z.val : Int)).wf = true := WalkArith.wf_i64 (by have := z.isLt; omega)
    have hpl : pre.length + 1 ≤ 6 := by
      have h1 := hpre.length_le
      have h2 : (sidesF b).length ≤ 6 := sides_len b 6
      simp at h1
      omega
    have q1 : W4.cell? ⟨w.heap.size + 1, 0, none⟩ = some (.map (some w.heap.size)) := (box_cell hS.b1).1
    obtain ⟨W5, hrun5, hc5, hg5, hs5⟩ := hS.cnt.update (show pre.length < maxLen by unfold maxLen; omega) hzw (show (Lit.int .i64 1).wf = true by decide)
    have hS5 := hS.put hc5 hg5
    rw [sideU_snoc] at hS5
    have HS5 := hid hS5
    have Hg5 := hid hg5
    clear hS hS5 hc5 hg5 hzw hbb H0
    gi_wp2
    refine ⟨⟨Hg5.out.size, fun r hr => ?_⟩, ?_⟩
    · rcases hr with h | h
      · simp at h
        subst h
        exact Hg5.out.block _ (by omega) (fun e => by injection e with e; omega)
      · exact Hg5.out.block r (by omega) (fun e => by injection e with e; omega)
    · show GwW w W5 (pre ++ [z]).length (sideU (pre ++ [z])) []
      have e : (pre ++ [z]).length = pre.length + 1 := by simp
      rw [e]
      exact HS5.out
  case stop =>
    rintro c pre W4 hpre hF hD4
    exact hF.elim
  case done =>
    rintro W4 hS hD4
    have hS4 := (hS.mark hD4 (by omega) (by simp)).mono (show (sidesF b).length ≤ 6 from sides_len b 6)
    have hsz4 := hS4.size
    rw [hs0] at hS4
    have HS4 := hid hS4
    clear hS hS4 hD4 hbb H0
    gi_wp2_with (first
      | (refine ⟨trivial, ?_⟩; gi_at_call 124; refine (callsIn_wide.2 (HLw.out _ HS4.out.below)).mono ?_; rintro e w5 ⟨rfl, hown, hB5⟩)
      | (refine ⟨trivial, ?_⟩; gi_at_call 125; refine (backward_in _ _ _ _ _).mono ?_; rintro e w' ⟨rfl, rfl⟩))
    have hMl : W4.heap.size < w5.heap.size := hown.lt
    obtain ⟨W6, hW6⟩ : ∃ W6, W6 = (w5.alloc (.cells #[.map (some W4.heap.size)] 147)).alloc (.cells #[.slice a1 n cap1] 37) := ⟨_, rfl⟩
    have hs6 : W6.heap.size = w5.heap.size + 2 := by rw [hW6]; simp
    have hlb6 : W6.heap[w5.heap.size]? = some (.cells #[.map (some W4.heap.size)] 147 (0, 0)) := by rw [hW6]; exact (Below.heap_alloc _ _ _ (by simp)).trans (heap_alloc_new _ _)
    have hsb6 : W6.heap[w5.heap.size + 1]? = some (.cells #[.slice a1 n cap1] 37 (0, 0)) := by
      have := heap_alloc_new (w5.alloc (.cells #[.map (some W4.heap.size)] 147)) (.cells #[.slice a1 n cap1] 37)
      rw [World.size_alloc] at this
      rw [hW6]
      exact this
    have hown6 : W6.ownsMap Try.prog 2 pairElem W4.heap.size n (lowsD qs n) := by rw [hW6]; exact (hown.alloc _).alloc _
    have hG6 : GwW w W6 6 (sideU (sidesF b)) [w.heap.size + 3] := by
      rw [hW6]
      exact ((HS4.out.turn (row := none) ⟨hB5.os, hB5.tape, hB5.output, hB5.size, fun k hk _ => hB5.block k hk⟩ (fun r e => by cases e)).alloc _).alloc _
    obtain ⟨lb, off, hlbs, hlbn, hcl⟩ : ∃ lb off, lb < W6.heap.size ∧ lb ≠ w.heap.size ∧ (n = 0 ∨ (a1 = some ⟨lb, off, none⟩ ∧ ∀ i, i < 2 * n → W6.cell? ⟨lb, off + i, none⟩ = some (.int .i64 (at0 qs i)))) := by
      rcases Hy.out with h | ⟨lb, off, h1, h2, h3⟩
      · refine ⟨w.heap.size + 1, 0, by omega, by omega, .inl ?_⟩
        have := Hp.out
        rw [h] at this
        simp at this
        omega
      · refine ⟨lb, off, by omega, by omega, .inr ⟨h2, fun i hi => ?_⟩⟩
        exact (hG6.below.cell (p := ⟨lb, off + i, none⟩) h1).trans (h3 i (by have := Hp.out; omega))
    have HG6 := hid hG6
    rw [← hW6]
    clear hW6 hG6 hown HS4 HLw hB5 Hy
    refine wpIn_rangeFunc_PH rfl (by decide) (gf := 181) (lb := #[.pointer (some ⟨w5.heap.size + 1, 0, none⟩)]) rfl trivial (enters_of Try.func181 (by kernel_rfl) rfl)
      (backward_P 19 (by decide) (w5.heap.size + 1) lb off n cap1 a1 qs W6 hsb6 hlbs hn hcl) (by simp; omega) (Below.refl _ _) (fun _ => rfl)
      (fun pre W' => (∃ u, GwW w W' (64 + 64 * pre.length) (fun x => wrap64 (u x)) [w.heap.size + 3] ∧ ∀ a, totW (wtK qs n a pre.length) u = wsum qs n (b : Int) a) ∧ W'.heap[w5.heap.size]? = some (.cells #[.map (some W4.heap.size)] 147 (0, 0)) ∧ W'.ownsMap Try.prog 2 pairElem W4.heap.size n (lowsD qs n))
      (fun _ _ _ => False)
      (OwnIn.and (fun s A B row ⟨u, h1, h2⟩ hg hr => ⟨u, gw_ownIn (β := Unit) (N := fun _ => 64 + 64 * s.length) (f := fun _ x => wrap64 (u x)) (by omega) (by intro D hD; simp at hD; omega) () A B row h1 hg hr, h2⟩) (OwnIn.and (ownIn_block (β := List Nat) (fun _ => _) (by omega)) (lows_ownIn (by omega))))
      (fun _ => ownIn_pure _ _ _)
      ⟨⟨sideU (sidesF b), ?_, fun a => wsum_start hb a⟩, hlb6, hown6⟩
      (fun i => .cells #[.int .i64 (at0 qs (i * 2)), .int .i64 (at0 qs (i * 2 + 1))] 65)
      (fun i bx => { tmps := List.toArray ((.slice a1 n cap1) :: (.int .i64 (b : Int)) :: (undef) :: (undef) :: (.map none) :: (.pointer (some ⟨w.heap.size + 1, 0, none⟩)) :: (undef) :: (.pointer (some ⟨w5.heap.size, 0, none⟩)) :: (undef) :: (.pointer (some ⟨bx, 0, none⟩)) :: (undef) :: (.map (some w.heap.size)) :: (.int .i64 (b : Int)) :: (.func (.func 207) #[] #[.pointer (some ⟨w.heap.size + 1 + 1, 0, none⟩)]) :: (undef) :: (undef) :: (undef) :: (.slice a1 n cap1) :: (.map (some W4.heap.size)) :: (.slice a1 n cap1) :: (.func (.func 181) #[] #[.pointer (some ⟨w5.heap.size + 1, 0, none⟩)]) :: (.int .i64 (i : Int)) :: (.agg #[.int .i64 (at0 qs (i * 2)), .int .i64 (at0 qs (i * 2 + 1))]) :: (undef) :: (undef) :: (undef) :: (undef) :: (undef) :: (undef) :: (undef) :: (undef) :: (undef) :: (undef) :: (undef) :: (undef) :: (undef) :: (undef) :: []), defers := [] }) ?assign2 ?body2 ?done2 ?stop2
    · have e : (fun x => wrap64 (sideU (sidesF b) x)) = sideU (sidesF b) := by
        funext x
        exact wrap64_01 _
      rw [e]
      exact HG6.out.mono (by simp)
    case assign2 =>
      intro l i W7 K hK
      gi_wp2
      exact hK
    case body2 =>
      rintro pre i bx W7 hpre hbx hsz7 hob ⟨r, hrec⟩ ⟨⟨u, hG, hT⟩, hlb, hown7⟩
      obtain ⟨hkn, hi⟩ := downL_prefix hpre
      obtain ⟨k, hk⟩ : ∃ k, k = pre.length := ⟨_, rfl⟩
      rw [← hk] at hkn hi hG hT
      have hin : i < n := by omega
      have Hx64 : Hid (0 ≤ at0 qs (i * 2) ∧ at0 qs (i * 2) < 64) := hid (Hlo.out i hin)
      obtain ⟨x, hx⟩ : ∃ x, x = at0 qs (i * 2) := ⟨_, rfl⟩
      obtain ⟨y, hy⟩ : ∃ y, y = at0 qs (i * 2 + 1) := ⟨_, rfl⟩
      rw [← hx] at Hx64
      rw [← hx, ← hy] at hob ⊢
      have Hxi : Hid (x = at0 qs ((n - 1 - k) * 2)) := hid (by rw [hx, hi])
      have Hwx : Hid ((Lit.int .i64 x).wf = true) := hid (WalkArith.wf_i64 (by have := Hx64.out; omega))
      obtain ⟨p0, _, _, _⟩ := two_of hob
      obtain ⟨q7, _⟩ := box_cell hlb
      have HG := hid hG
      have HT := hid hT
      have Hob := hid hob
      have Hlb := hid hlb
      have Hown7 := hid hown7
      have Hrec := hid hrec
      have Hk := hid hk
      clear hG hT hob hlb hown7 hrec hx hy hi hpre hk HG6 hlb6 hown6 hsb6 hcl
      gi_wp2_with (first
        | (refine ⟨trivial, ?_⟩; gi_at_call 127; refine (stepsFrom_in _ W4.heap.size x _).mono ?_; rintro e w' ⟨rfl, rfl⟩))
      obtain ⟨W8, hW8⟩ : ∃ W8, W8 = (W7.alloc (.cells #[.map (some W4.heap.size)] 147)).alloc (.cells #[.int .i64 x] 2) := ⟨_, rfl⟩
      have hs8 : W8.heap.size = bx + 3 := by rw [hW8]; simp [hsz7]
      have hbm8 : W8.heap[bx + 1]? = some (.cells #[.map (some W4.heap.size)] 147 (0, 0)) := by
        rw [hW8, ← hsz7]
        exact (Below.heap_alloc _ _ _ (by simp)).trans (heap_alloc_new _ _)
      have hbx8 : W8.heap[bx + 1 + 1]? = some (.cells #[.int .i64 x] 2 (0, 0)) := by
        have := heap_alloc_new (W7.alloc (.cells #[.map (some W4.heap.size)] 147)) (.cells #[.int .i64 x] 2)
        rw [World.size_alloc, hsz7] at this
        rw [hW8]
        exact this
      have hob8 : W8.heap[bx]? = some (.cells #[.int .i64 x, .int .i64 y] 65 (0, 0)) := by rw [hW8]; exact (Below.heap_alloc _ _ _ (by simp; omega)).trans ((Below.heap_alloc _ _ _ (by omega)).trans Hob.out)
      have hlb8 : W8.heap[w5.heap.size]? = some (.cells #[.map (some W4.heap.size)] 147 (0, 0)) := by rw [hW8]; exact (Below.heap_alloc _ _ _ (by simp; omega)).trans ((Below.heap_alloc _ _ _ (by omega)).trans Hlb.out)
      have hown8 : W8.ownsMap Try.prog 2 pairElem W4.heap.size n (lowsD qs n) := by rw [hW8]; exact (Hown7.out.alloc _).alloc _
      have hrec8 : W8.heap[W6.heap.size + 1]? = some (.loop r) := by rw [hW8]; exact (Below.heap_alloc _ _ _ (by simp; omega)).trans ((Below.heap_alloc _ _ _ (by omega)).trans Hrec.out)
      have hkp8 : KeepP [w5.heap.size + 1, lb] W6.heap.size (2 + 0) W7 W8 := by
        rw [hW8]
        refine ⟨by simp; omega, fun q hq => ?_⟩
        have hq2 : q < W7.heap.size := by
          rcases hq with h | h
          · simp at h
            omega
          · omega
        exact (Below.heap_alloc _ _ _ (by simp; omega)).trans (Below.heap_alloc _ _ _ hq2)
      have HG8 : Hid (GwW w W8 (64 + 64 * k) (fun x => wrap64 (u x)) [w.heap.size + 3]) := hid (by rw [hW8]; exact (HG.out.alloc _).alloc _)
      rw [← hW8]
      clear hW8 p0 q7
      refine wpIn_rangeFunc_PN rfl hrec8 (by decide) (gf := 182) (lb := #[.pointer (some ⟨bx + 1, 0, none⟩), .pointer (some ⟨bx + 1 + 1, 0, none⟩)]) rfl trivial (enters_of Try.func182 (by kernel_rfl) rfl)
        ((steps_P 17 (by decide) (bx + 1) (bx + 1 + 1) W4.heap.size n n qs x W8 hbm8 hbx8 hown8 HD.out HH.out Hwx.out).inRound _) (by simp) (Below.refl _ _) (fun _ => rfl)
        (fun pre2 W' => (∃ u, GwW w W' (64 + 64 * k + pre2.length) (fun x => wrap64 (u x)) [w.heap.size + 3] ∧ ∀ a, totW (wtK qs n a k) u = wsum qs n (b : Int) a + u x * (pre2.map fun z => gw qs n a (z.val : Int)).sum) ∧ W'.heap[bx]? = some (.cells #[.int .i64 x, .int .i64 y] 65 (0, 0)) ∧ W'.heap[w5.heap.size]? = some (.cells #[.map (some W4.heap.size)] 147 (0, 0)) ∧ W'.ownsMap Try.prog 2 pairElem W4.heap.size n (lowsD qs n) ∧ KeepP [w5.heap.size + 1, lb] W6.heap.size (2 + 0) W7 W')
        (fun _ _ _ => False)
        (OwnIn.and (fun s A B row ⟨u, h1, h2⟩ hg hr => ⟨u, gw_ownIn (β := Unit) (N := fun _ => 64 + 64 * k + s.length) (f := fun _ x => wrap64 (u x)) (by omega) (by intro D hD; simp at hD; omega) () A B row h1 hg hr, h2⟩) (OwnIn.and (ownIn_block (β := List (Fin 64)) (fun _ => _) (by omega)) (OwnIn.and (ownIn_block (β := List (Fin 64)) (fun _ => _) (by omega)) (OwnIn.and (lows_ownIn (by omega)) (keepB_ownIn (by omega) (by simp; omega) (by omega) (by simp; omega))))))
        (fun _ => ownIn_pure _ _ _)
        ⟨⟨u, HG8.out, fun a => by rw [HT.out a]; simp⟩, hob8, hlb8, hown8, hkp8⟩
        (fun z => { tmps := List.toArray ((.slice a1 n cap1) :: (.int .i64 (b : Int)) :: (undef) :: (undef) :: (.map none) :: (.pointer (some ⟨w.heap.size + 1, 0, none⟩)) :: (undef) :: (.pointer (some ⟨w5.heap.size, 0, none⟩)) :: (undef) :: (.pointer (some ⟨bx, 0, none⟩)) :: (.int .i64 (z.val : Int)) :: (.map (some w.heap.size)) :: (.int .i64 (b : Int)) :: (.func (.func 207) #[] #[.pointer (some ⟨w.heap.size + 1 + 1, 0, none⟩)]) :: (undef) :: (undef) :: (undef) :: (.slice a1 n cap1) :: (.map (some W4.heap.size)) :: (.slice a1 n cap1) :: (.func (.func 181) #[] #[.pointer (some ⟨w5.heap.size + 1, 0, none⟩)]) :: (.int .i64 (i : Int)) :: (.agg #[.int .i64 x, .int .i64 y]) :: (.map (some W4.heap.size)) :: (.pointer (some ⟨bx, 0, none⟩)) :: (.int .i64 x) :: (.func (.func 182) #[] #[.pointer (some ⟨bx + 1, 0, none⟩), .pointer (some ⟨bx + 1 + 1, 0, none⟩)]) :: (.int .i64 (z.val : Int)) :: (undef) :: (undef) :: (undef) :: (undef) :: (undef) :: (undef) :: (undef) :: (undef) :: (undef) :: []), defers := [] }) ?assign3 ?body3 ?done3 ?stop3
      case assign3 =>
        intro l z W9 K hK
        gi_wp2
        exact hK
      case body3 =>
        rintro l pre2 z W9 hpre2 hsz9 ⟨⟨u2, hS, hT2⟩, hob9, hlb9, hown9, hkp9⟩
        have hzw : (Lit.int .i64 (z.val : Int)).wf = true := WalkArith.wf_i64 (by have := z.isLt; omega)
        have Hzn : Hid ((z.val : Int) ∈ nextL qs n x) := hid ((mem_stepsF HH.out x _).1 ⟨z, hpre2.subset (by simp), rfl⟩)
        have hpl : pre2.length + 1 ≤ 6 := by
          have h1 := hpre2.length_le
          have h2 := steps_few qs n x
          simp at h1
          omega
        obtain ⟨p0, _, _, _⟩ := two_of hob9
        have q1 : W9.cell? ⟨w.heap.size + 1, 0, none⟩ = some (.map (some w.heap.size)) := (box_cell hS.b1).1
        have hlk1 := hS.cnt.lookup Hwx.out
        have hlk2 := hS.cnt.lookup hzw
        obtain ⟨cx, hcx⟩ : ∃ c, c = wrap64 (u2 x) := ⟨_, rfl⟩
        obtain ⟨cz, hcz⟩ : ∃ c, c = wrap64 (u2 (z.val : Int)) := ⟨_, rfl⟩
        obtain ⟨W5, hrun5, hc5, hg5, hs5⟩ := hS.cnt.update (show 64 + 64 * k + pre2.length < maxLen by unfold maxLen; omega) hzw (wf_wrap (cz + cx))
        have hf5 : (fun q => if q = (z.val : Int) then wrap64 (cz + cx) else wrap64 (u2 q)) = fun q => wrap64 ((fun q => if q = (z.val : Int) then u2 (z.val : Int) + u2 x else u2 q) q) := by
          funext q
          by_cases e : q = (z.val : Int)
          · simp only [if_pos e]
            rw [hcx, hcz, wrap64_add]
          · simp only [if_neg e]
        rw [hf5] at hc5
        have hS5 := hS.put hc5 hg5
        rw [← hcx] at hlk1
        rw [← hcz] at hlk2
        have HS5 := hid hS5
        have Hg5 := hid hg5
        have Hob5 := hid ((hg5.block _ (lt_of_get hob9) (fun e => by injection e with e; omega)).trans hob9)
        have Hlb5 := hid ((hg5.block _ (lt_of_get hlb9) (fun e => by injection e with e; omega)).trans hlb9)
        have Hown5 := hid (hown9.kept hg5 (fun e => by injection e with e; omega))
        have hsk := hkp9.size
        have Hkp5 : Hid (KeepP [w5.heap.size + 1, lb] W6.heap.size (2 + 0) W7 W5) := hid (hkp9.trans (KeepP.of_grownBy hg5 (by simp; omega) (by omega) (fun j e => by injection e with e; subst e; simp; omega)))
        have HT2 := hid hT2
        clear hS hob9 hlb9 hown9 hkp9 hS5 hc5 hg5 hcx hcz hf5 hzw hT2 hbm8 hbx8 hob8 hlb8 hown8 hrec8 hkp8
        gi_wp2
        refine ⟨⟨Hg5.out.size, fun r hr => ?_⟩, ⟨_, ?_, fun a => totW_next HO.out HH.out a hkn Hxi.out Hzn.out (HT2.out a)⟩, Hob5.out, Hlb5.out, Hown5.out, (by have h := Hkp5.out; rw [hs6] at h; exact h)⟩
        · rcases hr with h | h
          · simp at h
          · exact Hg5.out.block r (by omega) (fun e => by injection e with e; omega)
        · have e : 64 + 64 * k + (pre2 ++ [z]).length = 64 + 64 * k + pre2.length + 1 := by simp; omega
          rw [e]
          exact HS5.out
      case stop3 =>
        rintro c pre2 W9 hpre hF
        exact hF.elim
      case done3 =>
        rintro W9 ⟨⟨u2, hS, hT2⟩, hob9, hlb9, hown9, hkp9⟩
        have HS9 := hid (hS.mono (show 64 + 64 * k + (stepsF qs n x).length ≤ 64 + 64 * (pre ++ [i]).length by have := steps_few qs n x; have := Hk.out; simp; omega))
        have HT3 : Hid (∀ a, totW (wtK qs n a (pre ++ [i]).length) u2 = wsum qs n (b : Int) a) := hid (fun a => by
          rw [show (pre ++ [i]).length = k + 1 by rw [Hk.out]; simp]
          exact totW_round HO.out HH.out HD.out a hkn Hxi.out Hx64.out (hT2 a))
        have Hlb9 := hid hlb9
        have Hown9 := hid hown9
        have Hkp9 := hid hkp9
        clear hS hT2 hob9 hlb9 hown9 hkp9 hbm8 hbx8 hob8 hlb8 hown8 hrec8 hkp8
        gi_wp2
        exact ⟨Hkp9.out, ⟨u2, HS9.out, HT3.out⟩, Hlb9.out, Hown9.out⟩
    case stop2 =>
      rintro c pre W7 hpre hF hD7
      exact hF.elim
    case done2 =>
      rintro W7 ⟨⟨u, hG, hT⟩, hlb, hown7⟩ hD7
      rw [downL_len] at hG hT
      have hG7 := hG.mark hD7 (by omega) (by simp; omega)
      have c5 : W7.cell? ⟨w.heap.size + 1, 0, none⟩ = some (.map (some w.heap.size)) := (box_cell hG7.b1).1
      have HG7 := hid hG7
      have HT := hid hT
      clear hG hT hlb hown7 hD7 hG7 HG6 hlb6 hown6 hsb6 hcl
      gi_wp2
      refine leaves_marks (by simp) [_, _] _ HG7.out.nodup (fun D hD => (HG7.out.marks D hD).2) (fun w' hw' => ?_)
      refine ⟨_, results_tmp rfl _ _ _, _, _, rfl, HG7.out.cnt.same (hw'.block _ (fun hm => by have := (HG7.out.marks _ hm).1; omega)), fun a h0 h1 => ?_, HG7.out.below.trans (hw'.below (fun D hD => by have := (HG7.out.marks D hD).1; omega))⟩
      exact congrArg wrap64 (wsum_end ⟨h0, h1⟩ (HT.out a))

end Go.Proofs.Ytbhdipljhelddaa

/-! acyclicCode, the program's. -/
namespace Go.Proofs.Ytbhdipljhelddaa
open Go.RowKit

attribute [local go_sem] Oper.semAt_some

/-- The settled pairs in their order make the same steps. -/
theorem at_flat {ps : List Int} {L : List Nat} {k : Nat} (hk : k < L.length) : at0 (flatP (setP ps L)) (k * 2) = at0 ps (L[k] * 2) ∧ at0 (flatP (setP ps L)) (k * 2 + 1) = at0 ps (L[k] * 2 + 1) := by
  have hat := flatP_at (setP ps L) k (by rw [setP_len]; exact hk)
  have hpk : (setP ps L)[k]?.getD (0, 0) = pairAt ps L[k] := by
    unfold setP
    rw [List.getElem?_map, List.getElem?_eq_getElem hk]
    rfl
  rw [hpk] at hat
  exact hat
theorem flat_apart {ps : List Int} {n : Nat} {L : List Nat} (hd : LowsApart ps n) (hS : Stl ps n L) : LowsApart (flatP (setP ps L)) L.length := by
  intro i j hij hj
  rw [(at_flat (show i < L.length by omega)).1, (at_flat hj).1]
  intro e
  have h1 := lows_inj hd (hS.lt _ (List.getElem_mem (show i < L.length by omega))) (hS.lt _ (List.getElem_mem hj)) e
  exact (List.pairwise_iff_getElem.1 hS.nodup) i j (by omega) hj hij h1
theorem flat_high {ps : List Int} {n : Nat} {L : List Nat} (hd : LowsApart ps n) (hS : Stl ps n L) (hall : ∀ i, i < n → i ∈ L) (a : Int) : highOf (flatP (setP ps L)) L.length a = highOf ps n a := by
  by_cases hex : ∃ i, i < n ∧ at0 ps (i * 2) = a
  · obtain ⟨i, hi, hia⟩ := hex
    rw [highOf_some hi hia (fun j hj e => hd j i hj hi (e.trans hia.symm))]
    obtain ⟨k, hk, hki⟩ := List.getElem_of_mem (hall i hi)
    have h1 := (at_flat (ps := ps) hk).1
    rw [hki, hia] at h1
    rw [highOf_some hk h1 (fun j hj e => flat_apart hd hS j k hj hk (e.trans h1.symm)), (at_flat hk).2, hki]
  · rw [highOf_none (fun i hi e => hex ⟨i, hi, e⟩), highOf_none]
    intro k hk e
    rw [(at_flat hk).1] at e
    exact hex ⟨L[k], hS.lt _ (List.getElem_mem hk), e⟩
theorem flat_next {ps : List Int} {n : Nat} {L : List Nat} (hd : LowsApart ps n) (hS : Stl ps n L) (hall : ∀ i, i < n → i ∈ L) (a : Int) : nextL (flatP (setP ps L)) L.length a = nextL ps n a := by
  unfold nextL
  rw [flat_high hd hS hall]
theorem flat_highs {ps : List Int} {n : Nat} {L : List Nat} (hd : LowsApart ps n) (hh : HighsB ps n) (hS : Stl ps n L) (hall : ∀ i, i < n → i ∈ L) : HighsB (flatP (setP ps L)) L.length := fun a => by
  rw [flat_high hd hS hall]
  exact hh a

theorem flat_ord {ps : List Int} {n : Nat} {L : List Nat} (hd : LowsApart ps n) (hS : Stl ps n L) (hall : ∀ i, i < n → i ∈ L) : OrdQ (flatP (setP ps L)) L.length := by
  intro i j hi hj hs
  unfold StepP at hs
  rw [flat_next hd hS hall, (at_flat hi).1, (at_flat hj).1] at hs
  have hm : L[j] ∈ L.take i := hS.ord (L.take i) L[i] (L.drop (i + 1)) (by rw [← List.drop_eq_getElem_cons hi, List.take_append_drop]) L[j] (hS.lt _ (List.getElem_mem hj)) hs
  obtain ⟨m, hm1, hm2⟩ := List.getElem_of_mem hm
  simp at hm1
  rw [List.getElem_take] at hm2
  by_cases h : j < i
  · exact h
  · exact absurd hm2 ((List.pairwise_iff_getElem.1 hS.nodup) m j (by omega) hj (by omega))
theorem flat_gwN {ps : List Int} {n : Nat} {L : List Nat} (hd : LowsApart ps n) (hS : Stl ps n L) (hall : ∀ i, i < n → i ∈ L) (b : Int) : ∀ (f : Nat) (a : Int), gwN (flatP (setP ps L)) L.length b f a = gwN ps n b f a
  | 0, _ => rfl
  | f + 1, a => by
    unfold gwN
    rw [flat_next hd hS hall]
    congr 2
    exact List.map_congr_left (fun y _ => flat_gwN hd hS hall b f y)
theorem flat_wsum {ps : List Int} {n : Nat} {L : List Nat} (hd : LowsApart ps n) (hS : Stl ps n L) (hall : ∀ i, i < n → i ∈ L) (hn : L.length = n) (b a : Int) : wsum (flatP (setP ps L)) L.length b a = wsum ps n b a := by
  unfold wsum gw
  congr 1
  refine List.map_congr_left (fun y _ => ?_)
  rw [flat_gwN hd hS hall, hn]
theorem flat_wf {ps : List Int} {n : Nat} {L : List Nat} (hp : ps.length = 2 * n) (hw : ∀ x ∈ ps, (Lit.int .i64 x).wf = true) (hS : Stl ps n L) : ∀ x ∈ flatP (setP ps L), (Lit.int .i64 x).wf = true := by
  intro x hx
  unfold flatP at hx
  obtain ⟨q, hq, h⟩ := List.mem_flatMap.1 hx
  have := wf_setP hp hw hS.lt q hq
  simp at h
  rcases h with rfl | rfl
  · exact this.1
  · exact this.2

end Go.Proofs.Ytbhdipljhelddaa

/-! The rows of the Morse boundary have 0 and 1 alone. -/
namespace Go.Proofs.Ytbhdipljhelddaa
open Go.RowKit

theorem nodup_len63 {l : List Int} (h : l.Nodup) (hr : ∀ x ∈ l, 1 ≤ x ∧ x ≤ 63) : l.length ≤ 63 := by
  have hp := List.mergeSort_perm l (fun x y => decide (x ≤ y))
  have hs : (l.mergeSort (fun x y => decide (x ≤ y))).Pairwise (fun x y => decide (x ≤ y) = true) := List.pairwise_mergeSort (by intro a b c; simp; omega) (by intro a b; simp; omega) l
  have hn := hp.nodup_iff.2 h
  have hlt : (l.mergeSort (fun x y => decide (x ≤ y))).Pairwise (· < ·) := by
    have := hs.and hn
    exact this.imp fun ⟨h1, h2⟩ => by simp at h1; omega
  have := asc_len _ 1 hlt (fun x hx => hr x (hp.mem_iff.1 hx))
  rw [hp.length_eq] at this
  simpa using this

theorem okTo_31 {V : Int} {fs ps : List Int} {n : Nat} (hC : IsC V fs) (hO : OkTo fs ps n) : n ≤ 31 := by
  have hpair : ∀ i, i < n → at0 ps (i * 2) ∈ fs ∧ at0 ps (i * 2 + 1) ∈ fs ∧ at0 ps (i * 2) ≠ at0 ps (i * 2 + 1) := fun i hi => by
    have := (hO i hi).1
    unfold pairB at this
    simp only [Bool.and_eq_true, decide_eq_true_eq] at this
    refine ⟨this.1.1.1, this.1.1.2, fun e => ?_⟩
    have h2 := this.2
    rw [e] at h2
    omega
  have hcl : ∀ i j, i < j → j < n → at0 ps (j * 2) ≠ at0 ps (i * 2) ∧ at0 ps (j * 2) ≠ at0 ps (i * 2 + 1) ∧ at0 ps (j * 2 + 1) ≠ at0 ps (i * 2) ∧ at0 ps (j * 2 + 1) ≠ at0 ps (i * 2 + 1) := fun i j hij hj => clash_iff.1 ((hO j hj).2.2 i hij)
  have hnd : ((List.range n).map (fun i => at0 ps (i * 2)) ++ (List.range n).map (fun i => at0 ps (i * 2 + 1))).Nodup := by
    refine List.nodup_append.2 ⟨?_, ?_, ?_⟩
    · refine List.pairwise_map.2 (List.Pairwise.imp_of_mem (fun {a b} _ hb h => ?_) List.pairwise_lt_range)
      exact (hcl a b h (List.mem_range.1 hb)).1.symm
    · refine List.pairwise_map.2 (List.Pairwise.imp_of_mem (fun {a b} _ hb h => ?_) List.pairwise_lt_range)
      exact (hcl a b h (List.mem_range.1 hb)).2.2.2.symm
    · intro x hx y hy
      obtain ⟨i, hi, rfl⟩ := List.mem_map.1 hx
      obtain ⟨j, hj, rfl⟩ := List.mem_map.1 hy
      have hi := List.mem_range.1 hi
      have hj := List.mem_range.1 hj
      rcases Nat.lt_trichotomy i j with h | h | h
      · exact (hcl i j h hj).2.2.1.symm
      · subst h; exact (hpair i hi).2.2
      · exact (hcl j i h hi).2.1
  have := nodup_len63 hnd (fun x hx => by
    rcases List.mem_append.1 hx with h | h
    · obtain ⟨i, hi, rfl⟩ := List.mem_map.1 h
      exact hC.range63 _ (hpair i (List.mem_range.1 hi)).1
    · obtain ⟨i, hi, rfl⟩ := List.mem_map.1 h
      exact hC.range63 _ (hpair i (List.mem_range.1 hi)).2.1)
  simp at this
  omega

theorem stl_ex {ps : List Int} {n : Nat} (hc : NoCycle ps n) : ∃ L, Stl ps n L ∧ ∀ i, i < n → i ∈ L := by
  have key : ∀ (m : Nat) (L : List Nat), Stl ps n L → n - L.length = m → ∃ L', Stl ps n L' ∧ ∀ i, i < n → i ∈ L' := by
    intro m
    induction m using Nat.strongRecOn with
    | _ m ih =>
      intro L hS hm
      by_cases hst : ∀ i, i < n → i ∉ L → ∃ j, j < n ∧ StepP ps n i j ∧ j ∉ L
      · exact ⟨L, hS, acyclic_settled hc hst⟩
      · obtain ⟨i, hi⟩ := Classical.not_forall.1 hst
        obtain ⟨h1, hi⟩ := Classical.not_imp.1 hi
        obtain ⟨h2, hi⟩ := Classical.not_imp.1 hi
        have hS2 := hS.snoc h1 h2 (fun j hj hs => Classical.byContradiction fun hn => hi ⟨j, hj, hs, hn⟩)
        have hl := hS2.len
        simp only [List.length_append, List.length_cons, List.length_nil] at hl
        exact ih (n - (L ++ [i]).length) (by simp only [List.length_append, List.length_cons, List.length_nil]; omega) _ hS2 rfl
  exact key n [] (Stl.nil ps n) rfl

/-- The ways from a critical face: no wrapping. -/
theorem wsum_ps {V : Int} {fs ps : List Int} {n : Nat} (hC : IsC V fs) (hO : OkTo fs ps n) (hc : NoCycle ps n) {b : Nat} (hb : b < 64) (a : Int) : 0 ≤ wsum ps n (b : Int) a ∧ wsum ps n (b : Int) a ≤ 25769803776 := by
  obtain ⟨L, hS, hall⟩ := stl_ex hc
  have hd := okTo_apart hO
  have hln : L.length = n := (stl_all hS (fun i hi hn => absurd (hall i hi) hn)).1 hc
  have h31 := okTo_31 hC hO
  have hq := flat_wsum hd hS hall hln (b : Int) a
  rw [← hq]
  have hord := flat_ord hd hS hall
  have hhs := flat_highs hd (okTo_highs hC hO) hS hall
  exact wsum_rng (by omega) (ordQ_acyclic hord) hhs hord hb a


end Go.Proofs.Ytbhdipljhelddaa

/-! Cancelling two faces: the answer, and that what is known of the pairing will do. -/
namespace Go.Proofs.Ytbhdipljhelddaa
open Go.RowKit

/-- Pairs of a pairing have different high faces. -/
theorem okTo_high_injC {fs ps : List Int} {n : Nat} (h : OkTo fs ps n) {i j : Nat} (hi : i < n) (hj : j < n) (e : at0 ps (i * 2 + 1) = at0 ps (j * 2 + 1)) : i = j := by
  have one : ∀ a b, a < b → b < n → at0 ps (a * 2 + 1) ≠ at0 ps (b * 2 + 1) := fun a b hab hb he => by
    have := (h b hb).2.2 a hab
    unfold clashB at this
    simp [he] at this
  rcases Nat.lt_trichotomy i j with h1 | h1 | h1
  · exact absurd e (one i j h1 hj)
  · exact h1
  · exact absurd e.symm (one j i h1 hi)
theorem okTo_high_neC {V : Int} {fs ps : List Int} {n : Nat} (hC : IsC V fs) (hO : OkTo fs ps n) : ∀ i, i < n → at0 ps (i * 2 + 1) ≠ 0 := fun i hi e => by
  have h := (hO i hi).1
  unfold pairB at h
  simp only [Bool.and_eq_true, decide_eq_true_eq] at h
  have := hC.range63 _ h.1.1.2
  omega
theorem mway_same {ps qs : List Int} {n m : Nat} {a : Int} (hH : ∀ x, highOf qs m x = highOf ps n x) (hg : ∀ x, gw qs m a x = gw ps n a x) : ∀ (rs : List (Int × Int)) (h : Int), MWay qs m a h rs → MWay ps n a h rs
  | [], h, hw => hw
  | p :: rs, h, ⟨h1, h2, h3, h4, h5⟩ => by
    refine ⟨h1, h2, h3, ?_, ?_⟩
    · rw [← h4]
      unfold faceOf underL
      simp only [hH, hg]
    · have := mway_same hH hg rs _ h5
      rwa [hH] at this
theorem mway_one {ps : List Int} {n : Nat} {a : Int} : ∀ (rs rs' : List (Int × Int)) (h : Int), MWay ps n a h rs → MWay ps n a h rs' → rs = rs'
  | [], [], _, _, _ => rfl
  | [], p :: rs, h, h1, h2 => by
    have e : h = 0 := h1
    have := h2.2.1
    omega
  | p :: rs, [], h, h1, h2 => by
    have e : h = 0 := h2
    have := h1.2.1
    omega
  | p :: rs, q :: rs', h, ⟨a1, _, _, a4, a5⟩, ⟨b1, _, _, b4, b5⟩ => by
    have e1 : p.1 = q.1 := by rw [← a4, ← b4]
    have e : p = q := Prod.ext e1 (by rw [a1, b1])
    subst e
    rw [mway_one rs rs' _ a5 b5]
/-- The way. -/
noncomputable def routeL (ps : List Int) (n : Nat) (b a : Int) : List (Int × Int) := @dite _ (∃ rs, MWay ps n a b rs) (Classical.propDecidable _) (fun h => Classical.choose h) (fun _ => [])
theorem routeL_eq {ps : List Int} {n : Nat} {b a : Int} {rs : List (Int × Int)} (h : MWay ps n a b rs) : routeL ps n b a = rs := by
  have he : ∃ rs, MWay ps n a b rs := ⟨rs, h⟩
  unfold routeL
  rw [dif_pos he]
  exact mway_one _ _ _ (Classical.choose_spec he) h

/-- What CancelFaces answers. -/
noncomputable def cancR (V : Int) (fs : List Int) (n : Nat) (ps : List Int) (b a : Int) : List (Int × Int) × Int :=
  if givenR V fs n ps b a = 0 then (if wsum ps n b a = 1 then (cancL (setP ps (List.range n)) (routeL ps n b a), 0) else ([], 5)) else ([], givenR V fs n ps b a)

theorem lessP_trans {a b c d e f : Int} (h1 : lessP a b c d = true) (h2 : lessP c d e f = true) : lessP a b e f = true := by
  unfold lessP at *
  simp only [Bool.or_eq_true, Bool.and_eq_true, decide_eq_true_eq] at *
  omega
theorem okTo_less {fs ps : List Int} {n : Nat} (h : OkTo fs ps n) : ∀ (j i : Nat), i < j → j < n → lessP (at0 ps (i * 2)) (at0 ps (i * 2 + 1)) (at0 ps (j * 2)) (at0 ps (j * 2 + 1)) = true
  | 0, i, hi, _ => absurd hi (Nat.not_lt_zero _)
  | j + 1, i, hi, hj => by
    have h1 := (h (j + 1) hj).2.1 (by omega)
    rw [Nat.add_sub_cancel] at h1
    by_cases e : i = j
    · subst e; exact h1
    · exact lessP_trans (okTo_less h j i (by omega) (by omega)) h1
theorem setP_asc {fs ps : List Int} {n : Nat} (h : OkTo fs ps n) : (setP ps (List.range n)).Pairwise leP := by
  unfold setP
  rw [List.pairwise_map]
  refine List.Pairwise.imp_of_mem ?_ List.pairwise_lt_range
  intro i j _ hj hij
  exact leP_of_less (okTo_less h j i hij (by simpa using hj))
theorem setP_nodup {fs ps : List Int} {n : Nat} (h : OkTo fs ps n) : (setP ps (List.range n)).Nodup := by
  unfold setP
  refine List.pairwise_map.2 (List.Pairwise.imp_of_mem ?_ List.pairwise_lt_range)
  intro i j _ hj hij e
  exact okTo_apart h i j hij (by simpa using hj) (congrArg Prod.fst e)
theorem mem_setR {ps : List Int} {n : Nat} {p : Int × Int} : p ∈ setP ps (List.range n) ↔ ∃ i, i < n ∧ pairAt ps i = p := by
  unfold setP
  simp [List.mem_map]
theorem flatP_setR {ps : List Int} {n : Nat} (hp : ps.length = 2 * n) : flatP (setP ps (List.range n)) = ps := by
  have hl : (flatP (setP ps (List.range n))).length = ps.length := by rw [flatP_len, setP_len, List.length_range, hp]
  refine List.ext_getElem hl (fun k h1 h2 => ?_)
  have hk : k / 2 < n := by omega
  obtain ⟨e1, e2⟩ := flatP_at (setP ps (List.range n)) (k / 2) (by rw [setP_len, List.length_range]; exact hk)
  have hs : (setP ps (List.range n))[k / 2]?.getD (0, 0) = pairAt ps (k / 2) := by
    unfold setP
    rw [List.getElem?_map, List.getElem?_range hk]
    rfl
  rw [hs] at e1 e2
  have key : at0 (flatP (setP ps (List.range n))) k = at0 ps k := by
    rcases (show k = k / 2 * 2 ∨ k = k / 2 * 2 + 1 by omega) with e | e
    · rw [e]; exact e1
    · rw [e]; exact e2
  unfold at0 at key
  rw [List.getElem?_eq_getElem h1, List.getElem?_eq_getElem h2] at key
  exact key

/-- The pairing in the order in which it has settled. -/
theorem canc_H {V : Int} {fs ps : List Int} {n : Nat} {b a : Int} {L : List Nat} (hC : IsC V fs) (hO : OkTo fs ps n) (hp : ps.length = 2 * n) (hs : suchB fs ps b a = true) (hS : Stl ps n L) (hall : ∀ i, i < n → i ∈ L) (hn : L.length = n) (h1 : wsum ps n b a = 1) : CncH (flatP (setP ps L)) L.length b a := by
  have hd := okTo_apart hO
  have hh := okTo_highs hC hO
  unfold suchB critB at hs
  simp only [Bool.and_eq_true, decide_eq_true_eq, Bool.not_eq_true', decide_eq_false_iff_not] at hs
  obtain ⟨⟨hbf, hbp⟩, ⟨_, hap⟩, _⟩ := hs
  have hb63 := hC.range63 _ hbf
  obtain ⟨bn, rfl⟩ : ∃ bn : Nat, b = (bn : Int) := ⟨b.toNat, by omega⟩
  have hbn : bn < 64 := by omega
  have hLt : ∀ {i : Nat} (hi : i < L.length), L[i] < n := fun hi => hS.lt _ (List.getElem_mem hi)
  have hws : ∀ x, wsum (flatP (setP ps L)) L.length (bn : Int) x = ((belowR (bn : Int).toNat 63).map (gw (flatP (setP ps L)) L.length x)).sum := fun x => by
    rw [← wsPart_all hbn x]
    unfold wsPart
    rw [List.take_length, Int.toNat_natCast]
  refine ⟨flat_ord hd hS hall, flat_highs hd hh hS hall, flat_apart hd hS, fun i j hi hj e => ?_, fun i hi => ?_, fun i hi e => ?_, fun i hi e => ?_, by omega, ?_, hws⟩
  · rw [(at_flat hi).2, (at_flat hj).2] at e
    have := okTo_high_injC hO (hLt hi) (hLt hj) e
    exact (List.getElem_inj hS.nodup).1 this
  · rw [(at_flat hi).2]
    exact okTo_high_neC hC hO _ (hLt hi)
  · rw [(at_flat hi).1] at e
    exact hap (by rw [← e]; exact getD_mem (by have := hLt hi; omega))
  · rw [(at_flat hi).2] at e
    exact hbp (by rw [← e]; exact getD_mem (by have := hLt hi; omega))
  · rw [← hws a, flat_wsum hd hS hall hn]
    exact h1
theorem canc_way {V : Int} {fs ps : List Int} {n : Nat} {b a : Int} {L : List Nat} (hC : IsC V fs) (hO : OkTo fs ps n) (hp : ps.length = 2 * n) (hs : suchB fs ps b a = true) (hS : Stl ps n L) (hall : ∀ i, i < n → i ∈ L) (hn : L.length = n) (h1 : wsum ps n b a = 1) :
    MWay ps n a b (rt (flatP (setP ps L)) L.length b a L.length b) := by
  have hd := okTo_apart hO
  refine mway_same (qs := flatP (setP ps L)) (m := L.length) (fun x => flat_high hd hS hall x) (fun x => ?_) _ _ (canc_H hC hO hp hs hS hall hn h1).route
  unfold gw
  rw [flat_gwN hd hS hall, hn]
theorem stl_len {ps : List Int} {n : Nat} {L : List Nat} (hS : Stl ps n L) (hall : ∀ i, i < n → i ∈ L) : L.length = n :=
  Nat.le_antisymm hS.len (by have := sub_len (List.range n) L List.nodup_range (fun x hx => hall x (by simpa using hx)); simpa using this)
/-- The way is there, and none of it is longer than all pairs. -/
theorem route_of {V : Int} {fs ps : List Int} {n : Nat} {b a : Int} (hC : IsC V fs) (hO : OkTo fs ps n) (hp : ps.length = 2 * n) (hs : suchB fs ps b a = true) (hc : NoCycle ps n) (h1 : wsum ps n b a = 1) : MWay ps n a b (routeL ps n b a) ∧ (routeL ps n b a).length ≤ n + 1 := by
  obtain ⟨L, hS, hall⟩ := stl_ex hc
  have hn := stl_len hS hall
  have h := canc_way hC hO hp hs hS hall hn h1
  rw [routeL_eq h]
  refine ⟨h, ?_⟩
  have := CncH.rt_len (qs := flatP (setP ps L)) (n := L.length) (b := b) (a := a) L.length b
  omega
/-- What the program sums. -/
theorem canc_prog {V : Int} {fs ps : List Int} {n : Nat} {b a : Int} {L : List Nat} {s : List (Int × Int)} (hC : IsC V fs) (hO : OkTo fs ps n) (hp : ps.length = 2 * n) (hs : suchB fs ps b a = true) (hS : Stl ps n L) (hall : ∀ i, i < n → i ∈ L) (hn : L.length = n) (h1 : wsum ps n b a = 1)
    (h : OddP (setP ps (List.range n) ++ excL (flatP (setP ps L)) L.length b a (downL L.length)) s) : s = cancL (setP ps (List.range n)) (routeL ps n b a) := by
  rw [routeL_eq (canc_way hC hO hp hs hS hall hn h1)]
  refine canc_sum (canc_H hC hO hp hs hS hall hn h1) (setP_nodup hO) (setP_asc hO) (fun p => ?_) h
  rw [mem_setR]
  have e : ∀ (k : Nat) (hk : k < L.length), pairAt (flatP (setP ps L)) k = pairAt ps L[k] := fun k hk => by
    unfold pairAt
    rw [(at_flat hk).1, (at_flat hk).2]
  constructor
  · rintro ⟨i, hi, rfl⟩
    obtain ⟨k, hk, ek⟩ := List.getElem_of_mem (hall i hi)
    exact ⟨k, hk, by rw [e k hk, ek]⟩
  · rintro ⟨k, hk, rfl⟩
    exact ⟨L[k], hS.lt _ (List.getElem_mem hk), (e k hk).symm⟩

end Go.Proofs.Ytbhdipljhelddaa

/-! slices.Collect over an iterator of pairs. -/
namespace Go.Proofs.Ytbhdipljhelddaa
open Go.RowKit Go.Maps Go.Sort Go.Shelf

attribute [local go_sem] Oper.semAt_some

/-- The list that is being appended to. -/
structure ApP (w W : World) (v : Value) (xs : List (Int × Int)) : Prop where
  below : Below w.heap.size w W
  box : W.heap[w.heap.size]? = some (.cells #[v] 37 (0, 0))
  row : W.ownsRow (w.heap.size + 3) 65 2 v xs.length ((flatP xs).map (Value.int .i64))

theorem ApP.turn {w W W' : World} {v : Value} {xs : List (Int × Int)} (h : ApP w W v xs) {row : Option Nat} (hg : W.grownBy W' row) (hr : ∀ r, row = some r → w.heap.size + 1 ≤ r ∧ v.ownBlock ≠ some r) : ApP w W' v xs where
  below := h.below.grown hg h.below.size (fun k e => by have := (hr k e).1; omega)
  box := (hg.block _ (lt_of_get h.box) (fun e => by have := (hr _ e.symm).1; omega)).trans h.box
  row := by
    cases hv : v.ownBlock with
    | none => exact h.row.kept hg (.inl hv)
    | some g => exact h.row.kept hg (.inr (fun e => by rw [hv] at e; exact (hr g e.symm).2 hv))

theorem app_ownIn {α : Type} {w : World} (f : List α → List (Int × Int)) : OwnIn (w.heap.size + 1) 2 (fun (pre : List α) W' => ∃ v, ApP w W' v (f pre)) := by
  rintro s A C row ⟨v, h⟩ hg hr
  refine ⟨v, h.turn hg (fun r e => ?_)⟩
  obtain ⟨h1, h2⟩ := hr r e
  refine ⟨h1, fun ev => ?_⟩
  have hb := (h.row.lt r ev).1
  rcases h2 with h2 | ⟨o, ho, hc⟩
  · omega
  · rcases h.row.2 with ⟨rfl, _⟩ | ⟨g, cp, cur, rfl, _, hg', _⟩
    · simp [Value.ownBlock] at ev
    · simp [Value.ownBlock] at ev
      subst ev
      rw [hg'] at ho
      injection ho with ho
      rw [← ho] at hc
      simp [Obj.isCells] at hc

theorem ApP.grow {w W W' : World} {v v' : Value} {xs ys : List (Int × Int)} (h : ApP w W v xs) (hq : W'.ownsRow (w.heap.size + 3) 65 2 v' ys.length ((flatP ys).map (Value.int .i64))) (hg : W.grownBy W' v.ownBlock) :
    ApP w (W'.setCell ⟨w.heap.size, 0, none⟩ v') v' ys := by
  have hlt := h.row.lt
  have ne : ∀ j, j < w.heap.size + 3 → v.ownBlock ≠ some j := fun j hj e => by have := (hlt j e).1; omega
  have ne' : v'.ownBlock ≠ some w.heap.size := fun e => by have := (hq.lt _ e).1; omega
  have hgs := grownBy_set W' ⟨w.heap.size, 0, none⟩ v'
  have b4' : W'.heap[w.heap.size]? = some (.cells #[v] 37 (0, 0)) := (hg.block _ (lt_of_get h.box) (fun e => ne _ (by omega) e.symm)).trans h.box
  refine ⟨?_, ?_, ownsRow_set hq ne' _⟩
  · have hb := h.below.grown hg h.below.size (fun k e => by have := (hlt k e).1; omega)
    exact hb.grown hgs hb.size (fun k e => by cases e; exact Nat.le_refl _)
  · simp only [World.setCell, Array.getElem?_modify, b4']
    simp

theorem ApP.leaves {w W w' : World} {v : Value} {xs : List (Int × Int)} (h : ApP w W v xs) (hw' : Shut [w.heap.size + 1] W w') : ResP w w' v xs := by
  refine ⟨?_, h.below.trans (hw'.below (fun D hD => by simp at hD; omega))⟩
  have hr := h.row
  refine ⟨hr.1, ?_⟩
  rcases hr.2 with hn | ⟨g, cap, cur, hv, hb, hg, rest⟩
  · exact .inl hn
  · exact .inr ⟨g, cap, cur, hv, by omega, (hw'.block g (fun hm => by simp at hm; omega)).trans hg, rest⟩

set_option maxRecDepth 100000 in
set_option maxHeartbeats 4000000 in
/-- slices.AppendSeq(nil, seq): what the iterator hands over, in its order. -/
theorem appendSeqP_in {α : Type} (n : Nat) (hn : 12 ≤ n) (gf : Nat) (lb : Array Value) (eg : ∀ args w, (callFunc gf args).run Try.prog w = .ok (.enter gf args) w) (f : α → Int × Int) (Bs : List Nat) (L : List α) (w : World) (hBs : ∀ b ∈ Bs, b < w.heap.size) (hL : L.length ≤ 1048576)
    (hseq : SeqStopsP Fence.wide (n - 1) Try.prog gf lb (fun x => #[.agg #[.int .i64 (f x).1, .int .i64 (f x).2]]) Bs 0 L w) :
    CallsIn Fence.wide n Try.prog 208 #[.slice none 0 0, .func (.func gf) #[] lb] w fun e w' => ∃ v, e = .returned v ∧ ResP w w' v (L.map f) := by
  refine callsIn_of_wp_marks Try.func208 rfl trivial ?_ rfl
  simp only [Try.ntmps208, List.size_toArray, List.length_cons, List.length_nil, Nat.reduceAdd, Nat.reduceSub, Array.replicate_succ, Array.replicate_zero, List.push_toArray, List.append_toArray, List.nil_append, List.cons_append]
  gi_wp2_with fail
  obtain ⟨W0, hW0⟩ : ∃ W0, W0 = w.alloc (.cells #[.slice none 0 0] 37) := ⟨_, rfl⟩
  have hs0 : W0.heap.size = w.heap.size + 1 := by rw [hW0]; simp
  have hB0 : Below w.heap.size w W0 := by rw [hW0]; exact (Below.refl _ w).alloc (Nat.le_refl _) _
  have hap : ApP w W0 (.slice none 0 0) [] := ⟨hB0, by rw [hW0]; exact heap_alloc_new _ _, World.ownsRow_nil _ _ _ _⟩
  rw [← hW0]
  have Hap := hid hap
  clear hap hW0
  refine wpIn_rangeFunc_PH rfl (by omega) (gf := gf) (lb := lb) rfl trivial eg hseq (fun b hb => by have := hBs b hb; omega) hB0 (fun _ => rfl)
    (fun pre W' => ∃ v, ApP w W' v (pre.map f)) (fun _ _ _ => False)
    (by rw [hs0]; exact app_ownIn (fun pre => pre.map f)) (fun _ => ownIn_pure _ _ _) ⟨_, Hap.out⟩
    (fun x => .cells #[.int .i64 (f x).1, .int .i64 (f x).2] 65)
    (fun x bx => { tmps := #[.slice none 0 0, .func (.func gf) #[] lb, .pointer (some ⟨w.heap.size, 0, none⟩), undef, .slice none 0 0, .pointer (some ⟨bx, 0, none⟩), .func (.func gf) #[] lb, .agg #[.int .i64 (f x).1, .int .i64 (f x).2], undef, undef, undef, undef, undef], defers := [] }) ?assign ?body ?done ?stop
  case assign =>
    intro l x W3 K hK
    gi_wp2
    exact hK
  case stop =>
    rintro c pre W3 hpre hF hD
    exact hF.elim
  case body =>
    rintro pre x bx W3 hpre hbx hsz3 hob _ ⟨v, hA⟩
    have hpl : (pre.map f).length ≤ 1048576 := by have := hpre.length_le; simp at this ⊢; omega
    obtain ⟨c0, f0⟩ := box_cell hA.box
    obtain ⟨u, hu⟩ : ∃ u, u = f x := ⟨_, rfl⟩
    rw [← hu] at hob ⊢
    obtain ⟨p0, p1, _, _⟩ := two_of hob
    have HA := hid hA
    have hba : w.heap.size + 3 ≤ W3.heap.size := by omega
    have Hu := hid hu
    have Hsz3 := hid hsz3
    clear hA hob hu hsz3
    gi_wp2_with (gi_at_builtin; refine append_pairIn rfl rfl HA.out.row hba (by omega) rfl rfl ?_; intro v' w6 hq6 hg6 _; obtain ⟨_, av6, cp6, rfl, _⟩ := pairs_form hq6; have c66 := (box_cell ((hg6.block _ (lt_of_get HA.out.box) (fun e => by have := (HA.out.row.lt _ e.symm).1; omega)).trans HA.out.box)).1; have f66 := (box_cell ((hg6.block _ (lt_of_get HA.out.box) (fun e => by have := (HA.out.row.lt _ e.symm).1; omega)).trans HA.out.box)).2; have Hq6 := hid hq6; have Hg6 := hid hg6; clear hq6 hg6)
    have hsz3 := Hsz3.out
    refine ⟨⟨by have := Hg6.out.size; simp [World.setCell]; omega, fun r hr => ?_⟩, ?_⟩
    · have hne : v.ownBlock ≠ some r := fun e => by
        have := (HA.out.row.lt _ e).1
        rcases hr with h | h
        · have := hBs r h; omega
        · omega
      refine (Below.heap_setCell _ _ _ _ (fun e => ?_)).trans (Hg6.out.block r (by rcases hr with h | h; have := hBs r h; omega; omega) (fun e => hne e.symm))
      simp only at e
      rcases hr with h | h
      · have := hBs r h; omega
      · omega
    · have e : (pre ++ [x]).map f = pre.map f ++ [(u.1, u.2)] := by rw [Hu.out]; simp
      exact ⟨_, HA.out.grow (ys := (pre ++ [x]).map f) (by rw [e]; have h := Hq6.out; simp only [List.length_append, List.length_map, List.length_cons, List.length_nil, Nat.zero_add] at h ⊢; exact h) Hg6.out⟩
  case done =>
    rintro W4 ⟨v, hA⟩ hD4
    obtain ⟨c0, f0⟩ := box_cell hA.box
    have HA := hid hA
    rw [hs0] at hD4
    have HD := hid hD4
    clear hA hD4
    gi_wp2
    refine leaves_marks (by simp) [_] _ (by simp) (fun D hD => by simp only [List.mem_singleton] at hD; subst hD; first | exact HD.out | (rw [hs0]; exact HD.out)) (fun w' hw' => ?_)
    refine ⟨_, results_tmp rfl _ _ _, _, rfl, HA.out.leaves ?_⟩
    first | exact hw' | (rw [hs0] at hw'; exact hw')

set_option maxRecDepth 100000 in
set_option maxHeartbeats 1000000 in
theorem collectP_in {α : Type} (n : Nat) (hn : 13 ≤ n) (gf : Nat) (lb : Array Value) (eg : ∀ args w, (callFunc gf args).run Try.prog w = .ok (.enter gf args) w) (f : α → Int × Int) (Bs : List Nat) (L : List α) (w : World) (hBs : ∀ b ∈ Bs, b < w.heap.size) (hL : L.length ≤ 1048576)
    (hseq : SeqStopsP Fence.wide (n - 1 - 1) Try.prog gf lb (fun x => #[.agg #[.int .i64 (f x).1, .int .i64 (f x).2]]) Bs 0 L w) :
    CallsIn Fence.wide n Try.prog 176 #[.func (.func gf) #[] lb] w fun e w' => ∃ v, e = .returned v ∧ ResP w w' v (L.map f) := by
  have h1 : 1 ≤ n := by omega
  have HA := hid (appendSeqP_in (n - 1) (by omega) gf lb eg f Bs L w hBs hL hseq)
  refine callsIn_of_wp Try.func176 rfl trivial ?_ rfl
  simp only [Try.ntmps176, List.size_toArray, List.length_cons, List.length_nil, Nat.reduceAdd, Nat.reduceSub, Array.replicate_succ, Array.replicate_zero, List.push_toArray, List.append_toArray, List.nil_append, List.cons_append]
  gi_wp2_with (refine ⟨trivial, ?_⟩; gi_at_call 208; refine HA.out.mono ?_; rintro e w1 ⟨v, rfl, hr⟩)
  go_ret
  exact ⟨v, rfl, hr⟩

end Go.Proofs.Ytbhdipljhelddaa

/-! slices.Values over a list of pairs. -/
namespace Go.Proofs.Ytbhdipljhelddaa
open Go.RowKit Go.Maps Go.Sort Go.Shelf

attribute [local go_sem] Oper.semAt_some

/-- The block that a list's pairs lie in. -/
def rowBp (a : Option Addr) (xs : List (Int × Int)) : List Nat := if xs.length = 0 then [] else a.toList.map (·.block)

set_option maxRecDepth 100000 in
set_option maxHeartbeats 2000000 in
theorem valuesP_P (n : Nat) (hn : 1 ≤ n) (B0 : Nat) (a : Option Addr) (cap : Nat) (xs : List (Int × Int)) (w : World) (hB : w.heap[B0]? = some (.cells #[.slice a xs.length cap] 37 (0, 0))) (hx : SlI w w.heap.size a (flatP xs)) (hl : xs.length ≤ 1048576) :
    SeqStopsP Fence.wide n Try.prog 178 #[.pointer (some ⟨B0, 0, none⟩)] (fun x : Int × Int => #[.agg #[.int .i64 x.1, .int .i64 x.2]]) (B0 :: rowBp a xs) 0 xs w := by
  intro l J Jx W hW hJ hJx hY h0
  have hB' := (hW.block B0 (lt_of_get hB)).trans hB
  have hx' := hx.later hW hW.size
  have Hx := hid hx'
  have HY := hid hY
  have HB := hid hB'
  have HJ := hid hJ
  clear hx hx' hY hB hW hJ hJx
  have c0 := (box_cell HB.out).1
  refine callsIn_of_wp Try.func178 rfl trivial ?_ rfl
  simp only [Try.ntmps178, List.size_toArray, List.length_cons, List.length_nil, Nat.reduceAdd, Nat.reduceSub, Array.replicate_succ, Array.replicate_zero, List.push_toArray, List.append_toArray, List.nil_append, List.cons_append]
  gi_wp2
  clear c0
  gi_loopw [7] (fun i wr => ∃ k : Nat, k ≤ xs.length ∧ i = .int .i64 k ∧ J (xs.take k) wr ∧ W.heap.size ≤ wr.heap.size ∧ Hid (∀ r, r ∈ (B0 :: rowBp a xs) → wr.heap[r]? = W.heap[r]?)) (fun i _ => xs.length - (intOf i).toNat)
  case atStart => exact ⟨0, Nat.zero_le _, rfl, by simpa using h0, Nat.le_refl _, hid (fun _ _ => rfl)⟩
  case round =>
    obtain ⟨k, hk, rfl, hJk, hsz, Hk⟩ := hrel
    by_cases hlt : k < xs.length
    · obtain ⟨b, off, hb, rfl, hc⟩ : ∃ b off, b < W.heap.size ∧ a = some ⟨b, off, none⟩ ∧ ∀ i, i < (flatP xs).length → W.cell? ⟨b, off + i, none⟩ = some (.int .i64 ((flatP xs)[i]?.getD 0)) := by
        rcases Hx.out with h | h
        · have := flatP_len xs
          rw [h] at this; simp at this; omega
        · exact h
      obtain ⟨x, hxk⟩ : ∃ x, x = xs[k]?.getD (0, 0) := ⟨_, rfl⟩
      obtain ⟨e1, e2⟩ := flatP_at xs k hlt
      rw [← hxk] at e1 e2
      have hbk := Hk.out b (by unfold rowBp; rw [if_neg (by omega)]; simp)
      have d0 : wr.cell? ⟨b, off + k * 2, none⟩ = some (.int .i64 x.1) := by
        rw [World.cell?_of_block hbk, hc _ (by rw [flatP_len]; omega), ← e1]
        rfl
      have d1 : wr.cell? ⟨b, off + k * 2 + 1, none⟩ = some (.int .i64 x.2) := by
        rw [World.cell?_of_block hbk, Nat.add_assoc, hc _ (by rw [flatP_len]; omega), ← e2]
        rfl
      have htk : xs.take (k + 1) = xs.take k ++ [x] := by rw [List.take_succ_eq_append_getElem hlt, hxk, List.getElem?_eq_getElem hlt]; rfl
      have hpre : xs.take k ++ [x] <+: xs := by rw [← htk]; exact List.take_prefix _ _
      obtain ⟨W2, hW2⟩ : ∃ W2, W2 = wr.alloc (.cells #[.int .i64 x.1, .int .i64 x.2] 65) := ⟨_, rfl⟩
      have hJ2 : J (xs.take k) W2 := by rw [hW2]; exact HJ.out.alloc _ hJk
      have hs2 : W2.heap.size = wr.heap.size + 1 := by rw [hW2]; simp
      obtain ⟨fn, tmps, assign, body, hy, hR⟩ := HY.out (xs.take k) x W2 hpre (by omega) hJ2
      have hp2 : W2.heap[wr.heap.size]? = some (.cells #[.int .i64 x.1, .int .i64 x.2] 65 (0, 0)) := by rw [hW2]; exact heap_alloc_new _ _
      obtain ⟨p0, p1, p2, p3⟩ := two_of hp2
      rw [hW2] at p0 p1 p2 p3 hy
      have Hk2 : Hid (∀ r, r ∈ (B0 :: rowBp (some ⟨b, off, none⟩) xs) → W2.heap[r]? = W.heap[r]?) := hid (fun r hr => by
        rw [hW2]
        refine (Below.heap_alloc _ _ _ ?_).trans (Hk.out r hr)
        have h1 := Hk.out r hr
        rcases List.mem_cons.1 hr with e | e
        · subst e; have := lt_of_get HB.out; omega
        · unfold rowBp at e
          rw [if_neg (by omega)] at e
          simp at e
          omega)
      have Htk := hid htk
      have Hpre := hid hpre
      have hi0 : (0 : Int) ≤ (k : Int) := by omega
      have hi1 : (k : Int) < (xs.length : Int) := by omega
      have Hsz : Hid (W.heap.size ≤ W2.heap.size) := hid (by omega)
      have HR := hid hR
      clear hxk htk hpre hc hsz e1 e2 hJk hJ2 hp2 hR hs2 hbk
      gi_wp2
      rw [← hW2]
      refine HR.out.mono ?_
      rintro e W3 ⟨hkp, ⟨rfl, hJ3⟩ | ⟨rfl, hJ3⟩⟩
      · have HJ3 := hid hJ3
        have Hkp := hid hkp
        clear hJ3 hkp
        gi_wp2
        go_roundw
        case rel => exact ⟨k + 1, by omega, by go_num, by rw [Htk.out]; exact HJ3.out, Nat.le_trans Hsz.out Hkp.out.size, hid (fun r hr => (Hkp.out.same r (.inl hr)).trans (Hk2.out r hr))⟩
        case measure => simp [intOf]; omega
      · have HJ3 := hid hJ3
        clear hJ3 hkp
        gi_wp2
        refine bodyPost_ret (results_none rfl _ _ _) rfl ?_
        exact ⟨⟨_, rfl⟩, .inr ⟨_, Hpre.out, HJ3.out⟩⟩
    · have HJe := hid (show J xs wr by rw [show k = xs.length by omega, List.take_length] at hJk; exact hJk)
      gi_wp2
      go_end0
      exact ⟨⟨_, rfl⟩, .inl HJe.out⟩

set_option maxRecDepth 100000 in
set_option maxHeartbeats 1000000 in
theorem valuesP_in (n : Nat) (a : Option Addr) (m cap : Nat) (w : World) :
    CallsIn Fence.wide n Try.prog 120 #[.slice a m cap] w fun e w' => e = .returned (.func (.func 178) #[] #[.pointer (some ⟨w.heap.size, 0, none⟩)]) ∧ w' = w.alloc (.cells #[.slice a m cap] 37) := by
  refine callsIn_of_wp Try.func120 rfl trivial ?_ rfl
  simp only [Try.ntmps120, List.size_toArray, List.length_cons, List.length_nil, Nat.reduceAdd, Nat.reduceSub, Array.replicate_succ, Array.replicate_zero, List.push_toArray, List.append_toArray, List.nil_append, List.cons_append]
  gi_wp2
  go_ret
  exact ⟨rfl, rfl⟩

end Go.Proofs.Ytbhdipljhelddaa

/-! 'append(row, list...)' of pairs, as a run. -/
namespace Go.Proofs.Ytbhdipljhelddaa
open Go.RowKit

theorem wp_append_run {P : Program} {o : Oper} {a : Act} {w w' : World} {K : Act → World → Prop} {Q : Exit → Act → World → Prop} {s y : Operand} {T : TypeId} (ho : o.op = .call { callee := .builtin .append, args := #[s, y], argTypes := #[T, T] })
    {v u v' : Value} (hs : a.eval s = v) (hy : a.eval y = u) (hr : (Builtin.append_ #[T, T] o.type #[v, u]).run P w = .ok v' w') (hK : K (a.put o.dst v') w') : o.wp P a w K Q := by
  unfold Oper.wp execOp
  simp only [ho, resolve, invoke, builtin, Sem.run_bind, Sem.run_pure, Result.andThen_ok, List.map_toArray, List.map_cons, List.map_nil, hs, hy, hr]
  exact hK
/-- 'append(row, list...)' of pairs, as a run. -/
theorem append_run {w : World} {base : Nat} {v : Value} {m : Nat} {xs ys : List Int} {ad : Addr} {l c : Nat} (hown : w.ownsRow base 65 2 v m (xs.map (Value.int .i64))) (hbase : base ≤ w.heap.size) (hm : m ≤ 1048576) (hl : l ≤ 1048576) (hys : ys.length = l * 2)
    (hc : ∀ j, j < l * 2 → w.cell? (ad.add j) = some (.int .i64 (ys[j]?.getD 0))) :
    ∃ v' w', (Builtin.append_ #[37, 37] 37 #[v, .slice (some ad) l c]).run Try.prog w = .ok v' w' ∧ w'.ownsRow base 65 2 v' (m + l) ((xs ++ ys).map (Value.int .i64)) ∧ w.grownBy w' v.ownBlock ∧ Below base w w' := by
  obtain ⟨i0, hi, hz0, hz1, hz2⟩ := info_parts info_pair
  obtain ⟨v', w', h1, h2, h3, _, _⟩ := run_append_own_at (P := Try.prog) (w := w) base 37 37 65 i0 (.agg #[.int .i64 0, .int .i64 0]) 2 16 Try.underlying37 hi hz0 hz1 hz2 rfl (by decide) v m (xs.map (Value.int .i64)) hown ad l c (ys.map (Value.int .i64)) (by simp [hys]) (fun j u hj => by
    have hjl : j < ys.length := by
      have := (List.getElem?_eq_some_iff.1 hj).1
      simpa using this
    have h := hc j (by omega)
    rw [List.getElem?_map, List.getElem?_eq_getElem hjl] at hj
    rw [List.getElem?_eq_getElem hjl] at h
    simp at hj h
    rw [h, hj]) (fun u hu => by
    obtain ⟨x, _, rfl⟩ := List.mem_map.1 hu
    rfl) (by unfold maxLen; omega) (by omega) hbase
  exact ⟨v', w', h1, by rw [List.map_append]; exact h2, h3, (Below.refl base w).grown h3 hbase (fun k hk => (hown.lt k hk).1)⟩
/-- A list of one pair. -/
theorem one_pair {w : World} {base : Nat} (hb : base ≤ w.heap.size) (x y : Int) : (w.alloc (.cells #[.int .i64 x, .int .i64 y] 65)).ownsRow base 65 2 (.slice (some ⟨w.heap.size, 0, none⟩) 1 1) 1 ([x, y].map (Value.int .i64)) :=
  ⟨by simp, .inr ⟨w.heap.size, 1, _, rfl, hb, heap_alloc_new w _, Nat.le_refl _, by decide, by simp, by simp⟩⟩

theorem wpList_append_run {P : Program} {ops : Array Oper} {rest : List Oper} {o : Oper} {a : Act} {w w' : World} {Q : Exit → Act → World → Prop} (hgd : o.guard = none) {s y : Operand} {T : TypeId} (ho : o.op = .call { callee := .builtin .append, args := #[s, y], argTypes := #[T, T] })
    {v u v' : Value} (hs : a.eval s = v) (hy : a.eval y = u) (hr : (Builtin.append_ #[T, T] o.type #[v, u]).run P w = .ok v' w') (hK : wpList P ops Q rest (a.put o.dst v') w') : wpList P ops Q (o :: rest) a w :=
  wpList_plain hgd fun _ hK' => wp_append_run ho hs hy hr (hK' _ _ hK)

theorem map_get {ys : List Int} {j : Nat} (h : j < ys.length) : (ys.map (Value.int .i64))[j]? = some (.int .i64 (ys[j]?.getD 0)) := by simp [h]

theorem own_pairs {w : World} {base b n c : Nat} {qs : List Int} (h : w.ownsRow base 65 2 (.slice (some ⟨b, 0, none⟩) n c) n (qs.map (Value.int .i64))) : b < w.heap.size ∧ n ≤ c ∧ ∀ i, i < qs.length → w.cell? ⟨b, 0 + i, none⟩ = some (.int .i64 (qs[i]?.getD 0)) := by
  refine ⟨(h.lt b rfl).2, ?_, fun i hi => ?_⟩
  · rcases h.2 with ⟨h1, _⟩ | ⟨g, cp, cur, h1, _, _, h2, _⟩
    · cases h1
    · injection h1 with _ h3
      omega
  · have := h.cells rfl i _ (map_get hi)
    have hadd : (⟨b, 0, none⟩ : Addr).add i = ⟨b, 0 + i, none⟩ := by unfold Addr.add; split <;> simp_all
    rwa [hadd] at this
theorem row_later {w w' : World} {B base e s n : Nat} {v : Value} {xs : List Value} (h : w.ownsRow base e s v n xs) (hb : Below w.heap.size w w') (_ : B = 0) : w'.ownsRow base e s v n xs :=
  h.kept (row := none) ⟨hb.os, hb.tape, hb.output, hb.size, fun q hq _ => hb.block q hq⟩ (by cases hv : v.ownBlock <;> simp)

end Go.Proofs.Ytbhdipljhelddaa

/-! slices.Grow at nil and slices.Concat of one list, over pairs. -/
namespace Go.Proofs.Ytbhdipljhelddaa
open Go.RowKit

set_option maxRecDepth 100000 in
set_option maxHeartbeats 2000000 in
theorem growP_nil (n : Nat) (w : World) (hn : n ≤ 1048576) :
    Calls Try.prog 179 #[.slice none 0 0, .int .i64 n] w fun e w' => ∃ v, e = .returned v ∧ w'.ownsRow w.heap.size 65 2 v 0 [] ∧ Below w.heap.size w w' := by
  by_cases h0 : n = 0
  · subst h0
    go_enter Try.func179, Try.ntmps179
    go_wp2_with fail
    go_ret
    exact ⟨.slice none 0 0, rfl, World.ownsRow_nil _ _ _ _, Below.refl _ _⟩
  · obtain ⟨i0, hi0, hz0, hzs, hzb⟩ := info_parts info_pair
    have hrz := Lib.run_append_nil_zeros (P := Try.prog) w 37 3 37 65 i0 _ .i64 .i64 Try.underlying37 Try.underlying3 hi0 hz0 n (by omega) (by omega) (by omega) (by rw [hzb]; omega)
    obtain ⟨G, hG⟩ : ∃ G, G = grownCap w n 0 65 := ⟨_, rfl⟩
    rw [← hG] at hrz
    have hGn : n ≤ G := by rw [hG]; exact grownCap_ge w _ _ _
    have hG63 : G ≤ maxLen := by rw [hG]; exact grownCap_le_maxLen w n 0 65 (by unfold maxLen; omega)
    obtain ⟨ROW, hROW⟩ : ∃ ROW : Array Value, ROW = Builtin.zeroCells (Value.agg #[.int .i64 0, .int .i64 0]).cells n ++ Builtin.zeroCells (Value.agg #[.int .i64 0, .int .i64 0]).cells (G - n) := ⟨_, rfl⟩
    rw [← hROW] at hrz
    have hRz : ROW.size = G * 2 := by
      rw [hROW]
      simp [Builtin.zeroCells, Value.cells]
      omega
    have HO : Hid ((w.drew.alloc (.cells ROW 65)).ownsRow w.heap.size 65 2 (.slice (some ⟨w.heap.size, 0, none⟩) 0 G) 0 []) := hid (World.ownsRow_made (base := w.heap.size) (e := 65) (size := 2) w.drew ROW G (Nat.le_refl _) hG63 hRz)
    have HB : Hid (Below w.heap.size w (w.drew.alloc (.cells ROW 65))) := hid (by
      have h := (Below.refl _ w).alloc (Nat.le_refl _) (.cells ROW 65)
      exact ⟨h.os, h.tape, h.output, h.size, h.block⟩)
    have hpos : (0 : Int) < (n : Int) := by omega
    have hneg : ¬ ((n : Int) < 0) := by omega
    clear hROW hRz hG hG63 hi0 hz0 hzs hzb
    obtain ⟨W1, hW1⟩ : ∃ W1, W1 = w.drew.alloc (.cells ROW 65) := ⟨_, rfl⟩
    rw [← hW1] at HO HB hrz
    clear hW1
    go_enter Try.func179, Try.ntmps179
    go_wp2_with (at_builtin; refine Lib.wpList_append_run _ rfl _ _ _ _ rfl _ _ rfl rfl _ _ hrz ?_)
    go_ret
    exact ⟨_, rfl, HO.out, HB.out⟩

set_option maxRecDepth 100000 in
set_option maxHeartbeats 4000000 in
theorem concat_one (b g n : Nat) (ps : List Int) (w : World) (hb : w.cell? ⟨b, 0, none⟩ = some (.slice (some ⟨g, 0, none⟩) n n)) (hx : SlI w w.heap.size (some ⟨g, 0, none⟩) ps) (hp : ps.length = 2 * n) (hn : n ≤ 1048576) :
    Calls Try.prog 121 #[.slice (some ⟨b, 0, none⟩) 1 1] w fun e w' => ∃ v, e = .returned v ∧ w'.ownsRow w.heap.size 65 2 v n (ps.map (Value.int .i64)) ∧ Below w.heap.size w w' := by
  have hbl : b < w.heap.size := World.block_lt_of_cell? w _ hb
  have HG := hid (growP_nil n w hn)
  have Hx := hid hx
  have Hp := hid hp
  have Hb := hid hb
  have hneg : ¬ ((n : Int) < 0) := by omega
  clear hx hp
  go_enter Try.func121, Try.ntmps121
  go_wp2_with fail
  refine wp_loop_rounds 2 ?_; rw [rounds_succ]
  go_wp2_with fail
  rw [rounds_succ]
  go_wp2_with fail
  refine HG.out.mono ?_
  rintro e w1 ⟨v1, rfl, hown1, hB1⟩
  have hb1 := (hB1.cell (p := ⟨b, 0, none⟩) hbl).trans hb
  obtain ⟨v2, W2, hr2, hown2, hg2, hb2⟩ := append_run (xs := []) (m := 0) (ad := ⟨g, 0, none⟩) (l := n) (c := n) (ys := ps) hown1 hB1.size (by omega) (by omega) (by have := Hp.out; omega) (fun j hj => by
    rcases Hx.out.later hB1 hB1.size with h | ⟨b', off, hb', h, hc⟩
    · have := Hp.out; rw [h] at this; simp at this; omega
    · injection h with h
      injection h with h1 h2 _
      subst h1; subst h2
      have hadd : (⟨g, 0, none⟩ : Addr).add j = ⟨g, 0 + j, none⟩ := by unfold Addr.add; split <;> simp_all
      rw [hadd]
      exact hc j (by have := Hp.out; omega))
  rw [List.nil_append, Nat.zero_add] at hown2
  have HO2 := hid hown2
  have HB2 := hid (hB1.trans hb2)
  clear hown1 hown2 hg2 hb2 hB1
  go_wp2_with fail
  refine wp_loop_rounds 2 ?_; rw [rounds_succ]
  go_wp2_with (at_builtin; refine wpList_append_run rfl rfl rfl rfl hr2 ?_)
  rw [rounds_succ]
  go_wp2_with fail
  go_ret
  exact ⟨_, rfl, HO2.out, HB2.out⟩

end Go.Proofs.Ytbhdipljhelddaa

/-! slices.Concat of lists of pairs that lie anywhere. -/
namespace Go.Proofs.Ytbhdipljhelddaa
open Go.RowKit

theorem append_nil_runP (w : World) (ty : TypeId) (ap al : Option Addr) (n cap c : Nat) (h : n ≤ cap) :
    (Builtin.append_ #[37, 37] ty #[.slice ap n cap, .slice al 0 c]).run Try.prog w = .ok (.slice ap n cap) w := by
  obtain ⟨i0, hi, _⟩ := info_parts info_pair
  cases ap <;> cases al <;> simp [Builtin.append_, run_underlying Try.underlying37, sizeOf, typeInfo, hi, Builtin.lenOf, h, Builtin.firstCells, loadCells, loadCellsFrom, storeCells]

theorem flatP_app (a b : List (Int × Int)) : flatP (a ++ b) = flatP a ++ flatP b := by simp [flatP]
/-- 'append(row, list...)' of pairs, wherever the list lies. -/
theorem append_slP {w : World} {ops : Array Oper} {rest : List Oper} {o : Oper} {a : Act} {Q : Exit → Act → World → Prop} (hgd : o.guard = none) {s y : Operand}
    (ho : o.op = .call { callee := .builtin .append, args := #[s, y], argTypes := #[37, 37] }) (hty : o.type = 37)
    {base : Nat} {v : Value} {xs ys : List (Int × Int)} {al : Option Addr} {c : Nat} (hown : w.ownsRow base 65 2 v xs.length ((flatP xs).map (Value.int .i64))) (hbase : base ≤ w.heap.size) (hl : xs.length ≤ 1048576) (hly : ys.length ≤ 1048576)
    (hs : a.eval s = v) (hy : a.eval y = .slice al ys.length c) (hc : SlI w w.heap.size al (flatP ys))
    (hK : ∀ v' w', w'.ownsRow base 65 2 v' (xs ++ ys).length ((flatP (xs ++ ys)).map (Value.int .i64)) → Below base w w' → wpList Try.prog ops Q rest (a.put o.dst v') w') :
    wpList Try.prog ops Q (o :: rest) a w := by
  rcases hc with h0 | ⟨g, off, _, rfl, hc⟩
  · have hys : ys = [] := by
      cases ys with
      | nil => rfl
      | cons p l => simp [flatP] at h0
    subst hys
    obtain ⟨_, ap, cp, rfl, _⟩ := pairs_form hown
    refine wpList_plain hgd fun K hK' => ?_
    have hle : xs.length ≤ cp := by
      rcases hown.2 with ⟨h0, h1⟩ | ⟨g, cap, cur, hv, _, _, h1, _⟩
      · injection h0; omega
      · injection hv; omega
    have hr := append_nil_runP w o.type ap al xs.length cp c hle
    unfold Oper.wp execOp
    simp only [ho, resolve, invoke, builtin, Sem.run_bind, Sem.run_pure, Result.andThen_ok, List.map_toArray, List.map_cons, List.map_nil, hs, hy, List.length_nil, hr]
    exact hK' _ _ (hK _ _ (by simpa using hown) (Below.refl _ _))
  · obtain ⟨v', w', hr, hown', _, hB⟩ := append_run (xs := flatP xs) (ys := flatP ys) (m := xs.length) (ad := ⟨g, off, none⟩) (l := ys.length) (c := c) hown hbase hl hly (by rw [flatP_len]; omega) (fun j hj => by
      have hadd : (⟨g, off, none⟩ : Addr).add j = ⟨g, off + j, none⟩ := by unfold Addr.add; split <;> simp_all
      rw [hadd]
      exact hc j (by rw [flatP_len]; omega))
    refine wpList_append_run hgd ho hs hy (by rw [hty]; exact hr) (hK v' w' ?_ hB)
    rw [flatP_app, List.length_append]
    exact hown'

theorem flatQ_take {gs : List (List (Int × Int))} {k : Nat} (h : k < gs.length) : (gs.take (k + 1)).flatten = (gs.take k).flatten ++ gs[k]?.getD [] := by
  rw [List.take_succ_eq_append_getElem h, List.getElem?_eq_getElem h, List.flatten_append, Option.getD_some]
  show _ ++ (gs[k] ++ []) = _
  rw [List.append_nil]
theorem flatQ_take_le (gs : List (List (Int × Int))) (k : Nat) : (gs.take k).flatten.length ≤ gs.flatten.length := by
  have h : gs.flatten.length = (gs.take k ++ gs.drop k).flatten.length := by rw [List.take_append_drop]
  rw [h, List.flatten_append, List.length_append]
  omega

set_option maxRecDepth 100000 in
set_option maxHeartbeats 4000000 in
theorem concatP_any (g cp m : Nat) (gs : List (List (Int × Int))) (w : World) (hm : m = gs.length) (hn : m ≤ 1048576) (hg : g < w.heap.size) (hc : ∀ i, i < m → ∃ a c, w.cell? ⟨g, i, none⟩ = some (.slice a (gs[i]?.getD []).length c) ∧ SlI w w.heap.size a (flatP (gs[i]?.getD []))) (hl : gs.flatten.length ≤ 1048576) :
    Calls Try.prog 121 #[.slice (some ⟨g, 0, none⟩) m cp] w fun e w' => ∃ v', e = .returned v' ∧ w'.ownsRow w.heap.size 65 2 v' gs.flatten.length ((flatP gs.flatten).map (Value.int .i64)) ∧ Below w.heap.size w w' := by
  have Hcs := hid hc
  have Hm := hid hm
  have HF := hid (flatQ_take_le gs)
  have HFt := hid (fun k (h : k < gs.length) => flatQ_take (gs := gs) h)
  clear hm hc
  go_enter Try.func121, Try.ntmps121
  go_wp2_with fail
  go_loopw [3, 11] (fun sv iv wx => ∃ k : Nat, k ≤ m ∧ sv = .int .i64 ((gs.take k).flatten.length : Nat) ∧ iv = .int .i64 k ∧ Hid (wx = w)) (fun _ iv _ => m - (intOf iv).toNat)
  case atStart => exact ⟨0, Nat.zero_le _, rfl, rfl, hid rfl⟩
  case round =>
    obtain ⟨k, hk, rfl, rfl, HW⟩ := hrel
    have hww : wr = w := HW.out
    clear HW
    subst hww
    obtain ⟨s, hs⟩ : ∃ s, s = (gs.take k).flatten.length := ⟨_, rfl⟩
    have hsl : s ≤ 1048576 := by rw [hs]; exact Nat.le_trans (HF.out k) hl
    by_cases hlt : k < m
    · obtain ⟨a, c, hc, _⟩ := Hcs.out k hlt
      obtain ⟨l, hle⟩ : ∃ l, l = (gs[k]?.getD []).length := ⟨_, rfl⟩
      have hs2 : (gs.take (k + 1)).flatten.length = s + l := by rw [HFt.out k (by have := Hm.out; omega), List.length_append, hs, hle]
      have hsl2 : s + l ≤ 1048576 := by rw [← hs2]; exact Nat.le_trans (HF.out _) hl
      rw [← hle] at hc
      rw [← hs]
      have Hs2 := hid hs2
      have hi0 : (0 : Int) ≤ (k : Int) := by omega
      have hi1 : (k : Int) < (m : Int) := by omega
      have hneg : ¬ ((s : Int) + (l : Int) < 0) := by omega
      clear hs2 hs hle
      go_wp2_with fail
      go_roundw
      case rel => exact ⟨k + 1, by omega, by rw [Hs2.out]; go_num, by go_num, trivial⟩
      case measure => simp [intOf]; omega
    · obtain rfl : k = m := by omega
      have htk : (gs.take k).flatten.length = gs.flatten.length := by rw [List.take_of_length_le (by have := Hm.out; omega)]
      rw [← hs] at htk
      rw [← hs]
      have HG := hid (growP_nil s wr hsl)
      have Hs := hid htk
      clear hs htk
      go_wp2_with fail
      refine HG.out.mono ?_
      rintro e w1 ⟨v1, rfl, hown1, hB1⟩
      have HO1 := hid hown1
      have HB1 := hid hB1
      clear hown1 hB1 HG
      go_wp2_with fail
      go_loopw [6, 27] (fun ov iv wx => ∃ (j : Nat) (v : Value), j ≤ k ∧ ov = v ∧ iv = .int .i64 j ∧ Hid (wx.ownsRow wr.heap.size 65 2 v (gs.take j).flatten.length ((flatP (gs.take j).flatten).map (Value.int .i64))) ∧ Hid (Below wr.heap.size wr wx)) (fun _ iv _ => k - (intOf iv).toNat)
      case atStart => exact ⟨0, v1, Nat.zero_le _, rfl, rfl, HO1, HB1⟩
      case round =>
        clear HO1
        obtain ⟨j, v, hj, rfl, rfl, HO, HB⟩ := hrel
        by_cases hlt2 : j < k
        · obtain ⟨a, c, hc, hcc⟩ := Hcs.out j hlt2
          obtain ⟨ys, hys⟩ : ∃ ys, ys = gs[j]?.getD [] := ⟨_, rfl⟩
          obtain ⟨xs, hxs⟩ : ∃ xs, xs = (gs.take j).flatten := ⟨_, rfl⟩
          have hx2 : (gs.take (j + 1)).flatten = xs ++ ys := by rw [HFt.out j (by have := Hm.out; omega), hxs, hys]
          have hxl : xs.length + ys.length ≤ 1048576 := by
            have := HF.out (j + 1)
            rw [hx2, List.length_append] at this
            omega
          rw [← hys] at hc hcc
          rw [← hxs] at HO
          have hcx := (HB.out.cell (p := ⟨g, j, none⟩) hg).trans hc
          have Hcy := hid (hcc.later HB.out HB.out.size)
          have Hx2 := hid hx2
          have hi0 : (0 : Int) ≤ (j : Int) := by omega
          have hi1 : (j : Int) < (k : Int) := by omega
          have hsz := HB.out.size
          clear hc hcc hx2 hys hxs
          go_wp2_with (at_builtin; (refine append_slP rfl rfl rfl HO.out hsz (by omega) (by omega) rfl rfl Hcy.out ?_; intro v' w4 hown4 hB4))
          have Hown4 := hid hown4
          have HB4 := hid (HB.out.trans ((hB4.mono (Nat.le_refl _))))
          clear hown4 hB4
          go_wp2_with fail
          go_roundw
          case rel => exact ⟨j + 1, v', by omega, rfl, by go_num, hid (by rw [Hx2.out]; exact Hown4.out), HB4⟩
          case measure => simp [intOf]; omega
        · obtain rfl : j = k := by omega
          rw [List.take_of_length_le (show gs.length ≤ j by have := Hm.out; omega)] at HO
          go_wp2_with fail
          go_ret
          exact ⟨_, rfl, HO.out, HB.out⟩

end Go.Proofs.Ytbhdipljhelddaa

/-! The library's slices.SortFunc at pairs: that this program holds its very body. -/
namespace Go.Proofs.Ytbhdipljhelddaa
open Go.Shelf

def sortFL_ren : Go.Shelf.Ren := ⟨fun | 6 => 177 | 15 => 210 | 14 => 209 | 28 => 231 | 29 => 232 | 20 => 223 | 21 => 224 | 22 => 225 | 23 => 226 | 24 => 227 | 25 => 228 | 26 => 229 | 27 => 230 | 46 => 244 | 47 => 245 | 48 => 246 | 49 => 247 | 50 => 248 | 57 => 254 | n => n, fun | 22 => 37 | 24 => 65 | 25 => 71 | 3 => 3 | 39 => 200 | 0 => 0 | 53 => 226 | 55 => 79 | 4 => 4 | 46 => 220 | 45 => 219 | 50 => 196 | 5 => 5 | 9 => 9 | 66 => 232 | 70 => 236 | 76 => 241 | 77 => 242 | n => n, fun | n => n⟩
theorem sortFL : Go.Proofs.SlLaysF0.n6 Try.prog sortFL_ren := {
  mixed := by kernel_rfl,
  f6 := ⟨Try.f177.name, by decide, Try.func177.trans (congrArg some (by kernel_rfl))⟩,
  f14 := ⟨Try.f209.name, by decide, Try.func209.trans (congrArg some (by kernel_rfl))⟩,
  f15 := Try.func210.trans (congrArg some (by kernel_rfl)),
  f20 := ⟨Try.f223.name, by decide, Try.func223.trans (congrArg some (by kernel_rfl))⟩,
  f21 := ⟨Try.f224.name, by decide, Try.func224.trans (congrArg some (by kernel_rfl))⟩,
  f22 := ⟨Try.f225.name, by decide, Try.func225.trans (congrArg some (by kernel_rfl))⟩,
  f23 := ⟨Try.f226.name, by decide, Try.func226.trans (congrArg some (by kernel_rfl))⟩,
  f24 := ⟨Try.f227.name, by decide, Try.func227.trans (congrArg some (by kernel_rfl))⟩,
  f25 := ⟨Try.f228.name, by decide, Try.func228.trans (congrArg some (by kernel_rfl))⟩,
  f26 := ⟨Try.f229.name, by decide, Try.func229.trans (congrArg some (by kernel_rfl))⟩,
  f27 := ⟨Try.f230.name, by decide, Try.func230.trans (congrArg some (by kernel_rfl))⟩,
  f28 := Try.func231.trans (congrArg some (by kernel_rfl)),
  f29 := Try.func232.trans (congrArg some (by kernel_rfl)),
  f46 := ⟨Try.f244.name, by decide, Try.func244.trans (congrArg some (by kernel_rfl))⟩,
  f47 := Try.func245.trans (congrArg some (by kernel_rfl)),
  f48 := Try.func246.trans (congrArg some (by kernel_rfl)),
  f49 := ⟨Try.f247.name, by decide, Try.func247.trans (congrArg some (by kernel_rfl))⟩,
  f50 := ⟨Try.f248.name, by decide, Try.func248.trans (congrArg some (by kernel_rfl))⟩,
  f57 := ⟨Try.f254.name, by decide, Try.func254.trans (congrArg some (by kernel_rfl))⟩,
  t0 := Try.underlying0,
  a0 := Try.isAgg0,
  z0 := Try.sizeOf0,
  v0 := Try.zeroValue0,
  t3 := Try.underlying3,
  a3 := Try.isAgg3,
  z3 := Try.sizeOf3,
  v3 := Try.zeroValue3,
  t4 := Try.underlying4,
  a4 := Try.isAgg4,
  z4 := Try.sizeOf4,
  v4 := Try.zeroValue4,
  t5 := Try.underlying5,
  a5 := Try.isAgg5,
  z5 := Try.sizeOf5,
  v5 := Try.zeroValue5,
  t9 := Try.underlying9,
  a9 := Try.isAgg9,
  z9 := Try.sizeOf9,
  v9 := Try.zeroValue9,
  t22 := Try.underlying37,
  a22 := Try.isAgg37,
  z22 := Try.sizeOf37,
  v22 := Try.zeroValue37,
  t25 := Try.underlying71,
  a25 := Try.isAgg71,
  z25 := Try.sizeOf71,
  v25 := Try.zeroValue71,
  t39 := Try.underlying200,
  a39 := Try.isAgg200,
  z39 := Try.sizeOf200,
  v39 := Try.zeroValue200,
  t45 := Try.underlying219,
  a45 := Try.isAgg219,
  z45 := Try.sizeOf219,
  v45 := Try.zeroValue219,
  t46 := Try.underlying220,
  a46 := Try.isAgg220,
  z46 := Try.sizeOf220,
  v46 := Try.zeroValue220,
  t50 := Try.underlying196,
  a50 := Try.isAgg196,
  z50 := Try.sizeOf196,
  v50 := Try.zeroValue196,
  t53 := Try.underlying226,
  a53 := Try.isAgg226,
  z53 := Try.sizeOf226,
  v53 := Try.zeroValue226,
  t55 := Try.underlying79,
  a55 := Try.isAgg79,
  z55 := Try.sizeOf79,
  v55 := Try.zeroValue79,
  t66 := Try.underlying232,
  a66 := Try.isAgg232,
  z66 := Try.sizeOf232,
  v66 := Try.zeroValue232,
  t70 := Try.underlying236,
  a70 := Try.isAgg236,
  z70 := Try.sizeOf236,
  v70 := Try.zeroValue236,
  t76 := Try.underlying241,
  a76 := Try.isAgg241,
  z76 := Try.sizeOf241,
  v76 := Try.zeroValue241,
  t77 := Try.underlying242,
  a77 := Try.isAgg242,
  z77 := Try.sizeOf242,
  v77 := Try.zeroValue242 }

end Go.Proofs.Ytbhdipljhelddaa
