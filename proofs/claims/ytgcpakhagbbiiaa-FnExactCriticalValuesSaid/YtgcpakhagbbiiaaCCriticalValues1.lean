import Derived.Maps.OwnSet
import Derived.Lib.SliceRun
import Derived.Test.YtgcpakhagbbiiaaMB1
import Derived.Test.YtgcpakhagbbiiaaMB4
import Derived.Test.YtgcpakhagbbiiaaMB5
import Derived.Test.YtgcpakhagbbiiaaMB2
import Derived.Test.YtgcpakhagbbiiaaMB6
import Derived.Test.YtgcpakhagbbiiaaMB3
/-! Functions on the faces: the model's l04At, l04Is, l04Code. -/
namespace Go.Proofs.Ytgcpakhagbbiiaa
open Go.RowKit

/-- The number at a face: that at its first place. -/
def numAt (fs gs : List Int) (x : Int) : Int := match (List.range gs.length).find? (fun i => decide (fs[i]?.getD 0 = x)) with
  | some i => gs[i]?.getD 0
  | none => 0
theorem numAt_some {fs gs : List Int} {x : Int} {i : Nat} (hi : i < gs.length) (hx : fs[i]?.getD 0 = x) (h : ∀ j, j < i → fs[j]?.getD 0 ≠ x) : numAt fs gs x = gs[i]?.getD 0 := by
  have : (List.range gs.length).find? (fun i => decide (fs[i]?.getD 0 = x)) = some i := by
    rw [List.find?_range_eq_some]
    exact ⟨by simp [hx], by simpa using hi, fun j hj => by simpa using h j hj⟩
  unfold numAt
  rw [this]
theorem numAt_none {fs gs : List Int} {x : Int} (h : ∀ j, j < gs.length → fs[j]?.getD 0 ≠ x) : numAt fs gs x = 0 := by
  have : (List.range gs.length).find? (fun i => decide (fs[i]?.getD 0 = x)) = none := by
    rw [List.find?_range_eq_none]
    intro j hj
    simpa using h j hj
  unfold numAt
  rw [this]

set_option maxRecDepth 100000 in
set_option maxHeartbeats 2000000 in
theorem at_any (V : Int) (a0 : Option Addr) (cap : Nat) (fs : List Int) (a1 : Option Addr) (cap1 : Nat) (gs : List Int) (x : Int) (w : World) (hx : SlI w w.heap.size a0 fs) (hx1 : SlI w w.heap.size a1 gs) (hl : fs.length ≤ 1048576) (hg : gs.length = fs.length) :
    Calls Try.prog 76 #[.agg #[.int .i64 V, .slice a0 fs.length cap], .slice a1 gs.length cap1, .int .i64 x] w fun e w' => e = .returned (.int .i64 (numAt fs gs x)) ∧ Below w.heap.size w w' := by
  have hB0 : Below w.heap.size w (w.alloc (.cells #[.int .i64 V, .slice a0 fs.length cap] 30)) := (Below.refl _ w).alloc (Nat.le_refl _) _
  have HB0 := hid hB0
  have Hx := hid hx
  have Hy := hid hx1
  have Hg := hid hg
  obtain ⟨E, hE⟩ : ∃ E, E = numAt fs gs x := ⟨_, rfl⟩
  rw [← hE]
  have HE := hid hE
  clear hx hx1 hB0 hE
  go_enter Try.func76, Try.ntmps76
  go_wp2_with fail
  go_loopw [7] (fun i wr => ∃ k : Nat, k ≤ gs.length ∧ i = .int .i64 k ∧ Hid (∀ j, j < k → fs[j]?.getD 0 ≠ x) ∧ wr = w.alloc (.cells #[.int .i64 V, .slice a0 fs.length cap] 30)) (fun i _ => gs.length - (intOf i).toNat)
  case atStart => exact ⟨0, Nat.zero_le _, rfl, hid (fun j hj => absurd hj (Nat.not_lt_zero _)), rfl⟩
  case round =>
    obtain ⟨k, hk, rfl, Hk, rfl⟩ := hrel
    by_cases hlt : k < gs.length
    · obtain ⟨b, off, hb, rfl, hc⟩ : ∃ b off, b < w.heap.size ∧ a0 = some ⟨b, off, none⟩ ∧ ∀ i, i < fs.length → w.cell? ⟨b, off + i, none⟩ = some (.int .i64 (fs[i]?.getD 0)) := by
        rcases Hx.out with h | h
        · rw [h] at hg; rw [hg] at hlt; simp at hlt
        · exact h
      obtain ⟨b2, off2, hb2, rfl, hc2⟩ : ∃ b off, b < w.heap.size ∧ a1 = some ⟨b, off, none⟩ ∧ ∀ i, i < gs.length → w.cell? ⟨b, off + i, none⟩ = some (.int .i64 (gs[i]?.getD 0)) := by
        rcases Hy.out with h | h
        · rw [h] at hlt; simp at hlt
        · exact h
      obtain ⟨f, hf⟩ : ∃ f, f = fs[k]?.getD 0 := ⟨_, rfl⟩
      obtain ⟨g, hgv⟩ : ∃ g, g = gs[k]?.getD 0 := ⟨_, rfl⟩
      have d1 := (HB0.out.cell (p := ⟨b, off + k, none⟩) hb).trans (hc k (by omega))
      have d2 := (HB0.out.cell (p := ⟨b2, off2 + k, none⟩) hb2).trans (hc2 k hlt)
      rw [← hf] at d1
      rw [← hgv] at d2
      have hi0 : (0 : Int) ≤ (k : Int) := by omega
      have hi1 : (k : Int) < (gs.length : Int) := by omega
      have hi2 : (k : Int) < (fs.length : Int) := by omega
      have Hf := hid hf
      have Hgv := hid hgv
      clear hc hc2 hf hgv hg
      by_cases hfx : f = x
      · have hd : (f == x) = true := by simp [hfx]
        have He : Hid (E = g) := hid (by rw [HE.out, numAt_some hlt (by rw [← Hf.out]; exact hfx) Hk.out, Hgv.out])
        clear hfx
        go_wp2_with fail
        go_ret
        exact ⟨ret_int (by rw [He.out]), HB0.out⟩
      · have hd : (f == x) = false := by simp [hfx]
        have He : Hid (∀ j, j < k + 1 → fs[j]?.getD 0 ≠ x) := hid (fun j hj => by
          by_cases e : j = k
          · subst e; rw [← Hf.out]; exact hfx
          · exact Hk.out j (by omega))
        clear hfx
        go_wp2_with fail
        go_roundw
        case rel => exact ⟨k + 1, by omega, by go_num, He, by first | rfl | trivial⟩
        case measure => simp [intOf]; omega
    · have He : Hid (E = 0) := hid (by rw [HE.out, numAt_none (fun j hj => Hk.out j (by omega))])
      clear hg
      go_wp2_with fail
      go_ret
      exact ⟨ret_int (by rw [He.out]), HB0.out⟩

/-- A function: a number from -1000 to 1000 for each face. -/
def isFnB (fs gs : List Int) : Bool := decide (gs.length = fs.length) && gs.all fun x => decide (-1000 ≤ x) && decide (x ≤ 1000)
theorem isFn_len {fs gs : List Int} (h : isFnB fs gs = true) : gs.length = fs.length := by
  unfold isFnB at h
  simp at h
  exact h.1

set_option maxRecDepth 100000 in
set_option maxHeartbeats 2000000 in
theorem fnIs_any (V : Int) (a0 : Option Addr) (cap : Nat) (fs : List Int) (a1 : Option Addr) (cap1 : Nat) (gs : List Int) (w : World) (hx1 : SlI w w.heap.size a1 gs) (_hl : fs.length ≤ 1048576) (hg : gs.length ≤ 1048576) :
    Calls Try.prog 176 #[.agg #[.int .i64 V, .slice a0 fs.length cap], .slice a1 gs.length cap1] w fun e w' => e = .returned (.bool (isFnB fs gs)) ∧ Below w.heap.size w w' := by
  have hB0 : Below w.heap.size w (w.alloc (.cells #[.int .i64 V, .slice a0 fs.length cap] 30)) := (Below.refl _ w).alloc (Nat.le_refl _) _
  have HB0 := hid hB0
  have Hy := hid hx1
  obtain ⟨E, hE⟩ : ∃ E, E = isFnB fs gs := ⟨_, rfl⟩
  rw [← hE]
  have HE := hid hE
  clear hx1 hB0 hE
  by_cases hlen : gs.length = fs.length
  · have hd : ((gs.length : Int) != (fs.length : Int)) = false := by simp; omega
    have HE2 : Hid (E = gs.all fun x => decide (-1000 ≤ x) && decide (x ≤ 1000)) := hid (by rw [HE.out]; unfold isFnB; simp [hlen])
    obtain ⟨m, hm⟩ : ∃ m, m = gs.length := ⟨_, rfl⟩
    have Hm := hid hm
    rw [← hm] at hg hd ⊢
    clear hm hlen
    go_enter Try.func176, Try.ntmps176
    go_wp2_with fail
    go_loopw [5] (fun i wr => ∃ k : Nat, k ≤ m ∧ i = .int .i64 k ∧ Hid ((gs.take k).all (fun x => decide (-1000 ≤ x) && decide (x ≤ 1000)) = true) ∧ wr = w.alloc (.cells #[.int .i64 V, .slice a0 fs.length cap] 30)) (fun i _ => m - (intOf i).toNat)
    case atStart => exact ⟨0, Nat.zero_le _, rfl, hid (by simp), rfl⟩
    case round =>
      obtain ⟨k, hk, rfl, Hk, rfl⟩ := hrel
      by_cases hlt : k < m
      · obtain ⟨b2, off2, hb2, rfl, hc2⟩ : ∃ b off, b < w.heap.size ∧ a1 = some ⟨b, off, none⟩ ∧ ∀ i, i < gs.length → w.cell? ⟨b, off + i, none⟩ = some (.int .i64 (gs[i]?.getD 0)) := by
          rcases Hy.out with h | h
          · have := Hm.out; rw [h] at this; simp at this; omega
          · exact h
        obtain ⟨g, hgv⟩ : ∃ g, g = gs[k]?.getD 0 := ⟨_, rfl⟩
        have d2 := (HB0.out.cell (p := ⟨b2, off2 + k, none⟩) hb2).trans (hc2 k (by have := Hm.out; omega))
        rw [← hgv] at d2
        have hi0 : (0 : Int) ≤ (k : Int) := by omega
        have hi1 : (k : Int) < (m : Int) := by omega
        have Hgv := hid hgv
        have Hsn : Hid (gs.take (k + 1) = gs.take k ++ [g]) := hid (by rw [take_snoc (by have := Hm.out; omega), hgv])
        clear hc2 hgv
        cases hin : (decide (-1000 ≤ g) && decide (g ≤ 1000))
        · have HI := hid (fun w' => in_any g (-1000) 1000 w')
          rw [hin] at HI
          have He : Hid (E = false) := hid (by
            rw [HE2.out]
            rw [List.all_eq_false]
            exact ⟨g, by rw [Hgv.out]; exact getD_mem (by have := Hm.out; omega), by rw [hin]; simp⟩)
          clear hin
          go_wp2_with (go_at_call 66; refine (HI.out _).mono ?_; rintro e w' ⟨rfl, rfl⟩)
          go_ret
          exact ⟨ret_bool (by rw [He.out]), HB0.out⟩
        · have HI := hid (fun w' => in_any g (-1000) 1000 w')
          rw [hin] at HI
          have He : Hid ((gs.take (k + 1)).all (fun x => decide (-1000 ≤ x) && decide (x ≤ 1000)) = true) := hid (by rw [Hsn.out, List.all_append, Hk.out]; simp only [List.all_cons, List.all_nil, hin, Bool.and_self])
          clear hin
          go_wp2_with (go_at_call 66; refine (HI.out _).mono ?_; rintro e w' ⟨rfl, rfl⟩)
          go_roundw
          case rel => exact ⟨k + 1, by omega, by go_num, He, by first | rfl | trivial⟩
          case measure => simp [intOf]; omega
      · have He : Hid (E = true) := hid (by
          have h2 := Hk.out
          rw [List.take_of_length_le (by have := Hm.out; omega)] at h2
          rw [HE2.out, h2])
        go_wp2_with fail
        go_ret
        exact ⟨ret_bool (by rw [He.out]), HB0.out⟩
  · have hd : ((gs.length : Int) != (fs.length : Int)) = true := by simp; omega
    have He : Hid (E = false) := hid (by rw [HE.out]; unfold isFnB; simp [hlen])
    clear hlen
    go_enter Try.func176, Try.ntmps176
    go_wp2_with fail
    go_ret
    exact ⟨ret_bool (by rw [He.out]), HB0.out⟩

noncomputable def code4R (V : Int) (fs : List Int) (ls : List (List Int)) : Int := if isCB V fs then (if ls.all (isFnB fs) then 0 else 2) else 1

set_option maxRecDepth 1000000 in
set_option maxHeartbeats 2000000 in
theorem code4_any (V : Int) (a0 : Option Addr) (cap : Nat) (fs : List Int) (bs : Nat) (gl : List (Option Addr × Nat × List Int)) (w : World) (hx : SlI w w.heap.size a0 fs) (hl : fs.length ≤ 1048576) (hbs : bs < w.heap.size)
    (hcl : ∀ i, i < gl.length → ∃ a c g, gl[i]? = some (a, c, g) ∧ w.cell? ⟨bs, i, none⟩ = some (.slice a g.length c)) (hgs : ∀ q ∈ gl, SlI w w.heap.size q.1 q.2.2 ∧ q.2.2.length ≤ 1048576) (hgl : gl.length ≤ 1048576) :
    Calls Try.prog 106 #[.agg #[.int .i64 V, .slice a0 fs.length cap], .slice (some ⟨bs, 0, none⟩) gl.length gl.length] w fun e w' => e = .returned (.int .i64 (code4R V fs (gl.map fun q => q.2.2))) ∧ Below w.heap.size w w' := by
  have hB0 : Below w.heap.size w (w.alloc (.cells #[.int .i64 V, .slice a0 fs.length cap] 30)) := (Below.refl _ w).alloc (Nat.le_refl _) _
  have Hx := hid (hx.later hB0 hB0.size)
  have HB0 := hid hB0
  have Hcl := hid hcl
  have Hgs := hid hgs
  obtain ⟨E, hE⟩ : ∃ E, E = code4R V fs (gl.map fun q => q.2.2) := ⟨_, rfl⟩
  rw [← hE]
  by_cases hC : IsC V fs
  · have HE : Hid (E = if (gl.map fun q => q.2.2).all (isFnB fs) then 0 else 2) := hid (by rw [hE, code4R, isCB_true hC, if_pos rfl])
    obtain ⟨m, hm⟩ : ∃ m, m = gl.length := ⟨_, rfl⟩
    have Hm := hid hm
    rw [← hm] at hgl ⊢
    clear hx hB0 hcl hgs hE hm
    go_enter Try.func106, Try.ntmps106
    go_wp2_with fail
    refine (is_yes V a0 cap fs _ Hx.out hl hC).mono ?_
    rintro e w1 ⟨rfl, hB1⟩
    have HB1 := hid (HB0.out.trans (hB1.mono (by simp)))
    have k0 : w1.cell? ⟨w.heap.size, 0, none⟩ = some (.int .i64 V) := (hB1.cell (p := ⟨w.heap.size, 0, none⟩) (by simp)).trans (by simp [go_sem])
    have k1 : w1.cell? ⟨w.heap.size, 1, none⟩ = some (.slice a0 fs.length cap) := (hB1.cell (p := ⟨w.heap.size, 1, none⟩) (by simp)).trans (by simp [go_sem])
    have hs1 : w.heap.size < w1.heap.size := by have := hB1.size; simp at this; omega
    have K0 := hid k0
    have K1 := hid k1
    clear hB1 k0 k1
    go_wp2_with fail
    go_loopw [5] (fun i wr => ∃ k : Nat, k ≤ m ∧ i = .int .i64 k ∧ Hid (((gl.take k).map fun q => q.2.2).all (isFnB fs) = true) ∧ Below w1.heap.size w1 wr) (fun i _ => m - (intOf i).toNat)
    case atStart => exact ⟨0, Nat.zero_le _, rfl, hid (by simp), Below.refl _ _⟩
    case round =>
      obtain ⟨k, hk, rfl, Hk, hB⟩ := hrel
      by_cases hlt : k < m
      · obtain ⟨a, c, g, hgk, hck⟩ := Hcl.out k (by have := Hm.out; omega)
        have hmem : (a, c, g) ∈ gl := List.mem_of_getElem? hgk
        obtain ⟨hsg, hlg⟩ := Hgs.out _ hmem
        have hBw := HB1.out.trans (hB.mono HB1.out.size)
        have d1 := (hBw.cell (p := ⟨bs, k, none⟩) hbs).trans hck
        have k0 := (hB.cell (p := ⟨w.heap.size, 0, none⟩) hs1).trans K0.out
        have k1 := (hB.cell (p := ⟨w.heap.size, 1, none⟩) hs1).trans K1.out
        have HI := hid (fnIs_any V a0 cap fs a c g wr.drew (hsg.later (hBw.trans (below_drewN (Below.refl _ wr) 1 |>.mono hBw.size)) (hBw.trans (below_drewN (Below.refl _ wr) 1 |>.mono hBw.size)).size) hl hlg)
        have hi0 : (0 : Int) ≤ (k : Int) := by omega
        have hi1 : (k : Int) < (m : Int) := by omega
        have HBd := hid (hBw.trans (below_drewN (Below.refl _ wr) 1 |>.mono hBw.size))
        have HBr := hid (hB.trans (below_drewN (Below.refl _ wr) 1 |>.mono hB.size))
        have Hsn : Hid (gl.take (k + 1) = gl.take k ++ [(a, c, g)]) := hid (by
          rw [List.take_add_one, hgk]
          rfl)
        have Hmem := hid hmem
        clear hsg hBw hB hck hgk hmem
        cases hf : isFnB fs g
        · rw [hf] at HI
          have He : Hid (E = 2) := hid (by
            rw [HE.out, if_neg]
            rw [Bool.not_eq_true, List.all_eq_false]
            exact ⟨g, List.mem_map.2 ⟨_, Hmem.out, rfl⟩, by rw [hf]; simp⟩)
          clear hf
          go_wp2_with fail
          go_region_with (go_at_call 176; refine HI.out.mono ?_; rintro e w2 ⟨rfl, hB2⟩; have HB2 := hid hB2; clear hB2)
          all_goals
            have HB3 := hid (HBd.out.trans (HB2.out.mono HBd.out.size))
            go_wp2_with fail
            go_ret
            exact ⟨ret_int (by rw [He.out]), HB3.out⟩
        · rw [hf] at HI
          have He : Hid (((gl.take (k + 1)).map fun q => q.2.2).all (isFnB fs) = true) := hid (by rw [Hsn.out, List.map_append, List.all_append, Hk.out]; simp only [List.map_cons, List.map_nil, List.all_cons, List.all_nil, hf, Bool.and_self])
          clear hf
          go_wp2_with fail
          go_region_with (go_at_call 176; refine HI.out.mono ?_; rintro e w2 ⟨rfl, hB2⟩; have HB2 := hid hB2; clear hB2)
          all_goals
            have HB3 := hid (HBr.out.trans (HB2.out.mono HBr.out.size))
            go_wp2_with fail
            go_roundw
            case rel => exact ⟨k + 1, by omega, by go_num, He, HB3.out⟩
            case measure => simp [intOf]; omega
      · have He : Hid (E = 0) := hid (by
          have h2 := Hk.out
          rw [List.take_of_length_le (by have := Hm.out; omega)] at h2
          rw [HE.out, h2, if_pos rfl])
        go_wp2_with fail
        go_ret
        exact ⟨ret_int (by rw [He.out]), HB1.out.trans (hB.mono HB1.out.size)⟩
  · have He : Hid (E = 1) := hid (by rw [hE, code4R, isCB_false hC, if_neg (by simp)])
    clear hx hB0 hcl hgs hE
    go_enter Try.func106, Try.ntmps106
    go_wp2_with fail
    refine (is_no V a0 cap fs _ Hx.out hl hC).mono ?_
    rintro e w1 ⟨rfl, hB1⟩
    go_wp2_with fail
    go_ret
    exact ⟨ret_int (by rw [He.out]), HB0.out.trans (hB1.mono (by simp))⟩

end Go.Proofs.Ytgcpakhagbbiiaa

/-! The number of gradient ways, the mathematics. -/
namespace Go.Proofs.Ytgcpakhagbbiiaa
open Go.RowKit

/-- The number of ways from a to b with less than f steps. -/
def gwN (ps : List Int) (n : Nat) (b : Int) : Nat → Int → Int
  | 0, _ => 0
  | f + 1, a => (if a = b then 1 else 0) + ((nextL ps n a).map (gwN ps n b f)).sum
/-- The number of gradient ways from a to b, for an acyclic pairing. -/
def gw (ps : List Int) (n : Nat) (b a : Int) : Int := gwN ps n b (n + 2) a

theorem nextL_nil {ps : List Int} {n : Nat} {x : Int} (h : ∀ i, i < n → at0 ps (i * 2) ≠ x) : nextL ps n x = [] := by
  have := highOf_none (ps := ps) (n := n) (a := x) (fun i hi => h i hi)
  unfold nextL
  rw [if_pos this]

/-- How many pairs are reached from the low face of a pair. -/
noncomputable def rkP (ps : List Int) (n : Nat) (i : Nat) : Nat := (List.range n).countP fun k => wayB ps n (at0 ps (i * 2)) (at0 ps (k * 2))
theorem rkP_le (ps : List Int) (n i : Nat) : rkP ps n i ≤ n := by
  have := List.countP_le_length (p := fun k => wayB ps n (at0 ps (i * 2)) (at0 ps (k * 2))) (l := List.range n)
  simpa [rkP] using this
theorem rkP_lt {ps : List Int} {n : Nat} (hc : NoCycle ps n) {i j : Nat} (hj : j < n) (hs : StepP ps n i j) : rkP ps n j < rkP ps n i := by
  have hw : Way ps n (at0 ps (i * 2)) (at0 ps (j * 2)) := .one hs
  refine countP_lt (y := j) (fun k _ hk => ?_) (by simpa using hj) (wayB_true hw) (wayB_false (hc j hj))
  by_cases hw2 : Way ps n (at0 ps (j * 2)) (at0 ps (k * 2))
  · exact wayB_true (way_trans hw hw2)
  · rw [wayB_false hw2] at hk; cases hk

theorem gwN_low {ps : List Int} {n : Nat} (hc : NoCycle ps n) (b : Int) : ∀ (m i f g : Nat), rkP ps n i ≤ m → i < n → m + 2 ≤ f → m + 2 ≤ g → gwN ps n b f (at0 ps (i * 2)) = gwN ps n b g (at0 ps (i * 2)) := by
  intro m
  induction m using Nat.strongRecOn with
  | _ m ih =>
    intro i f g hm hi hf hg
    obtain ⟨f', rfl⟩ : ∃ f', f = f' + 1 := ⟨f - 1, by omega⟩
    obtain ⟨g', rfl⟩ : ∃ g', g = g' + 1 := ⟨g - 1, by omega⟩
    unfold gwN
    congr 2
    refine List.map_congr_left (fun y hy => ?_)
    by_cases hex : ∃ j, j < n ∧ at0 ps (j * 2) = y
    · obtain ⟨j, hj, rfl⟩ := hex
      have hlt := rkP_lt hc hj (show StepP ps n i j from hy)
      exact ih (rkP ps n j) (by omega) j f' g' (Nat.le_refl _) hj (by omega) (by omega)
    · obtain ⟨f'', rfl⟩ : ∃ f'', f' = f'' + 1 := ⟨f' - 1, by omega⟩
      obtain ⟨g'', rfl⟩ : ∃ g'', g' = g'' + 1 := ⟨g' - 1, by omega⟩
      have hnil := nextL_nil (fun i hi e => hex ⟨i, hi, e⟩)
      unfold gwN
      rw [hnil]
      rfl
theorem gwN_any {ps : List Int} {n : Nat} (hc : NoCycle ps n) (b : Int) (f : Nat) (hf : n + 2 ≤ f) (a : Int) : gwN ps n b f a = gw ps n b a := by
  unfold gw
  by_cases hex : ∃ j, j < n ∧ at0 ps (j * 2) = a
  · obtain ⟨j, hj, rfl⟩ := hex
    exact gwN_low hc b n j f (n + 2) (rkP_le ps n j) hj hf (Nat.le_refl _)
  · obtain ⟨f', rfl⟩ : ∃ f', f = f' + 1 := ⟨f - 1, by omega⟩
    have hnil := nextL_nil (fun i hi e => hex ⟨i, hi, e⟩)
    unfold gwN
    rw [hnil]
    rfl
/-- By a first step. -/
theorem gw_step {ps : List Int} {n : Nat} (hc : NoCycle ps n) (b a : Int) : gw ps n b a = (if a = b then 1 else 0) + ((nextL ps n a).map (gw ps n b)).sum := by
  rw [← gwN_any hc b (n + 2 + 1) (by omega) a]
  show (if a = b then 1 else 0) + ((nextL ps n a).map (gwN ps n b (n + 2))).sum = _
  rfl
theorem gw_none {ps : List Int} {n : Nat} {b x : Int} (h : ∀ i, i < n → at0 ps (i * 2) ≠ x) : gw ps n b x = if x = b then 1 else 0 := by
  unfold gw gwN
  rw [nextL_nil h]
  simp

theorem nextL_ne {ps : List Int} {n : Nat} {x y : Int} (h : y ∈ nextL ps n x) : y ≠ x := by
  unfold nextL at h
  split at h
  · simp at h
  · have := List.mem_filter.1 h
    simpa using this.2
theorem int_sum_reverse (l : List Int) : l.reverse.sum = l.sum := by
  induction l with
  | nil => rfl
  | cons x l ih => simp [ih, Int.add_comm]
/-- The steps in the program's order. -/
theorem gw_steps {ps : List Int} {n : Nat} (hh : HighsB ps n) (a : Int) (g : Int → Int) : ((stepsF ps n a).map fun z => g (z.val : Int)).sum = ((nextL ps n a).map g).sum := by
  unfold stepsF nextL
  split
  · rfl
  · have h := hh a
    have e := sides_below ⟨(highOf ps n a).toNat, by omega⟩
    simp only at e
    have e2 : (otherF a (sidesF (highOf ps n a).toNat)).map (fun z => (z.val : Int)) = ((belowR (highOf ps n a).toNat 63).filter fun y => decide (y ≠ a)).reverse := by
      rw [← List.filter_reverse, ← e]
      unfold otherF
      rw [List.filter_map]
      rfl
    have e3 : (otherF a (sidesF (highOf ps n a).toNat)).map (fun z => g (z.val : Int)) = (((belowR (highOf ps n a).toNat 63).filter fun y => decide (y ≠ a)).map g).reverse := by
      rw [← List.map_reverse, ← e2, List.map_map]
      rfl
    rw [e3, int_sum_reverse]

theorem wrap64_add (a b : Int) : wrap64 (wrap64 a + wrap64 b) = wrap64 (a + b) := by unfold wrap64; omega
theorem wrap64_wrap (a : Int) : wrap64 (wrap64 a) = wrap64 a := by unfold wrap64; omega

end Go.Proofs.Ytgcpakhagbbiiaa

/-! A map of numbers to numbers, as a function: what is not in it counts as 0. -/
namespace Go.Proofs.Ytgcpakhagbbiiaa
open Go.RowKit Go.Shelf Go.ChangeMaps

theorem wf_wrap (x : Int) : (Lit.int .i64 (wrap64 x)).wf = true := WalkArith.wf_i64 (by unfold wrap64; omega)
theorem zero_i64 (w : World) : (zeroValue 2).run Try.prog w = .ok (.int .i64 0) w := by kernel_rfl

/-- The map in block b, after at most N stores. -/
def CntM (W : World) (b N : Nat) (f : Int → Int) : Prop :=
  ∃ D : DataW Unit, Maps.IsMap D ∧ W.ownsMap Try.prog 2 (plainElem (H := Unit) Try.prog 2) b N D ∧ ∀ p, D.atKey (.int .i64 p) (.lit (.int .i64 0)) = .lit (.int .i64 (f p))
theorem CntM.made (w : World) : CntM (w.alloc (.map #[] 0)) w.heap.size 0 (fun _ => 0) :=
  ⟨_, Maps.isMap_empty, World.ownsMap_made w _ _ _, fun _ => rfl⟩
theorem CntM.lt {W : World} {b N : Nat} {f : Int → Int} (h : CntM W b N f) : b < W.heap.size := by
  obtain ⟨D, _, h1, _⟩ := h
  exact h1.lt
theorem CntM.kept {W W' : World} {b N : Nat} {f : Int → Int} (h : CntM W b N f) {row : Option Nat} (hg : W.grownBy W' row) (hn : some b ≠ row) : CntM W' b N f := by
  obtain ⟨D, h0, h1, h2⟩ := h
  exact ⟨D, h0, h1.kept hg hn, h2⟩
theorem CntM.alloc {W : World} {b N : Nat} {f : Int → Int} (h : CntM W b N f) (o : Obj) : CntM (W.alloc o) b N f := h.kept (World.grownBy_alloc W o none) (by simp)
set_option maxRecDepth 100000 in
theorem CntM.lookup {W : World} {b N : Nat} {f : Int → Int} (h : CntM W b N f) {p : Int} (hp : (Lit.int .i64 p).wf = true) :
    (Instr.lookup 76 (.map (some b)) (.int .i64 p) false).run Try.prog W = .ok (.int .i64 (f p)) W := by
  obtain ⟨D, h0, h1, h2⟩ := h
  obtain ⟨v, qs, hrun, hv⟩ := h1.lookup (Maps.int_keyed Try.underlying2) Try.underlying76 (zero_i64 W) (plainElem_int Try.underlying2 (show (Lit.int .i64 0).wf = true by decide)) (Maps.keyOf_int_mk Try.underlying2 hp)
  rw [h2] at hv
  obtain ⟨a, rfl, hz, _⟩ := plainElem_int_inv Try.underlying2 hv
  injection hz with hz _
  injection hz with hz
  injection hz with _ hz
  rw [hrun, hz]
theorem CntM.update {W : World} {b N : Nat} {f : Int → Int} (h : CntM W b N f) (hN : N < maxLen) {p x : Int} (hp : (Lit.int .i64 p).wf = true) (hx : (Lit.int .i64 x).wf = true) :
    ∃ W', (Instr.mapUpdate 76 (.map (some b)) (.int .i64 p) (.int .i64 x)).run Try.prog W = .ok () W' ∧ CntM W' b (N + 1) (fun q => if q = p then x else f q) ∧ W.grownBy W' (some b) ∧ W'.heap.size = W.heap.size := by
  obtain ⟨D, h0, h1, h2⟩ := h
  obtain ⟨W', hrun, ho, ht⟩ := World.ownsMap.store h1 (Maps.int_keyed Try.underlying2) Try.underlying76 hN (Maps.keyOf_int_mk Try.underlying2 hp) (plainElem_int Try.underlying2 hx)
  have hs : W'.heap.size = W.heap.size := by
    obtain ⟨es, c, es', c', hb, rfl⟩ := ht
    simp [setBlock]
  refine ⟨W', hrun, ⟨_, h0.put _ _, ho, fun q => ?_⟩, ?_, hs⟩
  · by_cases e : q = p
    · subst e
      rw [Maps.atKey_put_same h0 (show WideAt.IsKeyLit (.int .i64 q) from trivial)]
      simp
    · rw [Maps.atKey_put_other (by simpa using e), h2]
      simp [e]
  · obtain ⟨es, c, es', c', hb, rfl⟩ := ht
    exact ⟨rfl, rfl, rfl, by simp [setBlock], fun i _ hi => heap_setBlock_other hb _ (fun e => hi (by rw [e]))⟩

end Go.Proofs.Ytgcpakhagbbiiaa

/-! CountGradientWays, the program's: what its map holds, pair by pair. -/
namespace Go.Proofs.Ytgcpakhagbbiiaa
open Go.RowKit Go.Shelf

/-- The low face of a pair that does not stand among the first k settled ones. -/
def waitsB (ps : List Int) (n : Nat) (L : List Nat) (k : Nat) (p : Int) : Bool := (List.range n).any fun i => decide (at0 ps (i * 2) = p) && !(decide (i ∈ L.take k))
theorem waits_iff {ps : List Int} {n : Nat} {L : List Nat} {k : Nat} {p : Int} : waitsB ps n L k p = true ↔ ∃ i, i < n ∧ at0 ps (i * 2) = p ∧ i ∉ L.take k := by
  unfold waitsB
  rw [List.any_eq_true]
  simp
/-- The map's number at p behind the first k settled pairs. -/
def gwV (ps : List Int) (n : Nat) (b : Int) (L : List Nat) (k : Nat) (p : Int) : Int := if waitsB ps n L k p then (if p = b then 1 else 0) else wrap64 (gw ps n b p)
/-- .. and within the next one, whose low face is x, behind some steps. -/
def gwU (ps : List Int) (n : Nat) (b : Int) (L : List Nat) (k : Nat) (x : Int) (pre : List (Fin 64)) (p : Int) : Int :=
  if p = x then wrap64 ((if x = b then 1 else 0) + (pre.map fun z => gw ps n b (z.val : Int)).sum) else gwV ps n b L k p

theorem wrap64_01 (c : Prop) [Decidable c] : wrap64 (if c then 1 else 0) = if c then 1 else 0 := by split <;> simp [wrap64]
theorem gwV_zero (ps : List Int) (n : Nat) (b : Int) (L : List Nat) : gwV ps n b L 0 = fun p => if p = b then 1 else 0 := by
  funext p
  unfold gwV
  by_cases h : waitsB ps n L 0 p = true
  · rw [if_pos h]
  · rw [if_neg h, gw_none (fun i hi e => h (waits_iff.2 ⟨i, hi, e, by simp⟩)), wrap64_01]
theorem gwU_nil {ps : List Int} {n : Nat} {b : Int} {L : List Nat} (hS : Stl ps n L) {k : Nat} (hk : k < L.length) : gwU ps n b L k (at0 ps (L[k] * 2)) [] = gwV ps n b L k := by
  funext p
  unfold gwU
  by_cases h : p = at0 ps (L[k] * 2)
  · rw [if_pos h]
    have hw : waitsB ps n L k p = true := waits_iff.2 ⟨L[k], hS.lt _ (List.getElem_mem hk), h.symm, fun hm => by
      have hn := hS.nodup
      rw [← List.take_append_drop k L, List.nodup_append] at hn
      refine hn.2.2 _ hm _ ?_ rfl
      rw [List.drop_eq_getElem_cons hk]
      exact List.mem_cons_self⟩
    unfold gwV
    rw [if_pos hw, h]
    simp [wrap64_01]
  · rw [if_neg h]
/-- A step leads to a face whose ways are all known. -/
theorem gwU_next {ps : List Int} {n : Nat} {b : Int} {L : List Nat} (hS : Stl ps n L) {k : Nat} (hk : k < L.length) {y : Int} (hy : y ∈ nextL ps n (at0 ps (L[k] * 2))) (pre : List (Fin 64)) :
    gwU ps n b L k (at0 ps (L[k] * 2)) pre y = wrap64 (gw ps n b y) := by
  unfold gwU
  rw [if_neg (nextL_ne hy)]
  unfold gwV
  rw [if_neg]
  intro hw
  obtain ⟨j, hj, e, hn⟩ := waits_iff.1 hw
  refine hn (hS.ord (L.take k) L[k] (L.drop (k + 1)) ?_ j hj (by unfold StepP; rw [e]; exact hy))
  rw [← List.drop_eq_getElem_cons hk, List.take_append_drop]
theorem gwU_self (ps : List Int) (n : Nat) (b : Int) (L : List Nat) (k : Nat) (x : Int) (pre : List (Fin 64)) : gwU ps n b L k x pre x = wrap64 ((if x = b then 1 else 0) + (pre.map fun z => gw ps n b (z.val : Int)).sum) := by
  unfold gwU
  rw [if_pos rfl]
theorem gwU_snoc (ps : List Int) (n : Nat) (b : Int) (L : List Nat) (k : Nat) (x : Int) (pre : List (Fin 64)) (z : Fin 64) :
    (fun q => if q = x then wrap64 (gwU ps n b L k x pre x + wrap64 (gw ps n b (z.val : Int))) else gwU ps n b L k x pre q) = gwU ps n b L k x (pre ++ [z]) := by
  funext q
  by_cases h : q = x
  · subst h
    rw [if_pos rfl, gwU_self, gwU_self, wrap64_add]
    simp [Int.add_assoc]
  · rw [if_neg h]
    unfold gwU
    rw [if_neg h, if_neg h]
/-- All steps: the pair has settled. -/
theorem gwU_all {ps : List Int} {n : Nat} {b : Int} {L : List Nat} (hc : NoCycle ps n) (hh : HighsB ps n) (hd : LowsApart ps n) (hS : Stl ps n L) {k : Nat} (hk : k < L.length) :
    gwU ps n b L k (at0 ps (L[k] * 2)) (stepsF ps n (at0 ps (L[k] * 2))) = gwV ps n b L (k + 1) := by
  have ht : L.take (k + 1) = L.take k ++ [L[k]] := by rw [List.take_add_one, List.getElem?_eq_getElem hk]; rfl
  funext p
  unfold gwU
  by_cases h : p = at0 ps (L[k] * 2)
  · rw [if_pos h, gw_steps hh _ (gw ps n b), ← gw_step hc]
    unfold gwV
    rw [if_neg, h]
    intro hw
    obtain ⟨j, hj, e, hn⟩ := waits_iff.1 hw
    have := lows_inj hd hj (hS.lt _ (List.getElem_mem hk)) (e.trans h)
    exact hn (by rw [ht, this]; exact List.mem_append_right _ (List.mem_singleton.2 rfl))
  · rw [if_neg h]
    unfold gwV
    have he : waitsB ps n L k p = waitsB ps n L (k + 1) p := by
      rw [Bool.eq_iff_iff, waits_iff, waits_iff]
      constructor
      · rintro ⟨j, hj, e, hn⟩
        refine ⟨j, hj, e, fun hm => ?_⟩
        rw [ht] at hm
        rcases List.mem_append.1 hm with h1 | h1
        · exact hn h1
        · simp at h1
          exact h (by rw [← e, h1])
      · rintro ⟨j, hj, e, hn⟩
        exact ⟨j, hj, e, fun hm => hn (by rw [ht]; exact List.mem_append_left _ hm)⟩
    rw [he]
theorem gwV_all {ps : List Int} {n : Nat} {b : Int} {L : List Nat} (hall : ∀ i, i < n → i ∈ L) : gwV ps n b L L.length = fun p => wrap64 (gw ps n b p) := by
  funext p
  unfold gwV
  rw [if_neg]
  intro hw
  obtain ⟨j, hj, _, hn⟩ := waits_iff.1 hw
  exact hn (by rw [List.take_length]; exact hall j hj)
theorem steps_few (ps : List Int) (n : Nat) (a : Int) : (stepsF ps n a).length ≤ 6 := by
  rw [stepsF_hit]
  exact Nat.le_trans (List.length_filter_le _ _) (sides_len _ 6)

/-- What the walk keeps of the world: the map lies first, its box behind it. -/
structure GwW (w W : World) (N : Nat) (f : Int → Int) (Ds : List Nat) : Prop where
  below : Below w.heap.size w W
  cnt : CntM W w.heap.size N f
  b1 : W.heap[w.heap.size + 1]? = some (.cells #[.map (some w.heap.size)] 76 (0, 0))
  nodup : Ds.Nodup
  marks : ∀ D ∈ Ds, w.heap.size + 2 ≤ D ∧ W.heap[D]? = some (.deferred (some []))
theorem GwW.size {w W : World} {N : Nat} {f : Int → Int} {Ds : List Nat} (h : GwW w W N f Ds) : w.heap.size + 2 ≤ W.heap.size := by
  have := lt_of_get h.b1; omega
theorem GwW.turn {w W W' : World} {N : Nat} {f : Int → Int} {Ds : List Nat} (h : GwW w W N f Ds) {row : Option Nat} (hg : W.grownBy W' row) (hr : ∀ r, row = some r → w.heap.size + 2 ≤ r ∧ r ∉ Ds) : GwW w W' N f Ds where
  below := h.below.grown hg (by have := h.size; omega) (fun k e => by have := (hr k e).1; omega)
  cnt := h.cnt.kept hg (fun e => by have := (hr _ e.symm).1; omega)
  b1 := (hg.block _ (lt_of_get h.b1) (fun e => by have := (hr _ e.symm).1; omega)).trans h.b1
  nodup := h.nodup
  marks := fun D hD => ⟨(h.marks D hD).1, (hg.block _ (lt_of_get (h.marks D hD).2) (fun e => (hr _ e.symm).2 hD)).trans (h.marks D hD).2⟩
theorem GwW.alloc {w W : World} {N : Nat} {f : Int → Int} {Ds : List Nat} (h : GwW w W N f Ds) (o : Obj) : GwW w (W.alloc o) N f Ds := h.turn (World.grownBy_alloc W o none) (fun r e => by cases e)
theorem GwW.mark {w W : World} {N : Nat} {f : Int → Int} {Ds : List Nat} (h : GwW w W N f Ds) {D : Nat} (hD : W.heap[D]? = some (.deferred (some []))) (hb : w.heap.size + 2 ≤ D) (hn : D ∉ Ds) : GwW w W N f (D :: Ds) :=
  { h with
    nodup := List.nodup_cons.2 ⟨hn, h.nodup⟩
    marks := fun E hE => by
      rcases List.mem_cons.1 hE with rfl | hE
      · exact ⟨hb, hD⟩
      · exact h.marks E hE }
theorem CntM.mono {W : World} {b N N' : Nat} {f : Int → Int} (h : CntM W b N f) (hN : N ≤ N') : CntM W b N' f := by
  obtain ⟨D, h0, h1, h2⟩ := h
  exact ⟨D, h0, h1.mono hN, h2⟩
theorem GwW.mono {w W : World} {N N' : Nat} {f : Int → Int} {Ds : List Nat} (h : GwW w W N f Ds) (hN : N ≤ N') : GwW w W N' f Ds := { h with cnt := h.cnt.mono hN }
theorem GwW.put {w W W' : World} {N N' : Nat} {f g : Int → Int} {Ds : List Nat} (h : GwW w W N f Ds) (hc : CntM W' w.heap.size N' g) (hg : W.grownBy W' (some w.heap.size)) : GwW w W' N' g Ds where
  below := h.below.grown hg (by have := h.size; omega) (fun k e => by cases e; exact Nat.le_refl _)
  cnt := hc
  b1 := (hg.block _ (lt_of_get h.b1) (fun e => by injection e with e; omega)).trans h.b1
  nodup := h.nodup
  marks := fun D hD => ⟨(h.marks D hD).1, (hg.block _ (lt_of_get (h.marks D hD).2) (fun e => by injection e with e; have := (h.marks D hD).1; omega)).trans (h.marks D hD).2⟩
theorem gw_ownIn {β : Type} {w : World} {N : β → Nat} {f : β → Int → Int} {Ds : List Nat} {lo k : Nat} (hlo : w.heap.size + 2 ≤ lo) (hD : ∀ D ∈ Ds, D < lo) :
    OwnIn lo k (fun (p : β) W' => GwW w W' (N p) (f p) Ds) := by
  intro s A C row h hg hr
  refine h.turn hg (fun r e => ?_)
  obtain ⟨h1, _⟩ := hr r e
  exact ⟨by omega, fun hm => by have := hD r hm; omega⟩

end Go.Proofs.Ytgcpakhagbbiiaa

/-! CountGradientWays, the program's. -/
namespace Go.Proofs.Ytgcpakhagbbiiaa
open Go.RowKit Go.Shelf

attribute [local go_sem] Oper.semAt_some

theorem pairs_slI {w : World} {base e n : Nat} {v : Value} {L : List (Int × Int)} (h : w.ownsRow base e 2 v n ((flatP L).map (Value.int .i64))) :
    n = L.length ∧ ∃ a cap, v = .slice a L.length cap ∧ SlI w w.heap.size a (flatP L) := by
  have hl := h.1
  simp [flatP_len] at hl
  have hn : n = L.length := by omega
  refine ⟨hn, ?_⟩
  rcases h.2 with ⟨rfl, hn0⟩ | ⟨g, cap, cur, rfl, _, hg, _⟩
  · have : L = [] := List.eq_nil_of_length_eq_zero (by omega)
    subst this
    exact ⟨none, 0, rfl, .inl rfl⟩
  · refine ⟨_, cap, by rw [hn], .inr ⟨g, 0, (Array.getElem?_eq_some_iff.1 hg).1, rfl, fun i hi => ?_⟩⟩
    have := h.cells (g := g) rfl i (.int .i64 ((flatP L)[i]?.getD 0)) (by simp [hi])
    have hadd : (⟨g, 0, none⟩ : Addr).add i = ⟨g, i, none⟩ := by unfold Addr.add; split <;> simp_all
    rw [hadd] at this
    simpa using this

/-- Ahead of settled pair k. -/
def GwIn (w3 : World) (M C n c2 : Nat) (a2 : Option Addr) (a b : Int) (ps : List Int) (L : List Nat) (a' : Act) (W : World) : Prop :=
  ∃ (k : Nat) (Ds : List Nat) (us : Nat → Value), a' = { tmps := List.toArray (us 0 :: us 1 :: (.int .i64 a) :: us 3 :: us 4 :: us 5 :: us 6 :: us 7 :: us 8 :: us 9 :: us 10 :: us 11 :: (.map (some M)) :: (.pointer (some ⟨C + 1, 0, none⟩)) :: us 14 :: us 15 :: us 16 :: us 17 :: us 18 :: us 19 :: us 20 :: us 21 :: us 22 :: us 23 :: us 24 :: us 25 :: us 26 :: us 27 :: us 28 :: us 29 :: us 30 :: us 31 :: us 32 :: us 33 :: us 34 :: us 35 :: us 36 :: us 37 :: us 38 :: us 39 :: us 40 :: us 41 :: us 42 :: us 43 :: us 44 :: us 45 :: us 46 :: (.slice a2 n c2) :: (.int .i64 (n : Int)) :: (.int .i64 (k : Int)) :: us 50 :: us 51 :: us 52 :: us 53 :: us 54 :: us 55 :: us 56 :: us 57 :: us 58 :: us 59 :: us 60 :: us 61 :: us 62 :: us 63 :: us 64 :: us 65 :: us 66 :: us 67 :: us 68 :: us 69 :: []), defers := marks Ds } ∧ Hid (GwW w3 W (1 + 64 * k) (gwV ps n b L k) Ds) ∧ k ≤ n
theorem gwIn_of {w3 W : World} {M C n c2 : Nat} {a2 : Option Addr} {a b : Int} {ps : List Int} {L : List Nat} {k : Nat} {Ds : List Nat} (tm : Array Value) (ds : List Deferred) (hds : ds = marks Ds)
    (h : tm = List.toArray (tm.getD 0 undef :: tm.getD 1 undef :: (.int .i64 a) :: tm.getD 3 undef :: tm.getD 4 undef :: tm.getD 5 undef :: tm.getD 6 undef :: tm.getD 7 undef :: tm.getD 8 undef :: tm.getD 9 undef :: tm.getD 10 undef :: tm.getD 11 undef :: (.map (some M)) :: (.pointer (some ⟨C + 1, 0, none⟩)) :: tm.getD 14 undef :: tm.getD 15 undef :: tm.getD 16 undef :: tm.getD 17 undef :: tm.getD 18 undef :: tm.getD 19 undef :: tm.getD 20 undef :: tm.getD 21 undef :: tm.getD 22 undef :: tm.getD 23 undef :: tm.getD 24 undef :: tm.getD 25 undef :: tm.getD 26 undef :: tm.getD 27 undef :: tm.getD 28 undef :: tm.getD 29 undef :: tm.getD 30 undef :: tm.getD 31 undef :: tm.getD 32 undef :: tm.getD 33 undef :: tm.getD 34 undef :: tm.getD 35 undef :: tm.getD 36 undef :: tm.getD 37 undef :: tm.getD 38 undef :: tm.getD 39 undef :: tm.getD 40 undef :: tm.getD 41 undef :: tm.getD 42 undef :: tm.getD 43 undef :: tm.getD 44 undef :: tm.getD 45 undef :: tm.getD 46 undef :: (.slice a2 n c2) :: (.int .i64 (n : Int)) :: (.int .i64 (k : Int)) :: tm.getD 50 undef :: tm.getD 51 undef :: tm.getD 52 undef :: tm.getD 53 undef :: tm.getD 54 undef :: tm.getD 55 undef :: tm.getD 56 undef :: tm.getD 57 undef :: tm.getD 58 undef :: tm.getD 59 undef :: tm.getD 60 undef :: tm.getD 61 undef :: tm.getD 62 undef :: tm.getD 63 undef :: tm.getD 64 undef :: tm.getD 65 undef :: tm.getD 66 undef :: tm.getD 67 undef :: tm.getD 68 undef :: tm.getD 69 undef :: [])) (HW : Hid (GwW w3 W (1 + 64 * k) (gwV ps n b L k) Ds)) (h1 : k ≤ n) : GwIn w3 M C n c2 a2 a b ps L { tmps := tm, defers := ds } W :=
  ⟨k, Ds, fun i => tm.getD i undef, by rw [hds]; exact congrArg (fun t => ({ tmps := t, defers := marks Ds } : Act)) h, HW, h1⟩


end Go.Proofs.Ytgcpakhagbbiiaa

/-! l02With: a pair is put into an ascending list. -/
namespace Go.Proofs.Ytgcpakhagbbiiaa
open Go.RowKit

attribute [local go_sem] Oper.semAt_some

/-- The place of a pair: behind all that are not greater, from the end on. -/
def placeP (qs : List Int) (x y : Int) : Nat → Nat
  | 0 => 0
  | k + 1 => if lessP x y (at0 qs (k * 2)) (at0 qs (k * 2 + 1)) then placeP qs x y k else k + 1
theorem placeP_le (qs : List Int) (x y : Int) : ∀ n, placeP qs x y n ≤ n
  | 0 => Nat.le_refl _
  | k + 1 => by
    unfold placeP
    split
    · exact Nat.le_succ_of_le (placeP_le qs x y k)
    · exact Nat.le_refl _
/-- The list with the pair. -/
def insP (qs : List Int) (n : Nat) (x y : Int) : List Int := qs.take (2 * placeP qs x y n) ++ (x :: y :: qs.drop (2 * placeP qs x y n))
theorem insP_len {qs : List Int} {n : Nat} (h : qs.length = 2 * n) (x y : Int) : (insP qs n x y).length = 2 * (n + 1) := by
  have := placeP_le qs x y n
  unfold insP
  simp
  omega

/-- At the loop's end. -/
def WhOut (B : Nat) (V : Int) (a0 : Option Addr) (l cap : Nat) (a1 : Option Addr) (n cap1 : Nat) (x y : Int) (P : Nat) (a' : Act) : Prop :=
  ∃ us : Nat → Value, a' = { tmps := List.toArray ((.agg #[.int .i64 V, .slice a0 l cap]) :: (.slice a1 n cap1) :: (.agg #[.int .i64 x, .int .i64 y]) :: (.pointer (some ⟨B, 0, none⟩)) :: us 4 :: (.pointer (some ⟨B + 1, 0, none⟩)) :: (.slice none 0 0) :: (.bool false) :: (.int .i64 (P : Int)) :: us 9 :: us 10 :: us 11 :: us 12 :: us 13 :: us 14 :: us 15 :: us 16 :: us 17 :: us 18 :: us 19 :: us 20 :: us 21 :: us 22 :: us 23 :: us 24 :: us 25 :: us 26 :: us 27 :: us 28 :: us 29 :: us 30 :: us 31 :: us 32 :: us 33 :: us 34 :: us 35 :: us 36 :: us 37 :: us 38 :: us 39 :: us 40 :: us 41 :: us 42 :: []), defers := [] }
theorem whOut_of {B : Nat} {V : Int} {a0 : Option Addr} {l cap : Nat} {a1 : Option Addr} {n cap1 : Nat} {x y : Int} {P : Nat} (tm : Array Value) (h : tm = List.toArray ((.agg #[.int .i64 V, .slice a0 l cap]) :: (.slice a1 n cap1) :: (.agg #[.int .i64 x, .int .i64 y]) :: (.pointer (some ⟨B, 0, none⟩)) :: tm.getD 4 undef :: (.pointer (some ⟨B + 1, 0, none⟩)) :: (.slice none 0 0) :: (.bool false) :: (.int .i64 (P : Int)) :: tm.getD 9 undef :: tm.getD 10 undef :: tm.getD 11 undef :: tm.getD 12 undef :: tm.getD 13 undef :: tm.getD 14 undef :: tm.getD 15 undef :: tm.getD 16 undef :: tm.getD 17 undef :: tm.getD 18 undef :: tm.getD 19 undef :: tm.getD 20 undef :: tm.getD 21 undef :: tm.getD 22 undef :: tm.getD 23 undef :: tm.getD 24 undef :: tm.getD 25 undef :: tm.getD 26 undef :: tm.getD 27 undef :: tm.getD 28 undef :: tm.getD 29 undef :: tm.getD 30 undef :: tm.getD 31 undef :: tm.getD 32 undef :: tm.getD 33 undef :: tm.getD 34 undef :: tm.getD 35 undef :: tm.getD 36 undef :: tm.getD 37 undef :: tm.getD 38 undef :: tm.getD 39 undef :: tm.getD 40 undef :: tm.getD 41 undef :: tm.getD 42 undef :: [])) : WhOut B V a0 l cap a1 n cap1 x y P { tmps := tm, defers := [] } :=
  ⟨fun i => tm.getD i undef, congrArg (fun t => ({ tmps := t, defers := [] } : Act)) h⟩

def WhQ (W0 : World) (B : Nat) (V : Int) (a0 : Option Addr) (l cap : Nat) (a1 : Option Addr) (n cap1 : Nat) (x y : Int) (P : Nat) : Exit → Act → World → Prop
  | .exit 0, a', wr => WhOut B V a0 l cap a1 n cap1 x y P a' ∧ Below W0.heap.size W0 wr
  | _, _, _ => False

set_option maxRecDepth 1000000 in
set_option maxHeartbeats 4000000 in
theorem with_any (V : Int) (a0 : Option Addr) (cap : Nat) (fs : List Int) (b off n cap1 : Nat) (qs : List Int) (x y : Int) (w : World) (hx : SlI w w.heap.size a0 fs) (hb : b < w.heap.size) (hcl : ∀ i, i < qs.length → w.cell? ⟨b, off + i, none⟩ = some (.int .i64 (qs[i]?.getD 0))) (hl : fs.length ≤ 1048576) (hf : ∀ x ∈ fs, 1 ≤ x ∧ x ≤ 63) (hp : qs.length = 2 * n) (hn : n + 1 ≤ 1048576) (hcap : n ≤ cap1) :
    Calls Try.prog 118 #[.agg #[.int .i64 V, .slice a0 fs.length cap], .slice (some ⟨b, off, none⟩) n cap1, .agg #[.int .i64 x, .int .i64 y]] w fun e w' => ∃ v, e = .returned (.tuple #[v, .bool (pairingB fs (insP qs n x y) (n + 1))]) ∧ w'.ownsRow w.heap.size 69 2 v (n + 1) ((insP qs n x y).map (Value.int .i64)) ∧ Below w.heap.size w w' := by
  obtain ⟨W0, hW0⟩ : ∃ W0, W0 = (w.alloc (.cells #[.int .i64 V, .slice a0 fs.length cap] 30)).alloc (.cells #[.int .i64 x, .int .i64 y] 69) := ⟨_, rfl⟩
  have hB0 : Below w.heap.size w W0 := by rw [hW0]; exact ((Below.refl _ w).alloc (Nat.le_refl _) _).alloc (by simp) _
  have hs0 : W0.heap.size = w.heap.size + 2 := by rw [hW0]; simp
  have hpb : W0.heap[w.heap.size + 1]? = some (.cells #[.int .i64 x, .int .i64 y] 69 (0, 0)) := by
    have := heap_alloc_new (w.alloc (.cells #[.int .i64 V, .slice a0 fs.length cap] 30)) (.cells #[.int .i64 x, .int .i64 y] 69)
    rw [World.size_alloc] at this
    rw [hW0]
    exact this
  have hk0 : W0.cell? ⟨w.heap.size, 0, none⟩ = some (.int .i64 V) := by rw [hW0]; simp [go_sem]
  have hk1 : W0.cell? ⟨w.heap.size, 1, none⟩ = some (.slice a0 fs.length cap) := by rw [hW0]; simp [go_sem]
  have Hcl := hid hcl
  have Hp := hid hp
  have HB0 := hid hB0
  have Hpb := hid hpb
  have Hk0 := hid hk0
  have Hk1 := hid hk1
  have Hx := hid hx
  obtain ⟨P, hP⟩ : ∃ P, P = placeP qs x y n := ⟨_, rfl⟩
  have HP := hid hP
  clear hx hcl hp hB0 hpb hk0 hk1 hP
  go_enter Try.func118, Try.ntmps118
  go_wp2_with fail
  rw [← hW0]
  clear hW0
  refine wp_mono (Q := WhQ W0 w.heap.size V a0 fs.length cap (some ⟨b, off, none⟩) n cap1 x y P) ?_ ?_
  · go_loopw [8] (fun i wr => ∃ k : Nat, k ≤ n ∧ i = .int .i64 k ∧ Hid (placeP qs x y k = P) ∧ Below W0.heap.size W0 wr) (fun i _ => (intOf i).toNat)
    case atStart => exact ⟨n, Nat.le_refl _, rfl, hid HP.out.symm, Below.refl _ _⟩
    case round =>
      obtain ⟨k, hk, rfl, Hk, hB⟩ := hrel
      rcases k with _ | k
      · have HB := hid hB
        have HP0 : Hid (P = 0) := hid Hk.out.symm
        clear hB
        go_wp2_with fail
        go_quiet (fail)
        go_wp2_with fail
        rw [HP0.out]
        exact ⟨whOut_of _ rfl, HB.out.trans (below_drewN (Below.refl _ wr) _)⟩
      · have hcl := Hcl.out
        have hBw := HB0.out.trans (hB.mono HB0.out.size)
        have hc2 : wr.cell? ⟨b, off + k * 2, none⟩ = some (.int .i64 (at0 qs (k * 2))) := (hBw.cell (p := ⟨b, off + k * 2, none⟩) hb).trans (hcl _ (by have := Hp.out; omega))
        have hc3 : wr.cell? ⟨b, off + k * 2 + 1, none⟩ = some (.int .i64 (at0 qs (k * 2 + 1))) := (hBw.cell (p := ⟨b, off + (k * 2 + 1), none⟩) hb).trans (hcl _ (by have := Hp.out; omega))
        obtain ⟨x', hx'⟩ : ∃ x, x = at0 qs (k * 2) := ⟨_, rfl⟩
        obtain ⟨y', hy'⟩ : ∃ y, y = at0 qs (k * 2 + 1) := ⟨_, rfl⟩
        rw [← hx'] at hc2
        rw [← hy'] at hc3
        obtain ⟨p0, p1, _, _⟩ := two_of ((hB.block _ (lt_of_get Hpb.out)).trans Hpb.out)
        obtain ⟨c, hcc⟩ : ∃ c, c = lessP x y x' y' := ⟨_, rfl⟩
        have HL := hid (less_any x y x' y' wr.drew)
        rw [← hcc] at HL
        have hi0 : (0 : Int) ≤ (k : Int) := by omega
        have hi1 : (k : Int) < (n : Int) := by omega
        have hpos : (0 : Int) < ((k + 1 : Nat) : Int) := by omega
        have hwr : IntKind.i64.wrap ((k : Int) + 1 - 1) = (k : Int) := by rw [IntKind.wrap_i64]; omega
        have hwr3 : IntKind.i64.wrap (k : Int) = (k : Int) := by rw [IntKind.wrap_i64]; omega
        have hwr2 : IntKind.i64.wrap (((k + 1 : Nat) : Int) - 1) = (k : Int) := by rw [IntKind.wrap_i64]; omega
        have HB := hid hB
        have Hxy : Hid (placeP qs x y (k + 1) = if c then placeP qs x y k else k + 1) := hid (by rw [hcc, hx', hy']; rfl)
        clear hcl hx' hy' hB hBw hcc
        go_wp2_with fail
        go_region_with (go_at_call 186; refine HL.out.mono ?_; rintro e w2 ⟨rfl, hB2⟩; have HB2 := hid hB2; clear hB2)
        all_goals
          have HB3 := hid (HB.out.trans (((below_drewN (Below.refl _ wr) 1).trans HB2.out).mono HB.out.size))
          cases c
          · have HP0 : Hid (P = k + 1) := hid (by rw [← Hk.out, Hxy.out]; rfl)
            go_wp2_with fail
            rw [HP0.out]
            exact ⟨whOut_of _ rfl, HB3.out⟩
          · have HP0 : Hid (placeP qs x y k = P) := hid (by rw [← Hk.out, Hxy.out]; rfl)
            go_wp2_with fail
            go_roundw
            case rel => exact ⟨k, by omega, by go_num, HP0, HB3.out⟩
            case measure => simp [intOf]
  · rintro e a' wr h
    cases e with
    | exit id =>
      rcases id with _ | id
      · obtain ⟨⟨us, rfl⟩, hB⟩ := h
        have hPn := placeP_le qs x y n
        rw [← HP.out] at hPn
        have hBw := HB0.out.trans (hB.mono HB0.out.size)
        obtain ⟨p0, p1, _, _⟩ := two_of ((hB.block _ (lt_of_get Hpb.out)).trans Hpb.out)
        have k0 := (hB.cell (p := ⟨w.heap.size, 0, none⟩) (by simp only; omega)).trans Hk0.out
        have k1 := (hB.cell (p := ⟨w.heap.size, 1, none⟩) (by simp only; omega)).trans Hk1.out
        have hi0 : (0 : Int) ≤ (P : Int) := by omega
        have hi1 : (P : Int) ≤ (n : Int) := by omega
        have hi2 : (n : Int) ≤ (cap1 : Int) := by omega
        have hi3 : (P : Int) ≤ (cap1 : Int) := by omega
        have HBw := hid hBw
        have Hi := hid hPn
        clear hBw hPn
        have hcl := Hcl.out
        · obtain ⟨ad, had, hadc⟩ : ∃ ad : Addr, (if cap1 = P then some (⟨b, off, none⟩ : Addr) else some ⟨b, off + P * 2, none⟩) = some ad ∧ ∀ W', Below w.heap.size w W' → ∀ j, j < (n - P) * 2 → W'.cell? (ad.add j) = some (.int .i64 ((qs.drop (2 * P))[j]?.getD 0)) := by
            by_cases hcp : cap1 = P
            · exact ⟨_, if_pos hcp, fun W' _ j hj => by have := Hi.out; omega⟩
            · refine ⟨_, if_neg hcp, fun W' h j hj => ?_⟩
              have hadd : (⟨b, off + P * 2, none⟩ : Addr).add j = ⟨b, off + (P * 2 + j), none⟩ := by unfold Addr.add; split <;> simp_all [Nat.add_assoc]
              rw [hadd, (h.cell (p := ⟨b, off + (P * 2 + j), none⟩) hb), hcl _ (by have := Hp.out; omega), List.getElem?_drop, Nat.mul_comm 2 P]
          have hW1 := one_pair (w := wr.drew) (base := wr.heap.size) (Nat.le_refl _) x y
          have hBd : Below wr.heap.size wr (wr.drew.alloc (.cells #[.int .i64 x, .int .i64 y] 69)) := (below_drewN (Below.refl _ wr) 1).alloc (Nat.le_refl _) _
          obtain ⟨v1, W2, hr1, hown1, hg1, hb1⟩ := append_run (l := n - P) (c := cap1 - P) (ys := qs.drop (2 * P)) hW1 hBd.size (by omega) (by omega) (by have := Hp.out; simp; omega) (hadc _ (HBw.out.trans (hBd.mono HBw.out.size)))
          have hB2 := hBd.trans hb1
          obtain ⟨g1, c1, rfl, hg1l⟩ : ∃ g c, v1 = .slice (some ⟨g, 0, none⟩) (1 + (n - P)) c ∧ g < W2.heap.size := by
            rcases hown1.2 with ⟨_, h0⟩ | ⟨g, cp, cur, h1, _, h2, _⟩
            · omega
            · exact ⟨g, cp, h1, lt_of_get h2⟩
          have hown0 := World.ownsRow_made (base := wr.heap.size) (e := 69) (size := 2) W2 #[] 0 hB2.size (by unfold maxLen; omega) rfl
          have hB3 : Below wr.heap.size wr (W2.alloc (.cells #[] 69)) := hB2.alloc hB2.size _
          obtain ⟨v4, W4, hr4, hown4, hg4, hb4⟩ := append_run (xs := []) (ad := ⟨b, off, none⟩) (l := P) (c := cap1) (ys := qs.take (2 * P)) hown0 hB3.size (by omega) (by omega) (by have := Hp.out; have := Hi.out; simp; omega) (fun j hj => by
            have hadd : (⟨b, off, none⟩ : Addr).add j = ⟨b, off + j, none⟩ := by unfold Addr.add; split <;> simp_all
            rw [hadd, ((HBw.out.trans (hB3.mono HBw.out.size)).cell (p := ⟨b, off + j, none⟩) hb), hcl _ (by have := Hp.out; have := Hi.out; omega), List.getElem?_take_of_lt (by omega)])
          have hB4 := hB3.trans hb4
          have hown1' := (hown1.alloc (.cells #[] 69)).kept hg4 (.inr (by intro e; simp [Value.ownBlock] at e; omega))
          obtain ⟨v5, W5, hr5, hown5, hg5, hb5⟩ := append_run (ad := ⟨g1, 0, none⟩) (l := 1 + (n - P)) (c := c1) (ys := [x, y] ++ qs.drop (2 * P)) hown4 hB4.size (by have := Hi.out; omega) (by omega) (by have := Hp.out; simp; omega) (fun j hj => hown1'.cells rfl j _ (map_get (by have := Hp.out; simp; omega)))
          have hB5 := hB4.trans hb5
          have hall : ([] ++ qs.take (2 * P)) ++ ([x, y] ++ qs.drop (2 * P)) = insP qs n x y := by unfold insP; rw [← HP.out]; simp
          rw [hall, show 0 + P + (1 + (n - P)) = n + 1 by have := Hi.out; omega] at hown5
          obtain ⟨g5, c5, rfl⟩ : ∃ g c, v5 = .slice (some ⟨g, 0, none⟩) (n + 1) c := by
            rcases hown5.2 with ⟨_, h0⟩ | ⟨g, cp, cur, h1, _, h2, _⟩
            · omega
            · exact ⟨g, cp, h1⟩
          have hBW5 := HBw.out.trans (hB5.mono HBw.out.size)
          have HI := hid (pis_any V a0 cap fs (some ⟨g5, 0, none⟩) (n + 1) c5 (insP qs n x y) W5 (Hx.out.later hBW5 hBW5.size) (flat_slI hown5) hl hf (insP_len Hp.out x y) hn)
          have q0 := (hB5.cell (p := ⟨w.heap.size, 0, none⟩) (by have := HBw.out.size; have := lt_of_get Hpb.out; have := hB.size; simp only; omega)).trans k0
          have q1 := (hB5.cell (p := ⟨w.heap.size, 1, none⟩) (by have := HBw.out.size; have := lt_of_get Hpb.out; have := hB.size; simp only; omega)).trans k1
          have Hown5 := hid (ownsRow_base hown5 HBw.out.size)
          have HBW5 := hid hBW5
          clear hown5 hB5 hBW5 hall hown1' hB4 hown4 hg4 hb4 hB3 hown0 hB2 hown1 hg1 hb1 hg5 hb5 hW1 hBd hadc
          simp only [Exit.inBlock, Exit.then]
          go_wp2_with fail
          refine wp_region_any (by kernel_rfl) ?_
          refine wpAny_take (i := 2) (v := ?_) rfl (by kernel_rfl) (by kernel_rfl) (by kernel_rfl) (fun _ _ _ h => h) (Or.inl ⟨by rfl, ?_⟩) ?_
          rotate_left
          · intro w; go_simp; rfl
          refine wpAny_take (i := 3) (v := ?_) rfl (by kernel_rfl) (by kernel_rfl) (by kernel_rfl) (fun _ _ _ h => h) (Or.inl ⟨by rfl, ?_⟩) ?_
          rotate_left
          · intro w; go_simp; rfl
          refine wpAny_take (i := 4) (v := ?_) rfl (by kernel_rfl) (by kernel_rfl) (by kernel_rfl) (fun _ _ _ h => h) (Or.inl ⟨by rfl, ?_⟩) ?_
          rotate_left
          · intro w; go_simp; rfl
          refine wpAny_ready (rs := [0]) (by kernel_rfl) (by simp) ?_
          refine AllReady.cons rfl (fun K hK => ?_) AllReady.nil
          go_simp
          refine hK _ _ ?_
          clear hK K
          refine wpAny_ready (rs := [1]) (by kernel_rfl) (by simp) ?_
          refine AllReady.cons rfl (fun K hK => ?_) AllReady.nil
          go_simp
          refine hK _ _ ?_
          clear hK K
          refine wpAny_ready (rs := [5]) (by kernel_rfl) (by simp) ?_
          refine AllReady.cons rfl (fun K hK => ?_) AllReady.nil
          rw [if_pos (by rfl)]
          refine wp_append_run rfl rfl (show _ = Value.slice (some ad) (n - P) (cap1 - P) from by first | exact congrArg (fun t => Value.slice t (n - P) (cap1 - P)) had | (rw [← had]; rfl)) hr1 ?_
          refine hK _ _ ?_
          clear hK K
          refine wpAny_ready (rs := [6]) (by kernel_rfl) (by simp) ?_
          refine AllReady.cons rfl (fun K hK => ?_) AllReady.nil
          go_simp
          refine hK _ _ ?_
          clear hK K
          refine wpAny_done (by kernel_rfl) ?_ _
          simp only [Exit.then]
          go_wp2_with (first
            | (at_builtin; first | (refine wpList_append_run rfl rfl rfl rfl hr4 ?_) | (refine wpList_append_run rfl rfl rfl rfl hr5 ?_))
            | (go_at_call 124; refine HI.out.mono ?_; rintro e w6 ⟨rfl, hB6⟩; have HB6 := hid hB6; clear hB6))
          go_ret2
          exact ⟨_, rfl, Hown5.out.kept (row := none) ⟨HB6.out.os, HB6.out.tape, HB6.out.output, HB6.out.size, fun k hk _ => HB6.out.block k hk⟩ (.inr (by simp [Value.ownBlock])), HBW5.out.trans (HB6.out.mono HBW5.out.size)⟩
      · exact h.elim
    | normal => exact h.elim
    | goto l => exact h.elim
    | ret => exact h.elim
    | panic ch => exact h.elim
    | outgrown => exact h.elim

end Go.Proofs.Ytgcpakhagbbiiaa

/-! FacetsOf, the model's. -/
namespace Go.Proofs.Ytgcpakhagbbiiaa
open Go.RowKit

/-- The faces with one vertex more than a face that have all of it. -/
def aboveL (fs : List Int) (f : Nat) : List Int := fs.filter fun x => decide (x.toNat &&& f = f ∧ ones x.toNat = ones f + 1)
/-- The facets. -/
def facetsL (fs : List Int) : List Int := fs.filter fun x => decide ((aboveL fs x.toNat).length = 0)

theorem pair_mono' {P : Program} {f : FuncId} {args : Array Value} {w : World} {r : List Int × Int} {xs : List Int} {c : Int} (hr : r = (xs, c))
    (h : Calls P f args w fun e w' => ∃ v, e = .returned (.tuple #[v, .int .i64 c]) ∧ Res w w' v xs) : Calls P f args w fun e w' => ∃ v, e = .returned (.tuple #[v, .int .i64 r.2]) ∧ Res w w' v r.1 := by
  subst hr; exact h

set_option maxHeartbeats 2000000 in
theorem above_any (V : Int) (a : Option Addr) (cap : Nat) (fs : List Int) (f : Nat) (w : World) (hx : SlI w w.heap.size a fs) (hl : fs.length ≤ 1048576) (hf : ∀ x ∈ fs, 1 ≤ x ∧ x ≤ 63) (hf64 : f < 64) :
    Calls Try.prog 204 #[.agg #[.int .i64 V, .slice a fs.length cap], .int .i64 (f : Int)] w fun e w' => ∃ v, e = .returned v ∧ Res w w' v (aboveL fs f) := by
  have hB0 : Below w.heap.size w (w.alloc (.cells #[.int .i64 V, .slice a fs.length cap] 30)) := (Below.refl _ w).alloc (Nat.le_refl _) _
  have hB00 := (hB0.alloc (by simp) (.cells #[] 2))
  have hown0 := World.ownsRow_made (base := w.heap.size + 1) (e := 2) (size := 1) (w.alloc (.cells #[.int .i64 V, .slice a fs.length cap] 30)) #[] 0 (by simp) (by simp [maxLen]) rfl
  rw [World.size_alloc] at hown0
  rcases hx with rfl | ⟨b, off, hb, rfl, hc⟩
  · have Hown0 := hid hown0
    clear hown0
    go_enter Try.func204, Try.ntmps204
    go_wp2
    refine wp_loop_rounds 1 ?_; rw [rounds_succ]
    go_wp2
    go_ret
    exact ⟨_, rfl, ownsRow_base (by simpa [aboveL] using Hown0.out) (Nat.le_succ _), hB00⟩
  · have Hc := hid hc
    have Hf := hid hf
    have Hown0 := hid hown0
    clear hc hf hown0
    go_enter Try.func204, Try.ntmps204
    go_wp2
    go_loopw [5, 6] (fun v i wr => ∃ k : Nat, k ≤ fs.length ∧ i = .int .i64 k ∧ wr.ownsRow (w.heap.size + 1) 2 1 v (aboveL (fs.take k) f).length ((aboveL (fs.take k) f).map (Value.int .i64)) ∧
        Below (w.heap.size + 1) (w.alloc (.cells #[.int .i64 V, .slice (some ⟨b, off, none⟩) fs.length cap] 30)) wr) (fun _ i _ => fs.length - (intOf i).toNat)
    case atStart => exact ⟨0, Nat.zero_le _, rfl, Hown0.out, (Below.refl _ _).alloc (by simp) _⟩
    case round =>
      obtain ⟨k, hk, rfl, hown, hB⟩ := hrel
      have c0 : wr.cell? ⟨w.heap.size, 0, none⟩ = some (.int .i64 V) := (hB.cell (p := ⟨w.heap.size, 0, none⟩) (by simp)).trans (by simp [go_sem])
      have c1 : wr.cell? ⟨w.heap.size, 1, none⟩ = some (.slice (some ⟨b, off, none⟩) fs.length cap) := (hB.cell (p := ⟨w.heap.size, 1, none⟩) (by simp)).trans (by simp [go_sem])
      have hBW := hB0.trans (hB.mono (by simp))
      have hsz := hB.size
      simp only [World.size_alloc] at hsz
      by_cases hlt : k < fs.length
      · obtain ⟨x, hx⟩ : ∃ x : Nat, (x : Int) = fs[k]?.getD 0 := ⟨(fs[k]?.getD 0).toNat, by have := Hf.out _ (getD_mem hlt); omega⟩
        have hx64 : x < 64 := by have := Hf.out _ (getD_mem hlt); omega
        have hck : wr.cell? ⟨b, off + k, none⟩ = some (.int .i64 (x : Int)) := by rw [hx]; exact (hBW.cell (p := ⟨b, off + k, none⟩) hb).trans (Hc.out k hlt)
        have hi0 : (0 : Int) ≤ (k : Int) := by omega
        have hi1 : (k : Int) < (fs.length : Int) := by omega
        have hfl : (aboveL (fs.take k) f).length ≤ 1048576 := Nat.le_trans (List.length_filter_le _ _) (by simp; omega)
        have Hp : Hid (∀ c, decide (x &&& f = f ∧ ones x = ones f + 1) = c → aboveL (fs.take (k + 1)) f = aboveL (fs.take k) f ++ (if c then [(x : Int)] else [])) := hid (fun c hc => by
          unfold aboveL
          rw [take_snoc hlt, List.filter_append, ← hx]
          cases c <;> simpa using hc)
        have hbits : bits BinOp.and IntKind.i64 (x : Int) (f : Int) = ((x &&& f : Nat) : Int) := (bits_nat .i64 6 (by decide) (fun n h0 h1 => by rw [IntKind.wrap_i64]; omega) x f (by omega) (by omega)).1
        clear hx hB0 hB00
        have ho := ones_le x
        have ho' := ones_le f
        by_cases hpx : x &&& f = f
        · have hd : (((x &&& f : Nat) : Int) == (f : Int)) = true := by simp; omega
          by_cases hox : ones x = ones f + 1
          · have hd2 : ((ones x : Int) == (ones f : Int) + 1) = true := by simp; omega
            have HP := hid (Hp.out true (decide_eq_true ⟨hpx, hox⟩))
            clear hpx hox Hp
            go_wp2_with (first
              | (go_at_call 165; refine (ones_any _ _ (by assumption)).mono ?_; rintro e w' ⟨rfl, rfl⟩)
              | (at_builtin; refine append_int rfl rfl hown hsz (by omega) rfl rfl ?_; intro v' w2 hown2 hgrow2 hB2))
            go_roundw
            case rel => exact ⟨k + 1, by omega, by go_num, by rw [HP.out]; exact hown2, hB.trans hB2⟩
            case measure => simp [intOf]; omega
          · have hd2 : ((ones x : Int) == (ones f : Int) + 1) = false := by simp; omega
            have HP := hid (Hp.out false (decide_eq_false (fun h => hox h.2)))
            clear hpx hox Hp
            go_wp2_with (first
              | (go_at_call 165; refine (ones_any _ _ (by assumption)).mono ?_; rintro e w' ⟨rfl, rfl⟩))
            go_roundw
            case rel => exact ⟨k + 1, by omega, by go_num, by rw [HP.out]; simpa using hown, hB⟩
            case measure => simp [intOf]; omega
        · have hd : (((x &&& f : Nat) : Int) == (f : Int)) = false := by simp; omega
          have HP := hid (Hp.out false (decide_eq_false (fun h => hpx h.1)))
          clear hpx Hp
          go_wp2_with fail
          go_roundw
          case rel => exact ⟨k + 1, by omega, by go_num, by rw [HP.out]; simpa using hown, hB⟩
          case measure => simp [intOf]; omega
      · go_wp2
        go_ret
        obtain rfl : k = fs.length := by omega
        rw [List.take_of_length_le (Nat.le_refl _)] at hown
        exact ⟨_, rfl, ownsRow_base hown (by omega), hBW⟩

/-- What FacetsOf hands back. -/
noncomputable def facetsOfR (V : Int) (fs : List Int) : List Int × Int := if isCB V fs then (facetsL fs, 0) else ([], 1)

theorem facetsOfR_len (V : Int) (fs : List Int) (h : fs.length ≤ 1048576) : (facetsOfR V fs).1.length ≤ 1048576 := by
  unfold facetsOfR
  split
  · exact Nat.le_trans (List.length_filter_le _ _) h
  · simp

end Go.Proofs.Ytgcpakhagbbiiaa

/-! l04Pairs: the pairs of a function, and whether it is a Morse function. -/
namespace Go.Proofs.Ytgcpakhagbbiiaa
open Go.RowKit

attribute [local go_sem] Oper.semAt_some

/-- The pairs with the first j faces above f put in. -/
def insTo (fs gs : List Int) (f gi : Int) (hs : List Int) (qs : List Int) : Nat → List Int
  | 0 => qs
  | j + 1 => if numAt fs gs (hs[j]?.getD 0) ≤ gi then insP (insTo fs gs f gi hs qs j) ((insTo fs gs f gi hs qs j).length / 2) f (hs[j]?.getD 0) else insTo fs gs f gi hs qs j
/-- The pairs of the first k faces. -/
def fnPairs (fs gs : List Int) : Nat → List Int
  | 0 => []
  | k + 1 => insTo fs gs (fs[k]?.getD 0) (gs[k]?.getD 0) (aboveL fs (fs[k]?.getD 0).toNat) (fnPairs fs gs k) (aboveL fs (fs[k]?.getD 0).toNat).length
def cntUp (fs gs : List Int) (gi : Int) (hs : List Int) (j : Nat) : Nat := (hs.take j).countP fun h => decide (numAt fs gs h ≤ gi)
def cntDn (fs gs : List Int) (gi : Int) (ls : List Int) (j : Nat) : Nat := (ls.take j).countP fun h => decide (gi ≤ numAt fs gs h)
theorem cntUp_succ (fs gs : List Int) (gi : Int) (hs : List Int) {j : Nat} (hj : j < hs.length) : cntUp fs gs gi hs (j + 1) = cntUp fs gs gi hs j + (if numAt fs gs (hs[j]?.getD 0) ≤ gi then 1 else 0) := by
  unfold cntUp
  rw [take_snoc hj, List.countP_append]
  simp [List.countP_cons]
theorem cntDn_succ (fs gs : List Int) (gi : Int) (hs : List Int) {j : Nat} (hj : j < hs.length) : cntDn fs gs gi hs (j + 1) = cntDn fs gs gi hs j + (if gi ≤ numAt fs gs (hs[j]?.getD 0) then 1 else 0) := by
  unfold cntDn
  rw [take_snoc hj, List.countP_append]
  simp [List.countP_cons]
/-- At one face the numbers fall as they may. -/
def fallsB (fs gs : List Int) (i : Nat) : Bool :=
  decide (cntUp fs gs (gs[i]?.getD 0) (aboveL fs (fs[i]?.getD 0).toNat) (aboveL fs (fs[i]?.getD 0).toNat).length < 2) && decide (cntDn fs gs (gs[i]?.getD 0) (belowR (fs[i]?.getD 0).toNat 63) (belowR (fs[i]?.getD 0).toNat 63).length < 2)
def morseB (fs gs : List Int) (k : Nat) : Bool := (List.range k).all (fallsB fs gs)
theorem morseB_succ (fs gs : List Int) (k : Nat) : morseB fs gs (k + 1) = (morseB fs gs k && fallsB fs gs k) := by
  unfold morseB
  rw [List.range_succ, List.all_append]
  simp
theorem insTo_even (fs gs : List Int) (f gi : Int) (hs qs : List Int) {n : Nat} (hq : qs.length = 2 * n) : ∀ j, ∃ m, (insTo fs gs f gi hs qs j).length = 2 * m ∧ m ≤ n + j
  | 0 => ⟨n, hq, Nat.le_refl _⟩
  | j + 1 => by
    obtain ⟨m, h1, h2⟩ := insTo_even fs gs f gi hs qs hq j
    unfold insTo
    split
    · refine ⟨m + 1, ?_, by omega⟩
      rw [show (insTo fs gs f gi hs qs j).length / 2 = m by omega]
      exact insP_len h1 _ _
    · exact ⟨m, h1, by omega⟩
theorem aboveL_len (fs : List Int) (f : Nat) : (aboveL fs f).length ≤ fs.length := List.length_filter_le _ _
theorem fnPairs_even (fs gs : List Int) (h63 : fs.length ≤ 63) : ∀ k, ∃ m, (fnPairs fs gs k).length = 2 * m ∧ m ≤ 63 * k
  | 0 => ⟨0, rfl, by omega⟩
  | k + 1 => by
    obtain ⟨m, h1, h2⟩ := fnPairs_even fs gs h63 k
    obtain ⟨m', h3, h4⟩ := insTo_even fs gs (fs[k]?.getD 0) (gs[k]?.getD 0) (aboveL fs (fs[k]?.getD 0).toNat) (fnPairs fs gs k) h1 (aboveL fs (fs[k]?.getD 0).toNat).length
    have := aboveL_len fs (fs[k]?.getD 0).toNat
    exact ⟨m', h3, by omega⟩

set_option maxRecDepth 1000000 in
set_option maxHeartbeats 8000000 in
theorem fnPairs_any (V : Int) (a0 : Option Addr) (cap : Nat) (fs : List Int) (a1 : Option Addr) (cap1 : Nat) (gs : List Int) (w : World) (hx : SlI w w.heap.size a0 fs) (hx1 : SlI w w.heap.size a1 gs) (hC : IsC V fs) (hg : gs.length = fs.length) :
    Calls Try.prog 139 #[.agg #[.int .i64 V, .slice a0 fs.length cap], .slice a1 gs.length cap1] w fun e w' => ∃ n v, e = .returned (.tuple #[v, .bool (morseB fs gs fs.length)]) ∧ (fnPairs fs gs fs.length).length = 2 * n ∧ w'.ownsRow w.heap.size 69 2 v n ((fnPairs fs gs fs.length).map (Value.int .i64)) ∧ Below w.heap.size w w' := by
  have h63 := hC.len63
  have hl : fs.length ≤ 1048576 := by omega
  have Hf := hid hC.range63
  have hB0 : Below w.heap.size w (w.alloc (.cells #[.int .i64 V, .slice a0 fs.length cap] 30)) := (Below.refl _ w).alloc (Nat.le_refl _) _
  have hB00 : Below w.heap.size w ((w.alloc (.cells #[.int .i64 V, .slice a0 fs.length cap] 30)).alloc (.cells #[] 69)) := hB0.alloc (by simp) _
  have hown0 := World.ownsRow_made (base := w.heap.size + 1) (e := 69) (size := 2) (w.alloc (.cells #[.int .i64 V, .slice a0 fs.length cap] 30)) #[] 0 (by simp) (by simp [maxLen]) rfl
  rw [World.size_alloc] at hown0
  have HB0 := hid hB0
  have Hown0 := hid hown0
  have HB00 := hid hB00
  have Hx := hid hx
  have Hy := hid hx1
  have Hg := hid hg
  clear hx hx1 hB0 hB00 hown0 hC hg
  go_enter Try.func139, Try.ntmps139
  go_wp2_with fail
  obtain ⟨W0, hW0⟩ : ∃ W0, W0 = w.alloc (.cells #[.int .i64 V, .slice a0 fs.length cap] 30) := ⟨_, rfl⟩
  have hs0 : W0.heap.size = w.heap.size + 1 := by rw [hW0]; simp
  have Hk0 : Hid (W0.cell? ⟨w.heap.size, 0, none⟩ = some (.int .i64 V)) := hid (by rw [hW0]; simp [go_sem])
  have Hk1 : Hid (W0.cell? ⟨w.heap.size, 1, none⟩ = some (.slice a0 fs.length cap)) := hid (by rw [hW0]; simp [go_sem])
  rw [← hW0] at HB0 Hown0 HB00 ⊢
  clear hW0
  obtain ⟨L, hL⟩ : ∃ L, L = fs.length := ⟨_, rfl⟩
  have HL := hid hL
  rw [← hL] at hl h63
  go_loopw [6, 7, 8] (fun v g i wr => ∃ (k n b c : Nat), k ≤ fs.length ∧ i = .int .i64 k ∧ g = .bool (morseB fs gs k) ∧ v = .slice (some ⟨b, 0, none⟩) n c ∧ Hid ((fnPairs fs gs k).length = 2 * n) ∧ Hid (wr.ownsRow (w.heap.size + 1) 69 2 (.slice (some ⟨b, 0, none⟩) n c) n ((fnPairs fs gs k).map (Value.int .i64))) ∧ Below W0.heap.size W0 wr) (fun _ _ i _ => fs.length - (intOf i).toNat)
  case atStart => exact ⟨0, 0, _, 0, Nat.zero_le _, rfl, rfl, rfl, hid rfl, Hown0, (Below.refl _ _).alloc (Nat.le_refl _) _⟩
  case round =>
    obtain ⟨k, n, b, c, hk, rfl, rfl, rfl, Hn, Hown, hB⟩ := hrel
    by_cases hlt : k < fs.length
    · obtain ⟨b0, off0, hb0, rfl, hc0⟩ : ∃ b off, b < w.heap.size ∧ a0 = some ⟨b, off, none⟩ ∧ ∀ i, i < fs.length → w.cell? ⟨b, off + i, none⟩ = some (.int .i64 (fs[i]?.getD 0)) := by
        rcases Hx.out with h | h
        · rw [h] at hlt; simp at hlt
        · exact h
      obtain ⟨b1, off1, hb1, rfl, hc1⟩ : ∃ b off, b < w.heap.size ∧ a1 = some ⟨b, off, none⟩ ∧ ∀ i, i < gs.length → w.cell? ⟨b, off + i, none⟩ = some (.int .i64 (gs[i]?.getD 0)) := by
        rcases Hy.out with h | h
        · have := Hg.out; rw [h] at this; simp at this; omega
        · exact h
      have hbw := HB0.out.trans (hB.mono HB0.out.size)
      obtain ⟨fn, hfn⟩ : ∃ fn : Nat, fs[k]?.getD 0 = (fn : Int) := ⟨(fs[k]?.getD 0).toNat, by have := Hf.out _ (getD_mem hlt); omega⟩
      have hf64 : fn < 64 := by have := Hf.out _ (getD_mem hlt); omega
      obtain ⟨gi, hgi⟩ : ∃ gi, gi = gs[k]?.getD 0 := ⟨_, rfl⟩
      obtain ⟨hs, hhs⟩ : ∃ hs, hs = aboveL fs fn := ⟨_, rfl⟩
      obtain ⟨ls, hls⟩ : ∃ ls, ls = belowR fn 63 := ⟨_, rfl⟩
      have hH : hs.length ≤ 63 := by rw [hhs]; have := aboveL_len fs fn; omega
      have hLs : ls.length ≤ 63 := by rw [hls]; exact belowR_len _ _
      have HPk : Hid (fnPairs fs gs (k + 1) = insTo fs gs (fn : Int) gi hs (fnPairs fs gs k) hs.length) := hid (by rw [hhs, hgi]; show insTo _ _ _ _ _ _ _ = _; rw [hfn]; rfl)
      have HMk : Hid (morseB fs gs (k + 1) = (morseB fs gs k && (decide (cntUp fs gs gi hs hs.length < 2) && decide (cntDn fs gs gi ls ls.length < 2)))) := hid (by rw [morseB_succ, fallsB, hfn, Int.toNat_natCast, ← hgi, ← hhs, ← hls])
      have Hnk : Hid (n ≤ 63 * 63) := hid (by
        obtain ⟨m, h1, h2⟩ := fnPairs_even fs gs (by omega) k
        have := Hn.out
        have : k ≤ 63 := by omega
        have : 63 * k ≤ 63 * 63 := Nat.mul_le_mul_left _ this
        omega)
      have k0 := (hB.cell (p := ⟨w.heap.size, 0, none⟩) (by simp only; omega)).trans Hk0.out
      have k1 := (hB.cell (p := ⟨w.heap.size, 1, none⟩) (by simp only; omega)).trans Hk1.out
      have d0 := (hbw.cell (p := ⟨b0, off0 + k, none⟩) hb0).trans (hc0 k hlt)
      rw [hfn] at d0
      have HAb := hid (above_any V (some ⟨b0, off0, none⟩) cap fs fn wr.drew (Hx.out.later (hbw.trans (below_drewN (Below.refl _ wr) 1 |>.mono hbw.size)) (hbw.trans (below_drewN (Below.refl _ wr) 1 |>.mono hbw.size)).size) (by omega) Hf.out hf64)
      rw [← hhs] at HAb
      have hi0 : (0 : Int) ≤ (k : Int) := by omega
      have hi1 : (k : Int) < (fs.length : Int) := by omega
      have hi2 : (k : Int) < (gs.length : Int) := by have := Hg.out; omega
      have hsz0 := hB.size
      have HBr := hid hB
      have HBw := hid hbw
      have Hc0 := hid hc0
      have Hc1 := hid hc1
      have Hfn := hid hfn
      have Hgi := hid hgi
      have Hls := hid hls
      clear hB hbw hc0 hc1 hfn hgi hhs hls
      go_wp2_with fail
      go_region_held3 (fun w' => w'.cell? ⟨w.heap.size, 0, none⟩ = some (.int .i64 V) ∧ w'.cell? ⟨w.heap.size, 1, none⟩ = some (.slice (some ⟨b0, off0, none⟩) fs.length cap) ∧ w'.cell? ⟨b0, off0 + k, none⟩ = some (.int .i64 (fn : Int))) (go_keep) (first
        | (go_at_call 204; refine HAb.out.mono ?_; rintro e w2 ⟨v2, rfl, hr2⟩; obtain ⟨_, a2, c2, rfl, hs2⟩ := ownsRow_slI hr2.1; have m0 := (hr2.2.cell (p := ⟨w.heap.size, 0, none⟩) (by show w.heap.size < wr.heap.size; omega)).trans k0; have m1 := (hr2.2.cell (p := ⟨w.heap.size, 1, none⟩) (by show w.heap.size < wr.heap.size; omega)).trans k1; have m2 := (hr2.2.cell (p := ⟨b0, off0 + k, none⟩) (by show b0 < wr.heap.size; omega)).trans d0; have HS2 := hid hs2; have HB2 := hid hr2.2; clear hr2 hs2))
      have HBr2 := hid (HBr.out.trans (((below_drewN (Below.refl _ wr) 1).trans HB2.out).mono HBr.out.size))
      have hs2z : wr.heap.size ≤ w2.heap.size := HB2.out.size
      have hw2z : w.heap.size < w2.heap.size := by omega
      have hb0z : b0 < w2.heap.size := by omega
      have hb1z : b1 < w2.heap.size := by omega
      have M0 := hid m0
      have M1 := hid m1
      have M2 := hid m2
      have HBw2 := hid (HBw.out.trans (((below_drewN (Below.refl _ wr) 1).trans HB2.out).mono HBw.out.size))
      have Hown2 : Hid (w2.ownsRow (w.heap.size + 1) 69 2 (.slice (some ⟨b, 0, none⟩) n c) n ((fnPairs fs gs k).map (Value.int .i64))) := hid (Hown.out.kept (row := none) ⟨(((below_drewN (Below.refl _ wr) 1).trans HB2.out)).os, (((below_drewN (Below.refl _ wr) 1).trans HB2.out)).tape, (((below_drewN (Below.refl _ wr) 1).trans HB2.out)).output, (((below_drewN (Below.refl _ wr) 1).trans HB2.out)).size, fun q hq _ => (((below_drewN (Below.refl _ wr) 1).trans HB2.out)).block q hq⟩ (.inr (by simp [Value.ownBlock])))
      clear m0 m1 m2 k0 k1 d0 HAb
      go_wp2_with fail
      go_loopw [6, 10, 11] (fun v t j wx => ∃ (jj n' b' c' : Nat), jj ≤ hs.length ∧ j = .int .i64 jj ∧ t = .int .i64 ((cntUp fs gs gi hs jj : Nat) : Int) ∧ v = .slice (some ⟨b', 0, none⟩) n' c' ∧ Hid ((insTo fs gs (fn : Int) gi hs (fnPairs fs gs k) jj).length = 2 * n') ∧ Hid (wx.ownsRow (w.heap.size + 1) 69 2 (.slice (some ⟨b', 0, none⟩) n' c') n' ((insTo fs gs (fn : Int) gi hs (fnPairs fs gs k) jj).map (Value.int .i64))) ∧ Below w2.heap.size w2 wx) (fun _ _ j _ => hs.length - (intOf j).toNat)
      case atStart => exact ⟨0, n, b, c, Nat.zero_le _, rfl, by simp [cntUp], rfl, Hn, Hown2, Below.refl _ _⟩
      case round =>
        obtain ⟨j, n', b', c', hj, rfl, rfl, rfl, Hn', Hown', hBx⟩ := hrel
        obtain ⟨q, hq⟩ : ∃ q : Nat, q = cntUp fs gs gi hs j := ⟨_, rfl⟩
        rw [← hq]
        have hqb : q ≤ 63 := by rw [hq]; exact Nat.le_trans (Nat.le_trans List.countP_le_length (by simp; omega)) hH
        have Hq := hid hq
        clear hq
        have k0 := (hBx.cell (p := ⟨w.heap.size, 0, none⟩) (by simp only; omega)).trans M0.out
        have k1 := (hBx.cell (p := ⟨w.heap.size, 1, none⟩) (by simp only; omega)).trans M1.out
        have d0 := (hBx.cell (p := ⟨b0, off0 + k, none⟩) (by simp only; omega)).trans M2.out
        by_cases hjl : j < hs.length
        · obtain ⟨b2, off2, hb2, rfl, hcs⟩ : ∃ b off, b < w2.heap.size ∧ a2 = some ⟨b, off, none⟩ ∧ ∀ i, i < hs.length → w2.cell? ⟨b, off + i, none⟩ = some (.int .i64 (hs[i]?.getD 0)) := by
            rcases HS2.out with h | h
            · rw [h] at hjl; simp at hjl
            · exact h
          obtain ⟨h, hh⟩ : ∃ h, h = hs[j]?.getD 0 := ⟨_, rfl⟩
          have e0 := (hBx.cell (p := ⟨b2, off2 + j, none⟩) hb2).trans (hcs j hjl)
          rw [← hh] at e0
          have hbx := HBw2.out.trans (hBx.mono HBw2.out.size)
          have g0 := (hbx.cell (p := ⟨b1, off1 + k, none⟩) hb1).trans (Hc1.out k (by have := Hg.out; omega))
          rw [← Hgi.out] at g0
          have hbd := hbx.trans (below_drewN (Below.refl _ wr) 1 |>.mono hbx.size)
          have HAt := hid (at_any V (some ⟨b0, off0, none⟩) cap fs (some ⟨b1, off1, none⟩) cap1 gs h wr.drew (Hx.out.later hbd hbd.size) (Hy.out.later hbd hbd.size) (by omega) Hg.out)
          obtain ⟨z, hz⟩ : ∃ z, z = numAt fs gs h := ⟨_, rfl⟩
          rw [← hz] at HAt
          have hj0 : (0 : Int) ≤ (j : Int) := by omega
          have hj1 : (j : Int) < (hs.length : Int) := by omega
          have hbx2 : b2 < wr.heap.size := by have := hBx.size; omega
          have hwx : w.heap.size < wr.heap.size := by have := hBx.size; omega
          have hb1x : b1 < wr.heap.size := by have := hBx.size; omega
          have hb0x : b0 < wr.heap.size := by have := hBx.size; omega
          have HBx := hid hBx
          have HBxw := hid hbx
          have Hz := hid hz
          have Hh := hid hh
          clear hcs hbx hbd hBx hz hh
          by_cases hge : z ≤ gi
          · have hd1 : decide (z ≤ gi) = true := decide_eq_true hge
            have HCt : Hid (cntUp fs gs gi hs (j + 1) = q + 1) := hid (by rw [cntUp_succ _ _ _ _ hjl, ← Hh.out, ← Hz.out, if_pos hge, ← Hq.out])
            have HIn : Hid (insTo fs gs (fn : Int) gi hs (fnPairs fs gs k) (j + 1) = insP (insTo fs gs (fn : Int) gi hs (fnPairs fs gs k) j) n' (fn : Int) h) := hid (by
              show (if numAt fs gs (hs[j]?.getD 0) ≤ gi then _ else _) = _
              rw [← Hh.out, ← Hz.out, if_pos hge, show (insTo fs gs (fn : Int) gi hs (fnPairs fs gs k) j).length / 2 = n' by have := Hn'.out; omega])
            clear hge
            go_wp2_with fail
            go_region_held3 (fun w' => w'.cell? ⟨w.heap.size, 0, none⟩ = some (.int .i64 V) ∧ w'.cell? ⟨w.heap.size, 1, none⟩ = some (.slice (some ⟨b0, off0, none⟩) fs.length cap) ∧ w'.cell? ⟨b1, off1 + k, none⟩ = some (.int .i64 gi) ∧ w'.cell? ⟨b2, off2 + j, none⟩ = some (.int .i64 h)) (go_keep) (first
              | (go_at_call 76; refine HAt.out.mono ?_; rintro e w3 ⟨rfl, hB3⟩; have m0 := (hB3.cell (p := ⟨w.heap.size, 0, none⟩) hwx).trans k0; have m1 := (hB3.cell (p := ⟨w.heap.size, 1, none⟩) hwx).trans k1; have m2 := (hB3.cell (p := ⟨b1, off1 + k, none⟩) hb1x).trans g0; have m3 := (hB3.cell (p := ⟨b2, off2 + j, none⟩) hbx2).trans e0; have m4 := (hB3.cell (p := ⟨b0, off0 + k, none⟩) hb0x).trans d0; have HB3 := hid hB3; clear hB3))
            have hnn : n' + 1 ≤ 1048576 := by
              obtain ⟨m, h1, h2⟩ := insTo_even fs gs (fn : Int) gi hs (fnPairs fs gs k) Hn.out j
              have := Hn'.out
              have := Hnk.out
              omega
            have hb3 : Below wr.heap.size wr w3 := (below_drewN (Below.refl _ wr) 1).trans HB3.out
            have hown3 := row_later (B := 0) Hown'.out hb3 rfl
            obtain ⟨o1, o2, o3⟩ := own_pairs hown3
            have hbw3 := HBxw.out.trans (hb3.mono HBxw.out.size)
            have hbd3 := hbw3.trans (below_drewN (Below.refl _ w3) 1 |>.mono hbw3.size)
            have HWi := hid (with_any V (some ⟨b0, off0, none⟩) cap fs b' 0 n' c' (insTo fs gs (fn : Int) gi hs (fnPairs fs gs k) j) (fn : Int) h w3.drew (Hx.out.later hbd3 hbd3.size) o1 o3 (by omega) Hf.out Hn'.out hnn o2)
            have hw3 : w.heap.size < w3.heap.size := by have := hb3.size; omega
            have hb03 : b0 < w3.heap.size := by have := hb3.size; omega
            have hb23 : b2 < w3.heap.size := by have := hb3.size; omega
            have HB3x := hid (HBx.out.trans (hb3.mono HBx.out.size))
            clear HB3 hown3 o1 o2 o3 hbw3 hbd3 m2 k0 k1 d0 g0 e0 hb3
            go_wp2_with fail
            go_region_held3 (fun w' => w'.cell? ⟨w.heap.size, 0, none⟩ = some (.int .i64 V) ∧ w'.cell? ⟨w.heap.size, 1, none⟩ = some (.slice (some ⟨b0, off0, none⟩) fs.length cap) ∧ w'.cell? ⟨b0, off0 + k, none⟩ = some (.int .i64 (fn : Int)) ∧ w'.cell? ⟨b2, off2 + j, none⟩ = some (.int .i64 h)) (go_keep) (first
              | (go_at_call 118; refine HWi.out.mono ?_; rintro e w4 ⟨v4, rfl, ho4, hB4⟩; obtain ⟨g4, c4, rfl⟩ : ∃ g c, v4 = .slice (some ⟨g, 0, none⟩) (n' + 1) c := (by rcases ho4.2 with ⟨_, h0⟩ | ⟨g, cp, cur, h1, _⟩; omega; exact ⟨g, cp, h1⟩); have q0 := (hB4.cell (p := ⟨w.heap.size, 0, none⟩) hw3).trans m0; have q1 := (hB4.cell (p := ⟨w.heap.size, 1, none⟩) hw3).trans m1; have q2 := (hB4.cell (p := ⟨b0, off0 + k, none⟩) hb03).trans m4; have q3 := (hB4.cell (p := ⟨b2, off2 + j, none⟩) hb23).trans m3; have HO4 := hid ho4; have HB4 := hid hB4; clear hB4 ho4))
            have HB4x := hid (HB3x.out.trans (((below_drewN (Below.refl _ w3) 1).trans HB4.out).mono HB3x.out.size))
            go_wp2_with fail
            go_roundw
            case rel => exact ⟨j + 1, n' + 1, g4, c4, by omega, by go_num, by rw [HCt.out]; go_num, rfl, hid (by rw [HIn.out]; exact insP_len Hn'.out _ _), hid (by rw [HIn.out]; exact ownsRow_base HO4.out hw3), HB4x.out⟩
            case measure => simp [intOf]; omega
          · have hd1 : decide (z ≤ gi) = false := decide_eq_false hge
            have HCt : Hid (cntUp fs gs gi hs (j + 1) = q) := hid (by rw [cntUp_succ _ _ _ _ hjl, ← Hh.out, ← Hz.out, if_neg hge, ← Hq.out]; rfl)
            have HIn : Hid (insTo fs gs (fn : Int) gi hs (fnPairs fs gs k) (j + 1) = insTo fs gs (fn : Int) gi hs (fnPairs fs gs k) j) := hid (by
              show (if numAt fs gs (hs[j]?.getD 0) ≤ gi then _ else _) = _
              rw [← Hh.out, ← Hz.out, if_neg hge])
            clear hge
            go_wp2_with fail
            go_region_held3 (fun w' => w'.cell? ⟨w.heap.size, 0, none⟩ = some (.int .i64 V) ∧ w'.cell? ⟨w.heap.size, 1, none⟩ = some (.slice (some ⟨b0, off0, none⟩) fs.length cap) ∧ w'.cell? ⟨b1, off1 + k, none⟩ = some (.int .i64 gi) ∧ w'.cell? ⟨b2, off2 + j, none⟩ = some (.int .i64 h)) (go_keep) (first
              | (go_at_call 76; refine HAt.out.mono ?_; rintro e w3 ⟨rfl, hB3⟩; have m0 := (hB3.cell (p := ⟨w.heap.size, 0, none⟩) hwx).trans k0; have m1 := (hB3.cell (p := ⟨w.heap.size, 1, none⟩) hwx).trans k1; have m2 := (hB3.cell (p := ⟨b1, off1 + k, none⟩) hb1x).trans g0; have m3 := (hB3.cell (p := ⟨b2, off2 + j, none⟩) hbx2).trans e0; have HB3 := hid hB3; clear hB3))
            have hb3 : Below wr.heap.size wr w3 := (below_drewN (Below.refl _ wr) 1).trans HB3.out
            have HB3x := hid (HBx.out.trans (hb3.mono HBx.out.size))
            have Hown3 := hid (row_later (B := 0) Hown'.out hb3 rfl)
            clear hb3 HB3
            go_wp2_with fail
            go_roundw
            case rel => exact ⟨j + 1, n', b', c', by omega, by go_num, by rw [HCt.out], rfl, hid (by rw [HIn.out]; exact Hn'.out), hid (by rw [HIn.out]; exact Hown3.out), HB3x.out⟩
            case measure => simp [intOf]; omega
        · obtain rfl : j = hs.length := by omega
          have HBx := hid hBx
          have hbx := HBw2.out.trans (hBx.mono HBw2.out.size)
          have HBe := hid (below_any fn wr hf64)
          rw [← Hls.out] at HBe
          have hwx : w.heap.size < wr.heap.size := by have := hBx.size; omega
          have hb1x : b1 < wr.heap.size := by have := hBx.size; omega
          have hb0x : b0 < wr.heap.size := by have := hBx.size; omega
          have HBxw := hid hbx
          have Hp1 := hid (HPk.out)
          clear hBx hbx
          go_wp2_with fail
          refine HBe.out.mono ?_
          rintro e w3 ⟨v3, rfl, hr3, hB3⟩
          obtain ⟨_, a3, c3, rfl, hs3⟩ := ownsRow_slI hr3
          have HS3 := hid hs3
          have q0 := (hB3.cell (p := ⟨w.heap.size, 0, none⟩) hwx).trans k0
          have q1 := (hB3.cell (p := ⟨w.heap.size, 1, none⟩) hwx).trans k1
          have Q0 := hid q0
          have Q1 := hid q1
          have Hown3 := hid (row_later (B := 0) Hown'.out hB3 rfl)
          have HBw3 := hid (HBxw.out.trans (hB3.mono HBxw.out.size))
          have HBr3 := hid (HBr2.out.trans ((HBx.out.trans (hB3.mono HBx.out.size)).mono HBr2.out.size))
          have hs3z : wr.heap.size ≤ w3.heap.size := hB3.size
          have hw3z : w.heap.size < w3.heap.size := by omega
          have hb03 : b0 < w3.heap.size := by omega
          have hb13 : b1 < w3.heap.size := by omega
          clear hr3 hs3 hB3 q0 q1 k0 k1 d0
          go_wp2_with fail
          go_loopw [13, 14] (fun t j wx => ∃ jj : Nat, jj ≤ ls.length ∧ j = .int .i64 jj ∧ t = .int .i64 ((cntDn fs gs gi ls jj : Nat) : Int) ∧ Below w3.heap.size w3 wx) (fun _ j _ => ls.length - (intOf j).toNat)
          case atStart => exact ⟨0, Nat.zero_le _, rfl, by simp [cntDn], Below.refl _ _⟩
          case round =>
            obtain ⟨j, hjj, rfl, rfl, hBx⟩ := hrel
            obtain ⟨r, hr⟩ : ∃ r : Nat, r = cntDn fs gs gi ls j := ⟨_, rfl⟩
            rw [← hr]
            have hrb : r ≤ 63 := by rw [hr]; exact Nat.le_trans (Nat.le_trans List.countP_le_length (by simp; omega)) hLs
            have Hr := hid hr
            clear hr
            by_cases hjl : j < ls.length
            · obtain ⟨b2, off2, hb2, rfl, hcs⟩ : ∃ b off, b < w3.heap.size ∧ a3 = some ⟨b, off, none⟩ ∧ ∀ i, i < ls.length → w3.cell? ⟨b, off + i, none⟩ = some (.int .i64 (ls[i]?.getD 0)) := by
                rcases HS3.out with h | h
                · rw [h] at hjl; simp at hjl
                · exact h
              obtain ⟨h, hh⟩ : ∃ h, h = ls[j]?.getD 0 := ⟨_, rfl⟩
              have e0 := (hBx.cell (p := ⟨b2, off2 + j, none⟩) hb2).trans (hcs j hjl)
              rw [← hh] at e0
              have k0 := (hBx.cell (p := ⟨w.heap.size, 0, none⟩) hw3z).trans Q0.out
              have k1 := (hBx.cell (p := ⟨w.heap.size, 1, none⟩) hw3z).trans Q1.out
              have hbx := HBw3.out.trans (hBx.mono HBw3.out.size)
              have g0 := (hbx.cell (p := ⟨b1, off1 + k, none⟩) hb1).trans (Hc1.out k (by have := Hg.out; omega))
              rw [← Hgi.out] at g0
              have hbd := hbx.trans (below_drewN (Below.refl _ wr) 1 |>.mono hbx.size)
              have HAt := hid (at_any V (some ⟨b0, off0, none⟩) cap fs (some ⟨b1, off1, none⟩) cap1 gs h wr.drew (Hx.out.later hbd hbd.size) (Hy.out.later hbd hbd.size) (by omega) Hg.out)
              obtain ⟨z, hz⟩ : ∃ z, z = numAt fs gs h := ⟨_, rfl⟩
              rw [← hz] at HAt
              have hj0 : (0 : Int) ≤ (j : Int) := by omega
              have hj1 : (j : Int) < (ls.length : Int) := by omega
              have hbx2 : b2 < wr.heap.size := by have := hBx.size; omega
              have hwx : w.heap.size < wr.heap.size := by have := hBx.size; omega
              have hb1x : b1 < wr.heap.size := by have := hBx.size; omega
              have HBx2 := hid hBx
              have Hz := hid hz
              have Hh := hid hh
              clear hcs hbx hbd hBx hz hh
              by_cases hge : gi ≤ z
              · have hd1 : decide (gi ≤ z) = true := decide_eq_true hge
                have HCt : Hid (cntDn fs gs gi ls (j + 1) = r + 1) := hid (by rw [cntDn_succ _ _ _ _ hjl, ← Hh.out, ← Hz.out, if_pos hge, ← Hr.out])
                clear hge
                go_wp2_with fail
                go_region_held3 (fun w' => w'.cell? ⟨w.heap.size, 0, none⟩ = some (.int .i64 V) ∧ w'.cell? ⟨w.heap.size, 1, none⟩ = some (.slice (some ⟨b0, off0, none⟩) fs.length cap) ∧ w'.cell? ⟨b1, off1 + k, none⟩ = some (.int .i64 gi) ∧ w'.cell? ⟨b2, off2 + j, none⟩ = some (.int .i64 h)) (go_keep) (first
                  | (go_at_call 76; refine HAt.out.mono ?_; rintro e w4 ⟨rfl, hB4⟩; have m0 := (hB4.cell (p := ⟨w.heap.size, 0, none⟩) hwx).trans k0; have m1 := (hB4.cell (p := ⟨w.heap.size, 1, none⟩) hwx).trans k1; have m2 := (hB4.cell (p := ⟨b1, off1 + k, none⟩) hb1x).trans g0; have m3 := (hB4.cell (p := ⟨b2, off2 + j, none⟩) hbx2).trans e0; have HB4 := hid hB4; clear hB4))
                have HB3x := hid (HBx2.out.trans (((below_drewN (Below.refl _ wr) 1).trans HB4.out).mono HBx2.out.size))
                clear HB4
                go_wp2_with fail
                go_roundw
                case rel => exact ⟨j + 1, by omega, by go_num, by rw [HCt.out]; go_num, HB3x.out⟩
                case measure => simp [intOf]; omega
              · have hd1 : decide (gi ≤ z) = false := decide_eq_false hge
                have HCt : Hid (cntDn fs gs gi ls (j + 1) = r) := hid (by rw [cntDn_succ _ _ _ _ hjl, ← Hh.out, ← Hz.out, if_neg hge, ← Hr.out]; rfl)
                clear hge
                go_wp2_with fail
                go_region_held3 (fun w' => w'.cell? ⟨w.heap.size, 0, none⟩ = some (.int .i64 V) ∧ w'.cell? ⟨w.heap.size, 1, none⟩ = some (.slice (some ⟨b0, off0, none⟩) fs.length cap) ∧ w'.cell? ⟨b1, off1 + k, none⟩ = some (.int .i64 gi) ∧ w'.cell? ⟨b2, off2 + j, none⟩ = some (.int .i64 h)) (go_keep) (first
                  | (go_at_call 76; refine HAt.out.mono ?_; rintro e w4 ⟨rfl, hB4⟩; have m0 := (hB4.cell (p := ⟨w.heap.size, 0, none⟩) hwx).trans k0; have m1 := (hB4.cell (p := ⟨w.heap.size, 1, none⟩) hwx).trans k1; have m2 := (hB4.cell (p := ⟨b1, off1 + k, none⟩) hb1x).trans g0; have m3 := (hB4.cell (p := ⟨b2, off2 + j, none⟩) hbx2).trans e0; have HB4 := hid hB4; clear hB4))
                have HB3x := hid (HBx2.out.trans (((below_drewN (Below.refl _ wr) 1).trans HB4.out).mono HBx2.out.size))
                clear HB4
                go_wp2_with fail
                go_roundw
                case rel => exact ⟨j + 1, by omega, by go_num, by rw [HCt.out], HB3x.out⟩
                case measure => simp [intOf]; omega
            · obtain rfl : j = ls.length := by omega
              have HB5 := hid (HBr3.out.trans (hBx.mono HBr3.out.size))
              have Hown5 := hid (row_later (B := 0) Hown3.out hBx rfl)
              obtain ⟨mb, hmb⟩ : ∃ mb, mb = morseB fs gs k := ⟨_, rfl⟩
              obtain ⟨da, hda⟩ : ∃ d, decide ((q : Int) < 2) = d := ⟨_, rfl⟩
              obtain ⟨db, hdb⟩ : ∃ d, decide ((r : Int) < 2) = d := ⟨_, rfl⟩
              have HMb : Hid (morseB fs gs (k + 1) = (mb && (da && db))) := hid (by
                rw [HMk.out, hmb, ← hda, ← hdb, ← Hq.out, ← Hr.out]
                have e1 : decide (q < 2) = decide ((q : Int) < 2) := by rw [Bool.eq_iff_iff]; simp; omega
                have e2 : decide (r < 2) = decide ((r : Int) < 2) := by rw [Bool.eq_iff_iff]; simp; omega
                rw [e1, e2])
              rw [← hmb]
              clear hmb hBx
              cases mb
              · go_wp2_with fail
                go_roundw
                case rel => exact ⟨k + 1, n', b', c', by omega, by go_num, by rw [HMb.out]; rfl, rfl, hid (by rw [Hp1.out]; exact Hn'.out), hid (by rw [Hp1.out]; exact Hown5.out), HB5.out⟩
                case measure => simp [intOf]; omega
              · cases da
                · go_wp2_with fail
                  go_roundw
                  case rel => exact ⟨k + 1, n', b', c', by omega, by go_num, by rw [HMb.out]; rfl, rfl, hid (by rw [Hp1.out]; exact Hn'.out), hid (by rw [Hp1.out]; exact Hown5.out), HB5.out⟩
                  case measure => simp [intOf]; omega
                · go_wp2_with fail
                  go_roundw
                  case rel => exact ⟨k + 1, n', b', c', by omega, by go_num, by rw [HMb.out]; first | rfl | simp, rfl, hid (by rw [Hp1.out]; exact Hn'.out), hid (by rw [Hp1.out]; exact Hown5.out), HB5.out⟩
                  case measure => simp [intOf]; omega
    · obtain rfl : k = fs.length := by omega
      have k1 := (hB.cell (p := ⟨w.heap.size, 1, none⟩) (by simp only; omega)).trans Hk1.out
      have HB5 := hid (HB0.out.trans (hB.mono HB0.out.size))
      clear hB
      go_wp2_with fail
      go_ret2
      exact ⟨n, _, rfl, Hn.out, ownsRow_base Hown.out (Nat.le_succ _), HB5.out⟩

end Go.Proofs.Ytgcpakhagbbiiaa

/-! numbersAt: the numbers of a function as a map. -/
namespace Go.Proofs.Ytgcpakhagbbiiaa
open Go.RowKit Go.Shelf Go.ChangeMaps

attribute [local go_sem] Oper.semAt_some

def Distinct (fs : List Int) : Prop := ∀ i j, i < j → j < fs.length → fs[i]?.getD 0 ≠ fs[j]?.getD 0
theorem num_succ {fs gs : List Int} (hd : Distinct fs) {k : Nat} (hk : k < fs.length) (hg : gs.length = fs.length) (p : Int) :
    numAt fs (gs.take (k + 1)) p = if p = fs[k]?.getD 0 then gs[k]?.getD 0 else numAt fs (gs.take k) p := by
  have hl1 : (gs.take (k + 1)).length = k + 1 := by simp; omega
  have hl0 : (gs.take k).length = k := by simp; omega
  by_cases hp : p = fs[k]?.getD 0
  · rw [if_pos hp, numAt_some (i := k) (by omega) hp.symm (fun j hj e => hd j k hj hk (e.trans hp))]
    rw [List.getElem?_take_of_lt (by omega)]
  · rw [if_neg hp]
    by_cases hex : ∃ i, i < k ∧ fs[i]?.getD 0 = p
    · obtain ⟨i, hi, hip⟩ := hex
      have hu : ∀ j, j < i → fs[j]?.getD 0 ≠ p := fun j hj e => hd j i hj (by omega) (e.trans hip.symm)
      rw [numAt_some (i := i) (by omega) hip hu, numAt_some (i := i) (by omega) hip hu, List.getElem?_take_of_lt (by omega), List.getElem?_take_of_lt (by omega)]
    · rw [numAt_none (fun j hj e => ?_), numAt_none (fun j hj e => hex ⟨j, by omega, e⟩)]
      by_cases e2 : j = k
      · subst e2; exact hp e.symm
      · exact hex ⟨j, by omega, e⟩

/-- The map in block b, of the first k faces. -/
def NumM (W : World) (b : Nat) (fs gs : List Int) (k : Nat) : Prop :=
  ∃ D : DataW Unit, Maps.IsMap D ∧ W.ownsMap Try.prog 2 (plainElem (H := Unit) Try.prog 2) b k D ∧ (∀ p, D.atKey (.int .i64 p) (.lit (.int .i64 0)) = .lit (.int .i64 (numAt fs (gs.take k) p))) ∧ ∀ p, Maps.has D (.int .i64 p) = decide (p ∈ fs.take k)
theorem NumM.made (w : World) (fs gs : List Int) : NumM (w.alloc (.map #[] 0)) w.heap.size fs gs 0 :=
  ⟨_, Maps.isMap_empty, World.ownsMap_made w _ _ _, fun _ => rfl, fun _ => rfl⟩
theorem NumM.kept {W W' : World} {b k : Nat} {fs gs : List Int} (h : NumM W b fs gs k) {row : Option Nat} (hg : W.grownBy W' row) (hn : some b ≠ row) : NumM W' b fs gs k := by
  obtain ⟨D, h0, h1, h2, h3⟩ := h
  exact ⟨D, h0, h1.kept hg hn, h2, h3⟩
theorem NumM.same {W W' : World} {b k : Nat} {fs gs : List Int} (h : NumM W b fs gs k) (he : W'.heap[b]? = W.heap[b]?) : NumM W' b fs gs k := by
  obtain ⟨D, h0, ⟨es, clock, hb, rest⟩, h2, h3⟩ := h
  exact ⟨D, h0, ⟨es, clock, he.trans hb, rest⟩, h2, h3⟩
theorem NumM.lt {W : World} {b k : Nat} {fs gs : List Int} (h : NumM W b fs gs k) : b < W.heap.size := by
  obtain ⟨D, _, h1, _⟩ := h
  exact h1.lt
set_option maxRecDepth 100000 in
theorem int_of_elem {v : Value} {x : Int} {qs : List MemPlace} (h : plainElem (H := Unit) Try.prog 2 v = some (.lit (.int .i64 x), qs)) : v = .int .i64 x := by
  obtain ⟨a, rfl, hz, _⟩ := plainElem_int_inv Try.underlying2 h
  injection hz with hz _
  injection hz with hz
  injection hz with _ hz
  rw [hz]
set_option maxRecDepth 100000 in
theorem NumM.look {W : World} {b k : Nat} {fs gs : List Int} (h : NumM W b fs gs k) {p : Int} (hp : (Lit.int .i64 p).wf = true) :
    (Instr.lookup 77 (.map (some b)) (.int .i64 p) false).run Try.prog W = .ok (.int .i64 (numAt fs (gs.take k) p)) W := by
  obtain ⟨D, h0, h1, h2, _⟩ := h
  obtain ⟨v, qs, hrun, hv⟩ := h1.lookup (Maps.int_keyed Try.underlying2) Try.underlying77 (zero_i64 W) (plainElem_int Try.underlying2 (show (Lit.int .i64 0).wf = true by decide)) (Maps.keyOf_int_mk Try.underlying2 hp)
  rw [h2] at hv
  rw [hrun, int_of_elem hv]
set_option maxRecDepth 100000 in
theorem NumM.look_ok {W : World} {b k : Nat} {fs gs : List Int} (h : NumM W b fs gs k) {p : Int} (hp : (Lit.int .i64 p).wf = true) :
    (Instr.lookup 77 (.map (some b)) (.int .i64 p) true).run Try.prog W = .ok (.tuple #[.int .i64 (numAt fs (gs.take k) p), .bool (decide (p ∈ fs.take k))]) W := by
  obtain ⟨D, h0, h1, h2, h3⟩ := h
  obtain ⟨v, qs, hrun, hv⟩ := h1.look_ok (Maps.int_keyed Try.underlying2) Try.underlying77 (zero_i64 W) (plainElem_int Try.underlying2 (show (Lit.int .i64 0).wf = true by decide)) (Maps.keyOf_int_mk Try.underlying2 hp)
  rw [h2] at hv
  rw [hrun, int_of_elem hv, h3]
theorem NumM.put {W : World} {b k : Nat} {fs gs : List Int} (h : NumM W b fs gs k) (hd : Distinct fs) (hk : k < fs.length) (hg : gs.length = fs.length) (hn : k < maxLen) (hp : (Lit.int .i64 (fs[k]?.getD 0)).wf = true) (hx : (Lit.int .i64 (gs[k]?.getD 0)).wf = true) :
    ∃ W', (Instr.mapUpdate 77 (.map (some b)) (.int .i64 (fs[k]?.getD 0)) (.int .i64 (gs[k]?.getD 0))).run Try.prog W = .ok () W' ∧ NumM W' b fs gs (k + 1) ∧ W.grownBy W' (some b) := by
  obtain ⟨D, h0, h1, h2, h3⟩ := h
  obtain ⟨W', hrun, ho, hgb⟩ := World.ownsMap.update h1 (Maps.int_keyed Try.underlying2) Try.underlying77 hn (Maps.keyOf_int_mk Try.underlying2 hp) (plainElem_int Try.underlying2 hx)
  refine ⟨W', hrun, ⟨_, h0.put _ _, ho, fun q => ?_, fun q => ?_⟩, hgb⟩
  · rw [num_succ hd hk hg]
    by_cases e : q = fs[k]?.getD 0
    · subst e
      rw [Maps.atKey_put_same h0 (show WideAt.IsKeyLit (.int .i64 (fs[k]?.getD 0)) from trivial), if_pos rfl]
    · rw [Maps.atKey_put_other (by simpa using e), h2, if_neg e]
  · rw [take_snoc hk]
    by_cases e : q = fs[k]?.getD 0
    · subst e
      rw [Maps.has_put_same h0 (show WideAt.IsKeyLit (.int .i64 (fs[k]?.getD 0)) from trivial)]
      simp
    · rw [Maps.has_put_other (by simpa using e), h3]
      simp [e]

set_option maxRecDepth 1000000 in
set_option maxHeartbeats 2000000 in
theorem numbers_any (V : Int) (a0 : Option Addr) (cap : Nat) (fs : List Int) (a1 : Option Addr) (cap1 : Nat) (gs : List Int) (w : World) (hx : SlI w w.heap.size a0 fs) (hx1 : SlI w w.heap.size a1 gs) (hl : fs.length ≤ 1048576) (hg : gs.length = fs.length) (hd : Distinct fs) (hwf : ∀ x ∈ fs, (Lit.int .i64 x).wf = true) (hwg : ∀ x ∈ gs, (Lit.int .i64 x).wf = true) :
    Calls Try.prog 79 #[.agg #[.int .i64 V, .slice a0 fs.length cap], .slice a1 gs.length cap1] w fun e w' => e = .returned (.map (some (w.heap.size + 1))) ∧ NumM w' (w.heap.size + 1) fs gs fs.length ∧ Below w.heap.size w w' := by
  have hmm := @run_makeMap Try.prog
  have hB0 : Below w.heap.size w (w.alloc (.cells #[.int .i64 V, .slice a0 fs.length cap] 30)) := (Below.refl _ w).alloc (Nat.le_refl _) _
  have H0 := NumM.made (w.alloc (.cells #[.int .i64 V, .slice a0 fs.length cap] 30)) fs gs
  rw [World.size_alloc] at H0
  have hB1 : Below w.heap.size w ((w.alloc (.cells #[.int .i64 V, .slice a0 fs.length cap] 30)).alloc (.map #[] 0)) := hB0.alloc (by simp) _
  have H0 := hid H0
  have HB1 := hid hB1
  have Hx := hid hx
  have Hy := hid hx1
  have Hd := hid hd
  have Hwf := hid hwf
  have Hwg := hid hwg
  have Hg := hid hg
  clear hx hx1 hB0 hB1 hd hwf hwg hg
  go_enter Try.func79, Try.ntmps79
  go_wp2_with fail
  clear hmm
  go_loopw [12] (fun i wr => ∃ k : Nat, k ≤ fs.length ∧ i = .int .i64 k ∧ Hid (NumM wr (w.heap.size + 1) fs gs k) ∧ Below w.heap.size w wr) (fun i _ => fs.length - (intOf i).toNat)
  case atStart => exact ⟨0, Nat.zero_le _, rfl, H0, HB1.out⟩
  case round =>
    obtain ⟨k, hk, rfl, HM, hB⟩ := hrel
    by_cases hlt : k < fs.length
    · obtain ⟨b0, off0, hb0, rfl, hc0⟩ : ∃ b off, b < w.heap.size ∧ a0 = some ⟨b, off, none⟩ ∧ ∀ i, i < fs.length → w.cell? ⟨b, off + i, none⟩ = some (.int .i64 (fs[i]?.getD 0)) := by
        rcases Hx.out with h | h
        · rw [h] at hlt; simp at hlt
        · exact h
      obtain ⟨b1, off1, hb1, rfl, hc1⟩ : ∃ b off, b < w.heap.size ∧ a1 = some ⟨b, off, none⟩ ∧ ∀ i, i < gs.length → w.cell? ⟨b, off + i, none⟩ = some (.int .i64 (gs[i]?.getD 0)) := by
        rcases Hy.out with h | h
        · have := Hg.out; rw [h] at this; simp at this; omega
        · exact h
      have hgk : k < gs.length := by have := Hg.out; omega
      obtain ⟨W', hrun, hM', hgb⟩ := HM.out.put Hd.out hlt Hg.out (by unfold maxLen; omega) (Hwf.out _ (getD_mem hlt)) (Hwg.out _ (getD_mem hgk))
      have d0 := (hB.cell (p := ⟨b0, off0 + k, none⟩) hb0).trans (hc0 k hlt)
      have d1 := (hB.cell (p := ⟨b1, off1 + k, none⟩) hb1).trans (hc1 k hgk)
      obtain ⟨x, hxx⟩ : ∃ x, x = fs[k]?.getD 0 := ⟨_, rfl⟩
      obtain ⟨y, hyy⟩ : ∃ y, y = gs[k]?.getD 0 := ⟨_, rfl⟩
      rw [← hxx] at d0 hrun
      rw [← hyy] at d1 hrun
      have hi0 : (0 : Int) ≤ (k : Int) := by omega
      have hi1 : (k : Int) < (fs.length : Int) := by omega
      have hi2 : (k : Int) < (gs.length : Int) := by omega
      have HM' := hid hM'
      have HB' := hid (hB.grown hgb hB.size (fun r e => by cases e; omega))
      clear hc0 hc1 hM' hgb hxx hyy hB HM
      go_wp2_with fail
      go_roundw
      case rel => exact ⟨k + 1, by omega, by go_num, HM', HB'.out⟩
      case measure => simp [intOf]; omega
    · obtain rfl : k = fs.length := by omega
      go_wp2_with fail
      go_ret
      exact ⟨rfl, HM.out, hB⟩

end Go.Proofs.Ytgcpakhagbbiiaa

/-! Where a function falls: the program's conditions. -/
namespace Go.Proofs.Ytgcpakhagbbiiaa
open Go.RowKit Go.Shelf

attribute [local go_sem] Oper.semAt_some

/-- A face with vertex v. -/
def upN (f v : Nat) : Nat := f ||| 2 ^ v
theorem up_lt : ∀ f : Fin 64, ∀ v : Fin 6, upN f.val v.val < 64 := by decide +kernel
theorem up_bits : ∀ f : Fin 64, ∀ v : Fin 6, bits BinOp.or IntKind.i64 (f.val : Int) (wrap64 (2 ^ v.val)) = (upN f.val v.val : Int) := by decide +kernel
theorem up_inj : ∀ f : Fin 64, ∀ u v : Fin 6, upN f.val u.val ≠ f.val → upN f.val u.val = upN f.val v.val → u.val = v.val := by decide +kernel
theorem up_iff : ∀ f x : Fin 64, (x.val &&& f.val = f.val ∧ ones x.val = ones f.val + 1) ↔ ∃ u : Fin 6, upN f.val u.val = x.val ∧ x.val ≠ f.val := by decide +kernel
/-- The number at f with vertex v falls. -/
def fallB (fs gs : List Int) (f v : Nat) : Bool := decide ((upN f v : Int) ∈ fs) && (decide (upN f v ≠ f) && decide (numAt fs gs (upN f v : Int) ≤ numAt fs gs (f : Int)))
def fallUp (fs gs : List Int) (f k : Nat) : Nat := (List.range k).countP (fallB fs gs f)
theorem fallUp_succ (fs gs : List Int) (f k : Nat) : fallUp fs gs f (k + 1) = fallUp fs gs f k + (if fallB fs gs f k then 1 else 0) := by
  unfold fallUp
  rw [List.range_succ, List.countP_append]
  simp [List.countP_cons]

set_option maxRecDepth 1000000 in
set_option maxHeartbeats 4000000 in
theorem fallsUp_any (b : Nat) (fs gs : List Int) (f : Nat) (w : World) (hm : NumM w b fs gs fs.length) (hg : gs.length = fs.length) (hf : f < 64) :
    Calls Try.prog 252 #[.map (some b), .int .i64 (f : Int)] w fun e w' => e = .returned (.bool (decide (fallUp fs gs f 6 ≤ 1))) ∧ w = w' := by
  have htk : gs.take fs.length = gs := List.take_of_length_le (by omega)
  have htf : fs.take fs.length = fs := List.take_of_length_le (Nat.le_refl _)
  have HL := hid (fun (p : Nat) (hp : p < 64) => by
    have := hm.look (p := (p : Int)) (WalkArith.wf_i64 (by omega))
    rwa [htk] at this)
  have HO := hid (fun (p : Nat) (hp : p < 64) => by
    have := hm.look_ok (p := (p : Int)) (WalkArith.wf_i64 (by omega))
    rwa [htk, htf] at this)
  clear hm
  go_enter Try.func252, Try.ntmps252
  go_wp2_with fail
  go_loopw [5, 10] (fun t v wr => ∃ k : Nat, k ≤ 6 ∧ v = .int .i64 k ∧ t = .int .i64 ((fallUp fs gs f k : Nat) : Int) ∧ wr = w) (fun _ v _ => 6 - (intOf v).toNat)
  case atStart => exact ⟨0, by omega, rfl, rfl, rfl⟩
  case round =>
    obtain ⟨k, hk, rfl, rfl, rfl⟩ := hrel
    obtain ⟨q, hq⟩ : ∃ q : Nat, q = fallUp fs gs f k := ⟨_, rfl⟩
    rw [← hq]
    have hqb : q ≤ 6 := by
      rw [hq]
      have := List.countP_le_length (p := fallB fs gs f) (l := List.range k)
      simp at this
      unfold fallUp
      omega
    have Hs : Hid (fallUp fs gs f (k + 1) = q + (if fallB fs gs f k then 1 else 0)) := hid (by rw [fallUp_succ, ← hq])
    have Hq := hid hq
    clear hq
    by_cases hlt : k < 6
    · have hki : (k : Int) < 6 := by omega
      have hk0 : (0 : Int) ≤ (k : Int) := by omega
      have hor : bits BinOp.or IntKind.i64 (f : Int) (wrap64 (2 ^ k)) = (upN f k : Int) := up_bits ⟨f, hf⟩ ⟨k, hlt⟩
      obtain ⟨u, hu⟩ : ∃ u, u = upN f k := ⟨_, rfl⟩
      have hu64 : u < 64 := by rw [hu]; exact up_lt ⟨f, hf⟩ ⟨k, hlt⟩
      rw [← hu] at hor
      have hlk := HO.out u hu64
      have hlf := HL.out f hf
      obtain ⟨zu, hzu⟩ : ∃ z, z = numAt fs gs (u : Int) := ⟨_, rfl⟩
      obtain ⟨zf, hzf⟩ : ∃ z, z = numAt fs gs (f : Int) := ⟨_, rfl⟩
      obtain ⟨c1, hc1⟩ : ∃ c, c = decide ((u : Int) ∈ fs) := ⟨_, rfl⟩
      obtain ⟨c2, hc2⟩ : ∃ c, ((u : Int) != (f : Int)) = c := ⟨_, rfl⟩
      obtain ⟨c3, hc3⟩ : ∃ c, decide (zu ≤ zf) = c := ⟨_, rfl⟩
      have Hf : Hid (fallB fs gs f k = (c1 && (c2 && c3))) := hid (by
        unfold fallB
        rw [← hu, hc1, ← hc2, ← hc3, hzu, hzf]
        congr 2
        rw [Bool.eq_iff_iff]
        simp
        omega)
      rw [← hzu, ← hc1] at hlk
      rw [← hzf] at hlf
      clear hu hzu hzf hc1
      cases c1
      · go_wp2_with fail
        go_roundw
        case rel => exact ⟨k + 1, by omega, by go_num, by rw [Hs.out, Hf.out]; rfl, by first | rfl | trivial⟩
        case measure => simp [intOf]; omega
      · cases c2
        · go_wp2_with fail
          go_roundw
          case rel => exact ⟨k + 1, by omega, by go_num, by rw [Hs.out, Hf.out]; rfl, by first | rfl | trivial⟩
          case measure => simp [intOf]; omega
        · cases c3
          · go_wp2_with fail
            go_roundw
            case rel => exact ⟨k + 1, by omega, by go_num, by rw [Hs.out, Hf.out]; rfl, by first | rfl | trivial⟩
            case measure => simp [intOf]; omega
          · go_wp2_with fail
            go_roundw
            case rel => exact ⟨k + 1, by omega, by go_num, by rw [Hs.out, Hf.out]; go_num, by first | rfl | trivial⟩
            case measure => simp [intOf]; omega
    · obtain rfl : k = 6 := by omega
      go_wp2_with fail
      go_ret
      exact ⟨ret_bool (by rw [← Hq.out, Bool.eq_iff_iff]; simp; omega), rfl⟩

def fallDn (fs gs : List Int) (f : Nat) (pre : List (Fin 64)) : Nat := pre.countP fun z => decide (numAt fs gs (f : Int) ≤ numAt fs gs (z.val : Int))
theorem fallDn_snoc (fs gs : List Int) (f : Nat) (pre : List (Fin 64)) (z : Fin 64) : fallDn fs gs f (pre ++ [z]) = fallDn fs gs f pre + (if numAt fs gs (f : Int) ≤ numAt fs gs (z.val : Int) then 1 else 0) := by
  unfold fallDn
  rw [List.countP_append]
  simp [List.countP_cons]

set_option maxRecDepth 1000000 in
set_option maxHeartbeats 4000000 in
theorem fallsDn_in (b : Nat) (fs gs : List Int) (f : Nat) (w : World) (hm : NumM w b fs gs fs.length) (hg : gs.length = fs.length) (hf : f < 64) :
    CallsIn Fence.wide 12 Try.prog 253 #[.map (some b), .int .i64 (f : Int)] w fun e w' => e = .returned (.bool (decide (fallDn fs gs f (sidesF f) ≤ 1))) ∧ Below w.heap.size w w' := by
  have htk : gs.take fs.length = gs := List.take_of_length_le (by omega)
  have hbw : b < w.heap.size := hm.lt
  have HL := hid (fun (W : World) (h : Below w.heap.size w W) (p : Nat) (hp : p < 64) => by
    have := (hm.same (h.block b hbw)).look (p := (p : Int)) (WalkArith.wf_i64 (by omega))
    rwa [htk] at this)
  clear hm
  refine callsIn_of_wp_marks Try.func253 rfl trivial ?_ rfl
  simp only [Try.ntmps253, List.size_toArray, List.length_cons, List.length_nil, Nat.reduceAdd, Nat.reduceSub, Array.replicate_succ, Array.replicate_zero, List.push_toArray, List.append_toArray, List.nil_append, List.cons_append]
  gi_wp2_with (first
    | (refine ⟨trivial, ?_⟩; gi_at_call 171; refine (sides_in _ _ _).mono ?_; rintro e w' ⟨rfl, rfl⟩))
  obtain ⟨W0, hW0⟩ : ∃ W0, W0 = (((w.alloc (.cells #[.map (some b)] 77)).alloc (.cells #[.int .i64 (f : Int)] 2)).alloc (.cells #[.int .i64 0] 3)).alloc (.cells #[.int .i64 (f : Int)] 2) := ⟨_, rfl⟩
  have hs0 : W0.heap.size = w.heap.size + 4 := by rw [hW0]; simp
  have a0 : W0.heap[w.heap.size]? = some (.cells #[.map (some b)] 77 (0, 0)) := by rw [hW0]; exact (Below.heap_alloc _ _ _ (by simp <;> omega)).trans ((Below.heap_alloc _ _ _ (by simp <;> omega)).trans ((Below.heap_alloc _ _ _ (by simp)).trans (heap_alloc_new _ _)))
  have a1 : W0.heap[w.heap.size + 1]? = some (.cells #[.int .i64 (f : Int)] 2 (0, 0)) := by
    have := heap_alloc_new (w.alloc (.cells #[.map (some b)] 77)) (.cells #[.int .i64 (f : Int)] 2)
    rw [World.size_alloc] at this
    rw [hW0]; exact (Below.heap_alloc _ _ _ (by simp <;> omega)).trans ((Below.heap_alloc _ _ _ (by simp)).trans this)
  have a2 : W0.heap[w.heap.size + 2]? = some (.cells #[.int .i64 0] 3 (0, 0)) := by
    have := heap_alloc_new ((w.alloc (.cells #[.map (some b)] 77)).alloc (.cells #[.int .i64 (f : Int)] 2)) (.cells #[.int .i64 0] 3)
    rw [World.size_alloc, World.size_alloc] at this
    rw [hW0]; exact (Below.heap_alloc _ _ _ (by simp)).trans this
  have a3 : W0.heap[w.heap.size + 3]? = some (.cells #[.int .i64 (f : Int)] 2 (0, 0)) := by
    have := heap_alloc_new (((w.alloc (.cells #[.map (some b)] 77)).alloc (.cells #[.int .i64 (f : Int)] 2)).alloc (.cells #[.int .i64 0] 3)) (.cells #[.int .i64 (f : Int)] 2)
    rw [World.size_alloc, World.size_alloc, World.size_alloc] at this
    rw [hW0]; exact this
  have hB0 : Below w.heap.size w W0 := by rw [hW0]; exact ((((Below.refl _ w).alloc (Nat.le_refl _) _).alloc (by simp) _).alloc (by simp <;> omega) _).alloc (by simp <;> omega) _
  rw [← hW0]
  clear hW0
  refine wpIn_rangeFunc_P rfl (by decide) (gf := 215) (lb := #[.pointer (some ⟨w.heap.size + 1 + 1 + 1, 0, none⟩)]) rfl trivial (enters_of Try.func215 (by kernel_rfl) rfl)
    (sides_P 11 (by decide) (w.heap.size + 1 + 1 + 1) f hf W0 (by omega) a3) (by simp; omega) (Below.refl _ _) (fun _ => rfl)
    (fun pre W' => Below w.heap.size w W' ∧ W'.heap[w.heap.size]? = some (.cells #[.map (some b)] 77 (0, 0)) ∧ W'.heap[w.heap.size + 1]? = some (.cells #[.int .i64 (f : Int)] 2 (0, 0)) ∧ W'.heap[w.heap.size + 2]? = some (.cells #[.int .i64 ((fallDn fs gs f pre : Nat) : Int)] 3 (0, 0)))
    (fun _ _ _ => False)
    (OwnIn.and (ownIn_below (by omega) (Nat.le_refl _)) (OwnIn.and (ownIn_block (β := List (Fin 64)) (fun _ => _) (by omega)) (OwnIn.and (ownIn_block (β := List (Fin 64)) (fun _ => _) (by omega)) (ownIn_block (β := List (Fin 64)) (fun pre => .cells #[.int .i64 ((fallDn fs gs f pre : Nat) : Int)] 3 (0, 0)) (by omega)))))
    (fun _ => ownIn_pure _ _ _)
    ⟨hB0, a0, a1, a2⟩
    (fun z => { tmps := List.toArray ((.map (some b)) :: (.int .i64 (f : Int)) :: (.pointer (some ⟨w.heap.size, 0, none⟩)) :: (.pointer (some ⟨w.heap.size + 1, 0, none⟩)) :: (.bool false) :: (.pointer (some ⟨w.heap.size + 1 + 1, 0, none⟩)) :: (.int .i64 (z.val : Int)) :: (.int .i64 (f : Int)) :: (.func (.func 215) #[] #[.pointer (some ⟨w.heap.size + 1 + 1 + 1, 0, none⟩)]) :: (.int .i64 (z.val : Int)) :: (undef) :: (undef) :: (undef) :: (undef) :: (undef) :: (undef) :: (undef) :: (undef) :: (undef) :: (undef) :: (undef) :: []), defers := [] }) ?assign ?body ?done ?stop
  case assign =>
    intro l z W4 K hK
    gi_wp2
    exact hK
  case stop =>
    rintro c pre W4 hpre hF hD4
    exact hF.elim
  case body =>
    rintro l pre z W4 hpre hsz4 ⟨hB, e0, e1, e2⟩
    have hpl : pre.length ≤ 6 := by
      have h1 := hpre.length_le
      have h2 : (sidesF f).length ≤ 6 := sides_len f 6
      simp at h1
      omega
    obtain ⟨q, hq⟩ : ∃ q : Nat, q = fallDn fs gs f pre := ⟨_, rfl⟩
    rw [← hq] at e2
    have hqb : q ≤ 6 := by rw [hq]; exact Nat.le_trans List.countP_le_length hpl
    have Hs : Hid (fallDn fs gs f (pre ++ [z]) = q + (if numAt fs gs (f : Int) ≤ numAt fs gs (z.val : Int) then 1 else 0)) := hid (by rw [fallDn_snoc, ← hq])
    have hlz := HL.out W4 hB z.val z.isLt
    have hlf := HL.out W4 hB f hf
    obtain ⟨zz, hzz⟩ : ∃ x, x = numAt fs gs (z.val : Int) := ⟨_, rfl⟩
    obtain ⟨zf, hzf⟩ : ∃ x, x = numAt fs gs (f : Int) := ⟨_, rfl⟩
    rw [← hzz] at hlz Hs
    rw [← hzf] at hlf Hs
    obtain ⟨c0, _⟩ := box_cell e0
    obtain ⟨c1, _⟩ := box_cell e1
    have c2 : W4.cell? ⟨w.heap.size + 1 + 1, 0, none⟩ = some (.int .i64 (q : Int)) := (box_cell e2).1
    have f2 : W4.frozen? ⟨w.heap.size + 1 + 1, 0, none⟩ = false := (box_cell e2).2
    have E0 := hid e0
    have E1 := hid e1
    have E2 := hid e2
    have HB := hid hB
    clear e0 e1 e2 hB hq hzz hzf a0 a1 a2 a3 hB0
    by_cases hge : zf ≤ zz
    · have hd : decide (zf ≤ zz) = true := decide_eq_true hge
      have Hs2 : Hid (fallDn fs gs f (pre ++ [z]) = q + 1) := hid (by rw [Hs.out, if_pos hge])
      clear hge
      gi_wp2
      refine ⟨⟨by simp [World.setCell], fun r hr => ?_⟩, ?_, ?_, ?_, ?_⟩
      · refine Below.heap_setCell _ _ _ _ ?_
        rcases hr with h | h
        · simp at h; simp only; omega
        · simp only; omega
      · exact HB.out.grown (grownBy_set W4 ⟨w.heap.size + 1 + 1, 0, none⟩ _) HB.out.size (fun r e => by injection e with e; subst e; simp only; omega)
      · exact (Below.heap_setCell _ _ _ _ (by simp only; omega)).trans E0.out
      · exact (Below.heap_setCell _ _ _ _ (by simp only; omega)).trans E1.out
      · rw [Hs2.out]
        simp only [World.setCell, Array.getElem?_modify, E2.out]
        simp
    · have hd : decide (zf ≤ zz) = false := decide_eq_false hge
      have Hs2 : Hid (fallDn fs gs f (pre ++ [z]) = q) := hid (by rw [Hs.out, if_neg hge]; rfl)
      clear hge
      gi_wp2
      exact ⟨KeepP.refl _ _ _ _, HB.out, E0.out, E1.out, by rw [Hs2.out]; exact E2.out⟩
  case done =>
    rintro W4 ⟨hB, e0, e1, e2⟩ hD4
    obtain ⟨q, hq⟩ : ∃ q : Nat, q = fallDn fs gs f (sidesF f) := ⟨_, rfl⟩
    rw [← hq] at e2
    have Hq := hid hq
    have c2 : W4.cell? ⟨w.heap.size + 1 + 1, 0, none⟩ = some (.int .i64 (q : Int)) := (box_cell e2).1
    have HB := hid hB
    have HD := hid hD4
    clear e0 e1 e2 hB hq hD4 a0 a1 a2 a3 hB0
    gi_wp2
    refine leaves_marks (by simp) [_] _ (by simp) (fun D hD => by simp only [List.mem_singleton] at hD; subst hD; first | exact HD.out | (rw [hs0] at HD; exact HD.out)) (fun w' hw' => ?_)
    refine ⟨_, results_tmp rfl _ _ _, ?_, HB.out.trans (hw'.below (fun D hD => by simp only [List.mem_singleton] at hD; omega))⟩
    exact congrArg (fun t => Ending.returned (Value.bool t)) (by rw [← Hq.out, Bool.eq_iff_iff]; simp; omega)

end Go.Proofs.Ytgcpakhagbbiiaa

/-! Morse functions: the program's conditions are the model's. -/
namespace Go.Proofs.Ytgcpakhagbbiiaa
open Go.RowKit Go.Shelf

theorem sub_len2 : ∀ (A B : List Int), A.Nodup → (∀ y ∈ A, y ∈ B) → A.length ≤ B.length
  | [], _, _, _ => Nat.zero_le _
  | x :: A, B, hn, h => by
    obtain ⟨h1, h2⟩ := List.nodup_cons.1 hn
    have ih := sub_len2 A (B.erase x) h2 (fun y hy => (List.mem_erase_of_ne (fun e => h1 (by rw [← e]; exact hy))).2 (h y (List.mem_cons_of_mem _ hy)))
    have hx : x ∈ B := h x (by simp)
    have hl := List.length_erase_of_mem hx
    have hp : 0 < B.length := List.length_pos_of_mem hx
    simp only [List.length_cons]
    omega
theorem isC_distinct {V : Int} {fs : List Int} (h : IsC V fs) : Distinct fs := by
  intro i j hij hj
  have := List.pairwise_iff_getElem.1 h.asc i j (by omega) hj hij
  rw [List.getElem?_eq_getElem (by omega), List.getElem?_eq_getElem hj]
  simp only [Option.getD_some]
  omega
theorem isC_nodup {V : Int} {fs : List Int} (h : IsC V fs) : fs.Nodup := h.asc.imp (fun h => by omega)
theorem up_count {V : Int} {fs gs : List Int} (hC : IsC V fs) {f : Nat} (hf : f < 64) {gi : Int} (hgi : gi = numAt fs gs (f : Int)) : fallUp fs gs f 6 = cntUp fs gs gi (aboveL fs f) (aboveL fs f).length := by
  unfold fallUp cntUp
  rw [List.take_length, List.countP_eq_length_filter, List.countP_eq_length_filter]
  have e : ((List.range 6).filter (fallB fs gs f)).length = (((List.range 6).filter (fallB fs gs f)).map fun u => ((upN f u : Nat) : Int)).length := by simp
  rw [e]
  have hB : ((aboveL fs f).filter fun h => decide (numAt fs gs h ≤ gi)).Nodup := ((isC_nodup hC).filter _).filter _
  have hA : (((List.range 6).filter (fallB fs gs f)).map fun u => ((upN f u : Nat) : Int)).Nodup := by
    unfold List.Nodup
    rw [List.pairwise_map]
    refine (List.Pairwise.filter _ List.nodup_range).imp_of_mem ?_
    intro a b ha hb hne he
    obtain ⟨ha1, ha2⟩ := List.mem_filter.1 ha
    obtain ⟨hb1, hb2⟩ := List.mem_filter.1 hb
    have ha6 : a < 6 := by simpa using ha1
    have hb6 : b < 6 := by simpa using hb1
    unfold fallB at ha2
    simp at ha2
    exact hne (up_inj ⟨f, hf⟩ ⟨a, ha6⟩ ⟨b, hb6⟩ ha2.2.1 (by simp only; omega))
  have h1 : ∀ y, y ∈ (((List.range 6).filter (fallB fs gs f)).map fun u => ((upN f u : Nat) : Int)) ↔ y ∈ ((aboveL fs f).filter fun h => decide (numAt fs gs h ≤ gi)) := by
    intro y
    constructor
    · intro hy
      obtain ⟨u, hu, rfl⟩ := List.mem_map.1 hy
      obtain ⟨hu1, hu2⟩ := List.mem_filter.1 hu
      have hu6 : u < 6 := by simpa using hu1
      unfold fallB at hu2
      simp at hu2
      have hlt := up_lt ⟨f, hf⟩ ⟨u, hu6⟩
      have hab := (up_iff ⟨f, hf⟩ ⟨upN f u, hlt⟩).2 ⟨⟨u, hu6⟩, rfl, hu2.2.1⟩
      refine List.mem_filter.2 ⟨?_, by rw [hgi]; simp; exact hu2.2.2⟩
      unfold aboveL
      exact List.mem_filter.2 ⟨hu2.1, by rw [Int.toNat_natCast]; exact decide_eq_true hab⟩
    · intro hy
      obtain ⟨hy1, hy2⟩ := List.mem_filter.1 hy
      unfold aboveL at hy1
      obtain ⟨hy3, hy4⟩ := List.mem_filter.1 hy1
      have hr := hC.range63 y hy3
      obtain ⟨yn, rfl⟩ : ∃ yn : Nat, y = (yn : Int) := ⟨y.toNat, by omega⟩
      rw [Int.toNat_natCast] at hy4
      obtain ⟨u, hu, hne⟩ := (up_iff ⟨f, hf⟩ ⟨yn, by omega⟩).1 (by simpa using hy4)
      simp only at hu hne
      refine List.mem_map.2 ⟨u.val, List.mem_filter.2 ⟨by simp, ?_⟩, by rw [hu]⟩
      unfold fallB
      rw [hu]
      rw [hgi] at hy2
      simp at hy2
      simp [hy3, hne, hy2]
  exact Nat.le_antisymm (sub_len2 _ _ hA (fun y hy => (h1 y).1 hy)) (sub_len2 _ _ hB (fun y hy => (h1 y).2 hy))
theorem dn_count {fs gs : List Int} {f : Nat} (hf : f < 64) {gi : Int} (hgi : gi = numAt fs gs (f : Int)) : fallDn fs gs f (sidesF f) = cntDn fs gs gi (belowR f 63) (belowR f 63).length := by
  unfold fallDn cntDn
  rw [List.take_length, ← hgi]
  have e := sides_below ⟨f, hf⟩
  simp only at e
  have e2 : (belowR f 63) = ((sidesF f).map fun x => (x.val : Int)).reverse := by rw [e, List.reverse_reverse]
  rw [e2, List.countP_reverse, List.countP_map]
  rfl
theorem falls_iff {V : Int} {fs gs : List Int} (hC : IsC V fs) (hg : gs.length = fs.length) {k : Nat} (hk : k < fs.length) {f : Nat} (hfk : fs[k]?.getD 0 = (f : Int)) (hf : f < 64) :
    fallsB fs gs k = (decide (fallUp fs gs f 6 ≤ 1) && decide (fallDn fs gs f (sidesF f) ≤ 1)) := by
  have hgi : gs[k]?.getD 0 = numAt fs gs (f : Int) := (numAt_some (by omega) hfk (fun j hj e => isC_distinct hC j k hj hk (e.trans hfk.symm))).symm
  unfold fallsB
  rw [hfk, Int.toNat_natCast, up_count hC hf hgi, dn_count hf hgi]
  have key : ∀ a b : Nat, (decide (a < 2) && decide (b < 2)) = (decide (a ≤ 1) && decide (b ≤ 1)) := by
    intro a b
    rw [Bool.eq_iff_iff]
    simp
    omega
  exact key _ _

end Go.Proofs.Ytgcpakhagbbiiaa

/-! isMorse, the program's. -/
namespace Go.Proofs.Ytgcpakhagbbiiaa
open Go.RowKit Go.Shelf

attribute [local go_sem] Oper.semAt_some

def upAll (fs gs : List Int) (k : Nat) : Bool := (List.range k).all fun i => decide (fallUp fs gs (fs[i]?.getD 0).toNat 6 ≤ 1)
def dnAll (fs gs : List Int) (k : Nat) : Bool := (List.range k).all fun i => decide (fallDn fs gs (fs[i]?.getD 0).toNat (sidesF (fs[i]?.getD 0).toNat) ≤ 1)
theorem upAll_succ (fs gs : List Int) (k : Nat) : upAll fs gs (k + 1) = (upAll fs gs k && decide (fallUp fs gs (fs[k]?.getD 0).toNat 6 ≤ 1)) := by unfold upAll; rw [List.range_succ, List.all_append]; simp
theorem dnAll_succ (fs gs : List Int) (k : Nat) : dnAll fs gs (k + 1) = (dnAll fs gs k && decide (fallDn fs gs (fs[k]?.getD 0).toNat (sidesF (fs[k]?.getD 0).toNat) ≤ 1)) := by unfold dnAll; rw [List.range_succ, List.all_append]; simp
theorem upAll_more {fs gs : List Int} {k : Nat} (h : upAll fs gs (k + 1) = false) : ∀ m, k + 1 ≤ m → upAll fs gs m = false
  | 0, hm => by omega
  | m + 1, hm => by
    by_cases e : m = k
    · subst e; exact h
    · rw [upAll_succ, upAll_more h m (by omega)]; rfl
theorem dnAll_more {fs gs : List Int} {k : Nat} (h : dnAll fs gs (k + 1) = false) : ∀ m, k + 1 ≤ m → dnAll fs gs m = false
  | 0, hm => by omega
  | m + 1, hm => by
    by_cases e : m = k
    · subst e; exact h
    · rw [dnAll_succ, dnAll_more h m (by omega)]; rfl
theorem morse_split {V : Int} {fs gs : List Int} (hC : IsC V fs) (hg : gs.length = fs.length) : ∀ k, k ≤ fs.length → morseB fs gs k = (upAll fs gs k && dnAll fs gs k)
  | 0, _ => rfl
  | k + 1, hk => by
    have hr := hC.range63 _ (getD_mem (show k < fs.length by omega))
    obtain ⟨fn, hfn⟩ : ∃ fn : Nat, fs[k]?.getD 0 = (fn : Int) := ⟨(fs[k]?.getD 0).toNat, by omega⟩
    rw [morseB_succ, upAll_succ, dnAll_succ, morse_split hC hg k (by omega), falls_iff hC hg (by omega) hfn (by omega), hfn, Int.toNat_natCast]
    cases upAll fs gs k <;> cases dnAll fs gs k <;> cases decide (fallUp fs gs fn 6 ≤ 1) <;> simp

/-- The two conditions. -/
def condV : Array Value := #[.func (.func 252) #[] #[], .func (.func 253) #[] #[]]
theorem conds_any (w : World) : Calls Try.prog 240 #[] w fun e w' => e = .returned (.slice (some ⟨w.heap.size, 0, none⟩) 2 2) ∧ w' = w.alloc (.cells condV 230) := by
  go_enter Try.func240, Try.ntmps240
  go_wp2_with fail
  go_ret
  exact ⟨rfl, rfl⟩

set_option maxRecDepth 1000000 in
set_option maxHeartbeats 4000000 in
theorem hold_any (V : Int) (a0 : Option Addr) (cap : Nat) (fs : List Int) (a1 : Option Addr) (cap1 : Nat) (gs : List Int) (bc : Nat) (w : World) (hx : SlI w w.heap.size a0 fs) (hx1 : SlI w w.heap.size a1 gs) (hC : IsC V fs) (hg : gs.length = fs.length) (hwg : ∀ x ∈ gs, (Lit.int .i64 x).wf = true) (hbc : w.heap[bc]? = some (.cells condV 230 (0, 0))) :
    Calls Try.prog 239 #[.agg #[.int .i64 V, .slice a0 fs.length cap], .slice a1 gs.length cap1, .slice (some ⟨bc, 0, none⟩) 2 2] w fun e w' => e = .returned (.bool (morseB fs gs fs.length)) ∧ Below w.heap.size w w' := by
  have hent1 : ∀ args w, (callFunc 252 args).run Try.prog w = .ok (.enter 252 args) w := enters_of Try.func252 (by kernel_rfl) rfl
  have hent2 : ∀ args w, (callFunc 253 args).run Try.prog w = .ok (.enter 253 args) w := enters_of Try.func253 (by kernel_rfl) rfl
  have h63 := hC.len63
  have hB0 : Below w.heap.size w (w.alloc (.cells #[.int .i64 V, .slice a0 fs.length cap] 30)) := (Below.refl _ w).alloc (Nat.le_refl _) _
  have HNu := hid (numbers_any V a0 cap fs a1 cap1 gs _ (hx.later hB0 hB0.size) (hx1.later hB0 hB0.size) (by omega) hg (isC_distinct hC) (fun x hx => WalkArith.wf_i64 (by have := hC.range63 x hx; omega)) hwg)
  obtain ⟨E, hE⟩ : ∃ E, E = morseB fs gs fs.length := ⟨_, rfl⟩
  have HE := hid (hE.trans (morse_split hC hg fs.length (Nat.le_refl _)))
  rw [← hE]
  have Hx := hid hx
  have HC := hid hC
  have Hg := hid hg
  have HB0 := hid hB0
  have Hbc := hid hbc
  clear hx hx1 hC hg hwg hbc hB0 hE
  go_enter Try.func239, Try.ntmps239
  go_wp2_with fail
  refine HNu.out.mono ?_
  rintro e w1 ⟨rfl, hM, hB1⟩
  have HBw := hid (HB0.out.trans (hB1.mono HB0.out.size))
  have K1 := hid ((hB1.cell (p := ⟨w.heap.size, 1, none⟩) (by simp)).trans (by simp [go_sem] : (w.alloc (.cells #[.int .i64 V, .slice a0 fs.length cap] 30)).cell? ⟨w.heap.size, 1, none⟩ = some (.slice a0 fs.length cap)))
  have hwz : w.heap.size < w1.heap.size := by have := hB1.size; simp at this; omega
  have hbcz : bc < w.heap.size := lt_of_get Hbc.out
  rw [World.size_alloc] at hM
  have HM := hid hM
  have C0 : Hid (∀ W, Below w1.heap.size w1 W → W.cell? ⟨bc, 0, none⟩ = some (.func (.func 252) #[] #[]) ∧ W.cell? ⟨bc, 1, none⟩ = some (.func (.func 253) #[] #[])) := hid (fun W h => by
    have h2 := two_of (x := condV[0]!) (y := condV[1]!) ((h.block bc (by omega)).trans ((HBw.out.block bc hbcz).trans Hbc.out))
    exact ⟨h2.1, h2.2.1⟩)
  clear hM hB1
  go_wp2_with fail
  refine wp_loop_rounds 3 ?_
  rw [rounds_succ]
  obtain ⟨e0, e1⟩ := C0.out w1 (Below.refl _ _)
  have k1 := K1.out
  go_wp2_with fail
  go_loopw [24] (fun i wx => ∃ k : Nat, k ≤ fs.length ∧ i = .int .i64 k ∧ Hid (upAll fs gs k = true) ∧ Below w1.heap.size w1 wx) (fun i _ => fs.length - (intOf i).toNat)
  case atStart => exact ⟨0, Nat.zero_le _, rfl, hid rfl, Below.refl _ _⟩
  case round =>
    obtain ⟨k, hk, rfl, Hk, hB⟩ := hrel
    by_cases hlt : k < fs.length
    · obtain ⟨b0, off0, hb0, hae, hc0⟩ : ∃ b off, b < w.heap.size ∧ a0 = some ⟨b, off, none⟩ ∧ ∀ i, i < fs.length → w.cell? ⟨b, off + i, none⟩ = some (.int .i64 (fs[i]?.getD 0)) := by
        rcases Hx.out with h | h
        · rw [h] at hlt; simp at hlt
        · exact h
      subst hae
      obtain ⟨fn, hfn⟩ : ∃ fn : Nat, fs[k]?.getD 0 = (fn : Int) := ⟨(fs[k]?.getD 0).toNat, by have := HC.out.range63 _ (getD_mem hlt); omega⟩
      have hf64 : fn < 64 := by have := HC.out.range63 _ (getD_mem hlt); omega
      have d0 := ((HBw.out.trans (hB.mono HBw.out.size)).cell (p := ⟨b0, off0 + k, none⟩) hb0).trans (hc0 k hlt)
      rw [hfn] at d0
      have HF := hid ((fallsUp_any (w.heap.size + 1 + 1) fs gs fn wr (HM.out.same (hB.block _ HM.out.lt)) Hg.out hf64))
      obtain ⟨c, hcc⟩ : ∃ c, c = decide (fallUp fs gs fn 6 ≤ 1) := ⟨_, rfl⟩
      rw [← hcc] at HF
      have Hs : Hid (upAll fs gs (k + 1) = c) := hid (by rw [upAll_succ, Hk.out, hfn, Int.toNat_natCast, ← hcc]; rfl)
      have hi0 : (0 : Int) ≤ (k : Int) := by omega
      have hi1 : (k : Int) < (fs.length : Int) := by omega
      have HB := hid hB
      have hkl : k + 1 ≤ fs.length := hlt
      clear hc0 hfn hcc hB
      cases c
      · have He : Hid (E = false) := hid (by rw [HE.out, upAll_more Hs.out fs.length hkl]; rfl)
        go_wp2_with (go_at_call 252; refine HF.out.mono ?_; rintro e w' ⟨rfl, rfl⟩; have hBf := Below.refl wr.heap.size wr; have HBf := hid hBf; clear hBf)
        go_ret
        exact ⟨ret_bool (by rw [He.out]), HBw.out.trans ((HB.out.trans (HBf.out.mono HB.out.size)).mono HBw.out.size)⟩
      · go_wp2_with (go_at_call 252; refine HF.out.mono ?_; rintro e w' ⟨rfl, rfl⟩; have hBf := Below.refl wr.heap.size wr; have HBf := hid hBf; clear hBf)
        go_roundw
        case rel => exact ⟨k + 1, hkl, by go_num, Hs, HB.out.trans (HBf.out.mono HB.out.size)⟩
        case measure => simp [intOf]; omega
    · obtain rfl : k = fs.length := by omega
      have HB2 := hid hB
      have Hu := Hk
      obtain ⟨e0, e1⟩ := C0.out wr hB
      have k1 := (hB.cell (p := ⟨w.heap.size, 1, none⟩) hwz).trans K1.out
      clear hB
      go_wp2_with fail
      rw [rounds_succ]
      go_wp2_with fail
      go_loopw [24] (fun i wx => ∃ k : Nat, k ≤ fs.length ∧ i = .int .i64 k ∧ Hid (dnAll fs gs k = true) ∧ Below w1.heap.size w1 wx) (fun i _ => fs.length - (intOf i).toNat)
      case atStart => exact ⟨0, Nat.zero_le _, rfl, hid rfl, HB2.out⟩
      case round =>
        obtain ⟨k, hk, rfl, Hk, hB⟩ := hrel
        by_cases hlt : k < fs.length
        · obtain ⟨b0, off0, hb0, hae, hc0⟩ : ∃ b off, b < w.heap.size ∧ a0 = some ⟨b, off, none⟩ ∧ ∀ i, i < fs.length → w.cell? ⟨b, off + i, none⟩ = some (.int .i64 (fs[i]?.getD 0)) := by
            rcases Hx.out with h | h
            · rw [h] at hlt; simp at hlt
            · exact h
          subst hae
          obtain ⟨fn, hfn⟩ : ∃ fn : Nat, fs[k]?.getD 0 = (fn : Int) := ⟨(fs[k]?.getD 0).toNat, by have := HC.out.range63 _ (getD_mem hlt); omega⟩
          have hf64 : fn < 64 := by have := HC.out.range63 _ (getD_mem hlt); omega
          have d0 := ((HBw.out.trans (hB.mono HBw.out.size)).cell (p := ⟨b0, off0 + k, none⟩) hb0).trans (hc0 k hlt)
          rw [hfn] at d0
          have HF := hid (callsIn_wide.1 (fallsDn_in (w.heap.size + 1 + 1) fs gs fn wr (HM.out.same (hB.block _ HM.out.lt)) Hg.out hf64))
          obtain ⟨c, hcc⟩ : ∃ c, c = decide (fallDn fs gs fn (sidesF fn) ≤ 1) := ⟨_, rfl⟩
          rw [← hcc] at HF
          have Hs : Hid (dnAll fs gs (k + 1) = c) := hid (by rw [dnAll_succ, Hk.out, hfn, Int.toNat_natCast, ← hcc]; rfl)
          have hi0 : (0 : Int) ≤ (k : Int) := by omega
          have hi1 : (k : Int) < (fs.length : Int) := by omega
          have HB := hid hB
          have hkl : k + 1 ≤ fs.length := hlt
          clear hc0 hfn hcc hB
          cases c
          · have He : Hid (E = false) := hid (by rw [HE.out, dnAll_more Hs.out fs.length hkl]; cases upAll fs gs fs.length <;> rfl)
            go_wp2_with (go_at_call 253; refine HF.out.mono ?_; rintro e w' ⟨rfl, hBf⟩; have HBf := hid hBf; clear hBf)
            go_ret
            exact ⟨ret_bool (by rw [He.out]), HBw.out.trans ((HB.out.trans (HBf.out.mono HB.out.size)).mono HBw.out.size)⟩
          · go_wp2_with (go_at_call 253; refine HF.out.mono ?_; rintro e w' ⟨rfl, hBf⟩; have HBf := hid hBf; clear hBf)
            go_roundw
            case rel => exact ⟨k + 1, hkl, by go_num, Hs, HB.out.trans (HBf.out.mono HB.out.size)⟩
            case measure => simp [intOf]; omega
        · obtain rfl : k = fs.length := by omega
          have HB := hid hB
          have He : Hid (E = true) := hid (by rw [HE.out, Hu.out, Hk.out]; rfl)
          clear hB
          go_wp2_with fail
          rw [rounds_succ]
          go_wp2_with fail
          go_ret
          exact ⟨ret_bool (by rw [He.out]), HBw.out.trans (HB.out.mono HBw.out.size)⟩

set_option maxRecDepth 1000000 in
set_option maxHeartbeats 2000000 in
theorem isMorse_any (V : Int) (a0 : Option Addr) (cap : Nat) (fs : List Int) (a1 : Option Addr) (cap1 : Nat) (gs : List Int) (w : World) (hx : SlI w w.heap.size a0 fs) (hx1 : SlI w w.heap.size a1 gs) (hC : IsC V fs) (hg : gs.length = fs.length) (hwg : ∀ x ∈ gs, (Lit.int .i64 x).wf = true) :
    Calls Try.prog 205 #[.agg #[.int .i64 V, .slice a0 fs.length cap], .slice a1 gs.length cap1] w fun e w' => e = .returned (.bool (morseB fs gs fs.length)) ∧ Below w.heap.size w w' := by
  have hB0 : Below w.heap.size w (w.alloc (.cells #[.int .i64 V, .slice a0 fs.length cap] 30)) := (Below.refl _ w).alloc (Nat.le_refl _) _
  have hsz : (w.alloc (.cells #[.int .i64 V, .slice a0 fs.length cap] 30)).drew.heap.size = w.heap.size + 1 := by show (w.alloc _).heap.size = _; simp
  have HCo := hid (conds_any (w.alloc (.cells #[.int .i64 V, .slice a0 fs.length cap] 30)).drew)
  rw [hsz] at HCo
  obtain ⟨W1, hW1⟩ : ∃ W1, W1 = (w.alloc (.cells #[.int .i64 V, .slice a0 fs.length cap] 30)).drew.alloc (.cells condV 230) := ⟨_, rfl⟩
  have hB1 : Below w.heap.size w W1 := by rw [hW1]; exact (hB0.trans (below_drewN (Below.refl _ _) 1 |>.mono hB0.size)).alloc hB0.size _
  have hk0 : W1.cell? ⟨w.heap.size, 0, none⟩ = some (.int .i64 V) := by rw [hW1]; simp [go_sem]
  have hk1 : W1.cell? ⟨w.heap.size, 1, none⟩ = some (.slice a0 fs.length cap) := by rw [hW1]; simp [go_sem]
  have hbc : W1.heap[(w.alloc (.cells #[.int .i64 V, .slice a0 fs.length cap] 30)).drew.heap.size]? = some (.cells condV 230 (0, 0)) := by rw [hW1]; exact heap_alloc_new _ _
  rw [hsz] at hbc
  clear hsz
  have HH := hid (hold_any V a0 cap fs a1 cap1 gs _ W1 (hx.later hB1 hB1.size) (hx1.later hB1 hB1.size) hC hg hwg hbc)
  have HB1 := hid hB1
  have Hk0 := hid hk0
  have Hk1 := hid hk1
  rw [hW1] at HH HB1 Hk0 Hk1
  clear hx hx1 hC hg hwg hbc hB0 hB1 hk0 hk1
  go_enter Try.func205, Try.ntmps205
  go_wp2_with fail
  have k0 := Hk0.out
  have k1 := Hk1.out
  go_region_with (first
    | (go_at_call 240; refine HCo.out.mono ?_; rintro e w' ⟨rfl, rfl⟩)
    | (go_at_call 239; refine HH.out.mono ?_; rintro e w2 ⟨rfl, hB2⟩; have HB2 := hid hB2; clear hB2))
  all_goals
    go_wp2_with fail
    go_ret
    exact ⟨ret_bool rfl, HB1.out.trans (HB2.out.mono HB1.out.size)⟩

end Go.Proofs.Ytgcpakhagbbiiaa

/-! functionCode, and IsMorseFunction's doors. -/
namespace Go.Proofs.Ytgcpakhagbbiiaa
open Go.RowKit

set_option maxHeartbeats 400000 in
theorem isValue_any (x : Int) (w : World) : Calls Try.prog 109 #[.int .i64 x] w fun e w' => e = .returned (.bool (decide (-1000 ≤ x) && decide (x ≤ 1000))) ∧ w = w' := by
  by_cases h : -1000 ≤ x
  · have hd : decide (-1000 ≤ x) = true := decide_eq_true h
    clear h
    go_enter Try.func109, Try.ntmps109
    go_wp2
    go_ret
    exact ⟨ret_bool (by rw [hd]; simp), rfl⟩
  · have hd : decide (-1000 ≤ x) = false := decide_eq_false h
    clear h
    go_enter Try.func109, Try.ntmps109
    go_wp2
    go_ret
    exact ⟨ret_bool (by rw [hd]; simp), rfl⟩

set_option maxRecDepth 1000000 in
set_option maxHeartbeats 4000000 in
theorem fcode_any (V : Int) (a0 : Option Addr) (cap : Nat) (fs : List Int) (bs : Nat) (gl : List (Option Addr × Nat × List Int)) (w : World) (hx : SlI w w.heap.size a0 fs) (hl : fs.length ≤ 1048576) (hbs : bs < w.heap.size)
    (hcl : ∀ i, i < gl.length → ∃ a c g, gl[i]? = some (a, c, g) ∧ w.cell? ⟨bs, i, none⟩ = some (.slice a g.length c)) (hgs : ∀ q ∈ gl, SlI w w.heap.size q.1 q.2.2 ∧ q.2.2.length ≤ 1048576) (hgl : gl.length ≤ 1048576) :
    Calls Try.prog 108 #[.agg #[.int .i64 V, .slice a0 fs.length cap], .slice (some ⟨bs, 0, none⟩) gl.length gl.length] w fun e w' => e = .returned (.int .i64 (code4R V fs (gl.map fun q => q.2.2))) ∧ Below w.heap.size w w' := by
  have hB0 : Below w.heap.size w (w.alloc (.cells #[.int .i64 V, .slice a0 fs.length cap] 30)) := (Below.refl _ w).alloc (Nat.le_refl _) _
  have Hx := hid (hx.later hB0 hB0.size)
  have HB0 := hid hB0
  have Hcl := hid hcl
  have Hgs := hid hgs
  obtain ⟨E, hE⟩ : ∃ E, E = code4R V fs (gl.map fun q => q.2.2) := ⟨_, rfl⟩
  rw [← hE]
  by_cases hC : IsC V fs
  · have HE : Hid (E = if (gl.map fun q => q.2.2).all (isFnB fs) then 0 else 2) := hid (by rw [hE, code4R, isCB_true hC, if_pos rfl])
    obtain ⟨m, hm⟩ : ∃ m, m = gl.length := ⟨_, rfl⟩
    have Hm := hid hm
    rw [← hm] at hgl ⊢
    clear hx hB0 hcl hgs hE hm
    go_enter Try.func108, Try.ntmps108
    go_wp2_with fail
    refine (isc_yes V a0 cap fs _ Hx.out hl hC).mono ?_
    rintro e w1 ⟨rfl, hB1⟩
    have HB1 := hid (HB0.out.trans (hB1.mono (by simp)))
    have K1 := hid ((hB1.cell (p := ⟨w.heap.size, 1, none⟩) (by simp)).trans (by simp [go_sem] : (w.alloc (.cells #[.int .i64 V, .slice a0 fs.length cap] 30)).cell? ⟨w.heap.size, 1, none⟩ = some (.slice a0 fs.length cap)))
    have hs1 : w.heap.size < w1.heap.size := by have := hB1.size; simp at this; omega
    clear hB1
    go_wp2_with fail
    go_loopw [14] (fun i wr => ∃ k : Nat, k ≤ m ∧ i = .int .i64 k ∧ Hid (((gl.take k).map fun q => q.2.2).all (isFnB fs) = true) ∧ wr = w1) (fun i _ => m - (intOf i).toNat)
    case atStart => exact ⟨0, Nat.zero_le _, rfl, hid (by simp), rfl⟩
    case round =>
      obtain ⟨k, hk, rfl, Hk, rfl⟩ := hrel
      by_cases hlt : k < m
      · obtain ⟨a, c, g, hgk, hck⟩ := Hcl.out k (by have := Hm.out; omega)
        have hmem : (a, c, g) ∈ gl := List.mem_of_getElem? hgk
        obtain ⟨hsg, hlg⟩ := Hgs.out _ hmem
        simp only at hsg hlg
        have d1 := (HB1.out.cell (p := ⟨bs, k, none⟩) hbs).trans hck
        have k1 := K1.out
        have Hsg := hid (hsg.later HB1.out HB1.out.size)
        have hi0 : (0 : Int) ≤ (k : Int) := by omega
        have hi1 : (k : Int) < (m : Int) := by omega
        have Hsn : Hid (gl.take (k + 1) = gl.take k ++ [(a, c, g)]) := hid (by
          rw [List.take_add_one, hgk]
          rfl)
        have Hmem := hid hmem
        clear hsg hck hgk hmem
        by_cases hlen : g.length = fs.length
        · have hd : ((g.length : Int) != (fs.length : Int)) = false := by simp; omega
          have Hfn : Hid (isFnB fs g = g.all fun x => decide (-1000 ≤ x) && decide (x ≤ 1000)) := hid (by unfold isFnB; simp [hlen])
          obtain ⟨n, hn⟩ : ∃ n, n = g.length := ⟨_, rfl⟩
          have Hn := hid hn
          rw [← hn] at d1 hd hlg
          clear hlen hn
          go_wp2_with fail
          go_loopw [26] (fun i wx => ∃ j : Nat, j ≤ n ∧ i = .int .i64 j ∧ Hid ((g.take j).all (fun x => decide (-1000 ≤ x) && decide (x ≤ 1000)) = true) ∧ wx = wr) (fun i _ => n - (intOf i).toNat)
          case atStart => exact ⟨0, Nat.zero_le _, rfl, hid (by simp), rfl⟩
          case round =>
            obtain ⟨j, hj, rfl, Hj, rfl⟩ := hrel
            by_cases hjl : j < n
            · obtain ⟨b2, off2, hb2, hae, hc2⟩ : ∃ b off, b < wr.heap.size ∧ a = some ⟨b, off, none⟩ ∧ ∀ i, i < g.length → wr.cell? ⟨b, off + i, none⟩ = some (.int .i64 (g[i]?.getD 0)) := by
                rcases Hsg.out with h | h
                · have := Hn.out; rw [h] at this; simp at this; omega
                · exact h
              subst hae
              obtain ⟨x, hxv⟩ : ∃ x, x = g[j]?.getD 0 := ⟨_, rfl⟩
              have d2 := hc2 j (by have := Hn.out; omega)
              rw [← hxv] at d2
              have hj0 : (0 : Int) ≤ (j : Int) := by omega
              have hj1 : (j : Int) < (n : Int) := by omega
              have Hxv := hid hxv
              have Hsj : Hid (g.take (j + 1) = g.take j ++ [x]) := hid (by rw [take_snoc (by have := Hn.out; omega), hxv])
              clear hc2 hxv
              have HI := hid (isValue_any x wr)
              cases hin : (decide (-1000 ≤ x) && decide (x ≤ 1000))
              · rw [hin] at HI
                have He : Hid (E = 2) := hid (by
                  rw [HE.out, if_neg]
                  rw [Bool.not_eq_true, List.all_eq_false]
                  refine ⟨g, List.mem_map.2 ⟨_, Hmem.out, rfl⟩, ?_⟩
                  rw [Hfn.out, Bool.not_eq_true, List.all_eq_false]
                  exact ⟨x, by rw [Hxv.out]; exact getD_mem (by have := Hn.out; omega), by rw [hin]; simp⟩)
                clear hin
                go_wp2_with (go_at_call 109; refine HI.out.mono ?_; rintro e w' ⟨rfl, rfl⟩)
                go_ret
                exact ⟨ret_int (by rw [He.out]), HB1.out⟩
              · rw [hin] at HI
                have He : Hid ((g.take (j + 1)).all (fun x => decide (-1000 ≤ x) && decide (x ≤ 1000)) = true) := hid (by rw [Hsj.out, List.all_append, Hj.out]; simp only [List.all_cons, List.all_nil, hin, Bool.and_self])
                clear hin
                go_wp2_with (go_at_call 109; refine HI.out.mono ?_; rintro e w' ⟨rfl, rfl⟩)
                go_roundw
                case rel => exact ⟨j + 1, by omega, by go_num, He, by first | rfl | trivial⟩
                case measure => simp [intOf]; omega
            · have He : Hid (((gl.take (k + 1)).map fun q => q.2.2).all (isFnB fs) = true) := hid (by
                have h2 := Hj.out
                rw [List.take_of_length_le (by have := Hn.out; omega)] at h2
                rw [Hsn.out, List.map_append, List.all_append, Hk.out]
                simp only [List.map_cons, List.map_nil, List.all_cons, List.all_nil, Hfn.out, h2, Bool.and_self])
              go_wp2_with fail
              go_roundw
              case rel => exact ⟨k + 1, by omega, by go_num, He, by first | rfl | trivial⟩
              case measure => simp [intOf]; omega
        · have hd : ((g.length : Int) != (fs.length : Int)) = true := by simp; omega
          have He : Hid (E = 2) := hid (by
            rw [HE.out, if_neg]
            rw [Bool.not_eq_true, List.all_eq_false]
            exact ⟨g, List.mem_map.2 ⟨_, Hmem.out, rfl⟩, by unfold isFnB; simp [hlen]⟩)
          clear hlen
          go_wp2_with fail
          go_ret
          exact ⟨ret_int (by rw [He.out]), HB1.out⟩
      · have He : Hid (E = 0) := hid (by
          have h2 := Hk.out
          rw [List.take_of_length_le (by have := Hm.out; omega)] at h2
          rw [HE.out, h2, if_pos rfl])
        go_wp2_with fail
        go_ret
        exact ⟨ret_int (by rw [He.out]), HB1.out⟩
  · have He : Hid (E = 1) := hid (by rw [hE, code4R, isCB_false hC, if_neg (by simp)])
    clear hx hB0 hcl hgs hE
    go_enter Try.func108, Try.ntmps108
    go_wp2_with fail
    refine (isc_no V a0 cap fs _ Hx.out hl hC).mono ?_
    rintro e w1 ⟨rfl, hB1⟩
    go_wp2_with fail
    go_ret
    exact ⟨ret_int (by rw [He.out]), HB0.out.trans (hB1.mono (by simp))⟩

noncomputable def isMorseR (V : Int) (fs gs : List Int) : Bool × Int := if code4R V fs [gs] = 0 then (morseB fs gs fs.length, 0) else (false, code4R V fs [gs])
theorem code4_zero {V : Int} {fs gs : List Int} (h : code4R V fs [gs] = 0) : IsC V fs ∧ isFnB fs gs = true := by
  unfold code4R at h
  by_cases hC : IsC V fs
  · rw [isCB_true hC, if_pos rfl] at h
    refine ⟨hC, ?_⟩
    cases hf : isFnB fs gs
    · rw [show [gs].all (isFnB fs) = false by simp [hf]] at h
      simp at h
    · rfl
  · rw [isCB_false hC] at h
    simp at h
theorem fn_wf {fs gs : List Int} (h : isFnB fs gs = true) : ∀ x ∈ gs, (Lit.int .i64 x).wf = true := by
  intro x hx
  unfold isFnB at h
  simp at h
  have := h.2 x hx
  exact WalkArith.wf_i64 (by omega)



end Go.Proofs.Ytgcpakhagbbiiaa

/-! morseCode. -/
namespace Go.Proofs.Ytgcpakhagbbiiaa
open Go.RowKit

noncomputable def mcode4R (V : Int) (fs : List Int) (gls : List (List Int)) : Int :=
  if code4R V fs gls = 0 then (if gls.all (fun g => morseB fs g fs.length) then 0 else 5) else code4R V fs gls
theorem code4_all {V : Int} {fs : List Int} {gls : List (List Int)} (h : code4R V fs gls = 0) : IsC V fs ∧ ∀ g ∈ gls, isFnB fs g = true := by
  unfold code4R at h
  by_cases hC : IsC V fs
  · rw [isCB_true hC, if_pos rfl] at h
    refine ⟨hC, ?_⟩
    cases hf : gls.all (isFnB fs)
    · rw [hf] at h
      simp at h
    · exact List.all_eq_true.1 hf
  · rw [isCB_false hC] at h
    simp at h

set_option maxRecDepth 1000000 in
set_option maxHeartbeats 4000000 in
theorem mcode_any (V : Int) (a0 : Option Addr) (cap : Nat) (fs : List Int) (bs : Nat) (gl : List (Option Addr × Nat × List Int)) (w : World) (hx : SlI w w.heap.size a0 fs) (hl : fs.length ≤ 1048576) (hbs : bs < w.heap.size)
    (hcl : ∀ i, i < gl.length → ∃ a c g, gl[i]? = some (a, c, g) ∧ w.cell? ⟨bs, i, none⟩ = some (.slice a g.length c)) (hgs : ∀ q ∈ gl, SlI w w.heap.size q.1 q.2.2 ∧ q.2.2.length ≤ 1048576) (hgl : gl.length ≤ 1048576) :
    Calls Try.prog 141 #[.agg #[.int .i64 V, .slice a0 fs.length cap], .slice (some ⟨bs, 0, none⟩) gl.length gl.length] w fun e w' => e = .returned (.int .i64 (mcode4R V fs (gl.map fun q => q.2.2))) ∧ Below w.heap.size w w' := by
  have hB0 : Below w.heap.size w (w.alloc (.cells #[.int .i64 V, .slice a0 fs.length cap] 30)) := (Below.refl _ w).alloc (Nat.le_refl _) _
  have hk0 : (w.alloc (.cells #[.int .i64 V, .slice a0 fs.length cap] 30)).cell? ⟨w.heap.size, 0, none⟩ = some (.int .i64 V) := by simp [go_sem]
  have hk1 : (w.alloc (.cells #[.int .i64 V, .slice a0 fs.length cap] 30)).cell? ⟨w.heap.size, 1, none⟩ = some (.slice a0 fs.length cap) := by simp [go_sem]
  have HK := hid (fcode_any V a0 cap fs bs gl _ (hx.later hB0 hB0.size) hl (Nat.lt_of_lt_of_le hbs hB0.size) (fun i hi => by
    obtain ⟨a, c, g, h1, h2⟩ := hcl i hi
    exact ⟨a, c, g, h1, (hB0.cell (p := ⟨bs, i, none⟩) hbs).trans h2⟩) (fun q hq => ⟨(hgs q hq).1.later hB0 hB0.size, (hgs q hq).2⟩) hgl)
  have Hx := hid hx
  have HB0 := hid hB0
  have Hcl := hid hcl
  have Hgs := hid hgs
  have Hk0 := hid hk0
  have Hk1 := hid hk1
  obtain ⟨E, hE⟩ : ∃ E, E = mcode4R V fs (gl.map fun q => q.2.2) := ⟨_, rfl⟩
  rw [← hE]
  by_cases h0 : code4R V fs (gl.map fun q => q.2.2) = 0
  · obtain ⟨hC, hfn⟩ := code4_all h0
    have HE : Hid (E = if (gl.map fun q => q.2.2).all (fun g => morseB fs g fs.length) then 0 else 5) := hid (by rw [hE, mcode4R, if_pos h0])
    rw [h0] at HK
    have HC := hid hC
    have Hfn := hid hfn
    obtain ⟨m, hm⟩ : ∃ m, m = gl.length := ⟨_, rfl⟩
    have Hm := hid hm
    rw [← hm] at hgl HK ⊢
    clear hx hB0 hcl hgs hE hm h0 hC hfn hk0 hk1
    go_enter Try.func141, Try.ntmps141
    go_wp2_with fail
    refine HK.out.mono ?_
    rintro e w1 ⟨rfl, hB1⟩
    have HB1 := hid (HB0.out.trans (hB1.mono HB0.out.size))
    have hs1 : w.heap.size < w1.heap.size := by have := hB1.size; simp at this; omega
    have K0 := hid ((hB1.cell (p := ⟨w.heap.size, 0, none⟩) (by simp)).trans Hk0.out)
    have K1 := hid ((hB1.cell (p := ⟨w.heap.size, 1, none⟩) (by simp)).trans Hk1.out)
    clear hB1 HK
    go_wp2_with fail
    go_loopw [16] (fun i wr => ∃ k : Nat, k ≤ m ∧ i = .int .i64 k ∧ Hid (((gl.take k).map fun q => q.2.2).all (fun g => morseB fs g fs.length) = true) ∧ Hid (Below w1.heap.size w1 wr)) (fun i _ => m - (intOf i).toNat)
    case atStart => exact ⟨0, Nat.zero_le _, rfl, hid (by simp), hid (Below.refl _ _)⟩
    case round =>
      obtain ⟨k, hk, rfl, Hk, HBr⟩ := hrel
      have HBw := hid (HB1.out.trans (HBr.out.mono HB1.out.size))
      by_cases hlt : k < m
      · obtain ⟨a, c, g, hgk, hck⟩ := Hcl.out k (by have := Hm.out; omega)
        have hmem : (a, c, g) ∈ gl := List.mem_of_getElem? hgk
        obtain ⟨hsg, hlg⟩ := Hgs.out _ hmem
        simp only at hsg hlg
        have hfg := Hfn.out g (List.mem_map.2 ⟨_, hmem, rfl⟩)
        have HI := hid (isMorse_any V a0 cap fs a c g wr (Hx.out.later HBw.out HBw.out.size) (hsg.later HBw.out HBw.out.size) HC.out (isFn_len hfg) (fn_wf hfg))
        have d1 := (HBw.out.cell (p := ⟨bs, k, none⟩) hbs).trans hck
        have k0 := (HBr.out.cell (p := ⟨w.heap.size, 0, none⟩) hs1).trans K0.out
        have k1 := (HBr.out.cell (p := ⟨w.heap.size, 1, none⟩) hs1).trans K1.out
        have hi0 : (0 : Int) ≤ (k : Int) := by omega
        have hi1 : (k : Int) < (m : Int) := by omega
        have Hsn : Hid (gl.take (k + 1) = gl.take k ++ [(a, c, g)]) := hid (by
          rw [List.take_add_one, hgk]
          rfl)
        have Hmem := hid hmem
        clear hsg hck hgk hmem hfg
        obtain ⟨n, hn⟩ : ∃ n, n = g.length := ⟨_, rfl⟩
        rw [← hn] at d1 hlg HI
        clear hn
        cases hb : morseB fs g fs.length
        · rw [hb] at HI
          have He : Hid (E = 5) := hid (by
            rw [HE.out, if_neg]
            rw [Bool.not_eq_true, List.all_eq_false]
            exact ⟨g, List.mem_map.2 ⟨_, Hmem.out, rfl⟩, by rw [hb]; simp⟩)
          clear hb
          go_wp2_with fail
          refine HI.out.mono ?_
          rintro e w2 ⟨rfl, hB2⟩
          have HB2 := hid (HBw.out.trans (hB2.mono HBw.out.size))
          clear hB2
          go_wp2_with fail
          go_ret
          exact ⟨ret_int (by rw [He.out]), HB2.out⟩
        · rw [hb] at HI
          have He : Hid (((gl.take (k + 1)).map fun q => q.2.2).all (fun g => morseB fs g fs.length) = true) := hid (by
            rw [Hsn.out, List.map_append, List.all_append, Hk.out]
            simp only [List.map_cons, List.map_nil, List.all_cons, List.all_nil, hb, Bool.and_self])
          clear hb
          go_wp2_with fail
          refine HI.out.mono ?_
          rintro e w2 ⟨rfl, hB2⟩
          have HB2 := hid (HBr.out.trans (hB2.mono HBr.out.size))
          clear hB2
          go_wp2_with fail
          go_roundw
          case rel => exact ⟨k + 1, by omega, by go_num, He, HB2⟩
          case measure => simp [intOf]; omega
      · have He : Hid (E = 0) := hid (by
          have h2 := Hk.out
          rw [List.take_of_length_le (by have := Hm.out; omega)] at h2
          rw [HE.out, h2, if_pos rfl])
        go_wp2_with fail
        go_ret
        exact ⟨ret_int (by rw [He.out]), HBw.out⟩
  · obtain ⟨c, hc⟩ : ∃ c, c = code4R V fs (gl.map fun q => q.2.2) := ⟨_, rfl⟩
    have He : Hid (E = c) := hid (by rw [hE, mcode4R, if_neg h0, hc])
    rw [← hc] at h0 HK
    have hcn : (c != 0) = true := by simpa using h0
    clear hc h0 hx hB0 hcl hgs hE hk0 hk1
    go_enter Try.func141, Try.ntmps141
    go_wp2_with fail
    refine HK.out.mono ?_
    rintro e w1 ⟨rfl, hB1⟩
    go_wp2_with fail
    go_ret
    exact ⟨ret_int (by rw [He.out]), HB0.out.trans (hB1.mono HB0.out.size)⟩

end Go.Proofs.Ytgcpakhagbbiiaa

/-! The parts of fallingPairs: what it deletes, and the first index of it. -/
namespace Go.Proofs.Ytgcpakhagbbiiaa
open Go.RowKit

/-- fallingPairs deletes a pair. -/
def dropB (fs gs : List Int) (x y : Int) : Bool := decide (numAt fs gs x < numAt fs gs y)

set_option maxRecDepth 100000 in
set_option maxHeartbeats 1000000 in
theorem drop_any (x y : Int) (bm b : Nat) (fs gs : List Int) (w : World) (hm : NumM w b fs gs fs.length) (hg : gs.length = fs.length) (hbm : w.cell? ⟨bm, 0, none⟩ = some (.map (some b))) (hlt : bm < w.heap.size)
    (hx : (Lit.int .i64 x).wf = true) (hy : (Lit.int .i64 y).wf = true) :
    Calls Try.prog 206 #[.agg #[.int .i64 x, .int .i64 y], .pointer (some ⟨bm, 0, none⟩)] w fun e w' => e = .returned (.bool (dropB fs gs x y)) ∧ Below w.heap.size w w' := by
  have htk : gs.take fs.length = gs := List.take_of_length_le (by omega)
  have hB0 : Below w.heap.size w (w.alloc (.cells #[.int .i64 x, .int .i64 y] 69)) := (Below.refl _ w).alloc (Nat.le_refl _) _
  have hm1 : NumM (w.alloc (.cells #[.int .i64 x, .int .i64 y] 69)) b fs gs fs.length := hm.kept (row := none) ⟨hB0.os, hB0.tape, hB0.output, hB0.size, fun q hq _ => hB0.block q hq⟩ (by simp)
  have hl1 := hm1.look hx
  have hl2 := hm1.look hy
  rw [htk] at hl1 hl2
  have hk := (hB0.cell (p := ⟨bm, 0, none⟩) hlt).trans hbm
  have HB0 := hid hB0
  clear hm hm1 hbm hB0
  go_enter Try.func206, Try.ntmps206
  go_wp2
  go_ret
  exact ⟨ret_bool rfl, HB0.out⟩

def dropAt (fs gs ps : List Int) (j : Nat) : Bool := dropB fs gs (at0 ps (j * 2)) (at0 ps (j * 2 + 1))

set_option maxRecDepth 100000 in
set_option maxHeartbeats 2000000 in
theorem idxp_any (bp off n cap : Nat) (ps : List Int) (bm b : Nat) (fs gs : List Int) (w : World) (hp : ps.length = 2 * n) (hn : n ≤ 1048576) (hbp : bp < w.heap.size) (hc : ∀ i, i < ps.length → w.cell? ⟨bp, off + i, none⟩ = some (.int .i64 (ps[i]?.getD 0)))
    (hm : NumM w b fs gs fs.length) (hg : gs.length = fs.length) (hbm : w.cell? ⟨bm, 0, none⟩ = some (.map (some b))) (hlt : bm < w.heap.size) (hwp : ∀ x ∈ ps, (Lit.int .i64 x).wf = true) :
    Calls Try.prog 201 #[.slice (some ⟨bp, off, none⟩) n cap, .func (.func 206) #[] #[.pointer (some ⟨bm, 0, none⟩)]] w fun e w' => ∃ (i : Int) (k : Nat), e = .returned (.int .i64 i) ∧ k ≤ n ∧ (∀ j, j < k → dropAt fs gs ps j = false) ∧ (k < n → i = k ∧ dropAt fs gs ps k = true) ∧ (k = n → i = -1) ∧ Below w.heap.size w w' := by
  have hent : ∀ args w, (callFunc 206 args).run Try.prog w = .ok (.enter 206 args) w := enters_of Try.func206 (by kernel_rfl) rfl
  have Hp := hid hp
  have Hc := hid hc
  have Hwp := hid hwp
  have HD := hid (fun (W' : World) (x y : Int) (hB : Below w.heap.size w W') hx hy => drop_any x y bm b fs gs W' (hm.kept (row := none) ⟨hB.os, hB.tape, hB.output, hB.size, fun q hq _ => hB.block q hq⟩ (by simp)) hg ((hB.cell (p := ⟨bm, 0, none⟩) hlt).trans hbm) (Nat.lt_of_lt_of_le hlt hB.size) hx hy)
  clear hp hc hwp hm hbm
  go_enter Try.func201, Try.ntmps201
  go_wp2
  go_loopw [8] (fun i wr => ∃ k : Nat, k ≤ n ∧ i = .int .i64 k ∧ Hid (∀ j, j < k → dropAt fs gs ps j = false) ∧ Hid (Below w.heap.size w wr)) (fun i _ => n - (intOf i).toNat)
  case atStart => exact ⟨0, Nat.zero_le _, rfl, hid (by intro j h; omega), hid (Below.refl _ _)⟩
  case round =>
    obtain ⟨k, hk, rfl, Hk, HB⟩ := hrel
    by_cases hlt2 : k < n
    · have hc2 : wr.cell? ⟨bp, off + k * 2, none⟩ = some (.int .i64 (at0 ps (k * 2))) := (HB.out.cell (p := ⟨bp, off + k * 2, none⟩) hbp).trans (Hc.out _ (by have := Hp.out; omega))
      have hc3 : wr.cell? ⟨bp, off + k * 2 + 1, none⟩ = some (.int .i64 (at0 ps (k * 2 + 1))) := (HB.out.cell (p := ⟨bp, off + (k * 2 + 1), none⟩) hbp).trans (Hc.out _ (by have := Hp.out; omega))
      have hw1 : (Lit.int .i64 (at0 ps (k * 2))).wf = true := Hwp.out _ (getD_mem (by have := Hp.out; omega))
      have hw2 : (Lit.int .i64 (at0 ps (k * 2 + 1))).wf = true := Hwp.out _ (getD_mem (by have := Hp.out; omega))
      have HC := hid (HD.out wr _ _ HB.out hw1 hw2)
      have Hd : Hid (dropAt fs gs ps k = dropB fs gs (at0 ps (k * 2)) (at0 ps (k * 2 + 1))) := hid rfl
      obtain ⟨x, hx⟩ : ∃ x, x = at0 ps (k * 2) := ⟨_, rfl⟩
      obtain ⟨y, hy⟩ : ∃ y, y = at0 ps (k * 2 + 1) := ⟨_, rfl⟩
      rw [← hx, ← hy] at HC Hd
      rw [← hx] at hc2
      rw [← hy] at hc3
      have hi0 : (0 : Int) ≤ (k : Int) := by omega
      have hi1 : (k : Int) < (n : Int) := by omega
      clear hx hy hw1 hw2
      cases hb : dropB fs gs x y
      · rw [hb] at HC Hd
        clear hb
        have He : Hid (∀ j, j < k + 1 → dropAt fs gs ps j = false) := hid (by
          intro j h
          by_cases e : j < k
          · exact Hk.out j e
          · obtain rfl : j = k := by omega
            exact Hd.out)
        go_wp2_with (go_at_call 206; refine HC.out.mono ?_; rintro e w1 ⟨rfl, hB1⟩; have HB1 := hid (HB.out.trans (hB1.mono HB.out.size)); clear hB1)
        go_roundw
        case rel => exact ⟨k + 1, by omega, by go_num, He, HB1⟩
        case measure => simp [intOf]; omega
      · rw [hb] at HC Hd
        clear hb
        go_wp2_with (go_at_call 206; refine HC.out.mono ?_; rintro e w1 ⟨rfl, hB1⟩; have HB1 := hid (HB.out.trans (hB1.mono HB.out.size)); clear hB1)
        go_ret
        exact ⟨_, k, rfl, hk, Hk.out, fun _ => ⟨rfl, Hd.out⟩, fun h => absurd h (by omega), HB1.out⟩
    · obtain rfl : k = n := by omega
      go_wp2_with fail
      go_ret
      exact ⟨_, k, rfl, hk, Hk.out, fun h => absurd h (by omega), fun _ => rfl, HB.out⟩

end Go.Proofs.Ytgcpakhagbbiiaa

/-! clear on a list of pairs, and what is left of a row behind it. -/
namespace Go.Proofs.Ytgcpakhagbbiiaa
open Go.RowKit

set_option maxRecDepth 100000 in
theorem run_clear_pairs (w : World) (ty : TypeId) (b o n c : Nat) (hn : 0 < n) (hc : ∀ j, j < n * 2 → (w.cell? ⟨b, o + j, none⟩).isSome = true) (hf : ∀ j, j < n * 2 → w.frozen? ⟨b, o + j, none⟩ = false) :
    (Builtin.clear_ #[32] ty #[.slice (some ⟨b, o, none⟩) n c]).run Try.prog w = .ok (.tuple #[]) (w.setCells b o (List.replicate (n * 2) (.int .i64 0))) := by
  have hcells : (Value.agg #[.int .i64 0, .int .i64 0]).cells = #[.int .i64 0, .int .i64 0] := rfl
  have hzc : (Builtin.zeroCells #[.int .i64 0, .int .i64 0] n).toList = List.replicate (n * 2) (.int .i64 0) := by
    simp [Builtin.zeroCells]
    apply List.ext_getElem
    · simp
    · intro i h1 h2
      simp
      rcases Nat.mod_two_eq_zero_or_one i with e | e <;> simp [e]
  have hst := run_storeCells_cells (P := Try.prog) b o (List.replicate (n * 2) (.int .i64 0)) 0 w (by simpa using hc) (by simpa using hf) (by intro v hv'; rw [List.eq_of_mem_replicate hv']; rfl)
  simp only [Nat.add_zero] at hst
  obtain ⟨m, rfl⟩ : ∃ m, n = m + 1 := ⟨n - 1, by omega⟩
  have hz := zero_pair w
  simp [Builtin.clear_, run_underlying Try.underlying32, hz, hcells, hzc, hst]

theorem own_setCells {base e size g n cap : Nat} (v : Value) : ∀ (m o : Nat) (w : World) (xs : List Value), w.ownsRow base e size (.slice (some ⟨g, 0, none⟩) n cap) n xs → o + m ≤ xs.length →
    ∃ ys, ys.take o = xs.take o ∧ (w.setCells g o (List.replicate m v)).ownsRow base e size (.slice (some ⟨g, 0, none⟩) n cap) n ys ∧ w.grownBy (w.setCells g o (List.replicate m v)) (some g)
  | 0, o, w, xs, h, _ => ⟨xs, rfl, h, ⟨rfl, rfl, rfl, Nat.le_refl _, fun _ _ _ => rfl⟩⟩
  | m + 1, o, w, xs, h, ho => by
    obtain ⟨h1, h2⟩ := h.stored o v
    obtain ⟨ys, e1, e2, e3⟩ := own_setCells v m (o + 1) _ _ h1 (by simp; omega)
    refine ⟨ys, ?_, e2, h2.trans e3⟩
    have := congrArg (List.take o) e1
    rw [List.take_take, List.take_take, Nat.min_eq_left (by omega)] at this
    rw [this, List.take_set_of_le (Nat.le_refl _)]

/-- The first pairs of a row. -/
theorem own_first {w : World} {base g n cap m size e : Nat} {xs : List Value} (h : w.ownsRow base e size (.slice (some ⟨g, 0, none⟩) n cap) n xs) (hm : m ≤ n) :
    w.ownsRow base e size (.slice (some ⟨g, 0, none⟩) m cap) m (xs.take (m * size)) := by
  rcases h.2 with ⟨h', _⟩ | ⟨g', cap', cur, h', hb, hg, hnc, hcm, hcs, htake⟩
  · simp at h'
  · simp only [Value.slice.injEq, Option.some.injEq, Addr.mk.injEq, and_true, true_and] at h'
    obtain ⟨rfl, rfl⟩ := h'
    have hms : m * size ≤ n * size := Nat.mul_le_mul_right _ hm
    refine ⟨by rw [List.length_take, h.1]; omega, .inr ⟨g, cap, cur, rfl, hb, hg, by omega, hcm, hcs, ?_⟩⟩
    rw [← htake, List.take_take, Nat.min_eq_left hms]

end Go.Proofs.Ytgcpakhagbbiiaa

/-! slices.DeleteFunc over pairs, as fallingPairs calls it. -/
namespace Go.Proofs.Ytgcpakhagbbiiaa
open Go.RowKit

def keepL (fs gs ps : List Int) : Nat → List Int
  | 0 => []
  | k + 1 => keepL fs gs ps k ++ (if dropAt fs gs ps k then [] else [at0 ps (k * 2), at0 ps (k * 2 + 1)])
theorem put_two (ys : List Int) (q : Nat) (x y : Int) (h : 2 * q + 1 < ys.length) : ((ys.set (q * 2) x).set (q * 2 + 1) y).take (2 * (q + 1)) = ys.take (2 * q) ++ [x, y] := by
  rw [show 2 * (q + 1) = q * 2 + 1 + 1 by omega, take_snoc (by simp; omega), take_snoc (by simp; omega), List.take_set_of_le (by omega), List.take_set_of_le (Nat.le_refl _), show 2 * q = q * 2 by omega]
  rw [List.getElem?_set_ne (by omega), List.getElem?_set_self (by omega), List.getElem?_set_self (by simp; omega)]
  simp
theorem keepL_len (fs gs ps : List Int) : ∀ k, ∃ q, (keepL fs gs ps k).length = 2 * q ∧ q ≤ k
  | 0 => ⟨0, rfl, Nat.le_refl _⟩
  | k + 1 => by
    obtain ⟨q, h1, h2⟩ := keepL_len fs gs ps k
    simp only [keepL, List.length_append, h1]
    split
    · exact ⟨q, by simp, by omega⟩
    · exact ⟨q + 1, by simp; omega, by omega⟩
theorem keepL_none {fs gs ps : List Int} : ∀ {k : Nat}, (∀ j, j < k → dropAt fs gs ps j = false) → 2 * k ≤ ps.length → keepL fs gs ps k = ps.take (2 * k)
  | 0, _, _ => rfl
  | k + 1, h, hl => by
    have e : 2 * (k + 1) = k * 2 + 1 + 1 := by omega
    rw [keepL, keepL_none (fun j hj => h j (by omega)) (by omega), h k (by omega), e, take_snoc (by omega), take_snoc (by omega), show 2 * k = k * 2 by omega]
    simp [at0]

set_option maxRecDepth 100000 in
set_option maxHeartbeats 4000000 in
theorem del_any (base g n cap : Nat) (ps : List Int) (bm b : Nat) (fs gs : List Int) (w : World) (hn : n ≤ 1048576) (hown : w.ownsRow base 69 2 (.slice (some ⟨g, 0, none⟩) n cap) n (ps.map (Value.int .i64)))
    (hm : NumM w b fs gs fs.length) (hg : gs.length = fs.length) (hbm : w.cell? ⟨bm, 0, none⟩ = some (.map (some b))) (hlt : bm < w.heap.size) (hwp : ∀ x ∈ ps, (Lit.int .i64 x).wf = true) (hne : bm ≠ g) (hne2 : b ≠ g) :
    Calls Try.prog 135 #[.slice (some ⟨g, 0, none⟩) n cap, .func (.func 206) #[] #[.pointer (some ⟨bm, 0, none⟩)]] w fun e w' => ∃ q : Nat, e = .returned (.slice (some ⟨g, 0, none⟩) q cap) ∧ (keepL fs gs ps n).length = 2 * q ∧ w'.ownsRow base 69 2 (.slice (some ⟨g, 0, none⟩) q cap) q ((keepL fs gs ps n).map (Value.int .i64)) ∧ w.grownBy w' (some g) := by
  have hent : ∀ args w, (callFunc 206 args).run Try.prog w = .ok (.enter 206 args) w := enters_of Try.func206 (by kernel_rfl) rfl
  obtain ⟨hgl, hnc, hcs⟩ := own_pairs hown
  have hp : ps.length = 2 * n := by have := hown.1; simp at this; omega
  have Hp := hid hp
  have HI := hid (idxp_any g 0 n cap ps bm b fs gs w hp hn hgl hcs hm hg hbm hlt hwp)
  have HD := hid (fun (W' : World) (x y : Int) (hB : w.grownBy W' (some g)) hx hy => drop_any x y bm b fs gs W' (hm.kept hB (by simpa using hne2)) hg ((World.cell?_of_block (hB.block bm hlt (by simpa using hne))).trans hbm) (Nat.lt_of_lt_of_le hlt hB.size) hx hy)
  have Hwp := hid hwp
  have Hown := hid hown
  clear hown hp hm hbm hwp hcs
  go_enter Try.func135, Try.ntmps135
  go_wp2_with fail
  refine HI.out.mono ?_
  rintro e w1 ⟨i, k, rfl, hk, hpre, hyes, hno, hB1⟩
  have HG1 : Hid (w.grownBy w1 (some g)) := hid ⟨hB1.os, hB1.tape, hB1.output, hB1.size, fun q hq _ => hB1.block q hq⟩
  have Hown1 := hid (row_later (B := 0) Hown.out hB1 rfl)
  clear hB1 HI
  by_cases hkn : k = n
  · obtain rfl := hno hkn
    have Hkl : Hid (keepL fs gs ps n = ps) := hid (by
      rw [← hkn, keepL_none hpre (by have := Hp.out; omega), List.take_of_length_le (by have := Hp.out; omega)])
    clear hyes hno hpre hkn hk
    go_wp2_with fail
    go_ret
    exact ⟨n, rfl, by rw [Hkl.out, Hp.out], by rw [Hkl.out]; exact Hown1.out, HG1.out⟩
  · have hlk : k < n := by omega
    obtain ⟨rfl, hdk⟩ := hyes hlk
    have hne1 : ((k : Int) == -1) = false := by first | (simp; done) | (simp; omega)
    have Hk1 : Hid (keepL fs gs ps (k + 1) = ps.take (2 * k)) := hid (by rw [keepL, hdk, keepL_none hpre (by have := Hp.out; omega)]; simp)
    clear hyes hno hpre hkn hk hdk
    go_wp2_with fail
    go_loopw [5, 6] (fun i j wr => ∃ m q : Nat, q < m ∧ m ≤ n ∧ j = .int .i64 m ∧ i = .int .i64 q ∧ Hid ((keepL fs gs ps m).length = 2 * q) ∧ Hid (∃ ys : List Int, ys.length = 2 * n ∧ ys.take (2 * q) = keepL fs gs ps m ∧ (∀ t, 2 * m ≤ t → ys[t]? = ps[t]?) ∧ wr.ownsRow base 69 2 (.slice (some ⟨g, 0, none⟩) n cap) n (ys.map (Value.int .i64))) ∧ Hid (w.grownBy wr (some g))) (fun _ j _ => n - (intOf j).toNat)
    case atStart => exact ⟨k + 1, k, by omega, by omega, by first | rfl | go_num, rfl, hid (by rw [Hk1.out, List.length_take]; have := Hp.out; omega), hid ⟨ps, Hp.out, Hk1.out.symm, fun _ _ => rfl, Hown1.out⟩, HG1⟩
    case round =>
      obtain ⟨m, q, hqm, hmn, rfl, rfl, Hl, HY, HG⟩ := hrel
      obtain ⟨ys, hyl, hy1, hy2, hyo⟩ := HY.out
      clear HY
      have Hyl := hid hyl
      have Hy1 := hid hy1
      have Hy2 := hid hy2
      by_cases hlt2 : m < n
      · obtain ⟨_, _, hcs⟩ := own_pairs hyo
        have e1 : ys[m * 2]?.getD 0 = at0 ps (m * 2) := by rw [hy2 _ (by omega)]; rfl
        have e2 : ys[m * 2 + 1]?.getD 0 = at0 ps (m * 2 + 1) := by rw [hy2 _ (by omega)]; rfl
        have hc2 := hcs (m * 2) (by omega)
        have hc3 := hcs (m * 2 + 1) (by omega)
        rw [e1, Nat.zero_add] at hc2
        rw [e2, Nat.zero_add] at hc3
        have hw1 : (Lit.int .i64 (at0 ps (m * 2))).wf = true := Hwp.out _ (getD_mem (by have := Hp.out; omega))
        have hw2 : (Lit.int .i64 (at0 ps (m * 2 + 1))).wf = true := Hwp.out _ (getD_mem (by have := Hp.out; omega))
        have Hd : Hid (dropAt fs gs ps m = dropB fs gs (at0 ps (m * 2)) (at0 ps (m * 2 + 1))) := hid rfl
        have Hs : Hid (keepL fs gs ps (m + 1) = keepL fs gs ps m ++ (if dropAt fs gs ps m then [] else [at0 ps (m * 2), at0 ps (m * 2 + 1)])) := hid rfl
        obtain ⟨x, hx⟩ : ∃ x, x = at0 ps (m * 2) := ⟨_, rfl⟩
        obtain ⟨y, hy⟩ : ∃ y, y = at0 ps (m * 2 + 1) := ⟨_, rfl⟩
        rw [← hx] at hc2
        rw [← hy] at hc3
        rw [← hx, ← hy] at Hd Hs
        rw [← hx] at hw1
        rw [← hy] at hw2
        have hz := zero_pair wr
        have hsz := HG.out.size
        have hB2 : Below wr.heap.size wr (wr.alloc (.cells #[.int .i64 x, .int .i64 y] 69)) := (Below.refl _ wr).alloc (Nat.le_refl _) _
        have HG2 : Hid (w.grownBy (wr.alloc (.cells #[.int .i64 x, .int .i64 y] 69)) (some g)) := hid (HG.out.trans ⟨hB2.os, hB2.tape, hB2.output, hB2.size, fun q hq _ => hB2.block q hq⟩)
        have HC := hid (HD.out _ x y HG2.out hw1 hw2)
        have Hyo := hid (row_later (B := 0) hyo hB2 rfl)
        have hi0 : (0 : Int) ≤ (m : Int) := by omega
        have hi1 : (m : Int) < (n : Int) := by omega
        have hgw : g < wr.heap.size := by omega
        clear hx hy hw1 hw2 e1 e2 hcs hyo hyl hy1 hy2 hB2
        cases hb : dropB fs gs x y
        · rw [hb] at HC Hd
          clear hb
          go_wp2_with fail
          refine HC.out.mono ?_
          rintro e w2 ⟨rfl, hB3⟩
          have q0 := (hB3.cell (p := ⟨wr.heap.size, 0, none⟩) (by simp)).trans (by simp [go_sem] : (wr.alloc (.cells #[.int .i64 x, .int .i64 y] 69)).cell? ⟨wr.heap.size, 0, none⟩ = some (.int .i64 x))
          have q1 := (hB3.cell (p := ⟨wr.heap.size, 1, none⟩) (by simp)).trans (by simp [go_sem] : (wr.alloc (.cells #[.int .i64 x, .int .i64 y] 69)).cell? ⟨wr.heap.size, 1, none⟩ = some (.int .i64 y))
          have HG3 : Hid (w.grownBy w2 (some g)) := hid (HG2.out.trans ⟨hB3.os, hB3.tape, hB3.output, hB3.size, fun q hq _ => hB3.block q hq⟩)
          have hyo3 := row_later (B := 0) Hyo.out hB3 rfl
          have hcu := hyo3.cellAt (q * 2) (by omega)
          have hcu2 := hyo3.cellAt (q * 2 + 1) (by omega)
          have hls : (ys.map (Value.int .i64)).length = 2 * n := by simp [Hyl.out]
          rw [List.getElem?_eq_getElem (by omega)] at hcu hcu2
          have hfg := hyo3.frozenAt (q * 2)
          have hfg2 := hyo3.frozenAt (q * 2 + 1)
          have hst := hyo3.stored (q * 2) (.int .i64 x)
          have hst2 := hst.1.stored (q * 2 + 1) (.int .i64 y)
          rw [← List.map_set, ← List.map_set] at hst2
          have Hst := hid hst2.1
          have HG4 := hid ((HG3.out.trans hst.2).trans hst2.2)
          have He : Hid (keepL fs gs ps (m + 1) = keepL fs gs ps m ++ [x, y]) := hid (by rw [Hs.out, Hd.out]; simp)
          have hj0 : (0 : Int) ≤ (q : Int) := by omega
          have hj1 : (q : Int) < (n : Int) := by omega
          clear hB3 hyo3 hst hst2
          go_wp2_with fail
          go_roundw
          case rel => exact ⟨m + 1, q + 1, by omega, by omega, by go_num, by go_num, hid (by rw [He.out, List.length_append, Hl.out]; rfl), hid ⟨(ys.set (q * 2) x).set (q * 2 + 1) y, by simp [Hyl.out], by rw [He.out, put_two _ _ _ _ (by have := Hyl.out; omega), Hy1.out], fun t ht => by rw [List.getElem?_set_ne (by omega), List.getElem?_set_ne (by omega)]; exact Hy2.out t (by omega), Hst.out⟩, HG4⟩
          case measure => simp [intOf]; omega
        · rw [hb] at HC Hd
          clear hb
          go_wp2_with fail
          refine HC.out.mono ?_
          rintro e w2 ⟨rfl, hB3⟩
          have HG3 : Hid (w.grownBy w2 (some g)) := hid (HG2.out.trans ⟨hB3.os, hB3.tape, hB3.output, hB3.size, fun q hq _ => hB3.block q hq⟩)
          have Hyo3 := hid (row_later (B := 0) Hyo.out hB3 rfl)
          have He : Hid (keepL fs gs ps (m + 1) = keepL fs gs ps m) := hid (by rw [Hs.out, Hd.out]; simp)
          clear hB3
          go_wp2_with fail
          go_roundw
          case rel => exact ⟨m + 1, q, by omega, by omega, by go_num, rfl, hid (by rw [He.out]; exact Hl.out), hid ⟨ys, Hyl.out, by rw [He.out]; exact Hy1.out, fun t ht => Hy2.out t (by omega), Hyo3.out⟩, HG3⟩
          case measure => simp [intOf]; omega
      · obtain rfl : m = n := by omega
        obtain ⟨_, _, hcs⟩ := own_pairs hyo
        have hcl : ∀ ty, (Builtin.clear_ #[32] ty #[.slice (some ⟨g, q * 2, none⟩) (m - q) (cap - q)]).run Try.prog wr = .ok (.tuple #[]) (wr.setCells g (q * 2) (List.replicate ((m - q) * 2) (.int .i64 0))) :=
          fun ty => run_clear_pairs wr ty g (q * 2) (m - q) (cap - q) (by omega) (fun j hj => by have := hcs (q * 2 + j) (by omega); rw [Nat.zero_add] at this; rw [this]; rfl) (fun j hj => hyo.frozenAt _)
        obtain ⟨zs, hz1, hz2, hz3⟩ := own_setCells (.int .i64 0) ((m - q) * 2) (q * 2) wr _ hyo (by simp; omega)
        have hfin := own_first (m := q) hz2 (by omega)
        rw [hz1, ← List.map_take, show q * 2 = 2 * q by omega, hy1, show 2 * q = q * 2 by omega] at hfin
        have Hfin := hid hfin
        have HGf := hid (HG.out.trans hz3)
        have hi0 : (0 : Int) ≤ (q : Int) := by omega
        have hi1 : (q : Int) ≤ (m : Int) := by omega
        have hi2 : (q : Int) ≤ (cap : Int) := by omega
        clear hfin hz1 hz2 hz3 hcs hyo hy2
        go_wp2_with fail
        go_ret
        exact ⟨q, rfl, Hl.out, Hfin.out, HGf.out⟩

end Go.Proofs.Ytgcpakhagbbiiaa

/-! All pairs of a complex, in order. -/
namespace Go.Proofs.Ytgcpakhagbbiiaa
open Go.RowKit

theorem asc_ext2 : ∀ {a b : List Int}, a.Pairwise (· < ·) → b.Pairwise (· < ·) → (∀ x, x ∈ a ↔ x ∈ b) → a = b
  | [], [], _, _, _ => rfl
  | [], y :: b, _, _, h => by have := (h y).2 (by simp); simp at this
  | x :: a, [], _, _, h => by have := (h x).1 (by simp); simp at this
  | x :: a, y :: b, ha, hb, h => by
    obtain ⟨ha1, ha2⟩ := List.pairwise_cons.1 ha
    obtain ⟨hb1, hb2⟩ := List.pairwise_cons.1 hb
    have hxy : x = y := by
      rcases List.mem_cons.1 ((h x).1 (by simp)) with e | hx
      · exact e
      · rcases List.mem_cons.1 ((h y).2 (by simp)) with e | hy
        · exact e.symm
        · have h1 := hb1 _ hx; have h2 := ha1 _ hy; omega
    subst hxy
    have : a = b := asc_ext2 ha2 hb2 (fun z => by
      have hz := h z
      simp only [List.mem_cons] at hz
      constructor
      · intro hm
        rcases hz.1 (.inr hm) with e | hm'
        · subst e; have := ha1 _ hm; omega
        · exact hm'
      · intro hm
        rcases hz.2 (.inr hm) with e | hm'
        · subst e; have := hb1 _ hm; omega
        · exact hm')
    rw [this]
theorem insP_end {x y : Int} {L : List (Int × Int)} (h : ∀ p ∈ L, lessP x y p.1 p.2 = false) : insP (flatP L) L.length x y = flatP (L ++ [(x, y)]) := by
  have hp : placeP (flatP L) x y L.length = L.length := by
    obtain ⟨n, hn⟩ : ∃ n, n = L.length := ⟨_, rfl⟩
    rw [← hn]
    cases n with
    | zero => rfl
    | succ k =>
      have hk : k < L.length := by omega
      obtain ⟨e1, e2⟩ := flatP_at L k hk
      unfold placeP
      rw [e1, e2, h _ (by rw [List.getElem?_eq_getElem hk]; exact List.getElem_mem hk)]
      simp
  unfold insP
  rw [hp, flatP_snoc, List.take_of_length_le (by rw [flatP_len]; exact Nat.le_refl _), List.drop_of_length_le (by rw [flatP_len]; exact Nat.le_refl _)]
theorem less_first {x y a b : Int} (h : a < x) : lessP x y a b = false := by
  unfold lessP
  simp
  omega
theorem less_second {x y b : Int} (h : b < y) : lessP x y x b = false := by
  unfold lessP
  simp
  omega
theorem up_asc : ∀ x : Fin 64, ∀ u v : Fin 6, u.val < v.val → x.val ||| 2 ^ u.val ≠ x.val → x.val ||| 2 ^ v.val ≠ x.val → x.val ||| 2 ^ u.val < x.val ||| 2 ^ v.val := by decide +kernel
theorem upS_eq {V : Int} {fs : List Int} (hC : IsC V fs) {x : Int} (hx : x ∈ fs) : upS fs x.toNat V.toNat = (aboveL fs x.toNat).map fun h => (x, h) := by
  have hr := hC.range63 x hx
  have hhi := hC.hi
  have hxe : ((x.toNat : Nat) : Int) = x := Int.toNat_of_nonneg (by omega)
  have h1 : upS fs x.toNat V.toNat = ((upS fs x.toNat V.toNat).map Prod.snd).map fun h => (x, h) := by
    unfold upS
    rw [List.map_map, List.map_map]
    refine List.map_congr_left (fun v _ => ?_)
    simp only [Function.comp]
    rw [hxe]
  rw [h1]
  congr 1
  refine asc_ext2 ?_ (hC.asc.sublist List.filter_sublist) (fun y => ?_)
  · unfold upS
    rw [List.map_map, List.pairwise_map]
    have hs : (List.range V.toNat).Pairwise fun a b => a < b := List.pairwise_lt_range
    have h3 := (hs.sublist (List.filter_sublist (p := fun v => decide (x.toNat ||| 2 ^ v ≠ x.toNat) && decide (((x.toNat ||| 2 ^ v : Nat) : Int) ∈ fs))))
    refine List.Pairwise.imp_of_mem ?_ h3
    intro a b ha hb hab
    simp only [List.mem_filter, List.mem_range, Bool.and_eq_true, decide_eq_true_eq] at ha hb
    simp only [Function.comp]
    have := up_asc ⟨x.toNat, by omega⟩ ⟨a, by omega⟩ ⟨b, by omega⟩ hab ha.2.1 hb.2.1
    simp only at this
    exact_mod_cast this
  · have hm := mem_pairsL hC x y
    have h2 : y ∈ (upS fs x.toNat V.toNat).map Prod.snd ↔ (x, y) ∈ pairsL fs V.toNat fs.length := by
      unfold pairsL
      rw [List.take_of_length_le (Nat.le_refl _)]
      constructor
      · intro h
        obtain ⟨p, hp, rfl⟩ := List.mem_map.1 h
        refine List.mem_flatMap.2 ⟨x, hx, ?_⟩
        have e : p.1 = x := by
          unfold upS at hp
          obtain ⟨v, _, rfl⟩ := List.mem_map.1 hp
          exact hxe
        rw [show (x, p.2) = p from Prod.ext e.symm rfl]
        exact hp
      · intro h
        obtain ⟨z, hz, hp⟩ := List.mem_flatMap.1 h
        have hrz := hC.range63 z hz
        have e : z = x := by
          unfold upS at hp
          obtain ⟨v, _, he⟩ := List.mem_map.1 hp
          injection he with he _
          omega
        subst e
        exact List.mem_map.2 ⟨_, hp, rfl⟩
    rw [h2, hm]
    unfold pairB aboveL
    simp only [List.mem_filter, Bool.and_eq_true, decide_eq_true_eq]
    constructor
    · rintro ⟨⟨⟨_, h3⟩, h4⟩, h5⟩
      exact ⟨h3, by rw [Nat.and_comm]; exact h4, h5⟩
    · rintro ⟨h3, h4, h5⟩
      exact ⟨⟨⟨hx, h3⟩, by rw [Nat.and_comm]; exact h4⟩, h5⟩

/-- The pairs of one face. -/
def upP (fs : List Int) (x : Int) : List (Int × Int) := (aboveL fs x.toNat).map fun h => (x, h)
/-- The pairs of the first k faces. -/
def allP (fs : List Int) (k : Nat) : List (Int × Int) := (fs.take k).flatMap (upP fs)
theorem allP_succ {fs : List Int} {k : Nat} (hk : k < fs.length) : allP fs (k + 1) = allP fs k ++ upP fs (fs[k]?.getD 0) := by
  unfold allP
  rw [take_snoc hk, List.flatMap_append]
  simp
theorem allP_pairs {V : Int} {fs : List Int} (hC : IsC V fs) : pairsL fs V.toNat fs.length = allP fs fs.length := by
  unfold pairsL allP
  rw [List.take_of_length_le (Nat.le_refl _), List.flatMap_def, List.flatMap_def]
  congr 1
  exact List.map_congr_left (fun x hx => upS_eq hC hx)
theorem upP_len (fs : List Int) (x : Int) : (upP fs x).length ≤ fs.length := by
  unfold upP
  rw [List.length_map]
  exact List.length_filter_le _ _
theorem allP_len {fs : List Int} (h : fs.length ≤ 63) : ∀ k, k ≤ fs.length → (allP fs k).length ≤ k * 63
  | 0, _ => by simp [allP]
  | k + 1, hk => by
    have := allP_len h k (by omega)
    rw [allP_succ (by omega), List.length_append]
    have := upP_len fs (fs[k]?.getD 0)
    omega
/-- What stands ahead of the pairs of a face. -/
theorem allP_ahead {V : Int} {fs : List Int} (hC : IsC V fs) {k j : Nat} (hk : k < fs.length) (hj : j < (aboveL fs (fs[k]?.getD 0).toNat).length) :
    ∀ p ∈ allP fs k ++ (upP fs (fs[k]?.getD 0)).take j, lessP (fs[k]?.getD 0) ((aboveL fs (fs[k]?.getD 0).toNat)[j]?.getD 0) p.1 p.2 = false := by
  intro p hp
  rcases List.mem_append.1 hp with hp | hp
  · refine less_first ?_
    unfold allP at hp
    obtain ⟨x, hx, hp⟩ := List.mem_flatMap.1 hp
    unfold upP at hp
    obtain ⟨h, _, rfl⟩ := List.mem_map.1 hp
    have hft : ∀ x ∈ fs.take k, x < fs[k]?.getD 0 := by
      have h2 := hC.asc.sublist (List.take_sublist (k + 1) fs)
      rw [take_snoc hk] at h2
      exact fun y hm => (List.pairwise_append.1 h2).2.2 y hm _ (by simp)
    exact hft x hx
  · unfold upP at hp
    rw [← List.map_take] at hp
    obtain ⟨h, hm, rfl⟩ := List.mem_map.1 hp
    refine less_second ?_
    have hh : (aboveL fs (fs[k]?.getD 0).toNat).Pairwise (· < ·) := hC.asc.sublist List.filter_sublist
    have h2 := hh.sublist (List.take_sublist (j + 1) _)
    rw [take_snoc hj] at h2
    exact (List.pairwise_append.1 h2).2.2 h hm _ (by simp)

end Go.Proofs.Ytgcpakhagbbiiaa

/-! The pairs of a function: the model's insertions and the program's deletions give the same list. -/
namespace Go.Proofs.Ytgcpakhagbbiiaa
open Go.RowKit

def fallsTo (fs gs : List Int) (gi : Int) (f : Int) (hs : List Int) : List (Int × Int) := (hs.filter fun h => decide (numAt fs gs h ≤ gi)).map fun h => (f, h)
theorem insTo_eq (fs gs : List Int) (f gi : Int) (hs : List Int) (hh : hs.Pairwise (· < ·)) (L : List (Int × Int)) (hL : ∀ p ∈ L, p.1 < f) : ∀ j, j ≤ hs.length → insTo fs gs f gi hs (flatP L) j = flatP (L ++ fallsTo fs gs gi f (hs.take j))
  | 0, _ => by simp [insTo, fallsTo]
  | j + 1, hj => by
    have hlt : j < hs.length := by omega
    obtain ⟨y, hy⟩ : ∃ y, y = hs[j]?.getD 0 := ⟨_, rfl⟩
    have hyt : ∀ h ∈ hs.take j, h < y := by
      have h2 := hh.sublist (List.take_sublist (j + 1) hs)
      rw [take_snoc hlt, ← hy] at h2
      exact fun h hm => (List.pairwise_append.1 h2).2.2 h hm y (by simp)
    rw [insTo, insTo_eq fs gs f gi hs hh L hL j (by omega), ← hy]
    have hsp : fallsTo fs gs gi f (hs.take (j + 1)) = fallsTo fs gs gi f (hs.take j) ++ (if numAt fs gs y ≤ gi then [(f, y)] else []) := by
      unfold fallsTo
      rw [take_snoc hlt, ← hy, List.filter_append, List.map_append]
      by_cases hc : numAt fs gs y ≤ gi <;> simp [hc]
    rw [hsp]
    by_cases hc : numAt fs gs y ≤ gi
    · rw [if_pos hc, if_pos hc, flatP_len, Nat.mul_div_cancel_left _ (by decide), insP_end, List.append_assoc]
      intro p hp
      rcases List.mem_append.1 hp with hp | hp
      · exact less_first (hL p hp)
      · unfold fallsTo at hp
        obtain ⟨h, hm, rfl⟩ := List.mem_map.1 hp
        exact less_second (hyt h (List.mem_filter.1 hm).1)
    · rw [if_neg hc, if_neg hc, List.append_nil]
/-- The pairs of the first k faces, as a list of pairs. -/
def fnP (fs gs : List Int) (k : Nat) : List (Int × Int) := (fs.take k).flatMap fun x => fallsTo fs gs (numAt fs gs x) x (aboveL fs x.toNat)
theorem fnPairs_eq {V : Int} {fs gs : List Int} (hC : IsC V fs) (hg : gs.length = fs.length) : ∀ k, k ≤ fs.length → fnPairs fs gs k = flatP (fnP fs gs k)
  | 0, _ => rfl
  | k + 1, hk => by
    have hlt : k < fs.length := by omega
    have hgi : gs[k]?.getD 0 = numAt fs gs (fs[k]?.getD 0) := (numAt_some (by omega) rfl (fun j hj e => isC_distinct hC j k hj hlt e)).symm
    obtain ⟨f, hf⟩ : ∃ f, f = fs[k]?.getD 0 := ⟨_, rfl⟩
    have hft : ∀ x ∈ fs.take k, x < f := by
      have h2 := hC.asc.sublist (List.take_sublist (k + 1) fs)
      rw [take_snoc hlt, ← hf] at h2
      exact fun x hm => (List.pairwise_append.1 h2).2.2 x hm f (by simp)
    rw [fnPairs, fnPairs_eq hC hg k (by omega), hgi, ← hf, insTo_eq fs gs f _ (aboveL fs f.toNat) (hC.asc.sublist List.filter_sublist) _ ?_ _ (Nat.le_refl _), List.take_of_length_le (Nat.le_refl _)]
    · unfold fnP
      rw [take_snoc hlt, ← hf, List.flatMap_append]
      simp
    · intro p hp
      obtain ⟨x, hx, hp⟩ := List.mem_flatMap.1 hp
      unfold fallsTo at hp
      obtain ⟨h, _, rfl⟩ := List.mem_map.1 hp
      exact hft x hx

theorem keepL_flat (fs gs : List Int) (L : List (Int × Int)) : ∀ k, k ≤ L.length → keepL fs gs (flatP L) k = flatP ((L.take k).filter fun p => !dropB fs gs p.1 p.2)
  | 0, _ => rfl
  | k + 1, hk => by
    have hlt : k < L.length := by omega
    obtain ⟨e1, e2⟩ := flatP_at L k hlt
    rw [keepL, keepL_flat fs gs L k (by omega), dropAt, e1, e2, List.take_add_one, List.getElem?_eq_getElem hlt, List.filter_append]
    simp only [Option.getD_some, Option.toList_some]
    cases hd : dropB fs gs L[k].1 L[k].2
    · simp [hd, flatP_snoc]
    · simp [hd]
/-- What fallingPairs leaves of all pairs is what the model's l04Pairs puts in. -/
theorem keep_fn {V : Int} {fs : List Int} (gs : List Int) (hC : IsC V fs) : keepL fs gs (flatP (pairsL fs V.toNat fs.length)) (pairsL fs V.toNat fs.length).length = flatP (fnP fs gs fs.length) := by
  rw [keepL_flat _ _ _ _ (Nat.le_refl _), List.take_of_length_le (Nat.le_refl _)]
  congr 1
  unfold pairsL fnP
  rw [List.take_of_length_le (Nat.le_refl _), List.filter_flatMap]
  have key : ∀ xs : List Int, (∀ x ∈ xs, x ∈ fs) → (xs.flatMap fun x => List.filter (fun p => !dropB fs gs p.1 p.2) (upS fs x.toNat V.toNat)) = xs.flatMap fun x => fallsTo fs gs (numAt fs gs x) x (aboveL fs x.toNat) := by
    intro xs
    induction xs with
    | nil => simp
    | cons x xs ih =>
      intro h
      rw [List.flatMap_cons, List.flatMap_cons, ih (fun z hz => h z (List.mem_cons_of_mem _ hz)), upS_eq hC (h x (by simp)), List.filter_map]
      congr 1
      unfold fallsTo
      congr 1
      refine List.filter_congr (fun y _ => ?_)
      simp only [Function.comp, dropB]
      by_cases hc : numAt fs gs x < numAt fs gs y
      · rw [decide_eq_true hc, decide_eq_false (by omega)]; rfl
      · rw [decide_eq_false hc, decide_eq_true (by omega)]; rfl
  exact key fs (fun _ h => h)

end Go.Proofs.Ytgcpakhagbbiiaa
