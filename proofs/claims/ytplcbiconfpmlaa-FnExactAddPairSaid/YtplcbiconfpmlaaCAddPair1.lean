import Derived.Test.YtplcbiconfpmlaaMB8
import Derived.Test.YtplcbiconfpmlaaMB5
import Derived.Test.YtplcbiconfpmlaaMB6
import Derived.Test.YtplcbiconfpmlaaMB7
import Derived.Test.YtplcbiconfpmlaaMB3
/-! l08Code. -/
namespace Go.Proofs.Ytplcbiconfpmlaa
open Go.RowKit

theorem pcode_zero {V : Int} {fs ps : List Int} {n : Nat} (h : pcodeR V fs n ps = 0) : IsC V fs ∧ OkTo fs ps n := by
  rcases pcode_cases V fs n ps with ⟨hC, ho, _⟩ | ⟨_, _, h2, _⟩ | ⟨_, h2, _⟩
  · exact ⟨hC, ho⟩
  · rw [h2] at h; cases h
  · rw [h2] at h; cases h
theorem acode_zero {V : Int} {fs ps : List Int} {n : Nat} (h : acodeR V fs n ps true = 0) : IsC V fs ∧ OkTo fs ps n ∧ acyB ps n = true := by
  unfold acodeR at h
  by_cases hp : pcodeR V fs n ps = 0
  · rw [if_pos hp, if_pos rfl] at h
    refine ⟨(pcode_zero hp).1, (pcode_zero hp).2, ?_⟩
    cases ha : acyB ps n
    · rw [ha] at h; cases h
    · rfl
  · rw [if_neg hp] at h
    exact absurd h hp

set_option maxRecDepth 1000000 in
set_option maxHeartbeats 2000000 in
theorem code8_any (V : Int) (a0 : Option Addr) (cap : Nat) (fs : List Int) (a1 : Option Addr) (n cap1 : Nat) (ps : List Int) (w : World) (hx : SlI w w.heap.size a0 fs) (hx1 : SlI w w.heap.size a1 ps) (hl : fs.length ≤ 1048576) (hp : ps.length = 2 * n) (hn : n ≤ 1048576) :
    Calls Try.prog 62 #[.agg #[.int .i64 V, .slice a0 fs.length cap], .slice a1 n cap1] w fun e w' => e = .returned (.int .i64 (acodeR V fs n ps true)) ∧ Below w.heap.size w w' := by
  have hB0 : Below w.heap.size w (w.alloc (.cells #[.int .i64 V, .slice a0 fs.length cap] 28)) := (Below.refl _ w).alloc (Nat.le_refl _) _
  have HK := hid (pcode_spec V a0 cap fs a1 n cap1 ps _ (hx.later hB0 hB0.size) (hx1.later hB0 hB0.size) hl hp hn)
  have HB0 := hid hB0
  by_cases hpc : pcodeR V fs n ps = 0
  · obtain ⟨hC, hO⟩ := pcode_zero hpc
    have HA := hid (fun (W : World) (h : Below w.heap.size w W) => acyclicS_any a1 n cap1 ps W (hx1.later h h.size) hp hn (okTo_highs hC hO) (okTo_lows hC hO))
    have HE : Hid (acodeR V fs n ps true = if acyB ps n = true then 0 else 5) := hid (by unfold acodeR; rw [if_pos hpc, if_pos rfl])
    rw [hpc] at HK
    obtain ⟨E, hE⟩ : ∃ E, E = acodeR V fs n ps true := ⟨_, rfl⟩
    rw [← hE] at HE ⊢
    obtain ⟨ab, hab⟩ : ∃ ab, ab = acyB ps n := ⟨_, rfl⟩
    rw [← hab] at HE HA
    clear hx hx1 hB0 hpc hE hab hC hO
    go_enter Try.func62, Try.ntmps62
    go_wp2_with fail
    refine HK.out.mono ?_
    rintro e w1 ⟨rfl, hB1⟩
    have HB1 := hid (HB0.out.trans (hB1.mono (by simp)))
    clear hB1
    cases ab
    · go_wp2_with (go_at_call 77; refine (HA.out _ HB1.out).mono ?_; rintro e w2 ⟨rfl, hB2⟩; have HB2 := hid hB2; clear hB2)
      go_ret
      exact ⟨by rw [HE.out]; rfl, HB1.out.trans (HB2.out.mono HB1.out.size)⟩
    · go_wp2_with (go_at_call 77; refine (HA.out _ HB1.out).mono ?_; rintro e w2 ⟨rfl, hB2⟩; have HB2 := hid hB2; clear hB2)
      go_ret
      exact ⟨by rw [HE.out]; rfl, HB1.out.trans (HB2.out.mono HB1.out.size)⟩
  · have HE : Hid (acodeR V fs n ps true = pcodeR V fs n ps) := hid (by unfold acodeR; rw [if_neg hpc])
    obtain ⟨E, hE⟩ : ∃ E, E = acodeR V fs n ps true := ⟨_, rfl⟩
    rw [← hE] at HE ⊢
    rw [← HE.out] at HK hpc
    have hcn : (E == 0) = false := by simpa using hpc
    clear hx hx1 hB0 hpc hE
    go_enter Try.func62, Try.ntmps62
    go_wp2_with fail
    refine HK.out.mono ?_
    rintro e w1 ⟨rfl, hB1⟩
    have HB1 := hid (HB0.out.trans (hB1.mono (by simp)))
    clear hB1
    go_wp2_with fail
    go_ret
    exact ⟨rfl, HB1.out⟩

end Go.Proofs.Ytplcbiconfpmlaa

/-! A pairing that is acyclic with a pair more is acyclic; AddPair, both doors. -/
namespace Go.Proofs.Ytplcbiconfpmlaa
open Go.RowKit

/-- The places of the pairs behind an insertion. -/
def upAt (k i : Nat) : Nat := if i < k then i else i + 1
theorem ins_at {ps : List Int} {n k : Nat} (hp : ps.length = 2 * n) (hk : k ≤ n) (x y : Int) (i : Nat) : at0 (insAt ps k x y) (upAt k i * 2) = at0 ps (i * 2) ∧ at0 (insAt ps k x y) (upAt k i * 2 + 1) = at0 ps (i * 2 + 1) := by
  unfold upAt
  split
  · exact ⟨insAt_lo hp hk x y (by omega), insAt_lo hp hk x y (by omega)⟩
  · exact ⟨by rw [show (i + 1) * 2 = i * 2 + 2 by omega]; exact insAt_hi hp hk x y (by omega), by rw [show (i + 1) * 2 + 1 = (i * 2 + 1) + 2 by omega]; exact insAt_hi hp hk x y (by omega)⟩
theorem high_ins {ps : List Int} {n k : Nat} {x y : Int} (hp : ps.length = 2 * n) (hk : k ≤ n) (hd : LowsApart (insAt ps k x y) (n + 1)) {i : Nat} (hi : i < n) : highOf (insAt ps k x y) (n + 1) (at0 ps (i * 2)) = at0 ps (i * 2 + 1) := by
  obtain ⟨e1, e2⟩ := ins_at hp hk x y i
  have hu : upAt k i < n + 1 := by unfold upAt; split <;> omega
  rw [highOf_some hu e1 (fun j hj e => hd j (upAt k i) hj hu (e.trans e1.symm)), e2]
theorem next_ins {ps : List Int} {n k : Nat} {x y : Int} (hp : ps.length = 2 * n) (hk : k ≤ n) (hd0 : LowsApart ps n) (hd : LowsApart (insAt ps k x y) (n + 1)) {a z : Int} (h : z ∈ nextL ps n a) : z ∈ nextL (insAt ps k x y) (n + 1) a := by
  by_cases hex : ∃ i, i < n ∧ at0 ps (i * 2) = a
  · obtain ⟨i, hi, rfl⟩ := hex
    have e : highOf (insAt ps k x y) (n + 1) (at0 ps (i * 2)) = highOf ps n (at0 ps (i * 2)) := by
      rw [high_ins hp hk hd hi, highOf_some hi rfl (fun j hj e => hd0 j i hj hi e)]
    unfold nextL at h ⊢
    rw [e]
    exact h
  · have e : highOf ps n a = 0 := highOf_none (fun j hj e => hex ⟨j, hj, e⟩)
    unfold nextL at h
    rw [if_pos e] at h
    simp at h
theorem way_ins {ps : List Int} {n k : Nat} {x y : Int} (hp : ps.length = 2 * n) (hk : k ≤ n) (hd0 : LowsApart ps n) (hd : LowsApart (insAt ps k x y) (n + 1)) {a z : Int} (h : Way ps n a z) : Way (insAt ps k x y) (n + 1) a z := by
  induction h with
  | one h => exact .one (next_ins hp hk hd0 hd h)
  | more _ h ih => exact .more ih (next_ins hp hk hd0 hd h)
theorem acy_ins {fs ps : List Int} {n : Nat} {x y : Int} (hp : ps.length = 2 * n) (hO : OkTo fs ps n) (h : withB fs ps n x y = true) : acyB ps n = true := by
  have hI := withB_ok h
  unfold withB at h
  rw [Bool.and_eq_true] at h
  rw [← insAt_eq] at hI h
  refine acyB_true (fun i hi hw => ?_)
  have hw2 := way_ins hp (placeP_le ps x y n) (okTo_apart hO) (okTo_apart hI) hw
  have hN : NoCycle (insAt ps (placeP ps x y n) x y) (n + 1) := Classical.byContradiction fun hn => by
    rw [acyB_false hn] at h
    cases h.2
  rw [← (ins_at hp (placeP_le ps x y n) x y i).1] at hw2
  exact hN (upAt (placeP ps x y n) i) (by unfold upAt; split <;> omega) hw2

noncomputable def addR (V : Int) (fs : List Int) (n : Nat) (ps : List Int) (x y : Int) : List (Int × Int) × Int :=
  if pcodeR V fs n ps = 0 then (if pairB fs x y = true then (if withB fs ps n x y = true then (unP (insP ps n x y), 0) else ([], 5)) else ([], 2)) else ([], pcodeR V fs n ps)
theorem addR_len (V : Int) (fs : List Int) (n : Nat) (ps : List Int) (x y : Int) (_h : fs.length ≤ 1048576) (hp : ps.length = 2 * n) (_hn : n ≤ 1048576) : (addR V fs n ps x y).1.length ≤ 1048576 := by
  unfold addR
  split
  · next h =>
    obtain ⟨hC, hO⟩ := pcode_zero h
    split
    · split
      · have := okTo_len hC hO
        rw [unP_len (n + 1) _ (insP_len hp x y)]
        omega
      · simp
    · simp
  · simp

theorem below_dnA {w1 w2 : World} (h2 : Below w1.drew.heap.size w1.drew w2) : Below w1.heap.size w1 w2 := ⟨h2.os, h2.tape, h2.output, h2.size, h2.block⟩

set_option maxRecDepth 1000000 in
set_option maxHeartbeats 4000000 in
theorem implAddPair (V : Int) (a0 : Option Addr) (cap : Nat) (fs : List Int) (a1 : Option Addr) (n cap1 : Nat) (ps : List Int) (x y : Int) (w : World) (hx : SlI w w.heap.size a0 fs) (hx1 : SlI w w.heap.size a1 ps) (hl : fs.length ≤ 1048576) (hp : ps.length = 2 * n) (hn : n ≤ 1048576) (hw : ∀ x ∈ ps, (Lit.int .i64 x).wf = true) (wx : (Lit.int .i64 x).wf = true) (wy : (Lit.int .i64 y).wf = true) :
    Calls Try.prog 38 #[.agg #[.int .i64 V, .slice a0 fs.length cap], .slice a1 n cap1, .agg #[.int .i64 x, .int .i64 y]] w fun e w' => ∃ v, e = .returned (.tuple #[v, .int .i64 (addR V fs n ps x y).2]) ∧ ResP w w' v (addR V fs n ps x y).1 := by
  obtain ⟨W0, hW0⟩ : ∃ W0, W0 = (w.alloc (.cells #[.int .i64 V, .slice a0 fs.length cap] 28)).alloc (.cells #[.int .i64 x, .int .i64 y] 49) := ⟨_, rfl⟩
  have hB0 : Below w.heap.size w W0 := by rw [hW0]; exact ((Below.refl _ w).alloc (Nat.le_refl _) _).alloc (by simp) _
  have q0 : W0.heap[w.heap.size]? = some (.cells #[.int .i64 V, .slice a0 fs.length cap] 28 (0, 0)) := by
    rw [hW0]
    exact ((Below.refl _ (w.alloc (.cells #[.int .i64 V, .slice a0 fs.length cap] 28))).alloc (Nat.le_refl _) (.cells #[.int .i64 x, .int .i64 y] 49)).block _ (by simp) |>.trans (heap_alloc_new w _)
  have q1 : W0.heap[w.heap.size + 1]? = some (.cells #[.int .i64 x, .int .i64 y] 49 (0, 0)) := by
    have := heap_alloc_new (w.alloc (.cells #[.int .i64 V, .slice a0 fs.length cap] 28)) (.cells #[.int .i64 x, .int .i64 y] 49)
    rw [World.size_alloc] at this
    rw [hW0]
    exact this
  have HK := hid (pcode_impl V a0 cap fs a1 n cap1 ps W0 (hx.later hB0 hB0.size) (hx1.later hB0 hB0.size) hl hp hn hw)
  obtain ⟨k0, k1, _, _⟩ := two_of q0
  have HB0 := hid hB0
  have Q0 := hid q0
  have Q1 := hid q1
  have Hx := hid hx
  have Hy := hid hx1
  clear hx hx1 hB0 q0 q1
  by_cases hpc : pcodeR V fs n ps = 0
  · obtain ⟨hC, hO⟩ := pcode_zero hpc
    rw [hpc] at HK
    obtain ⟨vn, rfl⟩ : ∃ vn : Nat, V = (vn : Int) := ⟨V.toNat, by have := hC.lo; omega⟩
    have HKn := hid (fun (W : World) (h : Below w.heap.size w W) => known_any vn a0 cap fs W (Hx.out.later h h.size) hl hC)
    have Hwf : Hid (∀ q ∈ pairsL fs vn fs.length, wfP q) := hid (fun q hq => by
      have := (mem_pairsL hC q.1 q.2).1 (by rw [Int.toNat_natCast]; exact hq)
      exact wf_pair hC this)
    have Hme : Hid (decide ((x, y) ∈ pairsL fs vn fs.length) = pairB fs x y) := hid (by
      have := mem_pairsL hC x y
      rw [Int.toNat_natCast] at this
      cases hb : pairB fs x y
      · exact decide_eq_false (fun h => by rw [this.1 h] at hb; cases hb)
      · exact decide_eq_true (this.2 hb))
    cases hpb : pairB fs x y
    · refine pairs_monoG (show addR (vn : Int) fs n ps x y = ([], 2) by unfold addR; rw [if_pos hpc, if_neg (by rw [hpb]; simp)]) ?_
      rw [hpb] at Hme
      clear hC hO hpc hp hw hpb
      go_enter Try.func38, Try.ntmps38
      go_wp2_with fail
      rw [← hW0]
      clear hW0
      go_wp2_with fail
      refine HK.out.mono ?_
      rintro e w1 ⟨rfl, hB1⟩
      have HB1 := hid (HB0.out.trans (hB1.mono HB0.out.size))
      obtain ⟨k0, k1, _, _⟩ := two_of ((hB1.block _ (lt_of_get Q0.out)).trans Q0.out)
      have hp1 := (hB1.block _ (lt_of_get Q1.out)).trans Q1.out
      obtain ⟨p0, p1, _, _⟩ := two_of hp1
      have HP1 := hid hp1
      have hlt0 : w.heap.size < w1.heap.size := by have := lt_of_get Q0.out; have := hB1.size; omega
      have hlt1 : w.heap.size + 1 < w1.heap.size := by have := lt_of_get Q1.out; have := hB1.size; omega
      have HKd := hid (HKn.out w1.drew ⟨HB1.out.os, HB1.out.tape, HB1.out.output, HB1.out.size, HB1.out.block⟩)
      clear hB1 hp1
      go_wp2_with fail
      go_region_held3 (fun w' => w'.cell? ⟨w.heap.size, 0, none⟩ = some (.int .i64 (vn : Int)) ∧ w'.cell? ⟨w.heap.size, 1, none⟩ = some (.slice a0 fs.length cap) ∧ w'.cell? ⟨w.heap.size + 1, 0, none⟩ = some (.int .i64 x) ∧ w'.cell? ⟨w.heap.size + 1, 1, none⟩ = some (.int .i64 y)) (go_keep) (first
        | (go_at_call 79; refine HKd.out.mono ?_; rintro e w2 ⟨bm, nm, rfl, hm, hbm, hB2⟩; have r0 := (hB2.cell (p := ⟨w.heap.size, 0, none⟩) hlt0).trans k0; have r1 := (hB2.cell (p := ⟨w.heap.size, 1, none⟩) hlt0).trans k1; have r2 := (hB2.cell (p := ⟨w.heap.size + 1, 0, none⟩) hlt1).trans p0; have r3 := (hB2.cell (p := ⟨w.heap.size + 1, 1, none⟩) hlt1).trans p1; have hlk := lookup_pair hm Hwf.out (p := (x, y)) ⟨wx, wy⟩; rw [Hme.out] at hlk; have HB2 := hid hB2; clear hB2 hbm hm)
        | (simp only [hlk])
        | fail)
      go_wp2_with fail
      go_ret2
      exact ⟨_, rfl, World.ownsRow_nil _ _ _ _, HB1.out.trans ((below_dnA HB2.out).mono HB1.out.size)⟩
    · rw [hpb] at Hme
      have hn64 := okTo_len hC hO
      have HW := hid (fun (W : World) (h : Below w.heap.size w W) => wp_with (vn : Int) fs a1 n cap1 ps x y W (Hy.out.later h h.size) hp (by omega) hw wx wy hC hO hpb)
      have Hil := hid (insP_len hp x y)
      obtain ⟨wb, hwb⟩ : ∃ wb, wb = withB fs ps n x y := ⟨_, rfl⟩
      rw [← hwb] at HW
      cases wb
      · refine pairs_monoG (show addR (vn : Int) fs n ps x y = ([], 5) by unfold addR; rw [if_pos hpc, if_pos hpb, if_neg (by rw [← hwb]; simp)]) ?_
        clear hC hO hpc hp hw hpb hwb
        go_enter Try.func38, Try.ntmps38
        go_wp2_with fail
        rw [← hW0]
        clear hW0
        go_wp2_with fail
        refine HK.out.mono ?_
        rintro e w1 ⟨rfl, hB1⟩
        have HB1 := hid (HB0.out.trans (hB1.mono HB0.out.size))
        obtain ⟨k0, k1, _, _⟩ := two_of ((hB1.block _ (lt_of_get Q0.out)).trans Q0.out)
        have hp1 := (hB1.block _ (lt_of_get Q1.out)).trans Q1.out
        obtain ⟨p0, p1, _, _⟩ := two_of hp1
        have HP1 := hid hp1
        have hlt0 : w.heap.size < w1.heap.size := by have := lt_of_get Q0.out; have := hB1.size; omega
        have hlt1 : w.heap.size + 1 < w1.heap.size := by have := lt_of_get Q1.out; have := hB1.size; omega
        have HKd := hid (HKn.out w1.drew ⟨HB1.out.os, HB1.out.tape, HB1.out.output, HB1.out.size, HB1.out.block⟩)
        clear hB1 hp1
        go_wp2_with fail
        go_region_held3 (fun w' => w'.cell? ⟨w.heap.size, 0, none⟩ = some (.int .i64 (vn : Int)) ∧ w'.cell? ⟨w.heap.size, 1, none⟩ = some (.slice a0 fs.length cap) ∧ w'.cell? ⟨w.heap.size + 1, 0, none⟩ = some (.int .i64 x) ∧ w'.cell? ⟨w.heap.size + 1, 1, none⟩ = some (.int .i64 y)) (go_keep) (first
          | (go_at_call 79; refine HKd.out.mono ?_; rintro e w2 ⟨bm, nm, rfl, hm, hbm, hB2⟩; have r0 := (hB2.cell (p := ⟨w.heap.size, 0, none⟩) hlt0).trans k0; have r1 := (hB2.cell (p := ⟨w.heap.size, 1, none⟩) hlt0).trans k1; have r2 := (hB2.cell (p := ⟨w.heap.size + 1, 0, none⟩) hlt1).trans p0; have r3 := (hB2.cell (p := ⟨w.heap.size + 1, 1, none⟩) hlt1).trans p1; have hlk := lookup_pair hm Hwf.out (p := (x, y)) ⟨wx, wy⟩; rw [Hme.out] at hlk; have HB2 := hid hB2; clear hB2 hbm hm)
          | (simp only [hlk])
          | fail)
        have HBb := hid (HB1.out.trans ((below_dnA HB2.out).mono HB1.out.size))
        go_wp2_with (go_at_call 73; refine (HW.out w2 HBb.out).mono ?_; rintro e w5 ⟨v5, rfl, hv5, hB5⟩; have HB5 := hid (HBb.out.trans (hB5.mono HBb.out.size)); clear hB5 hv5)
        go_ret2
        exact ⟨_, rfl, World.ownsRow_nil _ _ _ _, HB5.out⟩
      · refine pairs_monoG (show addR (vn : Int) fs n ps x y = (unP (insP ps n x y), 0) by unfold addR; rw [if_pos hpc, if_pos hpb, if_pos hwb.symm]) ?_
        clear hC hO hpc hp hw hpb hwb
        go_enter Try.func38, Try.ntmps38
        go_wp2_with fail
        rw [← hW0]
        clear hW0
        go_wp2_with fail
        refine HK.out.mono ?_
        rintro e w1 ⟨rfl, hB1⟩
        have HB1 := hid (HB0.out.trans (hB1.mono HB0.out.size))
        obtain ⟨k0, k1, _, _⟩ := two_of ((hB1.block _ (lt_of_get Q0.out)).trans Q0.out)
        have hp1 := (hB1.block _ (lt_of_get Q1.out)).trans Q1.out
        obtain ⟨p0, p1, _, _⟩ := two_of hp1
        have HP1 := hid hp1
        have hlt0 : w.heap.size < w1.heap.size := by have := lt_of_get Q0.out; have := hB1.size; omega
        have hlt1 : w.heap.size + 1 < w1.heap.size := by have := lt_of_get Q1.out; have := hB1.size; omega
        have HKd := hid (HKn.out w1.drew ⟨HB1.out.os, HB1.out.tape, HB1.out.output, HB1.out.size, HB1.out.block⟩)
        clear hB1 hp1
        go_wp2_with fail
        go_region_held3 (fun w' => w'.cell? ⟨w.heap.size, 0, none⟩ = some (.int .i64 (vn : Int)) ∧ w'.cell? ⟨w.heap.size, 1, none⟩ = some (.slice a0 fs.length cap) ∧ w'.cell? ⟨w.heap.size + 1, 0, none⟩ = some (.int .i64 x) ∧ w'.cell? ⟨w.heap.size + 1, 1, none⟩ = some (.int .i64 y)) (go_keep) (first
          | (go_at_call 79; refine HKd.out.mono ?_; rintro e w2 ⟨bm, nm, rfl, hm, hbm, hB2⟩; have r0 := (hB2.cell (p := ⟨w.heap.size, 0, none⟩) hlt0).trans k0; have r1 := (hB2.cell (p := ⟨w.heap.size, 1, none⟩) hlt0).trans k1; have r2 := (hB2.cell (p := ⟨w.heap.size + 1, 0, none⟩) hlt1).trans p0; have r3 := (hB2.cell (p := ⟨w.heap.size + 1, 1, none⟩) hlt1).trans p1; have hlk := lookup_pair hm Hwf.out (p := (x, y)) ⟨wx, wy⟩; rw [Hme.out] at hlk; have HB2 := hid hB2; clear hB2 hbm hm)
          | (simp only [hlk])
          | fail)
        have HBb := hid (HB1.out.trans ((below_dnA HB2.out).mono HB1.out.size))
        go_wp2_with fail
        refine (HW.out w2 HBb.out).mono ?_
        rintro e w5 ⟨v5, rfl, hv5, hB5⟩
        have hv6 := hv5 trivial
        obtain ⟨g5, c5, rfl⟩ : ∃ g c, v5 = .slice (some ⟨g, 0, none⟩) (n + 1) c := by
          rcases hv6.2 with ⟨_, h0⟩ | ⟨g, cp, cur, h1, _⟩
          · omega
          · exact ⟨g, cp, h1⟩
        have HV5 := hid hv6
        have HB5 := hid (HBb.out.trans (hB5.mono HBb.out.size))
        clear hB5 hv5 hv6
        go_wp2_with fail
        go_ret2
        exact ⟨_, rfl, resP_un Hil.out (ownsRow_base HV5.out HBb.out.size) HB5.out⟩
  · obtain ⟨c, hc⟩ : ∃ c, c = pcodeR V fs n ps := ⟨_, rfl⟩
    refine pairs_monoG (show addR V fs n ps x y = ([], c) by unfold addR; rw [if_neg hpc, hc]) ?_
    rw [← hc] at hpc HK
    have hcn : (c != 0) = true := by simpa using hpc
    clear hc hpc hp hw
    go_enter Try.func38, Try.ntmps38
    go_wp2_with fail
    rw [← hW0]
    clear hW0
    go_wp2_with fail
    refine HK.out.mono ?_
    rintro e w1 ⟨rfl, hB1⟩
    go_wp2_with fail
    go_ret2
    exact ⟨_, rfl, World.ownsRow_nil _ _ _ _, HB0.out.trans (hB1.mono HB0.out.size)⟩

end Go.Proofs.Ytplcbiconfpmlaa

/-! AddPair, the model's. -/
namespace Go.Proofs.Ytplcbiconfpmlaa
open Go.RowKit

set_option maxRecDepth 1000000 in
set_option maxHeartbeats 8000000 in
theorem specAddPair (V : Int) (a0 : Option Addr) (cap : Nat) (fs : List Int) (g n : Nat) (ps : List Int) (x y : Int) (w : World) (hx : SlI w w.heap.size a0 fs) (hr : RowQ w g n n ps) (hl : fs.length ≤ 1048576) (hp : ps.length = 2 * n) (hn : n ≤ 1048576) :
    Calls Try.prog 36 #[.agg #[.int .i64 V, .slice a0 fs.length cap], .slice (some ⟨g, 0, none⟩) n n, .agg #[.int .i64 x, .int .i64 y]] w fun e w' => ∃ v, e = .returned (.tuple #[v, .int .i64 (addR V fs n ps x y).2]) ∧ ResP w w' v (addR V fs n ps x y).1 := by
  obtain ⟨W0, hW0⟩ : ∃ W0, W0 = (w.alloc (.cells #[.int .i64 V, .slice a0 fs.length cap] 28)).alloc (.cells #[.int .i64 x, .int .i64 y] 49) := ⟨_, rfl⟩
  have hB0 : Below w.heap.size w W0 := by rw [hW0]; exact ((Below.refl _ w).alloc (Nat.le_refl _) _).alloc (by simp) _
  have q0 : W0.heap[w.heap.size]? = some (.cells #[.int .i64 V, .slice a0 fs.length cap] 28 (0, 0)) := by
    rw [hW0]
    exact ((Below.refl _ (w.alloc (.cells #[.int .i64 V, .slice a0 fs.length cap] 28))).alloc (Nat.le_refl _) (.cells #[.int .i64 x, .int .i64 y] 49)).block _ (by simp) |>.trans (heap_alloc_new w _)
  have q1 : W0.heap[w.heap.size + 1]? = some (.cells #[.int .i64 x, .int .i64 y] 49 (0, 0)) := by
    have := heap_alloc_new (w.alloc (.cells #[.int .i64 V, .slice a0 fs.length cap] 28)) (.cells #[.int .i64 x, .int .i64 y] 49)
    rw [World.size_alloc] at this
    rw [hW0]
    exact this
  have HK := hid (pcode_spec V a0 cap fs (some ⟨g, 0, none⟩) n n ps W0 (hx.later hB0 hB0.size) (hr.later hB0).slI hl hp hn)
  obtain ⟨k0, k1, _, _⟩ := two_of q0
  have HB0 := hid hB0
  have Q0 := hid q0
  have Q1 := hid q1
  have Hx := hid hx
  have Hr := hid hr
  clear hx hr hB0 q0 q1
  by_cases hpc : pcodeR V fs n ps = 0
  · obtain ⟨hC, hO⟩ := pcode_zero hpc
    rw [hpc] at HK
    have HPa := hid (fun (W : World) (h : Below w.heap.size w W) => pair_any V a0 cap fs x y W (Hx.out.later h h.size) hl hC.range63)
    have hn64 := okTo_len hC hO
    have HWi := hid (fun (W : World) (h : Below w.heap.size w W) => with_any V a0 cap fs g 0 n n ps x y W (Hx.out.later h h.size) (Hr.out.later h).1 (Hr.out.later h).2.2 hl hC.range63 hp (by omega) (Nat.le_refl _))
    have HAl := hid (fun (W : World) (h : Below w.heap.size w W) => acyclicS_any (some ⟨g, 0, none⟩) n n ps W (Hr.out.later h).slI hp hn (okTo_highs hC hO) (okTo_lows hC hO))
    have Hil := hid (insP_len hp x y)
    have HAo := hid (fun (hI : OkTo fs (insP ps n x y) (n + 1)) (W : World) (g' c' : Nat) (h : RowQ W g' (n + 1) c' (insP ps n x y)) => acyclicS_any (some ⟨g', 0, none⟩) (n + 1) c' (insP ps n x y) W h.slI Hil.out (by omega) (okTo_highs hC hI) (okTo_lows hC hI))
    cases hpb : pairB fs x y
    · refine pairs_monoG (show addR V fs n ps x y = ([], 2) by unfold addR; rw [if_pos hpc, if_neg (by rw [hpb]; simp)]) ?_
      rw [hpb] at HPa
      clear hC hO hpc hp hpb
      go_enter Try.func36, Try.ntmps36
      go_wp2_with fail
      rw [← hW0]
      clear hW0
      go_wp2_with fail
      refine HK.out.mono ?_
      rintro e w1 ⟨rfl, hB1⟩
      have HB1 := hid (HB0.out.trans (hB1.mono HB0.out.size))
      obtain ⟨k0, k1, _, _⟩ := two_of ((hB1.block _ (lt_of_get Q0.out)).trans Q0.out)
      obtain ⟨p0, p1, _, _⟩ := two_of ((hB1.block _ (lt_of_get Q1.out)).trans Q1.out)
      clear hB1
      go_wp2_with (go_at_call 75; refine (HPa.out w1 HB1.out).mono ?_; rintro e w2 ⟨rfl, hB2⟩; have HB2 := hid (HB1.out.trans (hB2.mono HB1.out.size)); clear hB2)
      go_ret2
      exact ⟨_, rfl, World.ownsRow_nil _ _ _ _, HB2.out⟩
    · rw [hpb] at HPa
      have HWb : Hid (withB fs ps n x y = (pairingB fs (insP ps n x y) (n + 1) && acyB (insP ps n x y) (n + 1))) := hid rfl
      have HAi := hid (fun (h : withB fs ps n x y = true) => acy_ins hp hO h)
      have HRe := hid (show addR V fs n ps x y = if withB fs ps n x y = true then (unP (insP ps n x y), 0) else ([], 5) by unfold addR; rw [if_pos hpc, if_pos hpb])
      obtain ⟨pb, hpbb⟩ : ∃ pb, pb = pairingB fs (insP ps n x y) (n + 1) := ⟨_, rfl⟩
      obtain ⟨al, hal⟩ : ∃ al, al = acyB ps n := ⟨_, rfl⟩
      obtain ⟨ao, hao⟩ : ∃ ao, ao = acyB (insP ps n x y) (n + 1) := ⟨_, rfl⟩
      rw [← hpbb] at HWi HWb
      rw [← hal] at HAl HAi
      rw [← hao] at HAo HWb
      have HI : Hid (pb = true → OkTo fs (insP ps n x y) (n + 1)) := hid (fun h => pairingB_ok (by rw [← hpbb]; exact h))
      by_cases hyes : withB fs ps n x y = true
      · rw [hyes] at HWb
        obtain ⟨rfl, rfl⟩ : pb = true ∧ ao = true := by
          have := HWb.out
          cases pb <;> cases ao <;> simp at this <;> exact ⟨rfl, rfl⟩
        obtain rfl : al = true := HAi.out hyes
        refine pairs_monoG (show addR V fs n ps x y = (unP (insP ps n x y), 0) by rw [HRe.out, if_pos hyes]) ?_
        clear hC hO hpc hp hpb hpbb hal hao hyes HAi HRe HWb
        go_enter Try.func36, Try.ntmps36
        go_wp2_with fail
        rw [← hW0]
        clear hW0
        go_wp2_with fail
        refine HK.out.mono ?_
        rintro e w1 ⟨rfl, hB1⟩
        have HB1 := hid (HB0.out.trans (hB1.mono HB0.out.size))
        obtain ⟨k0, k1, _, _⟩ := two_of ((hB1.block _ (lt_of_get Q0.out)).trans Q0.out)
        obtain ⟨p0, p1, _, _⟩ := two_of ((hB1.block _ (lt_of_get Q1.out)).trans Q1.out)
        have hlt0 : w.heap.size < w1.heap.size := by have := lt_of_get Q0.out; have := hB1.size; omega
        have hlt1 : w.heap.size + 1 < w1.heap.size := by have := lt_of_get Q1.out; have := hB1.size; omega
        clear hB1
        go_wp2_with (go_at_call 75; refine (HPa.out w1 HB1.out).mono ?_; rintro e w2 ⟨rfl, hB2⟩; have HB2 := hid (HB1.out.trans (hB2.mono HB1.out.size)); have r0 := (hB2.cell (p := ⟨w.heap.size, 0, none⟩) hlt0).trans k0; have r1 := (hB2.cell (p := ⟨w.heap.size, 1, none⟩) hlt0).trans k1; have r2 := (hB2.cell (p := ⟨w.heap.size + 1, 0, none⟩) hlt1).trans p0; have r3 := (hB2.cell (p := ⟨w.heap.size + 1, 1, none⟩) hlt1).trans p1; clear hB2)
        refine (HWi.out w2 HB2.out).mono ?_
        rintro e w3 ⟨v3, rfl, ho3, hB3⟩
        obtain ⟨g3, c3, rfl⟩ : ∃ g c, v3 = .slice (some ⟨g, 0, none⟩) (n + 1) c := by
          rcases ho3.2 with ⟨_, h0⟩ | ⟨g, cp, cur, h1, _⟩
          · omega
          · exact ⟨g, cp, h1⟩
        have HB3 := hid (HB2.out.trans (hB3.mono HB2.out.size))
        have HO3 := hid (ownsRow_base ho3 HB2.out.size)
        clear hB3 ho3
        go_wp2_with fail
        refine (HAl.out w3 HB3.out).mono ?_
        rintro e w4 ⟨rfl, hB4⟩
        have HB4 := hid (HB3.out.trans (hB4.mono HB3.out.size))
        have HO4 := hid (row_later (B := 0) HO3.out hB4 rfl)
        clear hB4
        go_wp2_with fail
        refine (HAo.out (HI.out trivial) w4 g3 c3 (rowQ_of HO4.out)).mono ?_
        rintro e w5 ⟨rfl, hB5⟩
        have HB5 := hid (HB4.out.trans (hB5.mono HB4.out.size))
        have HO5 := hid (row_later (B := 0) HO4.out hB5 rfl)
        clear hB5
        go_wp2_with fail
        go_ret2
        exact ⟨_, rfl, resP_un Hil.out HO5.out HB5.out⟩
      · refine pairs_monoG (show addR V fs n ps x y = ([], 5) by rw [HRe.out, if_neg hyes]) ?_
        have hno : al = true → pb = true → ao = false := fun _ h2 => by
          cases h : ao
          · rfl
          · rw [h2, h] at HWb
            exact absurd HWb.out hyes
        have Hno := hid hno
        clear hC hO hpc hp hpb hpbb hal hao hyes HAi HRe HWb hno
        go_enter Try.func36, Try.ntmps36
        go_wp2_with fail
        rw [← hW0]
        clear hW0
        go_wp2_with fail
        refine HK.out.mono ?_
        rintro e w1 ⟨rfl, hB1⟩
        have HB1 := hid (HB0.out.trans (hB1.mono HB0.out.size))
        obtain ⟨k0, k1, _, _⟩ := two_of ((hB1.block _ (lt_of_get Q0.out)).trans Q0.out)
        obtain ⟨p0, p1, _, _⟩ := two_of ((hB1.block _ (lt_of_get Q1.out)).trans Q1.out)
        have hlt0 : w.heap.size < w1.heap.size := by have := lt_of_get Q0.out; have := hB1.size; omega
        have hlt1 : w.heap.size + 1 < w1.heap.size := by have := lt_of_get Q1.out; have := hB1.size; omega
        clear hB1
        go_wp2_with (go_at_call 75; refine (HPa.out w1 HB1.out).mono ?_; rintro e w2 ⟨rfl, hB2⟩; have HB2 := hid (HB1.out.trans (hB2.mono HB1.out.size)); have r0 := (hB2.cell (p := ⟨w.heap.size, 0, none⟩) hlt0).trans k0; have r1 := (hB2.cell (p := ⟨w.heap.size, 1, none⟩) hlt0).trans k1; have r2 := (hB2.cell (p := ⟨w.heap.size + 1, 0, none⟩) hlt1).trans p0; have r3 := (hB2.cell (p := ⟨w.heap.size + 1, 1, none⟩) hlt1).trans p1; clear hB2)
        refine (HWi.out w2 HB2.out).mono ?_
        rintro e w3 ⟨v3, rfl, ho3, hB3⟩
        obtain ⟨g3, c3, rfl⟩ : ∃ g c, v3 = .slice (some ⟨g, 0, none⟩) (n + 1) c := by
          rcases ho3.2 with ⟨_, h0⟩ | ⟨g, cp, cur, h1, _⟩
          · omega
          · exact ⟨g, cp, h1⟩
        have HB3 := hid (HB2.out.trans (hB3.mono HB2.out.size))
        have HO3 := hid (ownsRow_base ho3 HB2.out.size)
        clear hB3 ho3
        go_wp2_with fail
        refine (HAl.out w3 HB3.out).mono ?_
        rintro e w4 ⟨rfl, hB4⟩
        have HB4 := hid (HB3.out.trans (hB4.mono HB3.out.size))
        have HO4 := hid (row_later (B := 0) HO3.out hB4 rfl)
        clear hB4
        cases al
        · go_wp2_with fail
          go_ret2
          exact ⟨_, rfl, World.ownsRow_nil _ _ _ _, HB4.out⟩
        · cases pb
          · go_wp2_with fail
            go_ret2
            exact ⟨_, rfl, World.ownsRow_nil _ _ _ _, HB4.out⟩
          · obtain rfl : ao = false := Hno.out rfl rfl
            go_wp2_with fail
            refine (HAo.out (HI.out trivial) w4 g3 c3 (rowQ_of HO4.out)).mono ?_
            rintro e w5 ⟨rfl, hB5⟩
            have HB5 := hid (HB4.out.trans (hB5.mono HB4.out.size))
            clear hB5
            go_wp2_with fail
            go_ret2
            exact ⟨_, rfl, World.ownsRow_nil _ _ _ _, HB5.out⟩
  · obtain ⟨c, hc⟩ : ∃ c, c = pcodeR V fs n ps := ⟨_, rfl⟩
    refine pairs_monoG (show addR V fs n ps x y = ([], c) by unfold addR; rw [if_neg hpc, hc]) ?_
    rw [← hc] at hpc HK
    have hcn : (c == 0) = false := by simpa using hpc
    have hcn2 : (c != 0) = true := by simpa using hpc
    clear hc hpc hp
    go_enter Try.func36, Try.ntmps36
    go_wp2_with fail
    rw [← hW0]
    clear hW0
    go_wp2_with fail
    refine HK.out.mono ?_
    rintro e w1 ⟨rfl, hB1⟩
    go_wp2_with fail
    go_ret2
    exact ⟨_, rfl, World.ownsRow_nil _ _ _ _, HB0.out.trans (hB1.mono HB0.out.size)⟩

end Go.Proofs.Ytplcbiconfpmlaa

/-! The law on AddPair, walked. -/
namespace Go.Proofs.Ytplcbiconfpmlaa
open Go.RowKit

set_option maxRecDepth 100000 in
set_option maxHeartbeats 8000000 in
theorem law_AddPair (V0 : Int) (a0 : Option Addr) (cap0 : Nat) (xs0 : List Int) (a1 : Option Addr) (n1 cap1 : Nat) (ps1 : List Int) (x2 y2 : Int) (w : World) (hx0 : SlI w w.heap.size a0 xs0) (hx1 : SlI w w.heap.size a1 ps1) (hp1 : ps1.length = 2 * n1) (wp1 : ∀ x ∈ ps1, (Lit.int .i64 x).wf = true) (hn0 : xs0.length ≤ 9223372036854775807) (hn1 : n1 ≤ 9223372036854775807) (wx2 : (Lit.int .i64 x2).wf = true) (wy2 : (Lit.int .i64 y2).wf = true)  :
    Calls Try.prog 7 #[.agg #[.int .i64 V0, .slice a0 xs0.length cap0], .slice a1 n1 cap1, .agg #[.int .i64 x2, .int .i64 y2]] w fun e w' => e = .returned (.bool true) ∧ Below w.heap.size w w' := by
  have F0 : Book w w [(a0, xs0), (a1, ps1)] [] [] := ⟨Below.refl _ _, by simp; exact ⟨hx0, hx1⟩, by simp, by simp⟩
  have F0 := F0.alloc (.cells #[.int .i64 V0, .slice a0 xs0.length cap0] 24)
  have F0 := F0.alloc (.cells #[.int .i64 x2, .int .i64 y2] 47)
  (try simp only [World.size_alloc] at F0)
  have B0 := hid F0
  clear F0 hx0 hx1
  have Hp1 := hid hp1
  have Wp1 := hid wp1
  clear hp1 wp1
  obtain ⟨r0, hr0⟩ : ∃ r, r = szR 1048576 xs0.length := ⟨_, rfl⟩
  have Hr0 := hid hr0
  obtain ⟨r1, hr1⟩ : ∃ r, r = szR r0 n1 := ⟨_, rfl⟩
  have Hr1 := hid hr1
  by_cases hb0 : 1048576 < xs0.length
  · have hm0 : r0 = -1 := by rw [hr0]; exact szR_big (by omega)
    clear hb0
    clear hr0 hr1
    go_enter Try.func7, Try.ntmps7
    go_wp2_with fail
    refine (szCx V0 a0 xs0.length cap0 1048576 _ (by omega) (by omega) hn0).mono ?_
    rintro e s0 ⟨rfl, hB⟩
    have zs0 := hB.size
    (try simp only [World.size_alloc] at zs0)
    have B0 := hid (B0.out.below hB)
    clear hB
    rw [← Hr0.out]
    go_wp2_with fail
    go_ret
    exact ⟨rfl, B0.out.from0⟩
  · have hv0 : r0 = 1048576 - xs0.length := by rw [hr0, szR_fit (by omega)]
    have hg0 : 0 ≤ r0 := by omega
    have hu0 : r0 ≤ 1048576 := by omega
    have hl0 : xs0.length ≤ 1048576 := by omega
    clear hr0 hb0
    have Hv0 := hid hv0
    clear hv0
    by_cases hb1 : r0 < n1
    · have hm1 : r1 = -1 := by rw [hr1]; exact szR_big (by omega)
      clear hb1
      clear hr1
      go_enter Try.func7, Try.ntmps7
      go_wp2_with fail
      refine (szCx V0 a0 xs0.length cap0 1048576 _ (by omega) (by omega) hn0).mono ?_
      rintro e s0 ⟨rfl, hB⟩
      have zs0 := hB.size
      (try simp only [World.size_alloc] at zs0)
      have B0 := hid (B0.out.below hB)
      clear hB
      rw [← Hr0.out]
      go_wp2_with fail
      refine (szPairs a1 n1 cap1 r0 _ hg0 hu0 hn1).mono ?_
      rintro e s1 ⟨rfl, hs1⟩
      subst hs1
      rw [← Hr1.out]
      go_wp2_with fail
      go_ret
      exact ⟨rfl, B0.out.from0⟩
    · have hv1 : r1 = r0 - n1 := by rw [hr1, szR_fit (by omega)]
      have hg1 : 0 ≤ r1 := by omega
      have hu1 : r1 ≤ 1048576 := by omega
      have hl1 : n1 ≤ 1048576 := by omega
      clear hr1 hb1
      have Hv1 := hid hv1
      clear hv1
      obtain ⟨R, hR⟩ : ∃ R, R = addR V0 xs0 n1 ps1 x2 y2 := ⟨_, rfl⟩
      have hRl : R.1.length ≤ 1048576 := by rw [hR]; exact addR_len V0 xs0 n1 ps1 x2 y2 hl0 Hp1.out hl1
      obtain ⟨ys, c⟩ := R
      simp only at hRl
      have HS : Hid (∀ a0 cap0 g1 w', SlI w' w'.heap.size a0 xs0 → RowQ w' g1 n1 n1 ps1 → Calls Try.prog 36 #[.agg #[.int .i64 V0, .slice a0 xs0.length cap0], .slice (some ⟨g1, 0, none⟩) n1 n1, .agg #[.int .i64 x2, .int .i64 y2]] w' fun e w'' => ∃ v, e = .returned (.tuple #[v, .int .i64 c]) ∧ ResP w' w'' v ys) :=
        hid (fun a0 cap0 g1 w' hs0 hs1 => by have := specAddPair V0 a0 cap0 xs0 g1 n1 ps1 x2 y2 w' hs0 hs1 hl0 Hp1.out hl1; rwa [← hR] at this)
      have HI : Hid (∀ a0 cap0 a1 cap1 w', SlI w' w'.heap.size a0 xs0 → SlI w' w'.heap.size a1 ps1 → Calls Try.prog 38 #[.agg #[.int .i64 V0, .slice a0 xs0.length cap0], .slice a1 n1 cap1, .agg #[.int .i64 x2, .int .i64 y2]] w' fun e w'' => ∃ v, e = .returned (.tuple #[v, .int .i64 c]) ∧ ResP w' w'' v ys) :=
        hid (fun a0 cap0 a1 cap1 w' hs0 hs1 => by have := implAddPair V0 a0 cap0 xs0 a1 n1 cap1 ps1 x2 y2 w' hs0 hs1 hl0 Hp1.out hl1 Wp1.out wx2 wy2; rwa [← hR] at this)
      have hcc : (c != c) = false := by simp
      have Hq0 := hid (flatP_len ys)
      clear hR
      go_enter Try.func7, Try.ntmps7
      go_wp2_with fail
      refine (szCx V0 a0 xs0.length cap0 1048576 _ (by omega) (by omega) hn0).mono ?_
      rintro e s0 ⟨rfl, hB⟩
      have zs0 := hB.size
      (try simp only [World.size_alloc] at zs0)
      have B0 := hid (B0.out.below hB)
      clear hB
      rw [← Hr0.out]
      go_wp2_with fail
      refine (szPairs a1 n1 cap1 r0 _ hg0 hu0 hn1).mono ?_
      rintro e s1 ⟨rfl, hs1⟩
      subst hs1
      rw [← Hr1.out]
      obtain ⟨q0, q1⟩ := B0.out.two (.tail _ (.head _))
      obtain ⟨p0, p1⟩ := B0.out.two (.head _)
      go_wp2_with fail
      go_region_held3 (fun w' => w'.cell? ⟨w.heap.size, 0, none⟩ = some (.int .i64 V0) ∧ w'.cell? ⟨w.heap.size, 1, none⟩ = some (.slice a0 xs0.length cap0) ∧ w'.cell? ⟨w.heap.size + 1, 0, none⟩ = some (.int .i64 x2) ∧ w'.cell? ⟨w.heap.size + 1, 1, none⟩ = some (.int .i64 y2)) (go_keep) (first
        | (go_at_call 36; refine (HS.out _ _ _ _ (C3.out.slI (.tail _ (.head _))) (rowQ_of (C3.out.own (.head _)))).mono ?_; rintro e u9 ⟨vw, rfl, hres⟩; have zu9 : u2.heap.size ≤ u9.heap.size := hres.2.size; obtain ⟨_, aw, cw, rfl, _⟩ := pairs_form hres.1; have C4 := hid (C3.out.row hres.1 hres.2); clear hres; obtain ⟨q04, q14⟩ := C4.out.two (.tail _ (.head _)); obtain ⟨p04, p14⟩ := C4.out.two (.head _))
        | (go_at_call 37; refine (toPair_any x2 y2 _).mono ?_; rintro e u2 ⟨rfl, hB⟩; have zu2 : u1.heap.size ≤ u2.heap.size := hB.size; have C3 := hid (C2.out.below hB); clear hB; obtain ⟨q03, q13⟩ := C3.out.two (.tail _ (.head _)); obtain ⟨p03, p13⟩ := C3.out.two (.head _))
        | (go_at_call 27; refine (toPairs a1 n1 cap1 ps1 _ (C1.out.arg (.tail _ (.head _))) Hp1.out hl1).mono ?_; rintro e u1 ⟨rfl, hown, hB⟩; have zu1 : u0.heap.size ≤ u1.heap.size := hB.size; have C2 := hid (C1.out.row hown hB); clear hown hB; obtain ⟨q02, q12⟩ := C2.out.two (.tail _ (.head _)); obtain ⟨p02, p12⟩ := C2.out.two (.head _))
        | (go_at_call 17; refine (toCx V0 a0 cap0 xs0 _ (B0.out.drew.arg (.head _)) hl0).mono ?_; rintro e u0 ⟨gu0, rfl, hown, hB⟩; have zu0 : s0.heap.size ≤ u0.heap.size := hB.size; have C1 := hid (B0.out.drew.row hown hB); clear hown hB; obtain ⟨q01, q11⟩ := C1.out.two (.tail _ (.head _)); obtain ⟨p01, p11⟩ := C1.out.two (.head _))
        | fail)
      have B0 := C4
      clear C3 C4 C1 C2 q0 q1 p0 p1 q01 q11 p01 p11 q02 q12 p02 p12 q03 q13 p03 p13 q04 q14 p04 p14
      (try simp only [World.size_alloc] at B0)
      obtain ⟨q0, q1⟩ := B0.out.two (.tail _ (.head _))
      go_wp2_with fail
      clear q0 q1
      refine (toCx V0 a0 cap0 xs0 _ (B0.out.arg (.head _)) hl0).mono ?_
      rintro e x0 ⟨gx0, rfl, hown, hB⟩
      have zx0 := hB.size
      (try simp only [World.size_alloc] at zx0)
      have B0 := hid (B0.out.row hown hB)
      clear hown hB
      (try simp only [World.size_alloc] at B0)
      have B0 := hid (B0.out.alloc (.cells #[.int .i64 V0, .slice (some ⟨gx0, 0, none⟩) xs0.length xs0.length] 28))
      go_wp2_with fail
      refine (toPairs a1 n1 cap1 ps1 _ (B0.out.arg (.tail _ (.head _))) Hp1.out hl1).mono ?_
      rintro e x1 ⟨rfl, hown, hB⟩
      have zx1 := hB.size
      (try simp only [World.size_alloc] at zx1)
      have B0 := hid (B0.out.row hown hB)
      clear hown hB
      (try simp only [World.size_alloc] at B0)
      obtain ⟨q0, q1⟩ := B0.out.two (.tail _ (.tail _ (.head _)))
      obtain ⟨p0, p1⟩ := B0.out.two (.tail _ (.head _))
      obtain ⟨r0, r1⟩ := B0.out.two (.head _)
      go_wp2_with fail
      go_region_held3 (fun w' => w'.cell? ⟨w.heap.size, 0, none⟩ = some (.int .i64 V0) ∧ w'.cell? ⟨w.heap.size, 1, none⟩ = some (.slice a0 xs0.length cap0) ∧ w'.cell? ⟨w.heap.size + 1, 0, none⟩ = some (.int .i64 x2) ∧ w'.cell? ⟨w.heap.size + 1, 1, none⟩ = some (.int .i64 y2) ∧ w'.cell? ⟨x0.heap.size, 0, none⟩ = some (.int .i64 V0) ∧ w'.cell? ⟨x0.heap.size, 1, none⟩ = some (.slice (some ⟨gx0, 0, none⟩) xs0.length xs0.length)) (go_keep) (first
        | (go_at_call 38; refine (HI.out _ _ _ _ _ (C3.out.slI (.tail _ (.head _))) (C3.out.slI (.head _))).mono ?_; rintro e v9 ⟨vg, rfl, hres⟩; have zv9 : x2w.heap.size ≤ v9.heap.size := hres.2.size; obtain ⟨_, ag, cg, rfl, _⟩ := pairs_form hres.1; have C4 := hid (C3.out.row hres.1 hres.2); clear hres; obtain ⟨q04, q14⟩ := C4.out.two (.tail _ (.tail _ (.head _))); obtain ⟨p04, p14⟩ := C4.out.two (.tail _ (.head _)); obtain ⟨r04, r14⟩ := C4.out.two (.head _))
        | (go_at_call 37; refine (toPair_any x2 y2 _).mono ?_; rintro e x2w ⟨rfl, hB⟩; have zx2w : x1.heap.size ≤ x2w.heap.size := hB.size; have C3 := hid (B0.out.drew.below hB); clear hB; obtain ⟨q03, q13⟩ := C3.out.two (.tail _ (.tail _ (.head _))); obtain ⟨p03, p13⟩ := C3.out.two (.tail _ (.head _)); obtain ⟨r03, r13⟩ := C3.out.two (.head _))
        | fail)
      have B0 := C4
      clear C3 C4 q0 q1 p0 p1 q03 q13 p03 p13 q04 q14 p04 p14 r0 r1 r03 r13 r04 r14
      (try simp only [World.size_alloc] at B0)
      go_wp2_with fail
      refine (eqPairs_yes _ _ ys.length _ _ (flatP ys) _ (B0.out.slI (.head _)) (B0.out.slI (.tail _ (.tail _ (.tail _ (.head _))))) Hq0.out hRl).mono ?_
      rintro e e1 ⟨rfl, hB⟩
      have ze1 := hB.size
      (try simp only [World.size_alloc] at ze1)
      have B0 := hid (B0.out.below hB)
      clear hB
      obtain ⟨lxb00, lxb01⟩ := B0.out.two (.head _)
      obtain ⟨lk00, lk01⟩ := B0.out.two (.tail _ (.tail _ (.head _)))
      go_wp2_with fail
      go_region_with (first
        | (go_at_call 17; refine (toCx V0 a0 cap0 xs0 _ (B0.out.drew.arg (.head _)) hl0).mono ?_; rintro e f0 ⟨gf0, rfl, hown, hB⟩; have zf0 := hB.size; have C0 := hid (B0.out.drew.row hown hB); clear hown hB; obtain ⟨m00, m01⟩ := C0.out.two (.head _))
        | (go_at_call 21; refine (eqCx_yes V0 _ _ _ _ xs0 xs0 _ (C0.out.slI (.tail _ (.tail _ (.tail _ (.head _))))) (C0.out.slI (.head _)) hl0 hl0 rfl).mono ?_; rintro e h0 ⟨rfl, hB⟩))
      all_goals
        have zh0 := hB.size
        have D0 := hid (C0.out.below hB)
        clear hB C0 B0 m00 m01
        clear lxb00 lxb01
        clear lk00 lk01
        have B0 := D0
        clear D0
        skip
        go_wp2_with fail
        refine (toPairs a1 n1 cap1 ps1 _ (B0.out.arg (.tail _ (.head _))) Hp1.out hl1).mono ?_
        rintro e f1 ⟨rfl, hown, hB⟩
        have zf1 := hB.size
        (try simp only [World.size_alloc] at zf1)
        have B0 := hid (B0.out.row hown hB)
        clear hown hB
        (try simp only [World.size_alloc] at B0)
        go_wp2_with fail
        refine (eqPairs_yes _ _ n1 _ _ ps1 _ (B0.out.slI (.tail _ (.tail _ (.tail _ (.head _))))) (B0.out.slI (.head _)) Hp1.out hl1).mono ?_
        rintro e h1 ⟨rfl, hB⟩
        have zh1 := hB.size
        (try simp only [World.size_alloc] at zh1)
        have B0 := hid (B0.out.below hB)
        clear hB
        (try simp only [World.size_alloc] at B0)
        have B0 := hid (B0.out.only (bs' := _) (L' := [⟨u9.heap.size, x0.heap.size, 2, 1, xs0.length, .slice (some ⟨gx0, 0, none⟩) xs0.length xs0.length, xs0⟩, ⟨x0.heap.size + 1, x1.heap.size, 49, 2, n1, .slice (some ⟨x0.heap.size + 1, 0, none⟩) n1 n1, ps1⟩, ⟨x2w.heap.size, v9.heap.size, 49, 2, ys.length, .slice ag ys.length cg, (flatP ys)⟩, ⟨u2.heap.size, u9.heap.size, 49, 2, ys.length, .slice aw ys.length cw, (flatP ys)⟩]) (fun _ h => h) (by simp))
        obtain ⟨lxb00, lxb01⟩ := B0.out.two (.head _)
        go_wp2_with fail
        clear lxb00 lxb01
        refine (markCx V0 _ _ _ xs0 (1) _ (B0.out.own (.head _)) hl0 (by omega) (by omega)).mono ?_
        rintro e m0 ⟨rfl, hown, hg⟩
        have zm0 := hg.size
        (try simp only [World.size_alloc] at zm0)
        have B0 := hid (B0.out.mark (ys := count (1) xs0.length) (L' := [⟨x0.heap.size + 1, x1.heap.size, 49, 2, n1, .slice (some ⟨x0.heap.size + 1, 0, none⟩) n1 n1, ps1⟩, ⟨x2w.heap.size, v9.heap.size, 49, 2, ys.length, .slice ag ys.length cg, (flatP ys)⟩, ⟨u2.heap.size, u9.heap.size, 49, 2, ys.length, .slice aw ys.length cw, (flatP ys)⟩]) (.head _) hown hg (by simp only; omega) (by simp; omega) (by simp <;> omega))
        clear hown hg
        go_wp2_with fail
        refine (markPairs _ _ _ _ ps1 (1 + xs0.length) _ (B0.out.own (.head _)) hl1 (by omega) (by omega)).mono ?_
        rintro e m1 ⟨rfl, hown, hg⟩
        have zm1 := hg.size
        (try simp only [World.size_alloc] at zm1)
        have B0 := hid (B0.out.mark (ys := count (1 + xs0.length) (n1 * 2)) (L' := [⟨x2w.heap.size, v9.heap.size, 49, 2, ys.length, .slice ag ys.length cg, (flatP ys)⟩, ⟨u2.heap.size, u9.heap.size, 49, 2, ys.length, .slice aw ys.length cw, (flatP ys)⟩]) (.head _) hown hg (by simp only; omega) (by simp; omega) (by simp <;> omega))
        clear hown hg
        go_wp2_with fail
        refine (eqPairs_yes _ _ ys.length _ _ (flatP ys) _ (B0.out.slI (.head _)) (B0.out.slI (.tail _ (.head _))) Hq0.out hRl).mono ?_
        rintro e e2 ⟨rfl, hB⟩
        have ze2 := hB.size
        (try simp only [World.size_alloc] at ze2)
        have B0 := hid (B0.out.below hB)
        clear hB
        go_wp2_with fail
        refine (markPairs _ _ _ _ (flatP ys) (1) _ (B0.out.own (.head _)) hRl (by omega) (by omega)).mono ?_
        rintro e m8 ⟨rfl, hown, hg⟩
        have zm8 := hg.size
        (try simp only [World.size_alloc] at zm8)
        have B0 := hid (B0.out.mark (ys := count (1) (ys.length * 2)) (L' := [⟨x2w.heap.size, v9.heap.size, 49, 2, ys.length, .slice ag ys.length cg, count (1) (ys.length * 2)⟩, ⟨u2.heap.size, u9.heap.size, 49, 2, ys.length, .slice aw ys.length cw, (flatP ys)⟩]) (.head _) hown hg (by simp only; omega) (by simp; omega) (by simp <;> omega))
        clear hown hg
        go_wp2_with fail
        refine (heldPairs _ _ ys.length _ (1) _ rfl (B0.out.slI (.head _)) hRl (by omega) (by omega)).mono ?_
        rintro e t1 ⟨rfl, hB⟩
        have zt1 := hB.size
        (try simp only [World.size_alloc] at zt1)
        have B0 := hid (B0.out.below hB)
        clear hB
        have hnn : ((1 : Int) + 2 * ys.length != 1 + 2 * ys.length) = false := by simp
        obtain ⟨q0, q1⟩ := B0.out.two (.tail _ (.tail _ (.head _)))
        obtain ⟨p0, p1⟩ := B0.out.two (.tail _ (.head _))
        go_wp2_with fail
        go_region_held3 (fun w' => w'.cell? ⟨w.heap.size, 0, none⟩ = some (.int .i64 V0) ∧ w'.cell? ⟨w.heap.size, 1, none⟩ = some (.slice a0 xs0.length cap0) ∧ w'.cell? ⟨w.heap.size + 1, 0, none⟩ = some (.int .i64 x2) ∧ w'.cell? ⟨w.heap.size + 1, 1, none⟩ = some (.int .i64 y2)) (go_keep) (first
          | (go_at_call 38; refine (HI.out _ _ _ _ _ (C3.out.slI (.tail _ (.head _))) (C3.out.slI (.head _))).mono ?_; rintro e t2 ⟨vh, rfl, hres⟩; have zt2 : y2w.heap.size ≤ t2.heap.size := hres.2.size; obtain ⟨_, ah, ch, rfl, _⟩ := pairs_form hres.1; have C4 := hid (C3.out.row hres.1 hres.2); clear hres; obtain ⟨q04, q14⟩ := C4.out.two (.tail _ (.tail _ (.head _))); obtain ⟨p04, p14⟩ := C4.out.two (.tail _ (.head _)))
          | (go_at_call 37; refine (toPair_any x2 y2 _).mono ?_; rintro e y2w ⟨rfl, hB⟩; have zy2w : y1.heap.size ≤ y2w.heap.size := hB.size; have C3 := hid (C2.out.below hB); clear hB; obtain ⟨q03, q13⟩ := C3.out.two (.tail _ (.tail _ (.head _))); obtain ⟨p03, p13⟩ := C3.out.two (.tail _ (.head _)))
          | (go_at_call 27; refine (toPairs a1 n1 cap1 ps1 _ (C1.out.arg (.tail _ (.head _))) Hp1.out hl1).mono ?_; rintro e y1 ⟨rfl, hown, hB⟩; have zy1 : y0.heap.size ≤ y1.heap.size := hB.size; have C2 := hid (C1.out.row hown hB); clear hown hB; obtain ⟨q02, q12⟩ := C2.out.two (.tail _ (.tail _ (.head _))); obtain ⟨p02, p12⟩ := C2.out.two (.tail _ (.head _)))
          | (go_at_call 17; refine (toCx V0 a0 cap0 xs0 _ (B0.out.drew.arg (.head _)) hl0).mono ?_; rintro e y0 ⟨gy0, rfl, hown, hB⟩; have zy0 : t1.heap.size ≤ y0.heap.size := hB.size; have C1 := hid (B0.out.drew.row hown hB); clear hown hB; obtain ⟨q01, q11⟩ := C1.out.two (.tail _ (.tail _ (.head _))); obtain ⟨p01, p11⟩ := C1.out.two (.tail _ (.head _)))
          | fail)
        have B0 := C4
        clear C3 C4 C1 C2 q0 q1 p0 p1 q01 q11 p01 p11 q02 q12 p02 p12 q03 q13 p03 p13 q04 q14 p04 p14
        (try simp only [World.size_alloc] at B0)
        go_wp2_with fail
        refine (eqPairs_yes _ _ ys.length _ _ (flatP ys) _ (B0.out.slI (.head _)) (B0.out.slI (.tail _ (.tail _ (.tail _ (.tail _ (.head _)))))) Hq0.out hRl).mono ?_
        rintro e t3 ⟨rfl, hB⟩
        have zt3 := hB.size
        (try simp only [World.size_alloc] at zt3)
        have B0 := hid (B0.out.below hB)
        clear hB
        go_wp2_with fail
        refine (heldPairs _ _ ys.length _ (1) _ rfl (B0.out.slI (.tail _ (.tail _ (.tail _ (.head _))))) hRl (by omega) (by omega)).mono ?_
        rintro e t4 ⟨rfl, hB⟩
        have zt4 := hB.size
        (try simp only [World.size_alloc] at zt4)
        have B0 := hid (B0.out.below hB)
        clear hB
        go_wp2_with fail
        go_ret
        exact ⟨rfl, B0.out.from0⟩

end Go.Proofs.Ytplcbiconfpmlaa
