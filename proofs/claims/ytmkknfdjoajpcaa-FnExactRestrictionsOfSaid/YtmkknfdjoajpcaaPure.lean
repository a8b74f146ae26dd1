import Derived.Test.YtmkknfdjoajpcaaFacetsI
import Derived.Test.YtmkknfdjoajpcaaContains
import Derived.Test.YtmkknfdjoajpcaaPick
/-! Pure complexes: the kind's method, IsPure, pureFacets. -/
namespace Go.Proofs.Ytmkknfdjoajpcaa
open Go.RowKit

/-- Do all have as many vertices as the first? -/
def pureB (L : List Int) : Bool := L.all fun x => decide (ones x.toNat = ones (L[0]?.getD 0).toNat)

theorem below_drewN (w : World) (n : Nat) : Below w.heap.size w (w.drewN n) := ⟨rfl, rfl, rfl, Nat.le_refl _, fun _ _ => rfl⟩

set_option maxRecDepth 100000 in
set_option maxHeartbeats 1000000 in
/-- slices.IndexFunc at []int64, with a function that has captured one variable. -/
theorem idxC_any (a : Option Addr) (cap : Nat) (xs : List Int) (fid : Nat) (c1 : Value) (p : Int → Bool) (w : World) (hx : SlI w w.heap.size a xs) (hl : xs.length ≤ 1048576)
    (hent : ∀ args w, (callFunc fid args).run Try.prog w = .ok (.enter fid args) w)
    (hcl : ∀ W x, Below w.heap.size w W → x ∈ xs → Calls Try.prog fid #[.int .i64 x, c1] W fun e w' => e = .returned (.bool (p x)) ∧ Below W.heap.size W w') :
    Calls Try.prog 133 #[.slice a xs.length cap, .func (.func fid) #[] #[c1]] w fun e w' => ∃ i : Int, e = .returned (.int .i64 i) ∧ -1 ≤ i ∧ (0 ≤ i ↔ xs.any p = true) ∧ Below w.heap.size w w' := by
  have Hx := hid hx
  have HD := hid hcl
  clear hx hcl
  go_enter Try.func133, Try.ntmps133
  go_wp2
  go_loopw [8] (fun i wr => ∃ k : Nat, k ≤ xs.length ∧ i = .int .i64 k ∧ Hid ((xs.take k).any p = false) ∧ Hid (Below w.heap.size w wr)) (fun i _ => xs.length - (RowKit.intOf i).toNat)
  case atStart => exact ⟨0, Nat.zero_le _, rfl, hid (by simp), hid (Below.refl _ _)⟩
  case round =>
    obtain ⟨k, hk, rfl, Hk, HB⟩ := hrel
    by_cases hlt : k < xs.length
    · obtain ⟨b, off, hb, rfl, hc⟩ : ∃ b off, b < w.heap.size ∧ a = some ⟨b, off, none⟩ ∧ ∀ i, i < xs.length → w.cell? ⟨b, off + i, none⟩ = some (.int .i64 (xs[i]?.getD 0)) := by
        rcases Hx.out with rfl | h
        · simp at hlt
        · exact h
      obtain ⟨x, hx⟩ : ∃ x, x = xs[k]?.getD 0 := ⟨_, rfl⟩
      have hck : wr.cell? ⟨b, off + k, none⟩ = some (.int .i64 x) := by rw [hx]; exact (HB.out.cell (p := ⟨b, off + k, none⟩) hb).trans (hc k hlt)
      have hxm : x ∈ xs := by rw [hx]; exact getD_mem hlt
      have hi0 : (0 : Int) ≤ (k : Int) := by omega
      have hi1 : (k : Int) < (xs.length : Int) := by omega
      have HC := hid (HD.out wr x HB.out hxm)
      have Hs : Hid (∀ c, p x = c → (xs.take (k + 1)).any p = c) := hid (fun c hcc => by rw [take_snoc hlt, List.any_append, Hk.out, ← hx]; simpa using hcc)
      have Hm : Hid (p x = true → xs.any p = true) := hid (fun h => List.any_eq_true.2 ⟨x, hxm, h⟩)
      clear hx hc hxm
      cases hpx : p x
      · rw [hpx] at HC
        have He := hid (Hs.out false hpx)
        clear hpx Hs Hm
        go_wp2_with fail
        refine HC.out.mono ?_
        rintro e w1 ⟨rfl, hB1⟩
        have HB1 := hid (HB.out.trans (hB1.mono HB.out.size))
        clear hB1
        go_wp2_with fail
        go_roundw
        case rel => exact ⟨k + 1, by omega, by go_num, He, HB1⟩
        case measure => simp [RowKit.intOf]; omega
      · rw [hpx] at HC
        have He := hid (Hm.out hpx)
        clear hpx Hs Hm
        go_wp2_with fail
        refine HC.out.mono ?_
        rintro e w1 ⟨rfl, hB1⟩
        have HB1 := hid (HB.out.trans (hB1.mono HB.out.size))
        clear hB1
        go_wp2_with fail
        go_ret
        exact ⟨_, rfl, by omega, ⟨fun _ => He.out, fun _ => by omega⟩, HB1.out⟩
    · have hkn : k = xs.length := by omega
      have He : Hid (xs.any p = false) := hid (by have h := Hk.out; rw [hkn, List.take_length] at h; exact h)
      go_wp2_with fail
      go_ret
      exact ⟨-1, rfl, by decide, ⟨fun h => absurd h (by decide), fun h => by rw [He.out] at h; cases h⟩, HB.out⟩

set_option maxRecDepth 100000 in
set_option maxHeartbeats 1000000 in
theorem containsC_any (a : Option Addr) (cap : Nat) (xs : List Int) (fid : Nat) (c1 : Value) (p : Int → Bool) (w : World) (hx : SlI w w.heap.size a xs) (hl : xs.length ≤ 1048576)
    (hent : ∀ args w, (callFunc fid args).run Try.prog w = .ok (.enter fid args) w)
    (hcl : ∀ W x, Below w.heap.size w W → x ∈ xs → Calls Try.prog fid #[.int .i64 x, c1] W fun e w' => e = .returned (.bool (p x)) ∧ Below W.heap.size W w') :
    Calls Try.prog 126 #[.slice a xs.length cap, .func (.func fid) #[] #[c1]] w fun e w' => e = .returned (.bool (xs.any p)) ∧ Below w.heap.size w w' := by
  have HI := hid (idxC_any a cap xs fid c1 p w hx hl hent hcl)
  obtain ⟨c, hc⟩ : ∃ c, c = xs.any p := ⟨_, rfl⟩
  have Hc := hid hc
  rw [← hc]
  clear hc hx hcl hent
  go_enter Try.func126, Try.ntmps126
  go_wp2_with fail
  refine HI.out.mono ?_
  rintro e w' ⟨i, rfl, h1, h2, hB⟩
  have Hi := hid h2
  have HB := hid hB
  clear h1 h2 hB
  by_cases h0 : 0 ≤ i
  · have He : Hid (c = true) := hid (by rw [Hc.out]; exact Hi.out.1 h0)
    have hd : decide (0 ≤ i) = true := decide_eq_true h0
    go_wp2_with fail
    go_ret
    exact ⟨ret_bool He.out.symm, HB.out⟩
  · have He : Hid (c = false) := hid (by
      rw [Hc.out]
      rw [Bool.eq_false_iff]
      exact fun h => h0 (Hi.out.2 h))
    have hd : decide (0 ≤ i) = false := decide_eq_false h0
    go_wp2_with fail
    go_ret
    exact ⟨ret_bool He.out.symm, HB.out⟩

set_option maxRecDepth 100000 in
set_option maxHeartbeats 1000000 in
theorem has1_any (x : Nat) (hx : x < 64) (f : Nat) (hf : f < 64) (bm b off n cap : Nat) (w : World) (hm : w.cell? ⟨bm, 0, none⟩ = some (.slice (some ⟨b, off, none⟩) n cap)) (hn : 0 < n) (hc : w.cell? ⟨b, off, none⟩ = some (.int .i64 (f : Int))) :
    Calls Try.prog 127 #[.int .i64 (x : Int), .pointer (some ⟨bm, 0, none⟩)] w fun e w' => e = .returned (.bool (!decide (ones x = ones f))) ∧ Below w.heap.size w w' := by
  have hi1 : (0 : Int) < (n : Int) := by omega
  have hlt : 0 < n := hn
  go_enter Try.func127, Try.ntmps127
  go_wp2_with fail
  go_quiet (first
    | (go_at_call 106; exact quiet_of_eq (dim_any x _ hx))
    | (go_at_call 106; exact quiet_of_eq (dim_any f _ hf)))
  go_wp2_with fail
  go_ret
  refine ⟨ret_bool ?_, below_drewN _ _⟩
  rw [Bool.eq_iff_iff]
  simp
  omega

theorem pureB_any (L : List Int) : (!(L.any fun x => !decide (ones x.toNat = ones (L[0]?.getD 0).toNat))) = pureB L := by
  unfold pureB
  rw [List.not_any_eq_all_not]
  simp

set_option maxRecDepth 100000 in
set_option maxHeartbeats 1000000 in
/-- The kind's method. -/
theorem pureHas_any (a : Option Addr) (cap : Nat) (xs : List Int) (w : World) (hx : SlI w w.heap.size a xs) (hl : xs.length ≤ 1048576) (hr : ∀ x ∈ xs, 1 ≤ x ∧ x ≤ 63) :
    Calls Try.prog 111 #[.agg #[], .slice a xs.length cap] w fun e w' => e = .returned (.bool (pureB xs)) ∧ Below w.heap.size w w' := by
  obtain ⟨W, hW⟩ : ∃ W, W = (w.alloc (.cells #[] 56)).alloc (.cells #[.slice a xs.length cap] 22) := ⟨_, rfl⟩
  have hB0 : Below w.heap.size w W := by rw [hW]; exact ((Below.refl _ w).alloc (Nat.le_refl _) _).alloc (by simp) _
  have hk : W.cell? ⟨w.heap.size + 1, 0, none⟩ = some (.slice a xs.length cap) := by rw [hW]; simp [go_sem]
  have hlt : w.heap.size + 1 < W.heap.size := by rw [hW]; simp
  have HC := hid (containsC_any a cap xs 127 (.pointer (some ⟨w.heap.size + 1, 0, none⟩)) (fun x => !decide (ones x.toNat = ones (xs[0]?.getD 0).toNat)) W (hx.later hB0 hB0.size) hl
    (enters_of Try.func127 (by kernel_rfl) rfl) (by
      intro W' x hB hxm
      have h0 : 0 < xs.length := List.length_pos_of_mem hxm
      rcases hx with rfl | ⟨b, off, hb, rfl, hc⟩
      · simp at h0
      · have h1 := hr x hxm
        have h2 := hr _ (getD_mem h0)
        have hc0 : W'.cell? ⟨b, off, none⟩ = some (.int .i64 (xs[0]?.getD 0)) := (hB.cell (p := ⟨b, off, none⟩) (Nat.lt_of_lt_of_le hb hB0.size)).trans ((hB0.cell (p := ⟨b, off, none⟩) hb).trans (hc 0 h0))
        have h := has1_any x.toNat (by omega) (xs[0]?.getD 0).toNat (by omega) (w.heap.size + 1) b off xs.length cap W' ((hB.cell (p := ⟨w.heap.size + 1, 0, none⟩) hlt).trans hk) h0 (by rw [hc0, Int.toNat_of_nonneg (by omega)])
        rw [Int.toNat_of_nonneg (show 0 ≤ x by omega)] at h
        exact h))
  obtain ⟨c, hc⟩ : ∃ c, c = xs.any (fun x => !decide (ones x.toNat = ones (xs[0]?.getD 0).toNat)) := ⟨_, rfl⟩
  have hpc : Hid (pureB xs = !c) := hid (by rw [hc, ← pureB_any])
  rw [← hc] at HC
  have HW := hid hW
  have HB0 := hid hB0
  clear hc hx hr hW hB0 hk hlt
  rw [hpc.out]
  go_enter Try.func111, Try.ntmps111
  go_wp2_with fail
  rw [← HW.out]
  refine HC.out.mono ?_
  rintro e w1 ⟨rfl, hB1⟩
  cases c <;>
  · go_wp2_with fail
    go_ret
    exact ⟨rfl, HB0.out.trans (hB1.mono HB0.out.size)⟩

/-- What IsPure hands back. -/
noncomputable def isPureR (V : Int) (fs : List Int) : Bool × Int := if isCB V fs then (pureB (facetsL fs), 0) else (false, 1)

theorem bool_mono' {fn : FuncId} {args : Array Value} {w : World} {B : Nat} {P : Program} {R : Bool × Int} {b : Bool} {c : Int} (hR : R = (b, c))
    (h : Calls P fn args w fun e w' => e = .returned (.tuple #[.bool b, .int .i64 c]) ∧ Below B w w') :
    Calls P fn args w fun e w' => e = .returned (.tuple #[.bool R.1, .int .i64 R.2]) ∧ Below B w w' := by
  subst hR
  exact h

theorem facetsL_range {V : Int} {fs : List Int} (h : IsC V fs) : ∀ x ∈ facetsL fs, 1 ≤ x ∧ x ≤ 63 := fun x hx => h.range63 x (List.mem_filter.1 hx).1
theorem facetsL_le (fs : List Int) : (facetsL fs).length ≤ fs.length := List.length_filter_le _ _

theorem method_pure (w : World) : (method 257 56 (.agg #[]) "loop.example/g01348/impl.has").run Try.prog w = .ok (111, .agg #[]) w := by kernel_rfl

set_option maxRecDepth 100000 in
set_option maxHeartbeats 1000000 in
theorem kindPure_any (V : Int) (a : Option Addr) (cap : Nat) (fs : List Int) (w : World) (hx : SlI w w.heap.size a fs) (hl : fs.length ≤ 1048576) :
    Calls Try.prog 59 #[.agg #[.int .i64 V, .slice a fs.length cap], .iface 56 (.agg #[])] w fun e w' => e = .returned (.tuple #[.bool (isPureR V fs).1, .int .i64 (isPureR V fs).2]) ∧ Below w.heap.size w w' := by
  obtain ⟨W, hW⟩ : ∃ W, W = w.alloc (.cells #[.int .i64 V, .slice a fs.length cap] 26) := ⟨_, rfl⟩
  have hB0 : Below w.heap.size w W := by rw [hW]; exact (Below.refl _ w).alloc (Nat.le_refl _) _
  have HF := hid (implFacetsOf V a cap fs W (hx.later hB0 hB0.size) hl)
  have HW := hid hW
  have HB0 := hid hB0
  clear hx hW hB0
  by_cases hC : IsC V fs
  · refine bool_mono' (show isPureR V fs = (pureB (facetsL fs), 0) by unfold isPureR; rw [isCB_true hC, if_pos rfl]) ?_
    have hR : facetsOfR V fs = (facetsL fs, 0) := by unfold facetsOfR; rw [isCB_true hC, if_pos rfl]
    rw [hR] at HF
    have Hr := hid (facetsL_range hC)
    have Hle := hid (facetsL_le fs)
    clear hR hC
    go_enter Try.func59, Try.ntmps59
    go_wp2_with fail
    rw [← HW.out]
    refine HF.out.mono ?_
    rintro e w1 ⟨v, rfl, hr⟩
    obtain ⟨_, av, cv, rfl, hs⟩ := ownsRow_slI hr.1
    have HB1 := hid (HB0.out.trans (hr.2.mono HB0.out.size))
    have hm := method_pure
    go_wp2_with fail
    refine (pureHas_any av cv (facetsL fs) w1 hs (by have := Hle.out; omega) Hr.out).mono ?_
    rintro e w2 ⟨rfl, hB2⟩
    have HB2 := hid (HB1.out.trans (hB2.mono HB1.out.size))
    clear hB2
    go_wp2_with fail
    go_ret2
    exact ⟨rfl, HB2.out⟩
  · refine bool_mono' (show isPureR V fs = (false, 1) by unfold isPureR; rw [isCB_false hC, if_neg (by simp)]) ?_
    have hR : facetsOfR V fs = ([], 1) := by unfold facetsOfR; rw [isCB_false hC, if_neg (by simp)]
    rw [hR] at HF
    clear hR hC
    go_enter Try.func59, Try.ntmps59
    go_wp2_with fail
    rw [← HW.out]
    refine HF.out.mono ?_
    rintro e w1 ⟨v, rfl, hr⟩
    have HB1 := hid (HB0.out.trans (hr.2.mono HB0.out.size))
    go_wp2_with fail
    go_ret2
    exact ⟨rfl, HB1.out⟩

set_option maxRecDepth 100000 in
set_option maxHeartbeats 1000000 in
theorem implIsPure (V : Int) (a : Option Addr) (cap : Nat) (fs : List Int) (w : World) (hx : SlI w w.heap.size a fs) (hl : fs.length ≤ 1048576) :
    Calls Try.prog 30 #[.agg #[.int .i64 V, .slice a fs.length cap]] w fun e w' => e = .returned (.tuple #[.bool (isPureR V fs).1, .int .i64 (isPureR V fs).2]) ∧ Below w.heap.size w w' := by
  have hB0 : Below w.heap.size w (w.alloc (.cells #[.int .i64 V, .slice a fs.length cap] 26)) := (Below.refl _ w).alloc (Nat.le_refl _) _
  have HK := hid (kindPure_any V a cap fs _ (hx.later hB0 hB0.size) hl)
  have HB0 := hid hB0
  obtain ⟨R, hR⟩ : ∃ R, R = isPureR V fs := ⟨_, rfl⟩
  rw [← hR] at HK
  rw [← hR]
  obtain ⟨b, c⟩ := R
  clear hx hB0 hR
  go_enter Try.func30, Try.ntmps30
  go_wp2_with fail
  refine HK.out.mono ?_
  rintro e w1 ⟨rfl, hB1⟩
  go_wp2_with fail
  go_ret2
  exact ⟨rfl, HB0.out.trans (hB1.mono HB0.out.size)⟩

/-- The facets of a pure complex. -/
noncomputable def pureFacetsR (V : Int) (fs : List Int) : List Int × Int := if isCB V fs then (if pureB (facetsL fs) then (facetsL fs, 0) else ([], 5)) else ([], 1)

set_option maxRecDepth 100000 in
set_option maxHeartbeats 1000000 in
theorem pureFacets_any (V : Int) (a : Option Addr) (cap : Nat) (fs : List Int) (w : World) (hx : SlI w w.heap.size a fs) (hl : fs.length ≤ 1048576) :
    Calls Try.prog 77 #[.agg #[.int .i64 V, .slice a fs.length cap]] w fun e w' => ∃ v, e = .returned (.tuple #[v, .int .i64 (pureFacetsR V fs).2]) ∧ Res w w' v (pureFacetsR V fs).1 := by
  obtain ⟨W, hW⟩ : ∃ W, W = w.alloc (.cells #[.int .i64 V, .slice a fs.length cap] 26) := ⟨_, rfl⟩
  have hB0 : Below w.heap.size w W := by rw [hW]; exact (Below.refl _ w).alloc (Nat.le_refl _) _
  have HF := hid (implFacetsOf V a cap fs W (hx.later hB0 hB0.size) hl)
  have HW := hid hW
  have HB0 := hid hB0
  clear hx hW hB0
  by_cases hC : IsC V fs
  · have hR : facetsOfR V fs = (facetsL fs, 0) := by unfold facetsOfR; rw [isCB_true hC, if_pos rfl]
    rw [hR] at HF
    have Hr := hid (facetsL_range hC)
    have Hle := hid (facetsL_le fs)
    obtain ⟨b, hb⟩ : ∃ b, b = pureB (facetsL fs) := ⟨_, rfl⟩
    have hP : Hid (pureFacetsR V fs = if b then (facetsL fs, 0) else ([], 5)) := hid (by unfold pureFacetsR; rw [isCB_true hC, if_pos rfl, hb])
    have Hb := hid hb
    clear hR hC hb
    cases b
    · refine pair_mono' (hP.out.trans (if_neg (by decide))) ?_
      go_enter Try.func77, Try.ntmps77
      go_wp2_with fail
      rw [← HW.out]
      refine HF.out.mono ?_
      rintro e w1 ⟨v, rfl, hr⟩
      obtain ⟨_, av, cv, rfl, hs⟩ := ownsRow_slI hr.1
      have HB1 := hid (HB0.out.trans (hr.2.mono HB0.out.size))
      go_wp2_with fail
      refine (pureHas_any av cv (facetsL fs) w1 hs (by have := Hle.out; omega) Hr.out).mono ?_
      rw [← Hb.out]
      rintro e w2 ⟨rfl, hB2⟩
      have HB2 := hid (HB1.out.trans (hB2.mono HB1.out.size))
      clear hB2
      go_wp2_with fail
      go_ret2
      exact ⟨_, rfl, res_nil _ _ HB2.out⟩
    · refine pair_mono' (hP.out.trans (if_pos rfl)) ?_
      go_enter Try.func77, Try.ntmps77
      go_wp2_with fail
      rw [← HW.out]
      refine HF.out.mono ?_
      rintro e w1 ⟨v, rfl, hr⟩
      obtain ⟨_, av, cv, rfl, hs⟩ := ownsRow_slI hr.1
      have Hres := hid (hr.later HB0.out)
      go_wp2_with fail
      refine (pureHas_any av cv (facetsL fs) w1 hs (by have := Hle.out; omega) Hr.out).mono ?_
      rw [← Hb.out]
      rintro e w2 ⟨rfl, hB2⟩
      have Hres2 := hid (Hres.out.after hB2)
      clear hB2
      go_wp2_with fail
      go_ret2
      exact ⟨_, rfl, Hres2.out⟩
  · refine pair_mono' (show pureFacetsR V fs = ([], 1) by unfold pureFacetsR; rw [isCB_false hC, if_neg (by simp)]) ?_
    have hR : facetsOfR V fs = ([], 1) := by unfold facetsOfR; rw [isCB_false hC, if_neg (by simp)]
    rw [hR] at HF
    clear hR hC
    go_enter Try.func77, Try.ntmps77
    go_wp2_with fail
    rw [← HW.out]
    refine HF.out.mono ?_
    rintro e w1 ⟨v, rfl, hr⟩
    have Hres := hid (hr.later HB0.out)
    go_wp2_with fail
    go_ret2
    exact ⟨_, rfl, Hres.out⟩

end Go.Proofs.Ytmkknfdjoajpcaa
