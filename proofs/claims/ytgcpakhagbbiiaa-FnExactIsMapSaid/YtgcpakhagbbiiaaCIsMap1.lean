import Derived.Test.YtgcpakhagbbiiaaMB4
import Derived.Test.YtgcpakhagbbiiaaMB1
import Derived.Test.YtgcpakhagbbiiaaMB2
/-! slices.IndexFunc and slices.ContainsFunc at []int64, with a function that has captured one variable. -/
namespace Go.Proofs.Ytgcpakhagbbiiaa
open Go.RowKit

set_option maxRecDepth 100000 in
set_option maxHeartbeats 1000000 in
/-- slices.IndexFunc at []int64, with a function that has captured one variable. -/
theorem idxD_any (a : Option Addr) (cap : Nat) (xs : List Int) (fid : Nat) (c1 : Value) (p : Int → Bool) (w : World) (hx : SlI w w.heap.size a xs) (hl : xs.length ≤ 1048576)
    (hent : ∀ args w, (callFunc fid args).run Try.prog w = .ok (.enter fid args) w)
    (hcl : ∀ W x, Below w.heap.size w W → x ∈ xs → Calls Try.prog fid #[.int .i64 x, c1] W fun e w' => e = .returned (.bool (p x)) ∧ Below W.heap.size W w') :
    Calls Try.prog 178 #[.slice a xs.length cap, .func (.func fid) #[] #[c1]] w fun e w' => ∃ i : Int, e = .returned (.int .i64 i) ∧ -1 ≤ i ∧ (0 ≤ i ↔ xs.any p = true) ∧ Below w.heap.size w w' := by
  have Hx := hid hx
  have HD := hid hcl
  clear hx hcl
  go_enter Try.func178, Try.ntmps178
  go_wp2
  go_loopw [8] (fun i wr => ∃ k : Nat, k ≤ xs.length ∧ i = .int .i64 k ∧ Hid ((xs.take k).any p = false) ∧ Hid (Below w.heap.size w wr)) (fun i _ => xs.length - (RowKit.intOf i).toNat)
  case atStart => exact ⟨0, Nat.zero_le _, rfl, hid (by simp), hid (Below.refl _ _)⟩
  case round =>
    obtain ⟨k, hk, rfl, Hk, HB⟩ := hrel
    by_cases hlt : k < xs.length
    · obtain ⟨b, off, hb, rfl, hc⟩ : ∃ b off, b < w.heap.size ∧ a = some ⟨b, off, none⟩ ∧ ∀ i, i < xs.length → w.cell? ⟨b, off + i, none⟩ = some (.int .i64 (xs[i]?.getD 0)) := by
        rcases Hx.out with rfl | h
        · simp at hlt
        · exact h
      obtain ⟨x, hx⟩ : ∃ x, x = xs[k]?.getD 0 := ⟨_, rfl⟩
      have hck : wr.cell? ⟨b, off + k, none⟩ = some (.int .i64 x) := by rw [hx]; exact (HB.out.cell (p := ⟨b, off + k, none⟩) hb).trans (hc k hlt)
      have hxm : x ∈ xs := by rw [hx]; exact getD_mem hlt
      have hi0 : (0 : Int) ≤ (k : Int) := by omega
      have hi1 : (k : Int) < (xs.length : Int) := by omega
      have HC := hid (HD.out wr x HB.out hxm)
      have Hs : Hid (∀ c, p x = c → (xs.take (k + 1)).any p = c) := hid (fun c hcc => by rw [take_snoc hlt, List.any_append, Hk.out, ← hx]; simpa using hcc)
      have Hm : Hid (p x = true → xs.any p = true) := hid (fun h => List.any_eq_true.2 ⟨x, hxm, h⟩)
      clear hx hc hxm
      cases hpx : p x
      · rw [hpx] at HC
        have He := hid (Hs.out false hpx)
        clear hpx Hs Hm
        go_wp2_with fail
        refine HC.out.mono ?_
        rintro e w1 ⟨rfl, hB1⟩
        have HB1 := hid (HB.out.trans (hB1.mono HB.out.size))
        clear hB1
        go_wp2_with fail
        go_roundw
        case rel => exact ⟨k + 1, by omega, by go_num, He, HB1⟩
        case measure => simp [RowKit.intOf]; omega
      · rw [hpx] at HC
        have He := hid (Hm.out hpx)
        clear hpx Hs Hm
        go_wp2_with fail
        refine HC.out.mono ?_
        rintro e w1 ⟨rfl, hB1⟩
        have HB1 := hid (HB.out.trans (hB1.mono HB.out.size))
        clear hB1
        go_wp2_with fail
        go_ret
        exact ⟨_, rfl, by omega, ⟨fun _ => He.out, fun _ => by omega⟩, HB1.out⟩
    · have hkn : k = xs.length := by omega
      have He : Hid (xs.any p = false) := hid (by have h := Hk.out; rw [hkn, List.take_length] at h; exact h)
      go_wp2_with fail
      go_ret
      exact ⟨-1, rfl, by decide, ⟨fun h => absurd h (by decide), fun h => by rw [He.out] at h; cases h⟩, HB.out⟩

set_option maxRecDepth 100000 in
set_option maxHeartbeats 1000000 in
theorem containsD_any (a : Option Addr) (cap : Nat) (xs : List Int) (fid : Nat) (c1 : Value) (p : Int → Bool) (w : World) (hx : SlI w w.heap.size a xs) (hl : xs.length ≤ 1048576)
    (hent : ∀ args w, (callFunc fid args).run Try.prog w = .ok (.enter fid args) w)
    (hcl : ∀ W x, Below w.heap.size w W → x ∈ xs → Calls Try.prog fid #[.int .i64 x, c1] W fun e w' => e = .returned (.bool (p x)) ∧ Below W.heap.size W w') :
    Calls Try.prog 203 #[.slice a xs.length cap, .func (.func fid) #[] #[c1]] w fun e w' => e = .returned (.bool (xs.any p)) ∧ Below w.heap.size w w' := by
  have HI := hid (idxD_any a cap xs fid c1 p w hx hl hent hcl)
  obtain ⟨c, hc⟩ : ∃ c, c = xs.any p := ⟨_, rfl⟩
  have Hc := hid hc
  rw [← hc]
  clear hc hx hcl hent
  go_enter Try.func203, Try.ntmps203
  go_wp2_with fail
  refine HI.out.mono ?_
  rintro e w' ⟨i, rfl, h1, h2, hB⟩
  have Hi := hid h2
  have HB := hid hB
  clear h1 h2 hB
  by_cases h0 : 0 ≤ i
  · have He : Hid (c = true) := hid (by rw [Hc.out]; exact Hi.out.1 h0)
    have hd : decide (0 ≤ i) = true := decide_eq_true h0
    go_wp2_with fail
    go_ret
    exact ⟨ret_bool He.out.symm, HB.out⟩
  · have He : Hid (c = false) := hid (by
      rw [Hc.out]
      rw [Bool.eq_false_iff]
      exact fun h => h0 (Hi.out.2 h))
    have hd : decide (0 ≤ i) = false := decide_eq_false h0
    go_wp2_with fail
    go_ret
    exact ⟨ret_bool He.out.symm, HB.out⟩


end Go.Proofs.Ytgcpakhagbbiiaa

/-! IsMap, on both sides. -/
namespace Go.Proofs.Ytgcpakhagbbiiaa
open Go.RowKit

theorem below_drewD (w : World) (n : Nat) : Below w.heap.size w (w.drewN n) := ⟨rfl, rfl, rfl, Nat.le_refl _, fun _ _ => rfl⟩
def inB (V2 x : Int) : Bool := decide (0 ≤ x) && decide (x ≤ V2 - 1)
/-- Is a list a map? -/
def mapB (V1 V2 : Int) (xs : List Int) : Bool := xs.all (inB V2) && decide ((xs.length : Int) = V1)
noncomputable def isMapR (V1 : Int) (fs1 : List Int) (V2 : Int) (fs2 : List Int) (xs : List Int) : Bool × Int := if isCB V1 fs1 && isCB V2 fs2 then (mapB V1 V2 xs, 0) else (false, 1)

set_option maxRecDepth 100000 in
set_option maxHeartbeats 2000000 in
/-- l09Map. -/
theorem mapS_any (V1 : Int) (s1 : Value) (V2 : Int) (s2 : Value) (a : Option Addr) (cap : Nat) (xs : List Int) (w : World) (hx : SlI w w.heap.size a xs) (hl : xs.length ≤ 1048576) (h2 : 1 ≤ V2 ∧ V2 ≤ 6) :
    Calls Try.prog 71 #[.agg #[.int .i64 V1, s1], .agg #[.int .i64 V2, s2], .slice a xs.length cap] w fun e w' => e = .returned (.bool (mapB V1 V2 xs)) ∧ Below w.heap.size w w' := by
  have hB0 : Below w.heap.size w ((w.alloc (.cells #[.int .i64 V1, s1] 30)).alloc (.cells #[.int .i64 V2, s2] 30)) := ((Below.refl _ w).alloc (Nat.le_refl _) _).alloc (by simp) _
  have Hx := hid hx
  have HB0 := hid hB0
  clear hx hB0
  go_enter Try.func71, Try.ntmps71
  go_wp2_with fail
  go_loopw [7] (fun iv wx => ∃ k : Nat, k ≤ xs.length ∧ iv = .int .i64 k ∧ Hid ((xs.take k).all (inB V2) = true) ∧ Hid (Below (w.heap.size + 2) ((w.alloc (.cells #[.int .i64 V1, s1] 30)).alloc (.cells #[.int .i64 V2, s2] 30)) wx)) (fun iv _ => xs.length - (intOf iv).toNat)
  case atStart => exact ⟨0, Nat.zero_le _, rfl, hid (by simp), hid (Below.refl _ _)⟩
  case round =>
    obtain ⟨k, hk, rfl, Hk, HB⟩ := hrel
    have q0 : wr.cell? ⟨w.heap.size, 0, none⟩ = some (.int .i64 V1) := (HB.out.cell (p := ⟨w.heap.size, 0, none⟩) (by simp)).trans (by simp [go_sem])
    have q1 : wr.cell? ⟨w.heap.size + 1, 0, none⟩ = some (.int .i64 V2) := (HB.out.cell (p := ⟨w.heap.size + 1, 0, none⟩) (by simp)).trans (by simp [go_sem])
    have HBw := hid (HB0.out.trans (HB.out.mono (by omega)))
    by_cases hlt : k < xs.length
    · obtain ⟨b, off, hb, rfl, hc⟩ : ∃ b off, b < w.heap.size ∧ a = some ⟨b, off, none⟩ ∧ ∀ i, i < xs.length → w.cell? ⟨b, off + i, none⟩ = some (.int .i64 (xs[i]?.getD 0)) := by
        rcases Hx.out with h | h
        · rw [h] at hlt; simp at hlt
        · exact h
      obtain ⟨x, hx⟩ : ∃ x, x = xs[k]?.getD 0 := ⟨_, rfl⟩
      have hck : wr.cell? ⟨b, off + k, none⟩ = some (.int .i64 x) := by rw [hx]; exact (HBw.out.cell (p := ⟨b, off + k, none⟩) hb).trans (hc k hlt)
      have hi0 : (0 : Int) ≤ (k : Int) := by omega
      have hi1 : (k : Int) < (xs.length : Int) := by omega
      have hsub : wrap64 (V2 - 1) = V2 - 1 := IntWalk.wrap64_in _ ⟨by omega, by omega⟩
      have Hs : Hid (∀ c, inB V2 x = c → (xs.take (k + 1)).all (inB V2) = c) := hid (fun c hcc => by rw [take_snoc hlt, List.all_append, Hk.out, ← hx]; simpa using hcc)
      have Hn : Hid (inB V2 x = false → mapB V1 V2 xs = false) := hid (fun h => by
        unfold mapB
        rw [show xs.all (inB V2) = false from List.all_eq_false.2 ⟨x, by rw [hx]; exact getD_mem hlt, by rw [h]; simp⟩]
        rfl)
      have HBd := hid (fun N => HB.out.trans ((below_drewD wr N).mono (by have := HB.out.size; simp at this; omega)))
      have HBe := hid (fun N => HBw.out.trans ((below_drewD wr N).mono HBw.out.size))
      clear hc hx
      by_cases hin : 0 ≤ x ∧ x ≤ V2 - 1
      · have He := hid (Hs.out true (by unfold inB; simp [hin.1, hin.2]))
        clear Hs Hn
        have Hin := hid hin
        clear hin
        go_wp2_with fail
        go_quiet ((go_at_call 66; exact quiet_of_eq ((in_yes x 0 (V2 - 1) _ Hin.out.1 Hin.out.2).mono (fun _ _ ⟨h1, h2⟩ => ⟨h1, h2⟩))))
        go_wp2_with fail
        go_roundw
        case rel => exact ⟨k + 1, by omega, by go_num, He, hid (HBd.out _)⟩
        case measure => simp [intOf]; omega
      · have He := hid (Hn.out (by unfold inB; by_cases h0 : 0 ≤ x <;> simp [h0] <;> omega))
        clear Hs Hn
        have Hin := hid hin
        clear hin
        go_wp2_with fail
        go_quiet ((go_at_call 66; exact quiet_of_eq ((in_no x 0 (V2 - 1) _ Hin.out).mono (fun _ _ ⟨h1, h2⟩ => ⟨h1, h2⟩))))
        go_wp2_with fail
        go_ret
        exact ⟨ret_bool He.out.symm, HBe.out _⟩
    · obtain rfl : k = xs.length := by omega
      have He : Hid (mapB V1 V2 xs = ((xs.length : Int) == V1)) := hid (by
        have := Hk.out
        rw [List.take_length] at this
        unfold mapB
        rw [this]
        rw [Bool.eq_iff_iff]
        simp)
      go_wp2_with fail
      go_ret
      exact ⟨ret_bool He.out.symm, HBw.out⟩

theorem boolM_mono {w : World} {f : FuncId} {args : Array Value} {R S : Bool × Int} (h : R = S) (hc : Calls Try.prog f args w fun e w' => e = .returned (.tuple #[.bool S.1, .int .i64 S.2]) ∧ Below w.heap.size w w') : Calls Try.prog f args w fun e w' => e = .returned (.tuple #[.bool R.1, .int .i64 R.2]) ∧ Below w.heap.size w w' := by rw [h]; exact hc

set_option maxRecDepth 100000 in
set_option maxHeartbeats 2000000 in
theorem specIsMap (V1 : Int) (a1 : Option Addr) (cap1 : Nat) (fs1 : List Int) (V2 : Int) (a2 : Option Addr) (cap2 : Nat) (fs2 : List Int) (a3 : Option Addr) (cap3 : Nat) (xs : List Int) (w : World) (hx1 : SlI w w.heap.size a1 fs1) (hx2 : SlI w w.heap.size a2 fs2) (hx3 : SlI w w.heap.size a3 xs) (hl1 : fs1.length ≤ 1048576) (hl2 : fs2.length ≤ 1048576) (hl3 : xs.length ≤ 1048576) :
    Calls Try.prog 33 #[.agg #[.int .i64 V1, .slice a1 fs1.length cap1], .agg #[.int .i64 V2, .slice a2 fs2.length cap2], .slice a3 xs.length cap3] w fun e w' => e = .returned (.tuple #[.bool (isMapR V1 fs1 V2 fs2 xs).1, .int .i64 (isMapR V1 fs1 V2 fs2 xs).2]) ∧ Below w.heap.size w w' := by
  have hB0 : Below w.heap.size w ((w.alloc (.cells #[.int .i64 V1, .slice a1 fs1.length cap1] 30)).alloc (.cells #[.int .i64 V2, .slice a2 fs2.length cap2] 30)) := ((Below.refl _ w).alloc (Nat.le_refl _) _).alloc (by simp) _
  have Hx1 := hid hx1
  have Hx2 := hid hx2
  have Hx3 := hid hx3
  have HB0 := hid hB0
  have HI1 := hid (fun W (h : Below w.heap.size w W) => is_all V1 a1 cap1 fs1 W (Hx1.out.later h h.size) hl1)
  have HI2 := hid (fun W (h : Below w.heap.size w W) => is_all V2 a2 cap2 fs2 W (Hx2.out.later h h.size) hl2)
  have Q := hid (fun (W : World) (h : Below (w.heap.size + 2) ((w.alloc (.cells #[.int .i64 V1, .slice a1 fs1.length cap1] 30)).alloc (.cells #[.int .i64 V2, .slice a2 fs2.length cap2] 30)) W) => (⟨(h.cell (p := ⟨w.heap.size, 0, none⟩) (by simp)).trans (by simp [go_sem]), (h.cell (p := ⟨w.heap.size, 1, none⟩) (by simp)).trans (by simp [go_sem]), (h.cell (p := ⟨w.heap.size + 1, 0, none⟩) (by simp)).trans (by simp [go_sem]), (h.cell (p := ⟨w.heap.size + 1, 1, none⟩) (by simp)).trans (by simp [go_sem])⟩ : W.cell? ⟨w.heap.size, 0, none⟩ = some (.int .i64 V1) ∧ W.cell? ⟨w.heap.size, 1, none⟩ = some (.slice a1 fs1.length cap1) ∧ W.cell? ⟨w.heap.size + 1, 0, none⟩ = some (.int .i64 V2) ∧ W.cell? ⟨w.heap.size + 1, 1, none⟩ = some (.slice a2 fs2.length cap2)))
  clear hx1 hx2 hx3 hB0
  cases hc1 : isCB V1 fs1
  · refine boolM_mono (show isMapR V1 fs1 V2 fs2 xs = (false, 1) by unfold isMapR; rw [hc1]; rfl) ?_
    rw [hc1] at HI1
    clear hc1 HI2
    go_enter Try.func33, Try.ntmps33
    go_wp2_with fail
    refine (HI1.out _ HB0.out).mono ?_
    rintro e w1 ⟨rfl, hB1⟩
    have HB1 := hid (HB0.out.trans (hB1.mono HB0.out.size))
    clear hB1
    go_wp2_with fail
    go_ret2
    exact ⟨rfl, HB1.out⟩
  · cases hc2 : isCB V2 fs2
    · refine boolM_mono (show isMapR V1 fs1 V2 fs2 xs = (false, 1) by unfold isMapR; rw [hc1, hc2]; rfl) ?_
      rw [hc1] at HI1
      rw [hc2] at HI2
      clear hc1 hc2
      go_enter Try.func33, Try.ntmps33
      go_wp2_with fail
      refine (HI1.out _ HB0.out).mono ?_
      rintro e w1 ⟨rfl, hB1⟩
      have HB1 := hid (HB0.out.trans (hB1.mono HB0.out.size))
      obtain ⟨q0, q1, q2, q3⟩ := Q.out w1 (by simpa using hB1)
      clear hB1
      go_wp2_with fail
      refine (HI2.out _ HB1.out).mono ?_
      rintro e w2 ⟨rfl, hB2⟩
      have HB2 := hid (HB1.out.trans (hB2.mono HB1.out.size))
      clear hB2
      go_wp2_with fail
      go_ret2
      exact ⟨rfl, HB2.out⟩
    · refine boolM_mono (show isMapR V1 fs1 V2 fs2 xs = (mapB V1 V2 xs, 0) by unfold isMapR; rw [hc1, hc2]; rfl) ?_
      have hV2 := (isCB_iff.1 hc2)
      have HM := hid (fun W (h : Below w.heap.size w W) => mapS_any V1 (.slice a1 fs1.length cap1) V2 (.slice a2 fs2.length cap2) a3 cap3 xs W (Hx3.out.later h h.size) hl3 ⟨hV2.lo, hV2.hi⟩)
      rw [hc1] at HI1
      rw [hc2] at HI2
      obtain ⟨b, hb⟩ : ∃ b, b = mapB V1 V2 xs := ⟨_, rfl⟩
      rw [← hb] at HM ⊢
      clear hc1 hc2 hV2 hb
      go_enter Try.func33, Try.ntmps33
      go_wp2_with fail
      refine (HI1.out _ HB0.out).mono ?_
      rintro e w1 ⟨rfl, hB1⟩
      have HB1 := hid (HB0.out.trans (hB1.mono HB0.out.size))
      have HBq := hid hB1
      obtain ⟨q0, q1, q2, q3⟩ := Q.out w1 (by simpa using hB1)
      clear hB1
      go_wp2_with fail
      refine (HI2.out _ HB1.out).mono ?_
      rintro e w2 ⟨rfl, hB2⟩
      have HB2 := hid (HB1.out.trans (hB2.mono HB1.out.size))
      obtain ⟨q0, q1, q2, q3⟩ := Q.out w2 (by simpa using HBq.out.trans (hB2.mono HBq.out.size))
      clear hB2
      go_wp2_with fail
      refine (HM.out _ HB2.out).mono ?_
      rintro e w3 ⟨rfl, hB3⟩
      have HB3 := hid (HB2.out.trans (hB3.mono HB2.out.size))
      clear hB3
      go_wp2_with fail
      go_ret2
      exact ⟨rfl, HB3.out⟩

/-- The closure in isMap. -/
theorem outside_any (x V1 V2 : Int) (s1 s2 s3 : Value) (B : Nat) (w : World) (hB : w.heap[B]? = some (.cells #[.int .i64 V1, s1, .int .i64 V2, s2, s3] 87 (0, 0))) :
    Calls Try.prog 202 #[.int .i64 x, .pointer (some ⟨B, 0, none⟩)] w fun e w' => e = .returned (.bool (!inB V2 x)) ∧ Below w.heap.size w w' := by
  have c2 : w.cell? ⟨B, 2, none⟩ = some (.int .i64 V2) := by simp [World.cell?, hB]
  clear hB
  by_cases h0 : x < 0
  · have He : Hid ((!inB V2 x) = true) := hid (by unfold inB; rw [decide_eq_false (by omega)]; rfl)
    go_enter Try.func202, Try.ntmps202
    go_wp2_with fail
    go_ret
    exact ⟨ret_bool He.out.symm, Below.refl _ _⟩
  · have He : Hid ((!inB V2 x) = decide (V2 ≤ x)) := hid (by
      unfold inB
      rw [decide_eq_true (show 0 ≤ x by omega), Bool.true_and]
      by_cases h : V2 ≤ x
      · rw [decide_eq_true h, decide_eq_false (by omega)]; rfl
      · rw [decide_eq_false h, decide_eq_true (by omega)]; rfl)
    go_enter Try.func202, Try.ntmps202
    go_wp2_with fail
    go_ret
    exact ⟨ret_bool He.out.symm, Below.refl _ _⟩

end Go.Proofs.Ytgcpakhagbbiiaa

/-! IsMap, the program's: isMap, mapsCode of one map. -/
namespace Go.Proofs.Ytgcpakhagbbiiaa
open Go.RowKit

theorem any_not (V2 : Int) (xs : List Int) : xs.any (fun x => !inB V2 x) = !xs.all (inB V2) := by
  rw [List.all_eq_not_any_not]
  simp
set_option maxRecDepth 100000 in
set_option maxHeartbeats 2000000 in
theorem mapI_any (V1 : Int) (a1 : Option Addr) (l1 cap1 : Nat) (V2 : Int) (a2 : Option Addr) (l2 cap2 : Nat) (a3 : Option Addr) (cap3 : Nat) (xs : List Int) (w : World) (hx3 : SlI w w.heap.size a3 xs) (hl3 : xs.length ≤ 1048576) :
    Calls Try.prog 138 #[.agg #[.int .i64 V1, .slice a1 l1 cap1, .int .i64 V2, .slice a2 l2 cap2, .slice a3 xs.length cap3]] w fun e w' => e = .returned (.bool (mapB V1 V2 xs)) ∧ Below w.heap.size w w' := by
  have hent : ∀ args w, (callFunc 202 args).run Try.prog w = .ok (.enter 202 args) w := enters_of Try.func202 (by kernel_rfl) rfl
  have hB0 : Below w.heap.size w (w.alloc (.cells #[.int .i64 V1, .slice a1 l1 cap1, .int .i64 V2, .slice a2 l2 cap2, .slice a3 xs.length cap3] 87)) := (Below.refl _ w).alloc (Nat.le_refl _) _
  have hbx := heap_alloc_new w (.cells #[.int .i64 V1, .slice a1 l1 cap1, .int .i64 V2, .slice a2 l2 cap2, .slice a3 xs.length cap3] 87)
  have HC := hid (containsD_any a3 cap3 xs 202 (.pointer (some ⟨w.heap.size, 0, none⟩)) (fun x => !inB V2 x) _ (hx3.later hB0 hB0.size) hl3 hent (fun W x hB _ => outside_any x V1 V2 (.slice a1 l1 cap1) (.slice a2 l2 cap2) (.slice a3 xs.length cap3) w.heap.size W ((hB.block _ (by simp)).trans hbx)))
  rw [any_not] at HC
  have HB0 := hid hB0
  clear hx3 hB0 hbx hent
  by_cases hlen : (xs.length : Int) = V1
  · have hd : ((xs.length : Int) == V1) = true := by simpa using hlen
    have He : Hid (mapB V1 V2 xs = xs.all (inB V2)) := hid (by unfold mapB; rw [decide_eq_true hlen, Bool.and_true])
    obtain ⟨c, hc⟩ : ∃ c, c = xs.all (inB V2) := ⟨_, rfl⟩
    rw [← hc] at HC He
    clear hlen hc
    go_enter Try.func138, Try.ntmps138
    go_wp2_with fail
    refine HC.out.mono ?_
    rintro e w1 ⟨rfl, hB1⟩
    have HB1 := hid (HB0.out.trans (hB1.mono HB0.out.size))
    clear hB1
    cases c
    · go_wp2_with fail
      go_ret
      exact ⟨ret_bool He.out.symm, HB1.out⟩
    · go_wp2_with fail
      go_ret
      exact ⟨ret_bool He.out.symm, HB1.out⟩
  · have hd : ((xs.length : Int) == V1) = false := by simpa using hlen
    have He : Hid (mapB V1 V2 xs = false) := hid (by unfold mapB; rw [decide_eq_false hlen, Bool.and_false])
    clear hlen HC
    go_enter Try.func138, Try.ntmps138
    go_wp2_with fail
    go_ret
    exact ⟨ret_bool He.out.symm, HB0.out⟩

/-- The code of a map. -/
noncomputable def mcodeV (V1 : Int) (fs1 : List Int) (V2 : Int) (fs2 : List Int) (xs : List Int) : Int := if isCB V1 fs1 && isCB V2 fs2 then (if mapB V1 V2 xs then 0 else 2) else 1

set_option maxRecDepth 100000 in
set_option maxHeartbeats 4000000 in
theorem mapsCode_one (B : Nat) (V1 : Int) (a1 : Option Addr) (cap1 : Nat) (fs1 : List Int) (V2 : Int) (a2 : Option Addr) (cap2 : Nat) (fs2 : List Int) (a3 : Option Addr) (cap3 : Nat) (xs : List Int) (w : World) (hx1 : SlI w w.heap.size a1 fs1) (hx2 : SlI w w.heap.size a2 fs2) (hx3 : SlI w w.heap.size a3 xs) (hl1 : fs1.length ≤ 1048576) (hl2 : fs2.length ≤ 1048576) (hl3 : xs.length ≤ 1048576)
    (hB : w.heap[B]? = some (.cells #[.int .i64 V1, .slice a1 fs1.length cap1, .int .i64 V2, .slice a2 fs2.length cap2, .slice a3 xs.length cap3] 87 (0, 0))) :
    Calls Try.prog 72 #[.slice (some ⟨B, 0, none⟩) 1 1] w fun e w' => e = .returned (.int .i64 (mcodeV V1 fs1 V2 fs2 xs)) ∧ Below w.heap.size w w' := by
  have five := hid (fun (W : World) (b : Nat) (h : W.heap[b]? = some (.cells #[.int .i64 V1, .slice a1 fs1.length cap1, .int .i64 V2, .slice a2 fs2.length cap2, .slice a3 xs.length cap3] 87 (0, 0))) => (⟨by simp [World.cell?, h], by simp [World.cell?, h], by simp [World.cell?, h], by simp [World.cell?, h], by simp [World.cell?, h]⟩ : W.cell? ⟨b, 0, none⟩ = some (.int .i64 V1) ∧ W.cell? ⟨b, 1, none⟩ = some (.slice a1 fs1.length cap1) ∧ W.cell? ⟨b, 2, none⟩ = some (.int .i64 V2) ∧ W.cell? ⟨b, 3, none⟩ = some (.slice a2 fs2.length cap2) ∧ W.cell? ⟨b, 4, none⟩ = some (.slice a3 xs.length cap3)))
  have Hx1 := hid hx1
  have Hx2 := hid hx2
  have Hx3 := hid hx3
  have HI1 := hid (fun W (h : Below w.heap.size w W) => implIsComplex V1 a1 cap1 fs1 W (Hx1.out.later h h.size) hl1)
  have HI2 := hid (fun W (h : Below w.heap.size w W) => implIsComplex V2 a2 cap2 fs2 W (Hx2.out.later h h.size) hl2)
  have HBk := hid hB
  obtain ⟨q0, q1, q2, q3, q4⟩ := five.out w B hB
  have hlt := lt_of_get hB
  have hB0 : Below w.heap.size w (w.alloc (.cells #[.int .i64 V1, .slice a1 fs1.length cap1, .int .i64 V2, .slice a2 fs2.length cap2, .slice a3 xs.length cap3] 87)) := (Below.refl _ w).alloc (Nat.le_refl _) _
  have HB0 := hid hB0
  have Hn := hid (heap_alloc_new w (.cells #[.int .i64 V1, .slice a1 fs1.length cap1, .int .i64 V2, .slice a2 fs2.length cap2, .slice a3 xs.length cap3] 87))
  clear hx1 hx2 hx3 hB hB0
  cases hc1 : isCB V1 fs1
  · have He : Hid (mcodeV V1 fs1 V2 fs2 xs = 1) := hid (by unfold mcodeV; rw [hc1]; rfl)
    rw [hc1] at HI1
    clear hc1 HI2
    go_enter Try.func72, Try.ntmps72
    go_wp2_with fail
    refine wp_loop_rounds 2 ?_; rw [rounds_succ]
    go_wp2_with fail
    refine (HI1.out _ HB0.out).mono ?_
    rintro e w1 ⟨rfl, hB1⟩
    have HB1 := hid (HB0.out.trans (hB1.mono HB0.out.size))
    clear hB1
    go_wp2_with fail
    go_ret
    exact ⟨by rw [He.out]; rfl, HB1.out⟩
  · cases hc2 : isCB V2 fs2
    · have He : Hid (mcodeV V1 fs1 V2 fs2 xs = 1) := hid (by unfold mcodeV; rw [hc1, hc2]; rfl)
      rw [hc1] at HI1
      rw [hc2] at HI2
      clear hc1 hc2
      go_enter Try.func72, Try.ntmps72
      go_wp2_with fail
      refine wp_loop_rounds 2 ?_; rw [rounds_succ]
      go_wp2_with fail
      refine (HI1.out _ HB0.out).mono ?_
      rintro e w1 ⟨rfl, hB1⟩
      have HB1 := hid (HB0.out.trans (hB1.mono HB0.out.size))
      obtain ⟨p0, p1, p2, p3, p4⟩ := five.out w1 w.heap.size ((hB1.block _ (by simp)).trans Hn.out)
      clear hB1
      go_wp2_with fail
      refine (HI2.out _ HB1.out).mono ?_
      rintro e w2 ⟨rfl, hB2⟩
      have HB2 := hid (HB1.out.trans (hB2.mono HB1.out.size))
      clear hB2
      go_wp2_with fail
      go_ret
      exact ⟨by rw [He.out]; rfl, HB2.out⟩
    · have He : Hid (mcodeV V1 fs1 V2 fs2 xs = if mapB V1 V2 xs then 0 else 2) := hid (by unfold mcodeV; rw [hc1, hc2]; rfl)
      have HM := hid (fun W (h : Below w.heap.size w W) => mapI_any V1 a1 fs1.length cap1 V2 a2 fs2.length cap2 a3 cap3 xs W (Hx3.out.later h h.size) hl3)
      rw [hc1] at HI1
      rw [hc2] at HI2
      obtain ⟨c, hc⟩ : ∃ c, c = mapB V1 V2 xs := ⟨_, rfl⟩
      rw [← hc] at HM He
      clear hc1 hc2 hc
      go_enter Try.func72, Try.ntmps72
      go_wp2_with fail
      refine wp_loop_rounds 2 ?_; rw [rounds_succ]
      go_wp2_with fail
      refine (HI1.out _ HB0.out).mono ?_
      rintro e w1 ⟨rfl, hB1⟩
      have HB1 := hid (HB0.out.trans (hB1.mono HB0.out.size))
      have hn1 := (hB1.block _ (by simp)).trans Hn.out
      obtain ⟨p0, p1, p2, p3, p4⟩ := five.out w1 w.heap.size hn1
      clear hB1
      go_wp2_with fail
      refine (HI2.out _ HB1.out).mono ?_
      rintro e w2 ⟨rfl, hB2⟩
      have HB2 := hid (HB1.out.trans (hB2.mono HB1.out.size))
      obtain ⟨r0, r1, r2, r3, r4⟩ := five.out w2 B ((HB2.out.block _ hlt).trans HBk.out)
      clear hB2 q0 q1 q2 q3 q4 p0 p1 p2 p3 p4 hn1
      go_wp2_with fail
      rw [rounds_succ]
      go_wp2_with fail
      refine wp_loop_rounds 2 ?_; rw [rounds_succ]
      go_wp2_with fail
      refine (HM.out _ (HB2.out.alloc HB2.out.size _)).mono ?_
      rintro e w3 ⟨rfl, hB3⟩
      have HB3 := hid ((HB2.out.alloc HB2.out.size _).trans (hB3.mono (HB2.out.alloc HB2.out.size _).size))
      clear hB3
      cases c
      · go_wp2_with fail
        go_ret
        exact ⟨by rw [He.out]; rfl, HB3.out⟩
      · go_wp2_with fail
        rw [rounds_succ]
        go_wp2_with fail
        go_ret
        exact ⟨by rw [He.out]; rfl, HB3.out⟩

theorem mcodeV_map (V1 : Int) (fs1 : List Int) (V2 : Int) (fs2 : List Int) (xs : List Int) : isMapR V1 fs1 V2 fs2 xs = if mcodeV V1 fs1 V2 fs2 xs = 2 then (false, 0) else (mcodeV V1 fs1 V2 fs2 xs == 0, mcodeV V1 fs1 V2 fs2 xs) := by
  unfold isMapR mcodeV
  cases isCB V1 fs1 <;> cases isCB V2 fs2 <;> cases mapB V1 V2 xs <;> simp

set_option maxRecDepth 100000 in
set_option maxHeartbeats 2000000 in
theorem implIsMap (V1 : Int) (a1 : Option Addr) (cap1 : Nat) (fs1 : List Int) (V2 : Int) (a2 : Option Addr) (cap2 : Nat) (fs2 : List Int) (a3 : Option Addr) (cap3 : Nat) (xs : List Int) (w : World) (hx1 : SlI w w.heap.size a1 fs1) (hx2 : SlI w w.heap.size a2 fs2) (hx3 : SlI w w.heap.size a3 xs) (hl1 : fs1.length ≤ 1048576) (hl2 : fs2.length ≤ 1048576) (hl3 : xs.length ≤ 1048576) :
    Calls Try.prog 35 #[.agg #[.int .i64 V1, .slice a1 fs1.length cap1], .agg #[.int .i64 V2, .slice a2 fs2.length cap2], .slice a3 xs.length cap3] w fun e w' => e = .returned (.tuple #[.bool (isMapR V1 fs1 V2 fs2 xs).1, .int .i64 (isMapR V1 fs1 V2 fs2 xs).2]) ∧ Below w.heap.size w w' := by
  obtain ⟨W0, hW0⟩ : ∃ W0, W0 = ((w.alloc (.cells #[.int .i64 V1, .slice a1 fs1.length cap1] 30)).alloc (.cells #[.int .i64 V2, .slice a2 fs2.length cap2] 30)).alloc (.cells #[.int .i64 V1, .slice a1 fs1.length cap1, .int .i64 V2, .slice a2 fs2.length cap2, .slice a3 xs.length cap3] 87) := ⟨_, rfl⟩
  have hB0 : Below w.heap.size w W0 := by rw [hW0]; exact (((Below.refl _ w).alloc (Nat.le_refl _) _).alloc (by simp) _).alloc (by simp; omega) _
  have hbx : W0.heap[w.heap.size + 1 + 1]? = some (.cells #[.int .i64 V1, .slice a1 fs1.length cap1, .int .i64 V2, .slice a2 fs2.length cap2, .slice a3 xs.length cap3] 87 (0, 0)) := by rw [hW0]; exact new3 _ _ _ _
  have HC := hid (mapsCode_one (w.heap.size + 1 + 1) V1 a1 cap1 fs1 V2 a2 cap2 fs2 a3 cap3 xs W0 (hx1.later hB0 hB0.size) (hx2.later hB0 hB0.size) (hx3.later hB0 hB0.size) hl1 hl2 hl3 hbx)
  have HR := mcodeV_map V1 fs1 V2 fs2 xs
  obtain ⟨c, hc⟩ : ∃ c, c = mcodeV V1 fs1 V2 fs2 xs := ⟨_, rfl⟩
  rw [← hc] at HC HR
  rw [hW0] at HC
  have HB0 := hid hB0
  clear hx1 hx2 hx3 hc hbx hB0
  by_cases h2 : c = 2
  · refine boolM_mono (show isMapR V1 fs1 V2 fs2 xs = (false, 0) by rw [HR, if_pos h2]) ?_
    have hd : (c == 2) = true := by simp [h2]
    clear HR h2
    go_enter Try.func35, Try.ntmps35
    go_wp2_with fail
    refine HC.out.mono ?_
    rintro e w1 ⟨rfl, hB1⟩
    rw [← hW0] at hB1
    have HB1 := hid (HB0.out.trans (hB1.mono HB0.out.size))
    clear hB1 hW0
    go_wp2_with fail
    go_ret2
    exact ⟨rfl, HB1.out⟩
  · refine boolM_mono (show isMapR V1 fs1 V2 fs2 xs = (c == 0, c) by rw [HR, if_neg h2]) ?_
    have hd : (c == 2) = false := by simpa using h2
    clear HR h2
    go_enter Try.func35, Try.ntmps35
    go_wp2_with fail
    refine HC.out.mono ?_
    rintro e w1 ⟨rfl, hB1⟩
    rw [← hW0] at hB1
    have HB1 := hid (HB0.out.trans (hB1.mono HB0.out.size))
    clear hB1 hW0
    go_wp2_with fail
    go_ret2
    exact ⟨rfl, HB1.out⟩

end Go.Proofs.Ytgcpakhagbbiiaa

/-! The law on IsMap, walked. -/
namespace Go.Proofs.Ytgcpakhagbbiiaa
open Go.RowKit

set_option maxRecDepth 100000 in
set_option maxHeartbeats 8000000 in
theorem law_IsMap (V0 : Int) (a0 : Option Addr) (cap0 : Nat) (xs0 : List Int) (V1 : Int) (a1 : Option Addr) (cap1 : Nat) (xs1 : List Int) (a2 : Option Addr) (cap2 : Nat) (gs2 : List Int) (w : World) (hx0 : SlI w w.heap.size a0 xs0) (hx1 : SlI w w.heap.size a1 xs1) (hx2 : SlI w w.heap.size a2 gs2)  (hn0 : xs0.length ≤ 9223372036854775807) (hn1 : xs1.length ≤ 9223372036854775807)  :
    Calls Try.prog 6 #[.agg #[.int .i64 V0, .slice a0 xs0.length cap0], .agg #[.int .i64 V1, .slice a1 xs1.length cap1], .slice a2 gs2.length cap2] w fun e w' => e = .returned (.bool true) ∧ Below w.heap.size w w' := by
  have F0 : Book w w [(a0, xs0), (a1, xs1), (a2, gs2)] [] [] := ⟨Below.refl _ _, by simp; exact ⟨hx0, hx1, hx2⟩, by simp, by simp⟩
  have F0 := F0.alloc (.cells #[.int .i64 V0, .slice a0 xs0.length cap0] 24)
  have F0 := F0.alloc (.cells #[.int .i64 V1, .slice a1 xs1.length cap1] 24)
  (try simp only [World.size_alloc] at F0)
  have B0 := hid F0
  clear F0 hx0 hx1 hx2
  obtain ⟨r0, hr0⟩ : ∃ r, r = szR 1048576 xs0.length := ⟨_, rfl⟩
  have Hr0 := hid hr0
  obtain ⟨r1, hr1⟩ : ∃ r, r = szR r0 xs1.length := ⟨_, rfl⟩
  have Hr1 := hid hr1
  by_cases hbL2 : 1048576 < gs2.length
  · clear hr0 hr1
    have hbi2 : (gs2.length : Int) > 1048576 := by omega
    go_enter Try.func6, Try.ntmps6
    go_wp2_with fail
    go_ret
    exact ⟨rfl, B0.out.from0⟩
  have hl2 : gs2.length ≤ 1048576 := by omega
  have hbi2 : ¬ (gs2.length : Int) > 1048576 := by omega
  by_cases hb0 : 1048576 < xs0.length
  · have hm0 : r0 = -1 := by rw [hr0]; exact szR_big (by omega)
    clear hb0
    clear hr0 hr1
    go_enter Try.func6, Try.ntmps6
    go_wp2_with fail
    refine (szCx V0 a0 xs0.length cap0 1048576 _ (by omega) (by omega) hn0).mono ?_
    rintro e s0 ⟨rfl, hB⟩
    have zs0 := hB.size
    (try simp only [World.size_alloc] at zs0)
    have B0 := hid (B0.out.below hB)
    clear hB
    rw [← Hr0.out]
    go_wp2_with fail
    go_ret
    exact ⟨rfl, B0.out.from0⟩
  · have hv0 : r0 = 1048576 - xs0.length := by rw [hr0, szR_fit (by omega)]
    have hg0 : 0 ≤ r0 := by omega
    have hu0 : r0 ≤ 1048576 := by omega
    have hl0 : xs0.length ≤ 1048576 := by omega
    clear hr0 hb0
    have Hv0 := hid hv0
    clear hv0
    by_cases hb1 : r0 < xs1.length
    · have hm1 : r1 = -1 := by rw [hr1]; exact szR_big (by omega)
      clear hb1
      clear hr1
      go_enter Try.func6, Try.ntmps6
      go_wp2_with fail
      refine (szCx V0 a0 xs0.length cap0 1048576 _ (by omega) (by omega) hn0).mono ?_
      rintro e s0 ⟨rfl, hB⟩
      have zs0 := hB.size
      (try simp only [World.size_alloc] at zs0)
      have B0 := hid (B0.out.below hB)
      clear hB
      rw [← Hr0.out]
      obtain ⟨q0, q1⟩ := B0.out.two (.head _)
      go_wp2_with fail
      clear q0 q1
      refine (szCx V1 a1 xs1.length cap1 r0 _ hg0 hu0 hn1).mono ?_
      rintro e s1 ⟨rfl, hB⟩
      have zs1 := hB.size
      (try simp only [World.size_alloc] at zs1)
      have B0 := hid (B0.out.below hB)
      clear hB
      rw [← Hr1.out]
      go_wp2_with fail
      go_ret
      exact ⟨rfl, B0.out.from0⟩
    · have hv1 : r1 = r0 - xs1.length := by rw [hr1, szR_fit (by omega)]
      have hg1 : 0 ≤ r1 := by omega
      have hu1 : r1 ≤ 1048576 := by omega
      have hl1 : xs1.length ≤ 1048576 := by omega
      clear hr1 hb1
      have Hv1 := hid hv1
      clear hv1
      obtain ⟨R, hR⟩ : ∃ R, R = isMapR V0 xs0 V1 xs1 gs2 := ⟨_, rfl⟩
      obtain ⟨bb, c⟩ := R
      have HS : Hid (∀ a0 cap0 a1 cap1 a2 cap2 w', SlI w' w'.heap.size a0 xs0 → SlI w' w'.heap.size a1 xs1 → SlI w' w'.heap.size a2 gs2 → Calls Try.prog 33 #[.agg #[.int .i64 V0, .slice a0 xs0.length cap0], .agg #[.int .i64 V1, .slice a1 xs1.length cap1], .slice a2 gs2.length cap2] w' fun e w'' => e = .returned (.tuple #[.bool bb, .int .i64 c]) ∧ Below w'.heap.size w' w'') :=
        hid (fun a0 cap0 a1 cap1 a2 cap2 w' hs0 hs1 hs2 => by have := specIsMap V0 a0 cap0 xs0 V1 a1 cap1 xs1 a2 cap2 gs2 w' hs0 hs1 hs2 hl0 hl1 hl2; rwa [← hR] at this)
      have HI : Hid (∀ a0 cap0 a1 cap1 a2 cap2 w', SlI w' w'.heap.size a0 xs0 → SlI w' w'.heap.size a1 xs1 → SlI w' w'.heap.size a2 gs2 → Calls Try.prog 35 #[.agg #[.int .i64 V0, .slice a0 xs0.length cap0], .agg #[.int .i64 V1, .slice a1 xs1.length cap1], .slice a2 gs2.length cap2] w' fun e w'' => e = .returned (.tuple #[.bool bb, .int .i64 c]) ∧ Below w'.heap.size w' w'') :=
        hid (fun a0 cap0 a1 cap1 a2 cap2 w' hs0 hs1 hs2 => by have := implIsMap V0 a0 cap0 xs0 V1 a1 cap1 xs1 a2 cap2 gs2 w' hs0 hs1 hs2 hl0 hl1 hl2; rwa [← hR] at this)
      have hcc : (c != c) = false := by simp
      clear hR
      go_enter Try.func6, Try.ntmps6
      go_wp2_with fail
      refine (szCx V0 a0 xs0.length cap0 1048576 _ (by omega) (by omega) hn0).mono ?_
      rintro e s0 ⟨rfl, hB⟩
      have zs0 := hB.size
      (try simp only [World.size_alloc] at zs0)
      have B0 := hid (B0.out.below hB)
      clear hB
      rw [← Hr0.out]
      obtain ⟨q0, q1⟩ := B0.out.two (.head _)
      go_wp2_with fail
      clear q0 q1
      refine (szCx V1 a1 xs1.length cap1 r0 _ hg0 hu0 hn1).mono ?_
      rintro e s1 ⟨rfl, hB⟩
      have zs1 := hB.size
      (try simp only [World.size_alloc] at zs1)
      have B0 := hid (B0.out.below hB)
      clear hB
      rw [← Hr1.out]
      obtain ⟨q00s, q01s⟩ := B0.out.two (.tail _ (.head _))
      obtain ⟨q10s, q11s⟩ := B0.out.two (.head _)
      go_wp2_with fail
      go_region_held3 (fun w' => w'.cell? ⟨w.heap.size, 0, none⟩ = some (.int .i64 V0) ∧ w'.cell? ⟨w.heap.size, 1, none⟩ = some (.slice a0 xs0.length cap0) ∧ w'.cell? ⟨w.heap.size + 1, 0, none⟩ = some (.int .i64 V1) ∧ w'.cell? ⟨w.heap.size + 1, 1, none⟩ = some (.slice a1 xs1.length cap1)) (go_keep) (first
        | (go_at_call 33; refine (HS.out _ _ _ _ _ _ _ (C3.out.slI (.tail _ (.tail _ (.head _)))) (C3.out.slI (.tail _ (.head _))) (C3.out.slI (.head _))).mono ?_; rintro e u9 ⟨rfl, hB⟩; have C4 := hid (C3.out.below hB); clear hB; obtain ⟨q00c9, q01c9⟩ := C4.out.two (.tail _ (.head _)); obtain ⟨q10c9, q11c9⟩ := C4.out.two (.head _))
        | (go_at_call 34; refine (toInts a2 cap2 gs2 _ (C2.out.arg (.tail _ (.tail _ (.head _)))) hl2).mono ?_; rintro e u2 ⟨rfl, hown, hB⟩; have C3 := hid (C2.out.row hown hB); clear hown hB; obtain ⟨q00c2, q01c2⟩ := C3.out.two (.tail _ (.head _)); obtain ⟨q10c2, q11c2⟩ := C3.out.two (.head _))
        | (go_at_call 18; refine (toCx V1 a1 cap1 xs1 _ (C1.out.arg (.tail _ (.head _))) hl1).mono ?_; rintro e u1 ⟨gu1, rfl, hown, hB⟩; have C2 := hid (C1.out.row hown hB); clear hown hB; obtain ⟨q00c1, q01c1⟩ := C2.out.two (.tail _ (.head _)); obtain ⟨q10c1, q11c1⟩ := C2.out.two (.head _))
        | (go_at_call 18; refine (toCx V0 a0 cap0 xs0 _ (B0.out.drew.arg (.head _)) hl0).mono ?_; rintro e u0 ⟨gu0, rfl, hown, hB⟩; have C1 := hid (B0.out.drew.row hown hB); clear hown hB; obtain ⟨q00c0, q01c0⟩ := C1.out.two (.tail _ (.head _)); obtain ⟨q10c0, q11c0⟩ := C1.out.two (.head _))
        | fail)
      have B0 := C4
      clear C1 C2 C3 C4 q00s q00c0 q00c1 q00c2 q00c9 q01s q01c0 q01c1 q01c2 q01c9 q10s q10c0 q10c1 q10c2 q10c9 q11s q11c0 q11c1 q11c2 q11c9
      (try simp only [World.size_alloc] at B0)
      obtain ⟨q0, q1⟩ := B0.out.two (.tail _ (.head _))
      go_wp2_with fail
      clear q0 q1
      refine (toCx V0 a0 cap0 xs0 _ (B0.out.arg (.head _)) hl0).mono ?_
      rintro e x0 ⟨gx0, rfl, hown, hB⟩
      have zx0 := hB.size
      (try simp only [World.size_alloc] at zx0)
      have B0 := hid (B0.out.row hown hB)
      clear hown hB
      (try simp only [World.size_alloc] at B0)
      have B0 := hid (B0.out.alloc (.cells #[.int .i64 V0, .slice (some ⟨gx0, 0, none⟩) xs0.length xs0.length] 30))
      obtain ⟨q0, q1⟩ := B0.out.two (.tail _ (.head _))
      go_wp2_with fail
      clear q0 q1
      refine (toCx V1 a1 cap1 xs1 _ (B0.out.arg (.tail _ (.head _))) hl1).mono ?_
      rintro e x1 ⟨gx1, rfl, hown, hB⟩
      have zx1 := hB.size
      (try simp only [World.size_alloc] at zx1)
      have B0 := hid (B0.out.row hown hB)
      clear hown hB
      (try simp only [World.size_alloc] at B0)
      have B0 := hid (B0.out.alloc (.cells #[.int .i64 V1, .slice (some ⟨gx1, 0, none⟩) xs1.length xs1.length] 30))
      go_wp2_with fail
      refine (toInts a2 cap2 gs2 _ (B0.out.arg (.tail _ (.tail _ (.head _)))) hl2).mono ?_
      rintro e x2 ⟨rfl, hown, hB⟩
      have zx2 := hB.size
      (try simp only [World.size_alloc] at zx2)
      have B0 := hid (B0.out.row hown hB)
      clear hown hB
      (try simp only [World.size_alloc] at B0)
      obtain ⟨p00, p01⟩ := B0.out.two (.tail _ (.head _))
      obtain ⟨p10, p11⟩ := B0.out.two (.head _)
      go_wp2_with fail
      clear p00 p01
      clear p10 p11
      refine (HI.out _ _ _ _ _ _ _ (B0.out.slI (.tail _ (.tail _ (.head _)))) (B0.out.slI (.tail _ (.head _))) (B0.out.slI (.head _))).mono ?_
      rintro e v9 ⟨rfl, hB⟩
      have zv9 := hB.size
      (try simp only [World.size_alloc] at zv9)
      have B0 := hid (B0.out.below hB)
      clear hB
      clear HS HI
      cases bb
      all_goals
        obtain ⟨l0, l1⟩ := B0.out.two (.tail _ (.head _))
        obtain ⟨n0, n1⟩ := B0.out.two (.tail _ (.tail _ (.tail _ (.head _))))
        go_wp2_with fail
        go_region_held3 (fun w' => w'.cell? ⟨w.heap.size, 0, none⟩ = some (.int .i64 V0) ∧ w'.cell? ⟨w.heap.size, 1, none⟩ = some (.slice a0 xs0.length cap0) ∧ w'.cell? ⟨x0.heap.size, 0, none⟩ = some (.int .i64 V0) ∧ w'.cell? ⟨x0.heap.size, 1, none⟩ = some (.slice (some ⟨gx0, 0, none⟩) xs0.length xs0.length)) (go_keep) (first
          | (go_at_call 22; refine (eqCx_yes V0 _ _ _ _ xs0 xs0 _ (C0.out.slI (.tail _ (.tail _ (.tail _ (.head _))))) (C0.out.slI (.head _)) hl0 hl0 rfl).mono ?_; rintro e h0 ⟨rfl, hB⟩; have D0 := hid (C0.out.below hB); clear hB; obtain ⟨l03, l13⟩ := D0.out.two (.tail _ (.head _)); obtain ⟨n03, n13⟩ := D0.out.two (.tail _ (.tail _ (.tail _ (.head _)))))
          | (go_at_call 18; refine (toCx V0 a0 cap0 xs0 _ (B0.out.drew.arg (.head _)) hl0).mono ?_; rintro e f0 ⟨gf0, rfl, hown, hB⟩; have C0 := hid (B0.out.drew.row hown hB); clear hown hB; obtain ⟨l02, l12⟩ := C0.out.two (.tail _ (.head _)); obtain ⟨n02, n12⟩ := C0.out.two (.tail _ (.tail _ (.tail _ (.head _)))))
          | fail)
        have B0 := D0
        clear C0 D0 l0 l1 n0 n1 l02 l12 n02 n12 l03 l13 n03 n13
        obtain ⟨l0, l1⟩ := B0.out.two (.head _)
        obtain ⟨n0, n1⟩ := B0.out.two (.tail _ (.tail _ (.head _)))
        go_wp2_with fail
        go_region_held3 (fun w' => w'.cell? ⟨w.heap.size + 1, 0, none⟩ = some (.int .i64 V1) ∧ w'.cell? ⟨w.heap.size + 1, 1, none⟩ = some (.slice a1 xs1.length cap1) ∧ w'.cell? ⟨x1.heap.size, 0, none⟩ = some (.int .i64 V1) ∧ w'.cell? ⟨x1.heap.size, 1, none⟩ = some (.slice (some ⟨gx1, 0, none⟩) xs1.length xs1.length)) (go_keep) (first
          | (go_at_call 22; refine (eqCx_yes V1 _ _ _ _ xs1 xs1 _ (C0.out.slI (.tail _ (.tail _ (.tail _ (.head _))))) (C0.out.slI (.head _)) hl1 hl1 rfl).mono ?_; rintro e h1 ⟨rfl, hB⟩; have D0 := hid (C0.out.below hB); clear hB; obtain ⟨l03, l13⟩ := D0.out.two (.head _); obtain ⟨n03, n13⟩ := D0.out.two (.tail _ (.tail _ (.head _))))
          | (go_at_call 18; refine (toCx V1 a1 cap1 xs1 _ (B0.out.drew.arg (.tail _ (.head _))) hl1).mono ?_; rintro e f1 ⟨gf1, rfl, hown, hB⟩; have C0 := hid (B0.out.drew.row hown hB); clear hown hB; obtain ⟨l02, l12⟩ := C0.out.two (.head _); obtain ⟨n02, n12⟩ := C0.out.two (.tail _ (.tail _ (.head _))))
          | fail)
        have B0 := D0
        clear C0 D0 l0 l1 n0 n1 l02 l12 n02 n12 l03 l13 n03 n13
        go_wp2_with fail
        refine (toInts a2 cap2 gs2 _ (B0.out.arg (.tail _ (.tail _ (.head _)))) hl2).mono ?_
        rintro e f2 ⟨rfl, hown, hB⟩
        have zf2 := hB.size
        (try simp only [World.size_alloc] at zf2)
        have B0 := hid (B0.out.row hown hB)
        clear hown hB
        (try simp only [World.size_alloc] at B0)
        go_wp2_with fail
        refine (eqInts_yes _ _ _ _ gs2 gs2 _ (B0.out.slI (.tail _ (.tail _ (.tail _ (.head _))))) (B0.out.slI (.head _)) hl2 hl2 rfl).mono ?_
        rintro e h2 ⟨rfl, hB⟩
        have zh2 := hB.size
        (try simp only [World.size_alloc] at zh2)
        have B0 := hid (B0.out.below hB)
        clear hB
        go_wp2_with fail
        go_ret
        exact ⟨rfl, B0.out.from0⟩

end Go.Proofs.Ytgcpakhagbbiiaa
