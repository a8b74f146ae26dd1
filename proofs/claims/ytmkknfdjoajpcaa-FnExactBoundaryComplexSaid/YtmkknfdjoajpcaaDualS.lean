import Derived.Test.YtmkknfdjoajpcaaPick
import Derived.Test.YtmkknfdjoajpcaaSpecC
import Derived.Test.YtmkknfdjoajpcaaJoin
import Derived.Deep.CutRange
/-! Duals: the model's. -/
namespace Go.Proofs.Ytmkknfdjoajpcaa
open Go.RowKit

/-- Is a set in the dual? -/
def dualP (V : Int) (fs : List Int) : Int → Bool := fun x => !decide ((allV V - x) ∈ fs)
/-- The dual's faces. -/
def dualL (V : Int) (fs : List Int) : List Int := pickTo (dualP V fs) ((allV V).toNat - 1)

/-- What DualOf hands back. -/
noncomputable def dualOfR (V : Int) (xs : List Int) : Int × List Int × Int := if isCB V xs then (V, dualL V xs, 0) else (0, [], 1)

theorem dualOfR_len (V : Int) (xs : List Int) (_ : xs.length ≤ 1048576) : (dualOfR V xs).2.1.length ≤ 1048576 := by
  unfold dualOfR
  split
  · next h =>
    have h6 := (isCB_iff.1 h).hi
    have := pickTo_len (dualP V xs) ((allV V).toNat - 1)
    have := allV_le h6
    show (dualL V xs).length ≤ 1048576
    unfold dualL
    omega
  · simp

theorem allV_nat {V : Int} (h1 : 1 ≤ V) (h2 : V ≤ 6) : ∃ A : Nat, (A : Int) = allV V ∧ 1 ≤ A ∧ A ≤ 63 := by
  rcases (show V = 1 ∨ V = 2 ∨ V = 3 ∨ V = 4 ∨ V = 5 ∨ V = 6 by omega) with rfl | rfl | rfl | rfl | rfl | rfl
  · exact ⟨1, rfl, by decide, by decide⟩
  · exact ⟨3, rfl, by decide, by decide⟩
  · exact ⟨7, rfl, by decide, by decide⟩
  · exact ⟨15, rfl, by decide, by decide⟩
  · exact ⟨31, rfl, by decide, by decide⟩
  · exact ⟨63, rfl, by decide, by decide⟩

theorem outW_start2 {w W : World} {V : Int} {sl : Value} (hB : Below w.heap.size w W) (hk : W.heap[w.heap.size]? = some (.cells #[.int .i64 V, sl] 26 (0, 0)))
    (hr : W.heap[w.heap.size + 1]? = some (.cells #[.int .i64 0, .slice none 0 0] 26 (0, 0))) :
    OutW w ((W.alloc (.cells #[.int .i64 V, .slice (some ⟨W.heap.size + 1, 0, none⟩) 0 0] 26)).alloc (.cells #[] 2)) V sl W.heap.size [] (some ⟨W.heap.size + 1, 0, none⟩) 0 where
  below := (hB.alloc hB.size _).alloc (by have := hB.size; simp; omega) _
  kbox := (Below.heap_alloc _ _ _ (by have := lt_get hk; simp; omega)).trans ((Below.heap_alloc _ _ _ (lt_get hk)).trans hk)
  res := (Below.heap_alloc _ _ _ (by have := lt_get hr; simp; omega)).trans ((Below.heap_alloc _ _ _ (lt_get hr)).trans hr)
  out := (Below.heap_alloc _ _ _ (by simp)).trans (heap_alloc_new W _)
  own := by
    have h := World.ownsRow_made (base := w.heap.size) (e := 2) (size := 1) (W.alloc (.cells #[.int .i64 V, .slice (some ⟨W.heap.size + 1, 0, none⟩) 0 0] 26)) #[] 0 (by have := hB.size; simp; omega) (by simp [maxLen]) rfl
    rw [World.size_alloc] at h
    exact h
  bo := by have := lt_get hr; omega

/-- .. where nothing is put in it yet. -/
theorem outW_start0 {w W : World} {V : Int} {sl : Value} (hB : Below w.heap.size w W) (hk : W.heap[w.heap.size]? = some (.cells #[.int .i64 V, sl] 26 (0, 0)))
    (hr : W.heap[w.heap.size + 1]? = some (.cells #[.int .i64 0, .slice none 0 0] 26 (0, 0))) :
    OutW w (W.alloc (.cells #[.int .i64 V, .slice none 0 0] 26)) V sl W.heap.size [] none 0 where
  below := hB.alloc hB.size _
  kbox := (Below.heap_alloc _ _ _ (lt_get hk)).trans hk
  res := (Below.heap_alloc _ _ _ (lt_get hr)).trans hr
  out := heap_alloc_new W _
  own := World.ownsRow_nil _ _ _ _
  bo := by have := lt_get hr; omega

set_option maxRecDepth 100000 in
set_option maxHeartbeats 4000000 in
theorem dualS_any (V : Int) (a0 : Option Addr) (cap : Nat) (fs : List Int) (w : World) (hx : SlI w w.heap.size a0 fs) (hl : fs.length ≤ 1048576) (h1 : 1 ≤ V) (h2 : V ≤ 6) :
    Calls Try.prog 50 #[.agg #[.int .i64 V, .slice a0 fs.length cap]] w fun e w' => ∃ v, e = .returned (.agg #[.int .i64 V, v]) ∧ Res w w' v (dualL V fs) := by
  obtain ⟨A, hA, hA1, hA2⟩ := allV_nat h1 h2
  have Hx := hid hx
  have HA := hid hA
  have Hall := hid (fun W => all_any V W (by omega) h2)
  have hB0 : Below w.heap.size w ((w.alloc (.cells #[.int .i64 V, .slice a0 fs.length cap] 26)).alloc (.cells #[.int .i64 0, .slice none 0 0] 26)) := ((Below.refl _ w).alloc (Nat.le_refl _) _).alloc (by simp) _
  have HB0 := hid hB0
  clear hx hA hB0
  obtain ⟨W, hW⟩ : ∃ W, W = (w.alloc (.cells #[.int .i64 V, .slice a0 fs.length cap] 26)).alloc (.cells #[.int .i64 0, .slice none 0 0] 26) := ⟨_, rfl⟩
  have k0 : W.cell? ⟨w.heap.size, 0, none⟩ = some (.int .i64 V) := by rw [hW]; simp [go_sem]
  have hBW : Hid (Below w.heap.size w W) := hid (by rw [hW]; exact HB0.out)
  have kbox : Hid (W.heap[w.heap.size]? = some (.cells #[.int .i64 V, .slice a0 fs.length cap] 26 (0, 0))) := hid (by rw [hW]; exact (Below.heap_alloc _ _ _ (by simp)).trans (heap_alloc_new w _))
  have rbox : Hid (W.heap[w.heap.size + 1]? = some (.cells #[.int .i64 0, .slice none 0 0] 26 (0, 0))) := hid (by rw [hW]; exact new2 w _ _)
  have HW := hid hW
  clear hW
  go_enter Try.func50, Try.ntmps50
  go_wp2_with fail
  rw [← HW.out]
  go_cut [3, 4] from 6 to 12 (fun p q wx => ∃ (Bo : Nat) (a : Option Addr), p = .pointer (some ⟨Bo, 0, none⟩) ∧ q = .int .i64 (A : Int) ∧ OutW w wx V (.slice a0 fs.length cap) Bo [] a 0)
  case first =>
    go_region_held3 (fun w' => w'.cell? ⟨w.heap.size, 0, none⟩ = some (.int .i64 V)) (go_keep) (first | (go_at_call 66; refine (Hall.out _).mono ?_; rintro e w' ⟨rfl, rfl⟩))
    all_goals
      go_wp2_with fail
      go_meet
      case rel =>
        first
          | exact ⟨_, _, rfl, by rw [HA.out], (outW_start hBW.out kbox.out rbox.out).drew⟩
          | exact ⟨_, _, rfl, by rw [HA.out], (outW_start2 hBW.out kbox.out rbox.out).drew⟩
  case rest =>
    obtain ⟨Bo, a, rfl, rfl, hO⟩ := hcut
    have HO := hid hO
    clear hO
    go_wp2_with fail
    go_loopw [5] (fun i wr => ∃ (k : Nat) (a : Option Addr) (c : Nat), k + 1 ≤ A ∧ i = .int .i64 ((k : Int) + 1) ∧ OutW w wr V (.slice a0 fs.length cap) Bo (pickTo (dualP V fs) k) a c) (fun i _ => A - (intOf i).toNat)
    case atStart => exact ⟨0, a, 0, hA1, rfl, HO.out⟩
    case round =>
      obtain ⟨k, a, c, hk, rfl, hW⟩ := hrel
      have HW := hid hW
      obtain ⟨k0, k1, _, _⟩ := two_of hW.kbox
      obtain ⟨o0, o1, f0, f1⟩ := two_of hW.out
      have hbs := hW.below.size
      have hlen := pickTo_len (dualP V fs) k
      clear hW
      by_cases hlt : k + 1 < A
      · have hd : decide ((k : Int) + 1 < (A : Int)) = true := decide_eq_true (by omega)
        have HxW := hid (Hx.out.later HW.out.below hbs)
        have Hs : Hid (∀ b : Bool, dualP V fs ((k : Int) + 1) = b → pickTo (dualP V fs) (k + 1) = pickTo (dualP V fs) k ++ (if b then [(k : Int) + 1] else [])) := hid (fun b hb => by rw [← hb]; rfl)
        by_cases hm : (A : Int) - ((k : Int) + 1) ∈ fs
        · have HP := hid (Hs.out false (by unfold dualP; rw [← HA.out, decide_eq_true hm]; rfl))
          have Hm := hid hm
          clear hm Hs
          go_wp2_with fail
          refine (has_yes V _ a0 cap fs wr HxW.out hl Hm.out).mono ?_
          rintro e w1 ⟨rfl, hB1⟩
          have HW1 := hid (HW.out.later hB1)
          clear hB1
          go_wp2_with fail
          go_roundw
          case rel => exact ⟨k + 1, a, c, by omega, by go_num, by rw [HP.out, if_neg (by decide), List.append_nil]; exact HW1.out⟩
          case measure => simp [intOf]; omega
        · have HP := hid ((Hs.out true (by unfold dualP; rw [← HA.out, decide_eq_false hm]; rfl)).trans (by rw [if_pos rfl]))
          have Hm := hid hm
          clear hm Hs
          go_wp2_with fail
          refine (has_no V _ a0 cap fs wr HxW.out hl Hm.out).mono ?_
          rintro e w1 ⟨rfl, hB1⟩
          have HW1 := hid (HW.out.later hB1)
          have hbs1 := HW1.out.below.size
          obtain ⟨o01, o11, f01, f11⟩ := two_of HW1.out.out
          clear hB1 k0 k1 o0 o1 f0 f1
          go_wp2_with (at_builtin; refine plain_append_new rfl rfl HW1.out.own (by rfl) hbs1 (by omega) (by rfl) (by rfl) ?_; intro g cp w2 hown2 hgrow2; obtain ⟨o12, o22⟩ := HW1.out.mid (n := 0) hgrow2)
          go_roundw
          case rel => exact ⟨k + 1, some ⟨g, 0, none⟩, cp, by omega, by go_num, by rw [HP.out]; simpa using HW1.out.step hown2 hgrow2⟩
          case measure => simp [intOf]; omega
      · have hd : decide ((k : Int) + 1 < (A : Int)) = false := decide_eq_false (by omega)
        have HE : Hid (pickTo (dualP V fs) k = dualL V fs) := hid (by unfold dualL; rw [← HA.out, Int.toNat_natCast, show A - 1 = k by omega])
        obtain ⟨r0, r1, g0, g1⟩ := two_of HW.out.res
        go_wp2_with fail
        (try simp only [Exit.inBlock, Exit.then])
        have R2 := two_of (two_set HW.out.res (.int .i64 V) (.slice a (pickTo (dualP V fs) k).length c))
        refine done_cx1 (p := 2) (by kernel_rfl) rfl rfl R2.1 R2.2.1 ⟨_, rfl, ?_⟩
        rw [← HE.out]
        exact HW.out.done _ _

set_option maxRecDepth 100000 in
set_option maxHeartbeats 1000000 in
theorem specDualOf (V : Int) (a : Option Addr) (cap : Nat) (xs : List Int) (w : World) (hx : SlI w w.heap.size a xs) (hl : xs.length ≤ 1048576) :
    Calls Try.prog 16 #[.agg #[.int .i64 V, .slice a xs.length cap]] w fun e w' => ∃ v, e = .returned (.tuple #[.agg #[.int .i64 (dualOfR V xs).1, v], .int .i64 (dualOfR V xs).2.2]) ∧ Res w w' v (dualOfR V xs).2.1 := by
  have hB0 : Below w.heap.size w ((w.alloc (.cells #[.int .i64 V, .slice a xs.length cap] 26)).alloc (.cells #[.int .i64 0, .slice none 0 0] 26)) := ((Below.refl _ w).alloc (Nat.le_refl _) _).alloc (by simp) _
  have Hx := hid (hx.later hB0 (by simp <;> omega))
  by_cases hC : IsC V xs
  · have HC := hid hC
    have hv0 := hC.lo
    have hv1 := hC.hi
    refine cx_mono (show dualOfR V xs = (V, dualL V xs, 0) by unfold dualOfR; rw [isCB_true hC, if_pos rfl]) ?_
    obtain ⟨ys, hys⟩ : ∃ ys, ys = dualL V xs := ⟨_, rfl⟩
    have Hys := hid hys
    rw [← hys]
    clear hC hys
    go_enter Try.func16, Try.ntmps16
    go_wp2_with fail
    refine (is_yes V a cap xs _ Hx.out hl HC.out).mono ?_
    rintro e w1 ⟨rfl, hB1⟩
    have k0 : w1.cell? ⟨w.heap.size, 0, none⟩ = some (.int .i64 V) := (hB1.cell (p := ⟨w.heap.size, 0, none⟩) (by simp <;> omega)).trans (by simp [go_sem])
    have k1 : w1.cell? ⟨w.heap.size, 1, none⟩ = some (.slice a xs.length cap) := (hB1.cell (p := ⟨w.heap.size, 1, none⟩) (by simp <;> omega)).trans (by simp [go_sem])
    have r1 : w1.heap[w.heap.size + 1]? = some (.cells #[.int .i64 0, .slice none 0 0] 26 (0, 0)) := (hB1.block _ (by simp <;> omega)).trans (new2 _ _ _)
    have hB01 := hB0.trans (hB1.mono (by simp <;> omega))
    have R1 := hid r1
    clear r1
    go_wp2_with fail
    refine (dualS_any V a cap xs w1 (hx.later hB01 hB01.size) hl hv0 hv1).mono ?_
    rw [← Hys.out]
    rintro e w3 ⟨v, rfl, hr⟩
    obtain ⟨_, av, cv, rfl, _⟩ := ownsRow_slI hr.1
    have R3 := hid ((hr.2.block _ (lt_get R1.out)).trans R1.out)
    obtain ⟨d0, d1, g0, g1⟩ := two_of R3.out
    go_wp2_with fail
    (try simp only [Exit.inBlock, Exit.then])
    have R4 := two_of (two_set R3.out (.int .i64 V) (.slice av ys.length cv))
    refine done_cx (p := 2) (u := 3) (by kernel_rfl) rfl rfl R4.1 R4.2.1 rfl ⟨_, rfl, ?_⟩
    exact (hr.later hB01).set2 R3.out (by decide) (by omega) _ _
  · refine cx_mono (show dualOfR V xs = (0, [], 1) by unfold dualOfR; rw [isCB_false hC, if_neg (by simp)]) ?_
    go_enter Try.func16, Try.ntmps16
    go_wp2_with fail
    refine (is_no V a cap xs _ Hx.out hl hC).mono ?_
    rintro e w1 ⟨rfl, hB1⟩
    have r1 : w1.heap[w.heap.size + 1]? = some (.cells #[.int .i64 0, .slice none 0 0] 26 (0, 0)) := (hB1.block _ (by simp <;> omega)).trans (new2 _ _ _)
    have hB01 := hB0.trans (hB1.mono (by simp <;> omega))
    obtain ⟨c0, c1, f0, f1⟩ := two_of r1
    have R1 := hid r1
    clear r1
    go_wp2_with fail
    (try simp only [Exit.inBlock, Exit.then])
    have R3 := two_of (two_set R1.out (.int .i64 0) (.slice none 0 0))
    refine done_cx (p := 2) (u := 3) (by kernel_rfl) rfl rfl R3.1 R3.2.1 rfl ⟨_, rfl, ?_⟩
    exact (res_nil _ _ hB01).set2 R1.out (by decide) (by omega) _ _

end Go.Proofs.Ytmkknfdjoajpcaa
