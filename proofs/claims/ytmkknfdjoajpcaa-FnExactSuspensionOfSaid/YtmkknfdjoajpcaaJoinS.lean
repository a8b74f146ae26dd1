import Derived.Test.YtmkknfdjoajpcaaStepU
import Derived.Test.YtmkknfdjoajpcaaJoin
import Derived.Deep.CutRange
/-! The model's join. -/
namespace Go.Proofs.Ytmkknfdjoajpcaa
open Go.RowKit

/-- The faces of a join. -/
def joinL (V : Int) (xs ys : List Int) : List Int := xs ++ ys.flatMap fun y => (y * 2 ^ V.toNat) :: xs.map fun x => y * 2 ^ V.toNat + x

theorem wrap_small (n : Int) (h0 : 0 ≤ n) (h1 : n ≤ 1048576) : IntKind.i64.wrap n = n := by rw [IntKind.wrap_i64]; omega

theorem joinL_len (V : Int) (xs ys : List Int) : (joinL V xs ys).length = xs.length + ys.length * (xs.length + 1) := by
  unfold joinL
  rw [List.length_append]
  congr 1
  induction ys with
  | nil => simp
  | cons y ys ih => simp only [List.flatMap_cons, List.length_append, List.length_cons, List.length_map, ih, Nat.succ_mul]; omega

theorem joinL_snoc (V : Int) (xs pre : List Int) (y m : Int) (hm : y * 2 ^ V.toNat = m) : joinL V xs (pre ++ [y]) = joinL V xs pre ++ m :: xs.map (m + ·) := by
  simp [joinL, List.flatMap_append, hm]

set_option maxHeartbeats 4000000 in
theorem join_any (V V' : Int) (a0 a1 : Option Addr) (cap cap' : Nat) (xs ys : List Int) (w : World) (hx : SlI w w.heap.size a0 xs) (hy : SlI w w.heap.size a1 ys) (hlx : xs.length ≤ 63) (hly : ys.length ≤ 63)
    (h1 : 1 ≤ V) (h1' : 1 ≤ V') (h6 : V + V' ≤ 6) (hfx : ∀ x ∈ xs, 1 ≤ x ∧ x ≤ allV V) (hfy : ∀ y ∈ ys, 1 ≤ y ∧ y ≤ allV V') :
    Calls Try.prog 56 #[.agg #[.int .i64 V, .slice a0 xs.length cap], .agg #[.int .i64 V', .slice a1 ys.length cap']] w fun e w' => ∃ v, e = .returned (.agg #[.int .i64 (V + V'), v]) ∧ Res w w' v (joinL V xs ys) := by
  obtain ⟨w0, hw0⟩ : ∃ w0, w0 = w.alloc (.cells #[.int .i64 V, .slice a0 xs.length cap] 26) := ⟨_, rfl⟩
  obtain ⟨W, hW⟩ : ∃ W, W = ((w.alloc (.cells #[.int .i64 V, .slice a0 xs.length cap] 26)).alloc (.cells #[.int .i64 V', .slice a1 ys.length cap'] 26)).alloc (.cells #[.int .i64 0, .slice none 0 0] 26) := ⟨_, rfl⟩
  have HW := hid hW
  have q0 : W.heap[w.heap.size]? = some (.cells #[.int .i64 V, .slice a0 xs.length cap] 26 (0, 0)) := by
    rw [hW]; exact (Below.heap_alloc _ _ _ (by simp <;> omega)).trans ((Below.heap_alloc _ _ _ (by simp)).trans (heap_alloc_new _ _))
  have q1 : W.heap[w.heap.size + 1]? = some (.cells #[.int .i64 V', .slice a1 ys.length cap'] 26 (0, 0)) := by
    rw [hW]; exact (Below.heap_alloc _ _ _ (by simp)).trans (new2 _ _ _)
  have q2 : W.heap[w.heap.size + 1 + 1]? = some (.cells #[.int .i64 0, .slice none 0 0] 26 (0, 0)) := by
    rw [hW]; exact new3 _ _ _ _
  have hsz : W.heap.size = w.heap.size + 3 := by rw [hW]; simp
  have hB0 : Below w.heap.size w W := by
    rw [hW]; exact (((Below.refl _ w).alloc (Nat.le_refl _) _).alloc (by simp) _).alloc (by simp <;> omega) _
  have Hx := hid (hx.later hB0 hB0.size)
  obtain ⟨k0, k1, _, _⟩ := two_of q0
  obtain ⟨l0, l1, _, _⟩ := two_of q1
  have Q0 := hid q0
  have Q1 := hid q1
  have Q2 := hid q2
  have hs0 : w0.heap.size = w.heap.size + 1 := by rw [hw0]; simp
  have hBw : Hid (Below w.heap.size w w0) := hid (by rw [hw0]; exact (Below.refl _ w).alloc (Nat.le_refl _) _)
  have hB0w : Hid (Below w0.heap.size w0 W) := hid (by rw [hW, hw0]; exact ((Below.refl _ _).alloc (Nat.le_refl _) _).alloc (by simp) _)
  have K0 : Hid (w0.heap[w.heap.size]? = some (.cells #[.int .i64 V, .slice a0 xs.length cap] 26 (0, 0))) := hid (by rw [hw0]; exact heap_alloc_new _ _)
  have H0 := hid hs0
  clear hW q0 q1 q2 hw0 hs0
  have HxX : Hid (SlI (W.alloc (.cells #[.int .i64 0, .slice none 0 0] 26)) (W.alloc (.cells #[.int .i64 0, .slice none 0 0] 26)).heap.size a0 xs) := hid (Hx.out.later ((Below.refl _ W).alloc (Nat.le_refl _) _) (by simp))
  have X0 : Hid ((W.alloc (.cells #[.int .i64 0, .slice none 0 0] 26)).heap[w.heap.size]? = some (.cells #[.int .i64 V, .slice a0 xs.length cap] 26 (0, 0))) := hid ((Below.heap_alloc _ _ _ (lt_get Q0.out)).trans Q0.out)
  have X1 : Hid ((W.alloc (.cells #[.int .i64 0, .slice none 0 0] 26)).heap[w.heap.size + 1]? = some (.cells #[.int .i64 V', .slice a1 ys.length cap'] 26 (0, 0))) := hid ((Below.heap_alloc _ _ _ (lt_get Q1.out)).trans Q1.out)
  have X2 : Hid ((W.alloc (.cells #[.int .i64 0, .slice none 0 0] 26)).heap[w.heap.size + 3]? = some (.cells #[.int .i64 0, .slice none 0 0] 26 (0, 0))) := hid (by have := heap_alloc_new W (.cells #[.int .i64 0, .slice none 0 0] 26); rwa [hsz] at this)
  have hVV : IntKind.i64.wrap (V + V') = V + V' := wrap_small _ (by omega) (by omega)
  go_enter Try.func56, Try.ntmps56
  go_wp2_with fail
  rw [← HW.out]
  go_cut [5] from 9 to 17 (fun p wx => ∃ (Bo : Nat) (av : Option Addr) (cv : Nat), p = .pointer (some ⟨Bo, 0, none⟩) ∧ OutU w0 wx V' (V + V') (.slice a1 ys.length cap') Bo xs av cv)
  case first =>
    go_region_held3 (fun w' => w'.cell? ⟨w.heap.size, 0, none⟩ = some (.int .i64 V) ∧ w'.cell? ⟨w.heap.size, 1, none⟩ = some (.slice a0 xs.length cap) ∧ w'.cell? ⟨w.heap.size + 1, 0, none⟩ = some (.int .i64 V')) (go_keep) (first
      | (go_at_call 92; refine (own_any a0 cap xs W.drew Hx.out (by omega)).mono ?_; rintro e w1 ⟨v, rfl, hr⟩; obtain ⟨_, av, cv, rfl, _⟩ := ownsRow_slI hr.1; have q01 := (hr.2.block _ (lt_get (W := W) Q0.out)).trans Q0.out; have q11 := (hr.2.block _ (lt_get (W := W) Q1.out)).trans Q1.out; obtain ⟨k01, k11, _, _⟩ := two_of q01; obtain ⟨l01, l11, _, _⟩ := two_of q11; have n1 := World.new_ne w1 _ k01; have n2 := World.new_ne w1 _ l01)
      | (go_at_call 92; refine (own_any a0 cap xs (W.alloc (.cells #[.int .i64 0, .slice none 0 0] 26)).drew HxX.out (by omega)).mono ?_; rintro e w1 ⟨v, rfl, hr⟩; obtain ⟨_, av, cv, rfl, _⟩ := ownsRow_slI hr.1; have q01 := (hr.2.block _ (lt_get X0.out)).trans X0.out; have q11 := (hr.2.block _ (lt_get X1.out)).trans X1.out; have q21 := (hr.2.block _ (lt_get X2.out)).trans X2.out; obtain ⟨k01, k11, _, _⟩ := two_of q01; obtain ⟨l01, l11, _, _⟩ := two_of q11; obtain ⟨c01, c11, f01, f11⟩ := two_of q21))
    · go_wp2_with fail
      go_meet
      case rel =>
        have hb := hr.2
        have hsW : W.drew.heap.size = w.heap.size + 3 := hsz
        have hs1 := hb.size
        have hs0 := H0.out
        have q2 := (hb.block _ (lt_get (W := W) Q2.out)).trans Q2.out
        have hbb : Below w0.heap.size w0 w1 := hB0w.out.trans (Below.mono (w := W) ⟨hb.os, hb.tape, hb.output, hb.size, hb.block⟩ (by omega))
        refine ⟨w1.heap.size, av, cv, rfl, ⟨hbb.alloc (by omega) _, ?_, ?_, heap_alloc_new _ _, (ownsRow_base hr.1 (by omega)).alloc _, by omega⟩⟩
        · rw [hs0]; exact (Below.heap_alloc _ _ _ (lt_get q11)).trans q11
        · rw [hs0]; exact (Below.heap_alloc _ _ _ (lt_get q2)).trans q2
    · go_wp2_with fail
      go_meet
      case rel =>
        have hb := hr.2
        have hsW : (W.alloc (.cells #[.int .i64 0, .slice none 0 0] 26)).drew.heap.size = w.heap.size + 4 := by simp [hsz]
        have hs1 := hb.size
        have hs0 := H0.out
        have Q2a := (Below.heap_alloc W (.cells #[.int .i64 0, .slice none 0 0] 26) _ (lt_get Q2.out)).trans Q2.out
        have q2 := (hb.block _ (lt_get Q2a)).trans Q2a
        have hWa : Below w0.heap.size w0 (W.alloc (.cells #[.int .i64 0, .slice none 0 0] 26)) := hB0w.out.alloc (by omega) _
        have hbb : Below w0.heap.size w0 w1 := hWa.trans (Below.mono (w := W.alloc (.cells #[.int .i64 0, .slice none 0 0] 26)) ⟨hb.os, hb.tape, hb.output, hb.size, hb.block⟩ (by omega))
        refine ⟨w.heap.size + 3, av, cv, rfl, ⟨(hbb.setCell (p := ⟨w.heap.size + 3, 0, none⟩) (by show w0.heap.size ≤ w.heap.size + 3; omega) _).setCell (p := ⟨w.heap.size + 3, 1, none⟩) (by show w0.heap.size ≤ w.heap.size + 3; omega) _, ?_, ?_, ?_, ?_, by omega⟩⟩
        · rw [hs0]; exact (Below.heap_setCell _ _ _ _ (by simp)).trans ((Below.heap_setCell _ _ _ _ (by simp)).trans q11)
        · rw [hs0]; exact (Below.heap_setCell _ _ _ _ (by simp)).trans ((Below.heap_setCell _ _ _ _ (by simp)).trans q2)
        · exact two_set q21 _ _
        · have hn := row_ne hr.1 q21 (by decide)
          exact ownsRow_set (ownsRow_set (ownsRow_base hr.1 (by omega)) (fun e => hn e.symm) _) (fun e => hn e.symm) _
  case rest =>
    obtain ⟨Bo, av, cv, rfl, hO⟩ := hcut
    have HO := hid hO
    have Hfx := hid hfx
    have Hfy := hid hfy
    have Hx0 := hid hx
    have Hy0 := hid hy
    clear hO Hx HxX X0 X1 X2 Q0 Q1 Q2 hB0w HW hB0 hsz hfx hfy hx hy k0 k1 l0 l1
    go_wp2_with fail
    go_loopw [6] (fun i wr => ∃ (k : Nat) (a : Option Addr) (c : Nat), k ≤ ys.length ∧ i = .int .i64 k ∧ OutU w0 wr V' (V + V') (.slice a1 ys.length cap') Bo (joinL V xs (ys.take k)) a c) (fun i _ => ys.length - (intOf i).toNat)
    case atStart => exact ⟨0, av, cv, Nat.zero_le _, rfl, by simpa [joinL] using HO.out⟩
    case round =>
      obtain ⟨k, a, c, hk, rfl, hW⟩ := hrel
      have hs0 := H0.out
      have e0 : wr.heap[w.heap.size]? = some (.cells #[.int .i64 V, .slice a0 xs.length cap] 26 (0, 0)) := (hW.below.block _ (by omega)).trans K0.out
      have e1 : wr.heap[w.heap.size + 1]? = some (.cells #[.int .i64 V', .slice a1 ys.length cap'] 26 (0, 0)) := by have := hW.kbox; rwa [hs0] at this
      obtain ⟨k0, k1, _, _⟩ := two_of e0
      obtain ⟨l0, l1, _, _⟩ := two_of e1
      obtain ⟨c0, c1, f0, f1⟩ := two_of hW.out
      have HW := hid hW
      have E0 := hid e0
      have E1 := hid e1
      clear hW hs0 e0 e1
      by_cases hlt : k < ys.length
      · obtain ⟨b, off, hb, rfl, hc⟩ : ∃ b off, b < w.heap.size ∧ a1 = some ⟨b, off, none⟩ ∧ ∀ i, i < ys.length → w.cell? ⟨b, off + i, none⟩ = some (.int .i64 (ys[i]?.getD 0)) := by
          rcases Hy0.out with rfl | h
          · simp at hlt
          · exact h
        have hym := Hfy.out _ (getD_mem hlt)
        obtain ⟨y, hy⟩ : ∃ y : Nat, (y : Int) = ys[k]?.getD 0 := ⟨(ys[k]?.getD 0).toNat, by omega⟩
        rw [← hy] at hym
        have hck : wr.cell? ⟨b, off + k, none⟩ = some (.int .i64 (y : Int)) := by rw [hy]; exact (HW.out.below.cell (p := ⟨b, off + k, none⟩) (by show b < w0.heap.size; have := H0.out; omega)).trans ((hBw.out.cell (p := ⟨b, off + k, none⟩) hb).trans (hc k hlt))
        have hi0 : (0 : Int) ≤ (k : Int) := by omega
        have hi1 : (k : Int) < (ys.length : Int) := by omega
        have Hy := hid hy
        obtain ⟨vn, hvn⟩ : ∃ vn : Nat, vn = V.toNat := ⟨_, rfl⟩
        have hp := Nat.pow_le_pow_right (n := 2) (by decide) (show vn ≤ 5 by omega)
        have hp' := allV_le (show V' ≤ 6 by omega)
        obtain ⟨m, hm⟩ : ∃ m : Nat, m = y * 2 ^ vn := ⟨_, rfl⟩
        have hm4 : m ≤ 4096 := by rw [hm]; exact Nat.le_trans (Nat.mul_le_mul (show y ≤ 63 by omega) hp) (by decide)
        have hmz : (y : Int) * 2 ^ V.toNat = (m : Int) := by rw [hm, ← hvn]; simp
        have hmw : wrap64 ((y : Int) * 2 ^ V.toNat) = (m : Int) := by rw [hmz]; exact IntWalk.wrap64_in _ ⟨by omega, by omega⟩
        have Hsn := hid (show joinL V xs (ys.take (k + 1)) = joinL V xs (ys.take k) ++ (m : Int) :: xs.map ((m : Int) + ·) by rw [take_snoc hlt, ← hy]; exact joinL_snoc _ _ _ _ _ hmz)
        obtain ⟨zs, hzs⟩ : ∃ zs, zs = joinL V xs (ys.take k) := ⟨_, rfl⟩
        have hzl : zs.length ≤ 8000 := by
          rw [hzs, joinL_len, List.length_take]
          have := Nat.mul_le_mul (show min k ys.length ≤ 63 by omega) (show xs.length + 1 ≤ 64 by omega)
          omega
        rw [← hzs] at Hsn HW c1
        have hbs : w0.heap.size ≤ wr.heap.size := HW.out.below.size
        have a1 : ∀ n (o : Obj), ((wr.drewN n).alloc o).cell? ⟨Bo, 1, none⟩ = some (.slice a zs.length c) := cell_alloc_drew c1
        clear hc hy hp hp' hm hmz hvn hzs c0
        go_wp2_with fail
        go_quiet (fail)
        go_wp2_with (at_builtin; refine plain_append_new rfl rfl (HW.out.drewN nq).own (by rfl) hbs (by omega) (by rfl) (by rfl) ?_; intro g cp w2 hown2 hgrow2; obtain ⟨o12, o22⟩ := HW.out.mid hgrow2; have k12 := HW.out.midX hgrow2 (p := ⟨w.heap.size, 1, none⟩) (by show w.heap.size < w0.heap.size; have := H0.out; omega); rw [k1] at k12)
        have HI := hid (HW.out.stepN hown2 hgrow2)
        clear hown2 hgrow2 o12 o22 k12 a1 HW k0 k1 l0 l1 c1 f0 f1 hck hmw hVV
        go_loopw [8] (fun j w3 => ∃ (l : Nat) (a : Option Addr) (c : Nat), l ≤ xs.length ∧ j = .int .i64 l ∧ OutU w0 w3 V' (V + V') (.slice (some ⟨b, off, none⟩) ys.length cap') Bo (zs ++ (m : Int) :: (xs.take l).map ((m : Int) + ·)) a c) (fun j _ => xs.length - (intOf j).toNat)
        case atStart => exact ⟨0, _, _, Nat.zero_le _, rfl, by simpa using HI.out⟩
        case round =>
          obtain ⟨l, a3, c3, hl, rfl, hW3⟩ := hrel
          have hs0 := H0.out
          have e0 : wr.heap[w.heap.size]? = some (.cells #[.int .i64 V, .slice a0 xs.length cap] 26 (0, 0)) := (hW3.below.block _ (by omega)).trans K0.out
          obtain ⟨k0, k1, _, _⟩ := two_of e0
          obtain ⟨_, c1, _, f1⟩ := two_of hW3.out
          have HW3 := hid hW3
          clear hW3 hs0 e0
          by_cases hlt3 : l < xs.length
          · obtain ⟨b3, off3, hb3, rfl, hc3⟩ : ∃ b3 off3, b3 < w.heap.size ∧ a0 = some ⟨b3, off3, none⟩ ∧ ∀ i, i < xs.length → w.cell? ⟨b3, off3 + i, none⟩ = some (.int .i64 (xs[i]?.getD 0)) := by
              rcases Hx0.out with rfl | h
              · simp at hlt3
              · exact h
            have hxm := Hfx.out _ (getD_mem hlt3)
            have hpv := allV_le (show V ≤ 6 by omega)
            obtain ⟨x, hx⟩ : ∃ x : Nat, (x : Int) = xs[l]?.getD 0 := ⟨(xs[l]?.getD 0).toNat, by omega⟩
            rw [← hx] at hxm
            have hck : wr.cell? ⟨b3, off3 + l, none⟩ = some (.int .i64 (x : Int)) := by rw [hx]; exact (HW3.out.below.cell (p := ⟨b3, off3 + l, none⟩) (by show b3 < w0.heap.size; have := H0.out; omega)).trans ((hBw.out.cell (p := ⟨b3, off3 + l, none⟩) hb3).trans (hc3 l hlt3))
            have hj0 : (0 : Int) ≤ (l : Int) := by omega
            have hj1 : (l : Int) < (xs.length : Int) := by omega
            have hadd : IntKind.i64.wrap ((m : Int) + (x : Int)) = (m : Int) + (x : Int) := wrap_small _ (by omega) (by omega)
            have Hs3 := hid (show (zs ++ (m : Int) :: (xs.take (l + 1)).map ((m : Int) + ·)) = (zs ++ (m : Int) :: (xs.take l).map ((m : Int) + ·)) ++ [(m : Int) + x] by rw [take_snoc hlt3, ← hx]; simp)
            obtain ⟨us, hus⟩ : ∃ us, us = zs ++ (m : Int) :: (xs.take l).map ((m : Int) + ·) := ⟨_, rfl⟩
            have hul : us.length ≤ 9000 := by rw [hus]; simp; omega
            rw [← hus] at Hs3 HW3 c1
            have hbs : w0.heap.size ≤ wr.heap.size := HW3.out.below.size
            have hkb : w.heap.size < w0.heap.size := by have := H0.out; omega
            have a1 : ∀ (o : Obj), (wr.alloc o).cell? ⟨Bo, 1, none⟩ = some (.slice a3 us.length c3) := cell_alloc_drew1 c1
            have a2 : ∀ (o : Obj), (wr.alloc o).cell? ⟨w.heap.size, 1, none⟩ = some (.slice (some ⟨b3, off3, none⟩) xs.length cap) := cell_alloc_drew1 k1
            have a3' : ∀ (o : Obj), (wr.alloc o).cell? ⟨b3, off3 + l, none⟩ = some (.int .i64 (x : Int)) := cell_alloc_drew1 hck
            clear hc3 hx hus k0
            go_wp2_with fail
            go_region_law (first | (refine step_append_new (by rfl) (by rfl) HW3.out.drew.own (by rfl) hbs (by omega) (by rfl) (by rfl) ?_; intro g3 cp3 w4 hown4 hgrow4; obtain ⟨o14, o24⟩ := HW3.out.mid (n := 1) hgrow4; have k14 := (HW3.out.midX (n := 1) hgrow4 (p := ⟨w.heap.size, 1, none⟩) hkb).trans k1; have x14 := (HW3.out.midX (n := 1) hgrow4 (p := ⟨b3, off3 + l, none⟩) (Nat.lt_trans hb3 hkb)).trans hck))
            all_goals
              go_wp2_with fail
              go_roundw
              case rel => exact ⟨l + 1, some ⟨g3, 0, none⟩, cp3, by omega, by go_num, by rw [Hs3.out]; simpa using HW3.out.stepN (n := 1) hown4 hgrow4⟩
              case measure => simp [intOf]; omega
          · obtain rfl : l = xs.length := by omega
            go_wp2_with fail
            go_roundw
            case rel => exact ⟨k + 1, a3, c3, by omega, by go_num, by rw [Hsn.out]; simpa using HW3.out⟩
            case measure => simp [intOf]; omega
      · have hs0 := H0.out
        have q2 : wr.heap[w.heap.size + 1 + 1]? = some (.cells #[.int .i64 0, .slice none 0 0] 26 (0, 0)) := by have := HW.out.res; rwa [hs0] at this
        obtain ⟨r0, r1, g0, g1⟩ := two_of q2
        have Hr := hid q2
        clear q2 hs0
        go_wp2_with fail
        (try simp only [Exit.inBlock, Exit.then])
        have R3 := two_of (two_set Hr.out (.int .i64 (V + V')) (.slice a (joinL V xs (ys.take k)).length c))
        refine done_cx1 (p := 4) (by kernel_rfl) rfl rfl R3.1 R3.2.1 ?_
        obtain rfl : k = ys.length := by omega
        have h := HW.out.done (.int .i64 (V + V')) (.slice a (joinL V xs (ys.take ys.length)).length c)
        rw [H0.out] at h
        rw [List.take_of_length_le (Nat.le_refl _)] at h ⊢
        exact ⟨_, rfl, h.later hBw.out⟩

end Go.Proofs.Ytmkknfdjoajpcaa
