import Derived.Test.YtmkknfdjoajpcaaJoinS
import Derived.Test.YtmkknfdjoajpcaaMathL
/-! JoinOf, the model's and the program's. -/
namespace Go.Proofs.Ytmkknfdjoajpcaa
open Go.RowKit

/-- What JoinOf hands back. -/
noncomputable def joinOfR (V : Int) (xs : List Int) (V' : Int) (ys : List Int) : Int × List Int × Int := if isCB V xs then (if isCB V' ys then (if V + V' ≤ 6 then (V + V', joinL V xs ys, 0) else (0, [], 3)) else (0, [], 1)) else (0, [], 1)

theorem joinOfR_len (V : Int) (xs : List Int) (V' : Int) (ys : List Int) (_ : xs.length ≤ 1048576) (_ : ys.length ≤ 1048576) : (joinOfR V xs V' ys).2.1.length ≤ 1048576 := by
  unfold joinOfR
  split
  · next h1 =>
    split
    · next h2 =>
      split
      · have l1 := (isCB_iff.1 h1).len63
        have l2 := (isCB_iff.1 h2).len63
        rw [joinL_len]
        have := Nat.mul_le_mul (show ys.length ≤ 63 by omega) (show xs.length + 1 ≤ 64 by omega)
        omega
      · simp
    · simp
  · simp

theorem or_apart {x y m v : Nat} (hx : x ≤ 63) (hm : m ≤ 4096) (he : m = y * 2 ^ v) (hv : (x : Int) ≤ allV (v : Int)) : bits BinOp.or IntKind.i64 (x : Int) (m : Int) = (m : Int) + (x : Int) := by
  have h := (bits_nat .i64 20 (by decide) (fun n h0 h1 => by rw [IntKind.wrap_i64]; omega) x m (by omega) (by omega)).2
  have hlt : x < 2 ^ v := by
    have e : ((2 ^ v : Nat) : Int) = 2 ^ v := by simp
    unfold allV at hv
    rw [Int.toNat_natCast, ← e] at hv
    omega
  have h2 := Nat.two_pow_add_eq_or_of_lt hlt y
  rw [Nat.or_comm, Nat.mul_comm, ← he] at h2
  rw [h, Nat.or_comm, ← Nat.or_comm, ← h2]
  simp

/-- What the walk of JoinOf keeps of the world. -/
structure OutP (w W : World) (V V' : Int) (sl sl' : Value) (xs : List Int) (a : Option Addr) (c : Nat) : Prop where
  below : Below w.heap.size w W
  kbox : W.heap[w.heap.size]? = some (.cells #[.int .i64 V, sl] 26 (0, 0))
  lbox : W.heap[w.heap.size + 1]? = some (.cells #[.int .i64 V', sl'] 26 (0, 0))
  out : W.heap[w.heap.size + 1 + 1]? = some (.cells #[.int .i64 0, .slice none 0 0] 26 (0, 0))
  own : W.ownsRow w.heap.size 2 1 (.slice a xs.length c) xs.length (xs.map (Value.int .i64))

theorem OutP.step {w W w2 : World} {V V' : Int} {sl sl' : Value} {xs : List Int} {a : Option Addr} {c : Nat} (h : OutP w W V V' sl sl' xs a c) {x : Int} {g cap : Nat} {o : Obj}
    (hown : w2.ownsRow w.heap.size 2 1 (.slice (some ⟨g, 0, none⟩) (xs ++ [x]).length cap) (xs ++ [x]).length ((xs ++ [x]).map (Value.int .i64))) (hg : (W.alloc o).grownBy w2 (Value.ownBlock (.slice a xs.length c))) :
    OutP w w2 V V' sl sl' (xs ++ [x]) (some ⟨g, 0, none⟩) cap := by
  have hgr : W.grownBy w2 (Value.ownBlock (.slice a xs.length c)) := (World.grownBy_alloc W o _).trans hg
  exact ⟨h.below.grown hgr h.below.size (fun k hk => (h.own.lt k hk).1),
    (hgr.block _ (lt_get h.kbox) (row_ne h.own h.kbox (by decide))).trans h.kbox,
    (hgr.block _ (lt_get h.lbox) (row_ne h.own h.lbox (by decide))).trans h.lbox,
    (hgr.block _ (lt_get h.out) (row_ne h.own h.out (by decide))).trans h.out, hown⟩

set_option maxHeartbeats 4000000 in
theorem implJoinOf (V : Int) (a : Option Addr) (cap : Nat) (xs : List Int) (V' : Int) (a' : Option Addr) (cap' : Nat) (ys : List Int) (w : World) (hx : SlI w w.heap.size a xs) (hy : SlI w w.heap.size a' ys) (hl : xs.length ≤ 1048576) (hl' : ys.length ≤ 1048576) :
    Calls Try.prog 57 #[.agg #[.int .i64 V, .slice a xs.length cap], .agg #[.int .i64 V', .slice a' ys.length cap']] w fun e w' => ∃ v, e = .returned (.tuple #[.agg #[.int .i64 (joinOfR V xs V' ys).1, v], .int .i64 (joinOfR V xs V' ys).2.2]) ∧ Res w w' v (joinOfR V xs V' ys).2.1 := by
  have hB0 : Below w.heap.size w (((w.alloc (.cells #[.int .i64 V, .slice a xs.length cap] 26)).alloc (.cells #[.int .i64 V', .slice a' ys.length cap'] 26)).alloc (.cells #[.int .i64 0, .slice none 0 0] 26)) := (((Below.refl _ w).alloc (Nat.le_refl _) _).alloc (by simp) _).alloc (by simp <;> omega) _
  have Hx := hid (hx.later hB0 (by simp <;> omega))
  have Hy := hid (hy.later hB0 (by simp <;> omega))
  by_cases hC : IsC V xs
  · have HC := hid hC
    by_cases hC' : IsC V' ys
    · have HC' := hid hC'
      have hv0 := hC.lo
      have hv1 := hC.hi
      have hv0' := hC'.lo
      have hv1' := hC'.hi
      have hVV : IntKind.i64.wrap (V + V') = V + V' := wrap_small _ (by omega) (by omega)
      have Hlx := hid hC.len63
      have Hly := hid hC'.len63
      by_cases h6 : V + V' ≤ 6
      · refine cx_mono (show joinOfR V xs V' ys = (V + V', joinL V xs ys, 0) by unfold joinOfR; rw [isCB_true hC, isCB_true hC', if_pos rfl, if_pos rfl, if_pos h6]) ?_
        have h6' : decide (6 < V + V') = false := decide_eq_false (by omega)
        have Hfx := hid hC.range
        have Hfy := hid hC'.range
        clear hC hC'
        go_enter Try.func57, Try.ntmps57
        go_wp2_with fail
        refine (isc_yes V a cap xs _ Hx.out hl HC.out).mono ?_
        rintro e w1 ⟨rfl, hB1⟩
        have k0 : w1.cell? ⟨w.heap.size, 0, none⟩ = some (.int .i64 V) := (hB1.cell (p := ⟨w.heap.size, 0, none⟩) (by simp <;> omega)).trans (by simp [go_sem])
        have k1 : w1.cell? ⟨w.heap.size, 1, none⟩ = some (.slice a xs.length cap) := (hB1.cell (p := ⟨w.heap.size, 1, none⟩) (by simp <;> omega)).trans (by simp [go_sem])
        have l0 : w1.cell? ⟨w.heap.size + 1, 0, none⟩ = some (.int .i64 V') := (hB1.cell (p := ⟨w.heap.size + 1, 0, none⟩) (by simp <;> omega)).trans (by simp [go_sem])
        have l1 : w1.cell? ⟨w.heap.size + 1, 1, none⟩ = some (.slice a' ys.length cap') := (hB1.cell (p := ⟨w.heap.size + 1, 1, none⟩) (by simp <;> omega)).trans (by simp [go_sem])
        have r1 : w1.heap[w.heap.size + 1 + 1]? = some (.cells #[.int .i64 0, .slice none 0 0] 26 (0, 0)) := (hB1.block _ (by simp <;> omega)).trans (new3 _ _ _ _)
        have q1 : w1.heap[w.heap.size]? = some (.cells #[.int .i64 V, .slice a xs.length cap] 26 (0, 0)) := (hB1.block _ (by simp <;> omega)).trans ((Below.heap_alloc _ _ _ (by simp <;> omega)).trans ((Below.heap_alloc _ _ _ (by simp)).trans (heap_alloc_new _ _)))
        have s1 : w1.heap[w.heap.size + 1]? = some (.cells #[.int .i64 V', .slice a' ys.length cap'] 26 (0, 0)) := (hB1.block _ (by simp <;> omega)).trans ((Below.heap_alloc _ _ _ (by simp)).trans (new2 _ _ _))
        have hB01 := hB0.trans (hB1.mono (by simp <;> omega))
        have hx1 := hid (hx.later hB01 hB01.size)
        have hy1 := hid (hy.later hB01 hB01.size)
        have R1 := hid r1
        have Q1 := hid q1
        have S1 := hid s1
        clear r1 q1 s1
        go_wp2_with fail
        refine (isc_yes V' a' cap' ys _ hy1.out hl' HC'.out).mono ?_
        rintro e w2 ⟨rfl, hB2⟩
        have k02 := (hB2.cell (p := ⟨w.heap.size, 0, none⟩) (lt_get Q1.out)).trans k0
        have k12 := (hB2.cell (p := ⟨w.heap.size, 1, none⟩) (lt_get Q1.out)).trans k1
        have l02 := (hB2.cell (p := ⟨w.heap.size + 1, 0, none⟩) (lt_get S1.out)).trans l0
        have l12 := (hB2.cell (p := ⟨w.heap.size + 1, 1, none⟩) (lt_get S1.out)).trans l1
        have R2 := hid ((hB2.block _ (lt_get R1.out)).trans R1.out)
        have Q2 := hid ((hB2.block _ (lt_get Q1.out)).trans Q1.out)
        have S2 := hid ((hB2.block _ (lt_get S1.out)).trans S1.out)
        have hB02 := hB01.trans (hB2.mono hB01.size)
        have hx2 := hid (hx.later hB02 hB02.size)
        have hy2 := hid (hy.later hB02 hB02.size)
        obtain ⟨c0, c1, f0, f1⟩ := two_of R2.out
        clear k0 k1 l0 l1 R1 Q1 S1 hB1 hB2
        go_wp2_with fail
        refine (clone_any a cap xs _ hx2.out hl).mono ?_
        rintro e w3 ⟨v, rfl, hr⟩
        obtain ⟨_, av, cv, rfl, _⟩ := ownsRow_slI hr.1
        have HO : Hid (OutP w w3 V V' (.slice a xs.length cap) (.slice a' ys.length cap') xs av cv) := hid ⟨hB02.trans (hr.2.mono hB02.size), (hr.2.block _ (lt_get Q2.out)).trans Q2.out, (hr.2.block _ (lt_get S2.out)).trans S2.out, (hr.2.block _ (lt_get R2.out)).trans R2.out, ownsRow_base hr.1 hB02.size⟩
        obtain ⟨l0, l1, _, _⟩ := two_of HO.out.lbox
        have Hx0 := hid hx
        have Hy0 := hid hy
        clear hr hx2 hy2 hB02 Q2 S2 R2 k02 k12 l02 l12 c0 c1 f0 f1 hx hy hB0 hB01 hx1 hy1
        go_wp2_with fail
        clear l0 l1
        go_loopw [6, 34] (fun f i wr => ∃ (k : Nat) (av : Option Addr) (cv : Nat), k ≤ ys.length ∧ i = .int .i64 k ∧ f = .slice av (joinL V xs (ys.take k)).length cv ∧ OutP w wr V V' (.slice a xs.length cap) (.slice a' ys.length cap') (joinL V xs (ys.take k)) av cv) (fun _ i _ => ys.length - (intOf i).toNat)
        case atStart => exact ⟨0, av, cv, Nat.zero_le _, rfl, by simp [joinL], by simpa [joinL] using HO.out⟩
        case round =>
          obtain ⟨k, a3, c3, hk, rfl, rfl, hW⟩ := hrel
          obtain ⟨k0, k1, _, _⟩ := two_of hW.kbox
          obtain ⟨l0, l1, _, _⟩ := two_of hW.lbox
          have HW := hid hW
          clear hW
          by_cases hlt : k < ys.length
          · obtain ⟨b, off, hb, rfl, hc⟩ : ∃ b off, b < w.heap.size ∧ a' = some ⟨b, off, none⟩ ∧ ∀ i, i < ys.length → w.cell? ⟨b, off + i, none⟩ = some (.int .i64 (ys[i]?.getD 0)) := by
              rcases Hy0.out with rfl | h
              · simp at hlt
              · exact h
            have hym := Hfy.out _ (getD_mem hlt)
            obtain ⟨y, hy⟩ : ∃ y : Nat, (y : Int) = ys[k]?.getD 0 := ⟨(ys[k]?.getD 0).toNat, by omega⟩
            rw [← hy] at hym
            have hck : wr.cell? ⟨b, off + k, none⟩ = some (.int .i64 (y : Int)) := by rw [hy]; exact (HW.out.below.cell (p := ⟨b, off + k, none⟩) hb).trans (hc k hlt)
            have hi0 : (0 : Int) ≤ (k : Int) := by omega
            have hi1 : (k : Int) < (ys.length : Int) := by omega
            obtain ⟨vn, hvn⟩ : ∃ vn : Nat, vn = V.toNat := ⟨_, rfl⟩
            have hp := Nat.pow_le_pow_right (n := 2) (by decide) (show vn ≤ 5 by omega)
            have hp' := allV_le (show V' ≤ 6 by omega)
            obtain ⟨m, hm⟩ : ∃ m : Nat, m = y * 2 ^ vn := ⟨_, rfl⟩
            have hm4 : m ≤ 4096 := by rw [hm]; exact Nat.le_trans (Nat.mul_le_mul (show y ≤ 63 by omega) hp) (by decide)
            have hmz : (y : Int) * 2 ^ V.toNat = (m : Int) := by rw [hm, ← hvn]; simp
            have hmw : wrap64 ((y : Int) * 2 ^ V.toNat) = (m : Int) := by rw [hmz]; exact IntWalk.wrap64_in _ ⟨by omega, by omega⟩
            have Hmd : Hid (m = y * 2 ^ vn ∧ vn = V.toNat) := hid ⟨hm, hvn⟩
            have Hsn := hid (show joinL V xs (ys.take (k + 1)) = joinL V xs (ys.take k) ++ (m : Int) :: xs.map ((m : Int) + ·) by rw [take_snoc hlt, ← hy]; exact joinL_snoc _ _ _ _ _ hmz)
            obtain ⟨zs, hzs⟩ : ∃ zs, zs = joinL V xs (ys.take k) := ⟨_, rfl⟩
            have hxl := Hlx.out
            have hyl := Hly.out
            have hzl : zs.length ≤ 8000 := by
              rw [hzs, joinL_len, List.length_take]
              have := Nat.mul_le_mul (show min k ys.length ≤ 63 by omega) (show xs.length + 1 ≤ 64 by omega)
              omega
            rw [← hzs] at Hsn HW ⊢
            have hbs : w.heap.size ≤ wr.heap.size := HW.out.below.size
            clear hc hy hp hp' hm hmz hvn hzs
            go_wp2_with (at_builtin; refine plain_append_new rfl rfl HW.out.own (by rfl) hbs (by omega) (by rfl) (by rfl) ?_; intro g cp w4 hown4 hgrow4; have HI := hid (HW.out.step hown4 hgrow4); obtain ⟨k04, k14, _, _⟩ := two_of HI.out.kbox)
            clear hown4 hgrow4 HW k0 k1 l0 l1 hck hmw k04 k14
            go_loopw [6, 49] (fun f j w5 => ∃ (l : Nat) (a' : Option Addr) (c : Nat), l ≤ xs.length ∧ j = .int .i64 l ∧ f = .slice a' (zs ++ (m : Int) :: (xs.take l).map ((m : Int) + ·)).length c ∧ OutP w w5 V V' (.slice a xs.length cap) (.slice (some ⟨b, off, none⟩) ys.length cap') (zs ++ (m : Int) :: (xs.take l).map ((m : Int) + ·)) a' c) (fun _ j _ => xs.length - (intOf j).toNat)
            case atStart => exact ⟨0, some ⟨g, 0, none⟩, cp, Nat.zero_le _, rfl, by simp, by simpa using HI.out⟩
            case round =>
              obtain ⟨l, a5, c5, hl5, rfl, rfl, hW5⟩ := hrel
              obtain ⟨k0, k1, _, _⟩ := two_of hW5.kbox
              have HW5 := hid hW5
              clear hW5
              by_cases hlt5 : l < xs.length
              · obtain ⟨b3, off3, hb3, rfl, hc3⟩ : ∃ b3 off3, b3 < w.heap.size ∧ a = some ⟨b3, off3, none⟩ ∧ ∀ i, i < xs.length → w.cell? ⟨b3, off3 + i, none⟩ = some (.int .i64 (xs[i]?.getD 0)) := by
                  rcases Hx0.out with rfl | h
                  · simp at hlt5
                  · exact h
                have hxm := Hfx.out _ (getD_mem hlt5)
                have hpv := allV_le (show V ≤ 6 by omega)
                obtain ⟨x, hx⟩ : ∃ x : Nat, (x : Int) = xs[l]?.getD 0 := ⟨(xs[l]?.getD 0).toNat, by omega⟩
                rw [← hx] at hxm
                have hck : wr.cell? ⟨b3, off3 + l, none⟩ = some (.int .i64 (x : Int)) := by rw [hx]; exact (HW5.out.below.cell (p := ⟨b3, off3 + l, none⟩) hb3).trans (hc3 l hlt5)
                have hj0 : (0 : Int) ≤ (l : Int) := by omega
                have hj1 : (l : Int) < (xs.length : Int) := by omega
                have hor : bits BinOp.or IntKind.i64 (x : Int) (m : Int) = (m : Int) + (x : Int) := or_apart (v := vn) (y := y) (by omega) hm4 Hmd.out.1 (by rw [Hmd.out.2, Int.toNat_of_nonneg (by omega)]; exact hxm.2)
                have Hs5 := hid (show (zs ++ (m : Int) :: (xs.take (l + 1)).map ((m : Int) + ·)) = (zs ++ (m : Int) :: (xs.take l).map ((m : Int) + ·)) ++ [(m : Int) + x] by rw [take_snoc hlt5, ← hx]; simp)
                obtain ⟨us, hus⟩ : ∃ us, us = zs ++ (m : Int) :: (xs.take l).map ((m : Int) + ·) := ⟨_, rfl⟩
                have hul : us.length ≤ 9000 := by rw [hus]; simp; omega
                rw [← hus] at Hs5 HW5 ⊢
                have hbs : w.heap.size ≤ wr.heap.size := HW5.out.below.size
                clear hc3 hx hus k0 hxm
                go_wp2_with (at_builtin; refine plain_append_new rfl rfl HW5.out.own (by rfl) hbs (by omega) (by rfl) (by rfl) ?_; intro g3 cp3 w6 hown6 hgrow6)
                go_roundw
                case rel => exact ⟨l + 1, some ⟨g3, 0, none⟩, cp3, by omega, by go_num, by rw [Hs5.out]; simp, by rw [Hs5.out]; exact HW5.out.step hown6 hgrow6⟩
                case measure => simp [intOf]; omega
              · obtain rfl : l = xs.length := by omega
                rw [List.take_of_length_le (Nat.le_refl _)] at HW5 ⊢
                go_wp2_with fail
                go_roundw
                case rel => exact ⟨k + 1, a5, c5, by omega, by go_num, by rw [Hsn.out], by rw [Hsn.out]; exact HW5.out⟩
                case measure => simp [intOf]; omega
          · obtain rfl : k = ys.length := by omega
            rw [List.take_of_length_le (Nat.le_refl _)] at HW ⊢
            have R2 := hid HW.out.out
            obtain ⟨c0, c1, f0, f1⟩ := two_of HW.out.out
            go_wp2_with fail
            (try simp only [Exit.inBlock, Exit.then])
            have R3 := two_of (two_set R2.out (.int .i64 (V + V')) (.slice a3 (joinL V xs ys).length c3))
            refine done_cx (p := 4) (u := 5) (by kernel_rfl) rfl rfl R3.1 R3.2.1 rfl ⟨_, rfl, ?_⟩
            have h : Res w wr (.slice a3 (joinL V xs ys).length c3) (joinL V xs ys) := ⟨HW.out.own, HW.out.below⟩
            exact h.set2 R2.out (by decide) (by omega) _ _
      · refine cx_mono (show joinOfR V xs V' ys = (0, [], 3) by unfold joinOfR; rw [isCB_true hC, isCB_true hC', if_pos rfl, if_pos rfl, if_neg h6]) ?_
        have h6' : decide (6 < V + V') = true := decide_eq_true (by omega)
        clear hC hC' h6
        go_enter Try.func57, Try.ntmps57
        go_wp2_with fail
        refine (isc_yes V a cap xs _ Hx.out hl HC.out).mono ?_
        rintro e w1 ⟨rfl, hB1⟩
        have k0 : w1.cell? ⟨w.heap.size, 0, none⟩ = some (.int .i64 V) := (hB1.cell (p := ⟨w.heap.size, 0, none⟩) (by simp <;> omega)).trans (by simp [go_sem])
        have k1 : w1.cell? ⟨w.heap.size, 1, none⟩ = some (.slice a xs.length cap) := (hB1.cell (p := ⟨w.heap.size, 1, none⟩) (by simp <;> omega)).trans (by simp [go_sem])
        have l0 : w1.cell? ⟨w.heap.size + 1, 0, none⟩ = some (.int .i64 V') := (hB1.cell (p := ⟨w.heap.size + 1, 0, none⟩) (by simp <;> omega)).trans (by simp [go_sem])
        have l1 : w1.cell? ⟨w.heap.size + 1, 1, none⟩ = some (.slice a' ys.length cap') := (hB1.cell (p := ⟨w.heap.size + 1, 1, none⟩) (by simp <;> omega)).trans (by simp [go_sem])
        have r1 : w1.heap[w.heap.size + 1 + 1]? = some (.cells #[.int .i64 0, .slice none 0 0] 26 (0, 0)) := (hB1.block _ (by simp <;> omega)).trans (new3 _ _ _ _)
        have q1 : w1.heap[w.heap.size]? = some (.cells #[.int .i64 V, .slice a xs.length cap] 26 (0, 0)) := (hB1.block _ (by simp <;> omega)).trans ((Below.heap_alloc _ _ _ (by simp <;> omega)).trans ((Below.heap_alloc _ _ _ (by simp)).trans (heap_alloc_new _ _)))
        have s1 : w1.heap[w.heap.size + 1]? = some (.cells #[.int .i64 V', .slice a' ys.length cap'] 26 (0, 0)) := (hB1.block _ (by simp <;> omega)).trans ((Below.heap_alloc _ _ _ (by simp)).trans (new2 _ _ _))
        have hB01 := hB0.trans (hB1.mono (by simp <;> omega))
        have hx1 := hid (hx.later hB01 hB01.size)
        have hy1 := hid (hy.later hB01 hB01.size)
        have R1 := hid r1
        have Q1 := hid q1
        have S1 := hid s1
        clear r1 q1 s1
        go_wp2_with fail
        refine (isc_yes V' a' cap' ys _ hy1.out hl' HC'.out).mono ?_
        rintro e w2 ⟨rfl, hB2⟩
        have k02 := (hB2.cell (p := ⟨w.heap.size, 0, none⟩) (lt_get Q1.out)).trans k0
        have k12 := (hB2.cell (p := ⟨w.heap.size, 1, none⟩) (lt_get Q1.out)).trans k1
        have l02 := (hB2.cell (p := ⟨w.heap.size + 1, 0, none⟩) (lt_get S1.out)).trans l0
        have l12 := (hB2.cell (p := ⟨w.heap.size + 1, 1, none⟩) (lt_get S1.out)).trans l1
        have R2 := hid ((hB2.block _ (lt_get R1.out)).trans R1.out)
        have Q2 := hid ((hB2.block _ (lt_get Q1.out)).trans Q1.out)
        have S2 := hid ((hB2.block _ (lt_get S1.out)).trans S1.out)
        have hB02 := hB01.trans (hB2.mono hB01.size)
        have hx2 := hid (hx.later hB02 hB02.size)
        have hy2 := hid (hy.later hB02 hB02.size)
        obtain ⟨c0, c1, f0, f1⟩ := two_of R2.out
        clear k0 k1 l0 l1 R1 Q1 S1 hB1 hB2
        go_wp2_with fail
        (try simp only [Exit.inBlock, Exit.then])
        have R3 := two_of (two_set R2.out (.int .i64 0) (.slice none 0 0))
        refine done_cx (p := 4) (u := 5) (by kernel_rfl) rfl rfl R3.1 R3.2.1 rfl ⟨_, rfl, ?_⟩
        exact (res_nil _ _ hB02).set2 R2.out (by decide) (by omega) _ _
    · refine cx_mono (show joinOfR V xs V' ys = (0, [], 1) by unfold joinOfR; rw [isCB_true hC, isCB_false hC', if_pos rfl, if_neg (by simp)]) ?_
      clear hC
      go_enter Try.func57, Try.ntmps57
      go_wp2_with fail
      refine (isc_yes V a cap xs _ Hx.out hl HC.out).mono ?_
      rintro e w1 ⟨rfl, hB1⟩
      have k0 : w1.cell? ⟨w.heap.size, 0, none⟩ = some (.int .i64 V) := (hB1.cell (p := ⟨w.heap.size, 0, none⟩) (by simp <;> omega)).trans (by simp [go_sem])
      have k1 : w1.cell? ⟨w.heap.size, 1, none⟩ = some (.slice a xs.length cap) := (hB1.cell (p := ⟨w.heap.size, 1, none⟩) (by simp <;> omega)).trans (by simp [go_sem])
      have l0 : w1.cell? ⟨w.heap.size + 1, 0, none⟩ = some (.int .i64 V') := (hB1.cell (p := ⟨w.heap.size + 1, 0, none⟩) (by simp <;> omega)).trans (by simp [go_sem])
      have l1 : w1.cell? ⟨w.heap.size + 1, 1, none⟩ = some (.slice a' ys.length cap') := (hB1.cell (p := ⟨w.heap.size + 1, 1, none⟩) (by simp <;> omega)).trans (by simp [go_sem])
      have r1 : w1.heap[w.heap.size + 1 + 1]? = some (.cells #[.int .i64 0, .slice none 0 0] 26 (0, 0)) := (hB1.block _ (by simp <;> omega)).trans (new3 _ _ _ _)
      have q1 : w1.heap[w.heap.size]? = some (.cells #[.int .i64 V, .slice a xs.length cap] 26 (0, 0)) := (hB1.block _ (by simp <;> omega)).trans ((Below.heap_alloc _ _ _ (by simp <;> omega)).trans ((Below.heap_alloc _ _ _ (by simp)).trans (heap_alloc_new _ _)))
      have s1 : w1.heap[w.heap.size + 1]? = some (.cells #[.int .i64 V', .slice a' ys.length cap'] 26 (0, 0)) := (hB1.block _ (by simp <;> omega)).trans ((Below.heap_alloc _ _ _ (by simp)).trans (new2 _ _ _))
      have hB01 := hB0.trans (hB1.mono (by simp <;> omega))
      have hx1 := hid (hx.later hB01 hB01.size)
      have hy1 := hid (hy.later hB01 hB01.size)
      have R1 := hid r1
      have Q1 := hid q1
      have S1 := hid s1
      clear r1 q1 s1
      go_wp2_with fail
      refine (isc_no V' a' cap' ys _ hy1.out hl' hC').mono ?_
      rintro e w2 ⟨rfl, hB2⟩
      have k02 := (hB2.cell (p := ⟨w.heap.size, 0, none⟩) (lt_get Q1.out)).trans k0
      have k12 := (hB2.cell (p := ⟨w.heap.size, 1, none⟩) (lt_get Q1.out)).trans k1
      have l02 := (hB2.cell (p := ⟨w.heap.size + 1, 0, none⟩) (lt_get S1.out)).trans l0
      have l12 := (hB2.cell (p := ⟨w.heap.size + 1, 1, none⟩) (lt_get S1.out)).trans l1
      have R2 := hid ((hB2.block _ (lt_get R1.out)).trans R1.out)
      have Q2 := hid ((hB2.block _ (lt_get Q1.out)).trans Q1.out)
      have S2 := hid ((hB2.block _ (lt_get S1.out)).trans S1.out)
      have hB02 := hB01.trans (hB2.mono hB01.size)
      have hx2 := hid (hx.later hB02 hB02.size)
      have hy2 := hid (hy.later hB02 hB02.size)
      obtain ⟨c0, c1, f0, f1⟩ := two_of R2.out
      clear k0 k1 l0 l1 R1 Q1 S1 hB1 hB2
      go_wp2_with fail
      (try simp only [Exit.inBlock, Exit.then])
      have R3 := two_of (two_set R2.out (.int .i64 0) (.slice none 0 0))
      refine done_cx (p := 4) (u := 5) (by kernel_rfl) rfl rfl R3.1 R3.2.1 rfl ⟨_, rfl, ?_⟩
      exact (res_nil _ _ hB02).set2 R2.out (by decide) (by omega) _ _
  · refine cx_mono (show joinOfR V xs V' ys = (0, [], 1) by unfold joinOfR; rw [isCB_false hC, if_neg (by simp)]) ?_
    go_enter Try.func57, Try.ntmps57
    go_wp2_with fail
    refine (isc_no V a cap xs _ Hx.out hl hC).mono ?_
    rintro e w1 ⟨rfl, hB1⟩
    have k0 : w1.cell? ⟨w.heap.size, 0, none⟩ = some (.int .i64 V) := (hB1.cell (p := ⟨w.heap.size, 0, none⟩) (by simp <;> omega)).trans (by simp [go_sem])
    have k1 : w1.cell? ⟨w.heap.size, 1, none⟩ = some (.slice a xs.length cap) := (hB1.cell (p := ⟨w.heap.size, 1, none⟩) (by simp <;> omega)).trans (by simp [go_sem])
    have l0 : w1.cell? ⟨w.heap.size + 1, 0, none⟩ = some (.int .i64 V') := (hB1.cell (p := ⟨w.heap.size + 1, 0, none⟩) (by simp <;> omega)).trans (by simp [go_sem])
    have l1 : w1.cell? ⟨w.heap.size + 1, 1, none⟩ = some (.slice a' ys.length cap') := (hB1.cell (p := ⟨w.heap.size + 1, 1, none⟩) (by simp <;> omega)).trans (by simp [go_sem])
    have r1 : w1.heap[w.heap.size + 1 + 1]? = some (.cells #[.int .i64 0, .slice none 0 0] 26 (0, 0)) := (hB1.block _ (by simp <;> omega)).trans (new3 _ _ _ _)
    have q1 : w1.heap[w.heap.size]? = some (.cells #[.int .i64 V, .slice a xs.length cap] 26 (0, 0)) := (hB1.block _ (by simp <;> omega)).trans ((Below.heap_alloc _ _ _ (by simp <;> omega)).trans ((Below.heap_alloc _ _ _ (by simp)).trans (heap_alloc_new _ _)))
    have s1 : w1.heap[w.heap.size + 1]? = some (.cells #[.int .i64 V', .slice a' ys.length cap'] 26 (0, 0)) := (hB1.block _ (by simp <;> omega)).trans ((Below.heap_alloc _ _ _ (by simp)).trans (new2 _ _ _))
    have hB01 := hB0.trans (hB1.mono (by simp <;> omega))
    have hx1 := hid (hx.later hB01 hB01.size)
    have hy1 := hid (hy.later hB01 hB01.size)
    have R1 := hid r1
    have Q1 := hid q1
    have S1 := hid s1
    clear r1 q1 s1
    obtain ⟨c0, c1, f0, f1⟩ := two_of R1.out
    go_wp2_with fail
    (try simp only [Exit.inBlock, Exit.then])
    have R3 := two_of (two_set R1.out (.int .i64 0) (.slice none 0 0))
    refine done_cx (p := 4) (u := 5) (by kernel_rfl) rfl rfl R3.1 R3.2.1 rfl ⟨_, rfl, ?_⟩
    exact (res_nil _ _ hB01).set2 R1.out (by decide) (by omega) _ _

end Go.Proofs.Ytmkknfdjoajpcaa
