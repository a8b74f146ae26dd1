import Derived.Test.YtmkknfdjoajpcaaDualS
import Derived.Test.YtmkknfdjoajpcaaImplB
import Derived.Test.YtmkknfdjoajpcaaContains
/-! Duals: the program's. -/
namespace Go.Proofs.Ytmkknfdjoajpcaa
open Go.RowKit

theorem andNot_all : ∀ v : Fin 7, ∀ s : Fin 64, s.val ≤ 2 ^ v.val - 1 → bits BinOp.andNot IntKind.i64 ((2 ^ v.val - 1 : Nat) : Int) (s.val : Int) = ((2 ^ v.val - 1 - s.val : Nat) : Int) := by decide +kernel

theorem andNot_allV {V : Int} {A k : Nat} (h1 : 1 ≤ V) (h2 : V ≤ 6) (hA : (A : Int) = allV V) (hk : k ≤ A) : bits BinOp.andNot IntKind.i64 (A : Int) (k : Int) = (A : Int) - (k : Int) := by
  have hp : A = 2 ^ V.toNat - 1 := by
    have e : ((2 ^ V.toNat : Nat) : Int) = 2 ^ V.toNat := by simp
    have := Nat.two_pow_pos V.toNat
    unfold allV at hA
    rw [← e] at hA
    omega
  have hA63 : A ≤ 63 := by have := allV_le h2; omega
  have h := andNot_all ⟨V.toNat, by omega⟩ ⟨k, by omega⟩ (by simp only; omega)
  simp only at h
  rw [hp, h]
  omega

set_option maxRecDepth 100000 in
set_option maxHeartbeats 4000000 in
theorem implDualOf (V : Int) (a0 : Option Addr) (cap : Nat) (fs : List Int) (w : World) (hx : SlI w w.heap.size a0 fs) (hl : fs.length ≤ 1048576) :
    Calls Try.prog 18 #[.agg #[.int .i64 V, .slice a0 fs.length cap]] w fun e w' => ∃ v, e = .returned (.tuple #[.agg #[.int .i64 (dualOfR V fs).1, v], .int .i64 (dualOfR V fs).2.2]) ∧ Res w w' v (dualOfR V fs).2.1 := by
  have hB0 : Below w.heap.size w ((w.alloc (.cells #[.int .i64 V, .slice a0 fs.length cap] 26)).alloc (.cells #[.int .i64 0, .slice none 0 0] 26)) := ((Below.refl _ w).alloc (Nat.le_refl _) _).alloc (by simp) _
  have Hx := hid (hx.later hB0 (by simp <;> omega))
  have Hxw := hid hx
  clear hx
  by_cases hC : IsC V fs
  · have HC := hid hC
    have h1 := hC.lo
    have h2 := hC.hi
    obtain ⟨A, hA, hA1, hA2⟩ := allV_nat h1 h2
    have HA := hid hA
    refine cx_mono (show dualOfR V fs = (V, dualL V fs, 0) by unfold dualOfR; rw [isCB_true hC, if_pos rfl]) ?_
    have Hall : Hid (∀ W, Calls Try.prog 52 #[.int .i64 V] W fun e w' => e = .returned (.int .i64 (A : Int)) ∧ W = w') := hid (fun W => by rw [hA]; exact av_any V W (by omega) h2)
    have HAN : Hid (∀ k : Nat, k ≤ A → bits BinOp.andNot IntKind.i64 (A : Int) (k : Int) = (A : Int) - (k : Int)) := hid (fun k hk => andNot_allV h1 h2 hA hk)
    clear hC hA
    go_enter Try.func18, Try.ntmps18
    go_wp2_with fail
    refine (isc_yes V a0 cap fs _ Hx.out hl HC.out).mono ?_
    rintro e w1 ⟨rfl, hB1⟩
    have K1 := hid ((hB1.block w.heap.size (by simp <;> omega)).trans ((Below.heap_alloc _ _ _ (by simp)).trans (heap_alloc_new w (.cells #[.int .i64 V, .slice a0 fs.length cap] 26))))
    have R1 := hid ((hB1.block (w.heap.size + 1) (by simp <;> omega)).trans (new2 w (.cells #[.int .i64 V, .slice a0 fs.length cap] 26) (.cells #[.int .i64 0, .slice none 0 0] 26)))
    have HB01 := hid (hB0.trans (hB1.mono (by simp <;> omega)))
    obtain ⟨k0, k1, _, _⟩ := two_of K1.out
    clear hB0 hB1
    have k0a : ∀ o, (w1.alloc o).cell? ⟨w.heap.size, 0, none⟩ = some (.int .i64 V) := cell_alloc_drew1 k0
    go_wp2_with fail
    refine (Hall.out _).mono ?_
    rintro e w2 ⟨rfl, rfl⟩
    have HO := hid (outW_start0 HB01.out K1.out R1.out)
    clear k0 k1 k0a
    go_wp2_with fail
    go_loopw [6] (fun i wr => ∃ (k : Nat) (a : Option Addr) (c : Nat), k + 1 ≤ A ∧ i = .int .i64 ((k : Int) + 1) ∧ OutW w wr V (.slice a0 fs.length cap) w1.heap.size (pickTo (dualP V fs) k) a c) (fun i _ => A - (intOf i).toNat)
    case atStart => exact ⟨0, none, 0, hA1, rfl, HO.out⟩
    case round =>
      obtain ⟨k, a, c, hk, rfl, hW⟩ := hrel
      have HW := hid hW
      obtain ⟨k0, k1, _, _⟩ := two_of hW.kbox
      obtain ⟨o0, o1, f0, f1⟩ := two_of hW.out
      have hbs := hW.below.size
      have hlen := pickTo_len (dualP V fs) k
      clear hW
      by_cases hlt : k + 1 < A
      · have hd : decide ((k : Int) + 1 < (A : Int)) = true := decide_eq_true (by omega)
        have HxW := hid (Hxw.out.later HW.out.below hbs)
        have Hs : Hid (∀ b : Bool, dualP V fs ((k : Int) + 1) = b → pickTo (dualP V fs) (k + 1) = pickTo (dualP V fs) k ++ (if b then [(k : Int) + 1] else [])) := hid (fun b hb => by rw [← hb]; rfl)
        have hbits : bits BinOp.andNot IntKind.i64 (A : Int) ((k : Int) + 1) = (A : Int) - ((k : Int) + 1) := HAN.out (k + 1) (by omega)
        by_cases hm : (A : Int) - ((k : Int) + 1) ∈ fs
        · have HP := hid (Hs.out false (by unfold dualP; rw [← HA.out, decide_eq_true hm]; rfl))
          have Hm := hid (decide_eq_true hm)
          clear hm Hs
          go_wp2_with fail
          refine (contains_any a0 cap fs _ wr HxW.out hl).mono ?_
          rw [Hm.out]
          rintro e w1 ⟨rfl, rfl⟩
          go_wp2_with fail
          go_roundw
          case rel => exact ⟨k + 1, a, c, by omega, by go_num, by rw [HP.out, if_neg (by decide), List.append_nil]; exact HW.out⟩
          case measure => simp [intOf]; omega
        · have HP := hid ((Hs.out true (by unfold dualP; rw [← HA.out, decide_eq_false hm]; rfl)).trans (by rw [if_pos rfl]))
          have Hm := hid (decide_eq_false hm)
          clear hm Hs
          go_wp2_with fail
          refine (contains_any a0 cap fs _ wr HxW.out hl).mono ?_
          rw [Hm.out]
          rintro e w3 ⟨rfl, rfl⟩
          go_wp2_with (at_builtin; refine plain_append_new rfl rfl HW.out.own (by rfl) hbs (by omega) (by rfl) (by rfl) ?_; intro g cp w2 hown2 hgrow2; obtain ⟨o12, o22⟩ := HW.out.mid (n := 0) hgrow2)
          go_roundw
          case rel => exact ⟨k + 1, some ⟨g, 0, none⟩, cp, by omega, by go_num, by rw [HP.out]; simpa using HW.out.step hown2 hgrow2⟩
          case measure => simp [intOf]; omega
      · have hd : decide ((k : Int) + 1 < (A : Int)) = false := decide_eq_false (by omega)
        have HE : Hid (pickTo (dualP V fs) k = dualL V fs) := hid (by unfold dualL; rw [← HA.out, Int.toNat_natCast, show A - 1 = k by omega])
        obtain ⟨r0, r1, g0, g1⟩ := two_of HW.out.res
        go_wp2_with fail
        (try simp only [Exit.inBlock, Exit.then])
        have R2 := two_of (two_set HW.out.res (.int .i64 V) (.slice a (pickTo (dualP V fs) k).length c))
        refine done_cx (p := 2) (u := 3) (by kernel_rfl) rfl rfl R2.1 R2.2.1 rfl ⟨_, rfl, ?_⟩
        rw [← HE.out]
        exact HW.out.done _ _
  · refine cx_mono (show dualOfR V fs = (0, [], 1) by unfold dualOfR; rw [isCB_false hC, if_neg (by simp)]) ?_
    go_enter Try.func18, Try.ntmps18
    go_wp2_with fail
    refine (isc_no V a0 cap fs _ Hx.out hl hC).mono ?_
    rintro e w1 ⟨rfl, hB1⟩
    have r1 : w1.heap[w.heap.size + 1]? = some (.cells #[.int .i64 0, .slice none 0 0] 26 (0, 0)) := (hB1.block _ (by simp <;> omega)).trans (new2 _ _ _)
    have hB01 := hB0.trans (hB1.mono (by simp <;> omega))
    obtain ⟨c0, c1, f0, f1⟩ := two_of r1
    have R1 := hid r1
    clear r1
    go_wp2_with fail
    (try simp only [Exit.inBlock, Exit.then])
    have R3 := two_of (two_set R1.out (.int .i64 0) (.slice none 0 0))
    refine done_cx (p := 2) (u := 3) (by kernel_rfl) rfl rfl R3.1 R3.2.1 rfl ⟨_, rfl, ?_⟩
    exact (res_nil _ _ hB01).set2 R1.out (by decide) (by omega) _ _

end Go.Proofs.Ytmkknfdjoajpcaa
