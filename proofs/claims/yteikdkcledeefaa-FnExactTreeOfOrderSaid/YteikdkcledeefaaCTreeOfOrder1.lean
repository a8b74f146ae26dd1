import Derived.Test.YteikdkcledeefaaRows
import Derived.ProofKit
import Derived.OpenShut
import Derived.ShutString
import Derived.ChangeOld
import Derived.Below
import Derived.Lib.SmallJoins
import Derived.Test.YteikdkcledeefaaTB1
import Derived.Test.YteikdkcledeefaaTB3
/-! What a complex that comes in is told as, for the rows of all laws. -/
namespace Go.Proofs.Yteikdkcledeefaa
open Go.ChangeShapes Go.WideShapes Go.ChangeAt Go.RowKit Go.Joins

theorem own : ownKnob Try.prog.godebug = none := by kernel_rfl
theorem laidOut : laidOutB Try.prog = true := by kernel_rfl

variable {H : Type} {enc : TypeId × Value → H}

/-- A slice of int64 that came in. -/
theorem slI_of_trod {W : World} {n : Nat} {v : Value} {y : DataW H × List MemPlace} (hf : DataW.trod enc Try.prog W 0 (fun _ => true) true n 22 [v] = some y) :
    ∃ a len cap xs, v = .slice a len cap ∧ xs.length = len ∧ len ≤ 9223372036854775807 ∧ SlI W W.heap.size a xs ∧ ∀ x ∈ xs, (Lit.int .i64 x).wf = true := by
  rcases open_ints Try.underlying22 Try.underlying2 (by kernel_rfl) hf with ⟨hcs, _⟩ | ⟨x, l, c, zs, hcs, _, hl, hm, hz, _, hcell, hwf⟩
  · simp at hcs
    subst hcs
    exact ⟨none, 0, 0, [], rfl, rfl, by omega, .inl rfl, by simp⟩
  · simp at hcs
    subst hcs
    simp at hz
    have hlen : (zs.take l).length = l := by simp; omega
    unfold maxLen at hm
    refine ⟨some x, l, c, zs.take l, rfl, hlen, by omega, ?_, fun y hy => hwf y (List.mem_of_mem_take hy)⟩
    by_cases h0 : l = 0
    · subst h0; exact .inl (by simp)
    · right
      obtain ⟨b, off, spot⟩ := x
      have hc0 := hcell 0 (by omega)
      have hspot : spot = none := by simpa [Addr.add] using World.cell?_spot hc0
      subst hspot
      refine ⟨b, off, ?_, rfl, fun i hi => ?_⟩
      · have := World.block_lt_of_cell? W _ hc0
        simpa [Addr.add] using this
      · rw [hlen] at hi
        have := hcell i (by omega)
        have hadd : (⟨b, off, none⟩ : Addr).add i = ⟨b, off + i, none⟩ := by unfold Addr.add; split <;> simp_all
        rw [hadd] at this
        rw [List.getElem?_take, if_pos hi]
        simpa using this

end Go.Proofs.Yteikdkcledeefaa

/-! The law on TreeOfOrder, walked. -/
namespace Go.Proofs.Yteikdkcledeefaa
open Go.RowKit

set_option maxRecDepth 100000 in
set_option maxHeartbeats 8000000 in
theorem law_TreeOfOrder (d0 : Int) (a1 : Option Addr) (cap1 : Nat) (gs1 : List Int) (w : World) (hx1 : SlI w w.heap.size a1 gs1)   (wd0 : (Lit.int .i64 d0).wf = true) :
    Calls Try.prog 3 #[.int .i64 d0, .slice a1 gs1.length cap1] w fun e w' => e = .returned (.bool true) ∧ Below w.heap.size w w' := by
  have F0 : Book w w [(a1, gs1)] [] [] := ⟨Below.refl _ _, by simp; exact hx1, by simp, by simp⟩
  (try simp only [World.size_alloc] at F0)
  have B0 := hid F0
  clear F0 hx1
  by_cases hbL1 : 1048576 < gs1.length
  · have hbi1 : (gs1.length : Int) > 1048576 := by omega
    go_enter Try.func3, Try.ntmps3
    go_wp2_with fail
    go_ret
    exact ⟨rfl, B0.out.from0⟩
  have hl1 : gs1.length ≤ 1048576 := by omega
  have hbi1 : ¬ (gs1.length : Int) > 1048576 := by omega
  obtain ⟨R, hR⟩ : ∃ R, R = treeOR d0 gs1 := ⟨_, rfl⟩
  have hRl : R.1.length ≤ 1048576 := by rw [hR]; exact treeOR_len d0 gs1 hl1
  obtain ⟨ys, c⟩ := R
  simp only at hRl
  have HS : Hid (∀ a1 cap1 w', SlI w' w'.heap.size a1 gs1 → Calls Try.prog 13 #[.int .i64 d0, .slice a1 gs1.length cap1] w' fun e w'' => ∃ v, e = .returned (.tuple #[v, .int .i64 c]) ∧ Res w' w'' v ys) :=
    hid (fun a1 cap1 w' hs1 => by have := specTreeOfOrder d0 a1 cap1 gs1 w' hs1 hl1 wd0; rwa [← hR] at this)
  have HI : Hid (∀ a1 cap1 w', SlI w' w'.heap.size a1 gs1 → Calls Try.prog 15 #[.int .i64 d0, .slice a1 gs1.length cap1] w' fun e w'' => ∃ v, e = .returned (.tuple #[v, .int .i64 c]) ∧ Res w' w'' v ys) :=
    hid (fun a1 cap1 w' hs1 => by have := implTreeOfOrder d0 a1 cap1 gs1 w' hs1 hl1 wd0; rwa [← hR] at this)
  have hcc : (c != c) = false := by simp
  clear hR
  go_enter Try.func3, Try.ntmps3
  go_wp2_with fail
  refine (toInts a1 cap1 gs1 _ (B0.out.arg (.head _)) hl1).mono ?_
  rintro e u1 ⟨rfl, hown, hB⟩
  have zu1 := hB.size
  (try simp only [World.size_alloc] at zu1)
  have B0 := hid (B0.out.row hown hB)
  clear hown hB
  (try simp only [World.size_alloc] at B0)
  go_wp2_with fail
  refine (HS.out _ _ _ (B0.out.slI (.head _))).mono ?_
  rintro e u9 ⟨vw, rfl, hres⟩
  have zu9 := hres.2.size
  (try simp only [World.size_alloc] at zu9)
  obtain ⟨_, aw, cw, rfl, _⟩ := ownsRow_slI hres.1
  have B0 := hid (B0.out.row hres.1 hres.2)
  clear hres
  (try simp only [World.size_alloc] at B0)
  go_wp2_with fail
  refine (toInts a1 cap1 gs1 _ (B0.out.arg (.head _)) hl1).mono ?_
  rintro e x1 ⟨rfl, hown, hB⟩
  have zx1 := hB.size
  (try simp only [World.size_alloc] at zx1)
  have B0 := hid (B0.out.row hown hB)
  clear hown hB
  (try simp only [World.size_alloc] at B0)
  go_wp2_with fail
  refine (HI.out _ _ _ (B0.out.slI (.head _))).mono ?_
  rintro e v9 ⟨vg, rfl, hres⟩
  have zv9 := hres.2.size
  (try simp only [World.size_alloc] at zv9)
  obtain ⟨_, ag, cg, rfl, _⟩ := ownsRow_slI hres.1
  have B0 := hid (B0.out.row hres.1 hres.2)
  clear hres
  (try simp only [World.size_alloc] at B0)
  go_wp2_with fail
  refine (eqInts_yes _ _ _ _ ys ys _ (B0.out.slI (.head _)) (B0.out.slI (.tail _ (.tail _ (.head _)))) hRl hRl rfl).mono ?_
  rintro e e1 ⟨rfl, hB⟩
  have ze1 := hB.size
  (try simp only [World.size_alloc] at ze1)
  have B0 := hid (B0.out.below hB)
  clear hB
  go_wp2_with fail
  refine (toInts a1 cap1 gs1 _ (B0.out.arg (.head _)) hl1).mono ?_
  rintro e f1 ⟨rfl, hown, hB⟩
  have zf1 := hB.size
  (try simp only [World.size_alloc] at zf1)
  have B0 := hid (B0.out.row hown hB)
  clear hown hB
  (try simp only [World.size_alloc] at B0)
  go_wp2_with fail
  refine (eqInts_yes _ _ _ _ gs1 gs1 _ (B0.out.slI (.tail _ (.tail _ (.head _)))) (B0.out.slI (.head _)) hl1 hl1 rfl).mono ?_
  rintro e h1 ⟨rfl, hB⟩
  have zh1 := hB.size
  (try simp only [World.size_alloc] at zh1)
  have B0 := hid (B0.out.below hB)
  clear hB
  (try simp only [World.size_alloc] at B0)
  have B0 := hid (B0.out.only (bs' := _) (L' := [⟨u9.heap.size, x1.heap.size, 2, 1, gs1.length, .slice (some ⟨u9.heap.size, 0, none⟩) gs1.length gs1.length, gs1⟩, ⟨x1.heap.size, v9.heap.size, 2, 1, ys.length, .slice ag ys.length cg, ys⟩, ⟨u1.heap.size, u9.heap.size, 2, 1, ys.length, .slice aw ys.length cw, ys⟩]) (fun _ h => h) (by simp))
  go_wp2_with fail
  refine (markInts _ _ _ gs1 (1) _ (B0.out.own (.head _)) hl1 (by omega) (by omega)).mono ?_
  rintro e m1 ⟨rfl, hown, hg⟩
  have zm1 := hg.size
  (try simp only [World.size_alloc] at zm1)
  have B0 := hid (B0.out.mark (ys := count (1) gs1.length) (L' := [⟨x1.heap.size, v9.heap.size, 2, 1, ys.length, .slice ag ys.length cg, ys⟩, ⟨u1.heap.size, u9.heap.size, 2, 1, ys.length, .slice aw ys.length cw, ys⟩]) (.head _) hown hg (by simp only; omega) (by simp <;> omega) (by simp <;> omega))
  clear hown hg
  go_wp2_with fail
  refine (eqInts_yes _ _ _ _ ys ys _ (B0.out.slI (.head _)) (B0.out.slI (.tail _ (.head _))) hRl hRl rfl).mono ?_
  rintro e e2 ⟨rfl, hB⟩
  have ze2 := hB.size
  (try simp only [World.size_alloc] at ze2)
  have B0 := hid (B0.out.below hB)
  clear hB
  go_wp2_with fail
  refine (markInts _ _ _ ys 1 _ (B0.out.own (.head _)) hRl (by omega) (by omega)).mono ?_
  rintro e m8 ⟨rfl, hown, hg⟩
  have zm8 := hg.size
  (try simp only [World.size_alloc] at zm8)
  have B0 := hid (B0.out.mark (ys := count 1 ys.length) (L' := [⟨x1.heap.size, v9.heap.size, 2, 1, ys.length, .slice ag ys.length cg, count 1 ys.length⟩, ⟨u1.heap.size, u9.heap.size, 2, 1, ys.length, .slice aw ys.length cw, ys⟩]) (.head _) hown hg (by simp only; omega) (by simp <;> omega) (by simp <;> omega))
  clear hown hg
  go_wp2_with fail
  refine (heldInts _ _ ys.length _ 1 _ rfl (B0.out.slI (.head _)) hRl (by omega) (by omega)).mono ?_
  rintro e t1 ⟨rfl, hB⟩
  have zt1 := hB.size
  (try simp only [World.size_alloc] at zt1)
  have B0 := hid (B0.out.below hB)
  clear hB
  have hnn : ((1 : Int) + ys.length != 1 + ys.length) = false := by simp
  go_wp2_with fail
  refine (toInts a1 cap1 gs1 _ (B0.out.arg (.head _)) hl1).mono ?_
  rintro e y1 ⟨rfl, hown, hB⟩
  have zy1 := hB.size
  (try simp only [World.size_alloc] at zy1)
  have B0 := hid (B0.out.row hown hB)
  clear hown hB
  (try simp only [World.size_alloc] at B0)
  go_wp2_with fail
  refine (HI.out _ _ _ (B0.out.slI (.head _))).mono ?_
  rintro e t2 ⟨vh, rfl, hres⟩
  have zt2 := hres.2.size
  (try simp only [World.size_alloc] at zt2)
  obtain ⟨_, ah, ch, rfl, _⟩ := ownsRow_slI hres.1
  have B0 := hid (B0.out.row hres.1 hres.2)
  clear hres
  (try simp only [World.size_alloc] at B0)
  go_wp2_with fail
  refine (eqInts_yes _ _ _ _ ys ys _ (B0.out.slI (.head _)) (B0.out.slI (.tail _ (.tail _ (.tail _ (.head _))))) hRl hRl rfl).mono ?_
  rintro e t3 ⟨rfl, hB⟩
  have zt3 := hB.size
  (try simp only [World.size_alloc] at zt3)
  have B0 := hid (B0.out.below hB)
  clear hB
  go_wp2_with fail
  refine (heldInts _ _ ys.length _ 1 _ rfl (B0.out.slI (.tail _ (.tail _ (.head _)))) hRl (by omega) (by omega)).mono ?_
  rintro e t4 ⟨rfl, hB⟩
  have zt4 := hB.size
  (try simp only [World.size_alloc] at zt4)
  have B0 := hid (B0.out.below hB)
  clear hB
  go_wp2_with fail
  go_ret
  exact ⟨rfl, B0.out.from0⟩

end Go.Proofs.Yteikdkcledeefaa
