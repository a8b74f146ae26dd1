import Derived.Test.YtbgkalkipalndaaDoorMC5
/-! The law on NewDesk, walked. -/
namespace Go.Proofs.YtbgkalkipalndaaDoor
open Go.RowKit

theorem Book.tri {w0 w : World} {A : List (Option Addr × List Int)} {bs : List (Nat × Obj)} {L : List Bk} (h : Book w0 w A bs L) {b t : Nat} {u v x : Value} (hb : (b, Obj.cells #[u, v, x] t (0, 0)) ∈ bs) : w.cell? ⟨b, 0, none⟩ = some u ∧ w.cell? ⟨b, 1, none⟩ = some v ∧ w.cell? ⟨b, 2, none⟩ = some x := by
  have := h.blocks _ hb
  refine ⟨?_, ?_, ?_⟩ <;> simp [World.cell?, this]

theorem circ_len : (namedR circN).2.1.length ≤ 1048576 := namedR_len circN

set_option maxRecDepth 100000 in
set_option maxHeartbeats 8000000 in
theorem law_NewDesk (w : World) (m : Int) (hm : w.cell? ⟨1, 0, none⟩ = some (.int .i64 m)) :
    Calls Tryd.prog 3 #[] w fun e w' => e = .returned (.bool true) ∧ Below w.heap.size w w' := by
  have hmlt := World.block_lt_of_cell? w _ hm
  have HS := hid (fun w' => specNewDesk w')
  have HI := hid (fun (w' : World) (h : w'.cell? ⟨1, 0, none⟩ = some (.int .i64 m)) => implNewDesk w' m h)
  unfold DkW at HS HI
  have hRl := circ_len
  obtain ⟨R, hR⟩ : ∃ R, R = namedR circN := ⟨_, rfl⟩
  rw [← hR] at HS HI hRl
  obtain ⟨U, ys, c⟩ := R
  simp only at hRl HS HI
  have B0 : Hid (Book w w [] [] []) := hid ⟨Below.refl _ _, by simp, by simp, by simp⟩
  have Hm := hid hm
  clear hR hm
  go_enter Tryd.func3, Tryd.ntmps3
  go_wp2_with fail
  refine (HS.out _).mono ?_
  rintro e u9 ⟨vw, pw, kw, rfl, hres⟩
  have zu9 := hres.2.size
  obtain ⟨_, aw, cw, rfl, _⟩ := ownsRow_slI hres.1
  have B0 := hid (B0.out.row hres.1 hres.2)
  clear hres
  have B0 := hid (B0.out.alloc (.cells #[.int .i64 U, .slice aw ys.length cw, .slice pw 0 kw] 27))
  go_wp2_with fail
  refine (HI.out _ ((B0.out.from0.cell (p := ⟨1, 0, none⟩) hmlt).trans Hm.out)).mono ?_
  rintro e v9 ⟨vg, pg, kg, rfl, hres⟩
  have zv9 := hres.2.size
  (try simp only [World.size_alloc] at zv9)
  obtain ⟨_, ag, cg, rfl, _⟩ := ownsRow_slI hres.1
  have B0 := hid (B0.out.row hres.1 hres.2)
  clear hres
  (try simp only [World.size_alloc] at B0)
  have B0 := hid (B0.out.alloc (.cells #[.int .i64 U, .slice ag ys.length cg, .slice pg 0 kg] 27))
  obtain ⟨l0, l1, l2⟩ := B0.out.tri (.head _)
  obtain ⟨n0, n1, n2⟩ := B0.out.tri (.tail _ (.head _))
  go_wp2_with fail
  clear l0 l1 l2 n0 n1 n2
  refine (eqDk0 U _ _ _ _ ys _ _ _ _ _ (B0.out.slI (.head _)) (B0.out.slI (.tail _ (.head _))) hRl).mono ?_
  rintro e e1 ⟨rfl, hB⟩
  have ze1 := hB.size
  (try simp only [World.size_alloc] at ze1)
  have B0 := hid (B0.out.below hB)
  clear hB
  have B0 := hid (B0.out.only (bs' := _) (L' := [⟨u9.heap.size + 1, v9.heap.size, 2, 1, ys.length, .slice ag ys.length cg, ys⟩, ⟨w.heap.size, u9.heap.size, 2, 1, ys.length, .slice aw ys.length cw, ys⟩]) (fun _ h => h) (by simp))
  obtain ⟨l0, l1, l2⟩ := B0.out.tri (.head _)
  go_wp2_with fail
  clear l0 l1 l2
  refine (markDk0 U _ _ _ ys _ _ 1 _ (B0.out.own (.head _)) hRl (by omega) (by omega)).mono ?_
  rintro e m8 ⟨rfl, hown, hg⟩
  have zm8 := hg.size
  (try simp only [World.size_alloc] at zm8)
  have B0 := hid (B0.out.mark (ys := count 1 ys.length) (L' := [⟨u9.heap.size + 1, v9.heap.size, 2, 1, ys.length, .slice ag ys.length cg, count 1 ys.length⟩, ⟨w.heap.size, u9.heap.size, 2, 1, ys.length, .slice aw ys.length cw, ys⟩]) (.head _) hown hg (by simp only; omega) (by simp <;> omega) (by simp <;> omega))
  clear hown hg
  obtain ⟨l0, l1, l2⟩ := B0.out.tri (.head _)
  go_wp2_with fail
  clear l0 l1 l2
  refine (heldDk0 U _ _ ys.length _ _ _ 1 _ rfl (B0.out.slI (.head _)) hRl (by omega) (by omega)).mono ?_
  rintro e t1 ⟨rfl, hB⟩
  have zt1 := hB.size
  (try simp only [World.size_alloc] at zt1)
  have B0 := hid (B0.out.below hB)
  clear hB
  have hnn : ((1 : Int) + ys.length != 1 + ys.length) = false := by simp
  go_wp2_with fail
  refine (HI.out _ ((B0.out.from0.cell (p := ⟨1, 0, none⟩) hmlt).trans Hm.out)).mono ?_
  rintro e t2 ⟨vh, ph, kh, rfl, hres⟩
  have zt2 := hres.2.size
  (try simp only [World.size_alloc] at zt2)
  obtain ⟨_, ah, ch, rfl, _⟩ := ownsRow_slI hres.1
  have B0 := hid (B0.out.row hres.1 hres.2)
  clear hres
  (try simp only [World.size_alloc] at B0)
  have B0 := hid (B0.out.alloc (.cells #[.int .i64 U, .slice ah ys.length ch, .slice ph 0 kh] 27))
  obtain ⟨l0, l1, l2⟩ := B0.out.tri (.head _)
  obtain ⟨n0, n1, n2⟩ := B0.out.tri (.tail _ (.tail _ (.head _)))
  go_wp2_with fail
  clear l0 l1 l2 n0 n1 n2
  refine (eqDk0 U _ _ _ _ ys _ _ _ _ _ (B0.out.slI (.head _)) (B0.out.slI (.tail _ (.tail _ (.head _)))) hRl).mono ?_
  rintro e t3 ⟨rfl, hB⟩
  have zt3 := hB.size
  (try simp only [World.size_alloc] at zt3)
  have B0 := hid (B0.out.below hB)
  clear hB
  obtain ⟨l0, l1, l2⟩ := B0.out.tri (.tail _ (.head _))
  go_wp2_with fail
  clear l0 l1 l2
  refine (heldDk0 U _ _ ys.length _ _ _ 1 _ rfl (B0.out.slI (.tail _ (.head _))) hRl (by omega) (by omega)).mono ?_
  rintro e t4 ⟨rfl, hB⟩
  have zt4 := hB.size
  (try simp only [World.size_alloc] at zt4)
  have B0 := hid (B0.out.below hB)
  clear hB
  go_wp2_with fail
  go_ret
  exact ⟨rfl, B0.out.from0⟩

end Go.Proofs.YtbgkalkipalndaaDoor
