import Derived.Test.YtbgkalkipalndaaDoorMC5
import Derived.Test.YtbgkalkipalndaaDoorMC4
/-! The law on NamedComplex, walked. -/
namespace Go.Proofs.YtbgkalkipalndaaDoor
open Go.RowKit

set_option maxRecDepth 100000 in
set_option maxHeartbeats 8000000 in
theorem law_NamedComplex (l : List UInt8) (w : World) (m : Int) (hm : w.cell? ⟨1, 0, none⟩ = some (.int .i64 m)) (hn : l.length ≤ 9223372036854775807) :
    Calls Tryd.prog 4 #[.string ⟨l.toArray⟩] w fun e w' => e = .returned (.bool true) ∧ Below w.heap.size w w' := by
  obtain ⟨s, hs⟩ : ∃ s : ByteArray, s = ⟨l.toArray⟩ := ⟨_, rfl⟩
  have hsz : s.size = l.length := by rw [hs]; rfl
  have Hs := hid hs
  rw [← hs]
  clear hs
  by_cases hl : 1048576 < l.length
  · have hbi : decide ((1048576 : Int) < (l.length : Int)) = true := decide_eq_true (by omega)
    clear hm
    go_enter Tryd.func4, Tryd.ntmps4
    go_wp2_with fail
    go_ret
    exact ⟨rfl, Below.refl _ _⟩
  have hbi : decide ((1048576 : Int) < (l.length : Int)) = false := decide_eq_false (by omega)
  have hl : l.length ≤ 1048576 := by omega
  have hmlt := World.block_lt_of_cell? w _ hm
  obtain ⟨R, hR⟩ : ∃ R, R = namedR l := ⟨_, rfl⟩
  have hRl : R.2.1.length ≤ 1048576 := by rw [hR]; exact namedR_len l
  have HS := hid (fun (w' : World) => by have := specNamedComplex l w'; rwa [← hR, ← Hs.out] at this)
  have HI := hid (fun (w' : World) (h : w'.cell? ⟨1, 0, none⟩ = some (.int .i64 m)) => by have := implNamedComplex l w' m h; rwa [← hR, ← Hs.out] at this)
  obtain ⟨U, ys, c⟩ := R
  simp only at hRl HS HI
  have B0 : Hid (Book w w [] [] []) := hid ⟨Below.refl _ _, by simp, by simp, by simp⟩
  have Hm := hid hm
  have hcc : (c != c) = false := by simp
  clear hR hm
  go_enter Tryd.func4, Tryd.ntmps4
  go_wp2_with fail
  refine (HS.out _).mono ?_
  rintro e u9 ⟨vw, rfl, hres⟩
  have zu9 := hres.2.size
  obtain ⟨_, aw, cw, rfl, _⟩ := ownsRow_slI hres.1
  have B0 := hid (B0.out.row hres.1 hres.2)
  clear hres
  have B0 := hid (B0.out.alloc (.cells #[.int .i64 U, .slice aw ys.length cw] 24))
  go_wp2_with fail
  refine (HI.out _ ((B0.out.from0.cell (p := ⟨1, 0, none⟩) hmlt).trans Hm.out)).mono ?_
  rintro e v9 ⟨vg, rfl, hres⟩
  have zv9 := hres.2.size
  (try simp only [World.size_alloc] at zv9)
  obtain ⟨_, ag, cg, rfl, _⟩ := ownsRow_slI hres.1
  have B0 := hid (B0.out.row hres.1 hres.2)
  clear hres
  (try simp only [World.size_alloc] at B0)
  have B0 := hid (B0.out.alloc (.cells #[.int .i64 U, .slice ag ys.length cg] 24))
  obtain ⟨l0, l1⟩ := B0.out.two (.head _)
  obtain ⟨n0, n1⟩ := B0.out.two (.tail _ (.head _))
  go_wp2_with fail
  clear l0 l1 n0 n1
  refine (eqCx_yes U _ _ _ _ ys ys _ (B0.out.slI (.head _)) (B0.out.slI (.tail _ (.head _))) hRl hRl rfl).mono ?_
  rintro e e1 ⟨rfl, hB⟩
  have ze1 := hB.size
  (try simp only [World.size_alloc] at ze1)
  have B0 := hid (B0.out.below hB)
  clear hB
  have B0 := hid (B0.out.only (bs' := _) (L' := [⟨u9.heap.size + 1, v9.heap.size, 2, 1, ys.length, .slice ag ys.length cg, ys⟩, ⟨w.heap.size, u9.heap.size, 2, 1, ys.length, .slice aw ys.length cw, ys⟩]) (fun _ h => h) (by simp))
  obtain ⟨l0, l1⟩ := B0.out.two (.head _)
  go_wp2_with fail
  clear l0 l1
  refine (markCx U _ _ _ ys 1 _ (B0.out.own (.head _)) hRl (by omega) (by omega)).mono ?_
  rintro e m8 ⟨rfl, hown, hg⟩
  have zm8 := hg.size
  (try simp only [World.size_alloc] at zm8)
  have B0 := hid (B0.out.mark (ys := count 1 ys.length) (L' := [⟨u9.heap.size + 1, v9.heap.size, 2, 1, ys.length, .slice ag ys.length cg, count 1 ys.length⟩, ⟨w.heap.size, u9.heap.size, 2, 1, ys.length, .slice aw ys.length cw, ys⟩]) (.head _) hown hg (by simp only; omega) (by simp <;> omega) (by simp <;> omega))
  clear hown hg
  obtain ⟨l0, l1⟩ := B0.out.two (.head _)
  go_wp2_with fail
  clear l0 l1
  refine (heldCx U _ _ ys.length _ 1 _ rfl (B0.out.slI (.head _)) hRl (by omega) (by omega)).mono ?_
  rintro e t1 ⟨rfl, hB⟩
  have zt1 := hB.size
  (try simp only [World.size_alloc] at zt1)
  have B0 := hid (B0.out.below hB)
  clear hB
  have hnn : ((1 : Int) + ys.length != 1 + ys.length) = false := by simp
  go_wp2_with fail
  refine (HI.out _ ((B0.out.from0.cell (p := ⟨1, 0, none⟩) hmlt).trans Hm.out)).mono ?_
  rintro e t2 ⟨vh, rfl, hres⟩
  have zt2 := hres.2.size
  (try simp only [World.size_alloc] at zt2)
  obtain ⟨_, ah, ch, rfl, _⟩ := ownsRow_slI hres.1
  have B0 := hid (B0.out.row hres.1 hres.2)
  clear hres
  (try simp only [World.size_alloc] at B0)
  have B0 := hid (B0.out.alloc (.cells #[.int .i64 U, .slice ah ys.length ch] 24))
  obtain ⟨l0, l1⟩ := B0.out.two (.head _)
  obtain ⟨n0, n1⟩ := B0.out.two (.tail _ (.tail _ (.head _)))
  go_wp2_with fail
  clear l0 l1 n0 n1
  refine (eqCx_yes U _ _ _ _ ys ys _ (B0.out.slI (.head _)) (B0.out.slI (.tail _ (.tail _ (.head _)))) hRl hRl rfl).mono ?_
  rintro e t3 ⟨rfl, hB⟩
  have zt3 := hB.size
  (try simp only [World.size_alloc] at zt3)
  have B0 := hid (B0.out.below hB)
  clear hB
  obtain ⟨l0, l1⟩ := B0.out.two (.tail _ (.head _))
  go_wp2_with fail
  clear l0 l1
  refine (heldCx U _ _ ys.length _ 1 _ rfl (B0.out.slI (.tail _ (.head _))) hRl (by omega) (by omega)).mono ?_
  rintro e t4 ⟨rfl, hB⟩
  have zt4 := hB.size
  (try simp only [World.size_alloc] at zt4)
  have B0 := hid (B0.out.below hB)
  clear hB
  go_wp2_with fail
  go_ret
  exact ⟨rfl, B0.out.from0⟩

end Go.Proofs.YtbgkalkipalndaaDoor
