import Derived.Test.YtojnpacklcajpaaColI
import Derived.Test.YtojnpacklcajpaaFirstS
import Derived.Test.YtojnpacklcajpaaCopy
/-! The model's l05Collapse. -/
namespace Go.Proofs.Ytojnpacklcajpaa
open Go.RowKit

set_option maxRecDepth 100000 in
set_option maxHeartbeats 8000000 in
theorem colS_any (V : Int) (a0 : Option Addr) (cap : Nat) (fs : List Int) (V1 : Int) (a1 : Option Addr) (cap1 : Nat) (ls : List Int) (w : World) (hx : SlI w w.heap.size a0 fs) (hx1 : SlI w w.heap.size a1 ls) (hl : fs.length ≤ 1048576) (hl1 : ls.length ≤ 1048576) (hf : ∀ x ∈ fs, 1 ≤ x ∧ x ≤ 63) (hL : ∀ cur : List Int, cur.Sublist fs → LowIn cur ls) :
    Calls Try.prog 63 #[.agg #[.int .i64 V, .slice a0 fs.length cap], .agg #[.int .i64 V1, .slice a1 ls.length cap1]] w fun e w' => ∃ v q, e = .returned (.tuple #[.agg #[.int .i64 V, v], q]) ∧ Res w w' v (colE ls fs).1 ∧ ResP w w' q (colE ls fs).2 ∧ Apart v q := by
  have hB0 : Below w.heap.size w ((((w.alloc (.cells #[.int .i64 V, .slice a0 fs.length cap] 29)).alloc (.cells #[.int .i64 V1, .slice a1 ls.length cap1] 29)).alloc (.cells #[.int .i64 0, .slice none 0 0] 29)).alloc (.cells #[] 63)) := ((((Below.refl _ w).alloc (Nat.le_refl _) _).alloc (by simp) _).alloc (by simp <;> omega) _).alloc (by simp <;> omega) _
  obtain ⟨W, hW⟩ : ∃ W, W = (((w.alloc (.cells #[.int .i64 V, .slice a0 fs.length cap] 29)).alloc (.cells #[.int .i64 V1, .slice a1 ls.length cap1] 29)).alloc (.cells #[.int .i64 0, .slice none 0 0] 29)).alloc (.cells #[] 63) := ⟨_, rfl⟩
  have Q0 := hid (show W.heap[w.heap.size]? = some (.cells #[.int .i64 V, .slice a0 fs.length cap] 29 (0, 0)) by rw [hW, Below.heap_alloc _ _ _ (by simp <;> omega), Below.heap_alloc _ _ _ (by simp <;> omega), Below.heap_alloc _ _ _ (by simp)]; exact heap_alloc_new _ _)
  have Q1 := hid (show W.heap[w.heap.size + 1]? = some (.cells #[.int .i64 V1, .slice a1 ls.length cap1] 29 (0, 0)) by rw [hW, Below.heap_alloc _ _ _ (by simp <;> omega), Below.heap_alloc _ _ _ (by simp)]; exact new2 _ _ _)
  have R1 := hid (show W.heap[w.heap.size + 1 + 1]? = some (.cells #[.int .i64 0, .slice none 0 0] 29 (0, 0)) by rw [hW, Below.heap_alloc _ _ _ (by simp)]; exact new3 _ _ _ _)
  have hown0 := World.ownsRow_made (base := w.heap.size) (e := 63) (size := 2) (((w.alloc (.cells #[.int .i64 V, .slice a0 fs.length cap] 29)).alloc (.cells #[.int .i64 V1, .slice a1 ls.length cap1] 29)).alloc (.cells #[.int .i64 0, .slice none 0 0] 29)) #[] 0 (by simp <;> omega) (by simp [maxLen]) rfl
  rw [← hW] at hown0
  simp only [World.size_alloc] at hown0
  have Hown0 := hid hown0
  have HBW : Hid (Below w.heap.size w W) := hid (by rw [hW]; exact hB0)
  have HW := hid hW
  have Hx0 := hid hx
  have Hx1 := hid hx1
  have Hf := hid hf
  have HL := hid hL
  have HCP := hid (copy_any V a0 cap fs W (Hx0.out.later HBW.out HBW.out.size) hl)
  obtain ⟨k0, k1, z0, z1⟩ := two_of Q0.out
  clear hf hx hx1 hB0 hW hL hown0
  go_enter Try.func63, Try.ntmps63
  go_wp2_with fail
  rw [← HW.out]
  refine HCP.out.mono ?_
  rintro e w2 ⟨v2, rfl, hr2⟩
  obtain ⟨_, av2, cv2, rfl, _⟩ := ownsRow_slI hr2.1
  have Q02 := hid ((hr2.2.block _ (lt_get Q0.out)).trans Q0.out)
  obtain ⟨j0, j1, y0, y1⟩ := two_of Q02.out
  have H0 : Hid (ColW w ((w2.setCell ⟨w.heap.size, 0, none⟩ (.int .i64 V)).setCell ⟨w.heap.size, 1, none⟩ (.slice av2 fs.length cv2)) V1 (.slice a1 ls.length cap1) w.heap.size V fs av2 cv2 [] (.slice (some ⟨w.heap.size + 1 + 1 + 1, 0, none⟩) 0 0)) := hid (by
    have hB := HBW.out.trans (hr2.2.mono HBW.out.size)
    have e : ∀ k, k ≠ w.heap.size → ((w2.setCell ⟨w.heap.size, 0, none⟩ (.int .i64 V)).setCell ⟨w.heap.size, 1, none⟩ (.slice av2 fs.length cv2)).heap[k]? = w2.heap[k]? := fun k hk => (Below.heap_setCell _ _ _ _ hk).trans (Below.heap_setCell _ _ _ _ hk)
    have hp := ownsRow_below Hown0.out hr2.2 (fun g hg => (Hown0.out.lt g hg).2)
    have hx := row_ne_any hr2.1 Q02.out (by decide)
    have hy := row_ne_any hp Q02.out (by decide)
    refine ⟨(e _ (by omega)).trans ((hr2.2.block _ (lt_get Q1.out)).trans Q1.out), (e _ (by omega)).trans ((hr2.2.block _ (lt_get R1.out)).trans R1.out), two_set Q02.out _ _, ?_, ?_, ?_, by omega, by omega, by omega⟩
    · exact ownsRow_set (ownsRow_set (ownsRow_base hr2.1 HBW.out.size) (fun e => hx e.symm) _) (fun e => hx e.symm) _
    · exact ownsRow_set (ownsRow_set (by simpa [flatP] using hp) (fun e => hy e.symm) _) (fun e => hy e.symm) _
    · exact (hB.setCell (p := ⟨w.heap.size, 0, none⟩) (Nat.le_refl _) _).setCell (p := ⟨w.heap.size, 1, none⟩) (Nat.le_refl _) _)
  clear hr2 k0 k1 z0 z1 Q0 Q1 R1 HCP Hown0 Q02
  go_wp2_with fail
  clear j0 j1 y0 y1
  go_loopg [6] fs.length (fun g p wr => ∃ (n : Nat) (cur : List Int) (P : List (Int × Int)) (av : Option Addr) (cv : Nat), Hid (cur.length ≤ g) ∧ Hid (ColAt ls fs n cur P) ∧ Hid (ColW w wr V1 (.slice a1 ls.length cap1) w.heap.size V cur av cv P p))
  case atStart => exact ⟨0, fs, [], av2, cv2, hid (Nat.le_refl _), hid (ColAt.start ls fs), H0⟩
  case round =>
    clear H0
    obtain ⟨n, cur, P, av, cv, Hg, HA, HC⟩ := hrel
    obtain ⟨k0, k1, _, _⟩ := two_of HC.out.left
    obtain ⟨l0, l1, _, _⟩ := two_of HC.out.lbox
    have hcl : cur.length ≤ 1048576 := Nat.le_trans HA.out.sub.length_le hl
    have Hcf := hid (fun x hx => Hf.out x (HA.out.sub.subset hx))
    have HFI := hid (firstS_any V av cv cur V1 a1 cap1 ls wr (owned_slI HC.out.row) (Hx1.out.later HC.out.below HC.out.below.size) hcl hl1 Hcf.out (HL.out cur HA.out.sub))
    cases hfp : firstP cur ls with
    | none =>
      rw [hfp] at HFI
      simp only [prO, Option.getD_none, Option.isSome_none] at HFI
      have HE := hid (HA.out.stop hfp)
      clear hfp
      go_wp2_with fail
      refine HFI.out.mono ?_
      rintro e w3 ⟨rfl, hB3⟩
      have HC3 := hid (HC.out.keep (hB3.alloc hB3.size (.cells #[.int .i64 0, .int .i64 0] 63)))
      obtain ⟨c0, c1, f0, f1⟩ := two_of HC3.out.res
      obtain ⟨j0, j1, _, _⟩ := two_of HC3.out.left
      clear k0 k1 l0 l1 hB3
      go_wp2_with fail
      (try simp only [Exit.inBlock, Exit.then])
      have R3 := two_of (two_set HC3.out.res (.int .i64 V) (.slice av cur.length cv))
      refine done_cx (p := 4) (u := 5) (by kernel_rfl) rfl rfl R3.1 R3.2.1 rfl ?_
      have hx := row_ne_any HC3.out.row HC3.out.res (by decide)
      have hy := row_ne_any HC3.out.prs HC3.out.res (by decide)
      have hBf := (HC3.out.below.setCell (p := ⟨w.heap.size + 1 + 1, 0, none⟩) (by show w.heap.size ≤ w.heap.size + 1 + 1; omega) (.int .i64 V)).setCell (p := ⟨w.heap.size + 1 + 1, 1, none⟩) (by show w.heap.size ≤ w.heap.size + 1 + 1; omega) (.slice av cur.length cv)
      have hr3 := ownsRow_set (ownsRow_set HC3.out.row (a := ⟨w.heap.size + 1 + 1, 0, none⟩) (fun e => hx e.symm) (.int .i64 V)) (a := ⟨w.heap.size + 1 + 1, 1, none⟩) (fun e => hx e.symm) (.slice av cur.length cv)
      have hp3 := ownsRow_set (ownsRow_set HC3.out.prs (a := ⟨w.heap.size + 1 + 1, 0, none⟩) (fun e => hy e.symm) (.int .i64 V)) (a := ⟨w.heap.size + 1 + 1, 1, none⟩) (fun e => hy e.symm) (.slice av cur.length cv)
      rw [HE.out]
      exact ⟨_, _, rfl, ⟨hr3, hBf⟩, ⟨hp3, hBf⟩, apart_ty hr3 hp3 (by decide)⟩
    | some p =>
      rw [hfp] at HFI
      obtain ⟨x, y⟩ := p
      simp only [prO, Option.getD_some, Option.isSome_some] at HFI
      have hfs := firstP_some hfp
      have hxr := Hcf.out x hfs.1
      have HA2 := hid (HA.out.step hfp)
      have Hlt := hid (take_lt hfs.1)
      have hPl : P.length ≤ 1048576 := by have := HA.out.plen; have := HA.out.len; omega
      simp only at HA2 Hlt
      obtain ⟨xn, rfl⟩ : ∃ xn : Nat, x = xn := ⟨x.toNat, by omega⟩
      have hx64 : xn < 64 := by omega
      obtain ⟨ys, hys⟩ : ∃ ys, ys = takeL cur (xn : Int) := ⟨_, rfl⟩
      rw [← hys] at HA2 Hlt
      have Hys := hid hys
      clear hfp hfs hys
      go_wp2_with fail
      refine HFI.out.mono ?_
      rintro e w3 ⟨rfl, hB3⟩
      obtain ⟨w4, hw4⟩ : ∃ w4, w4 = w3.alloc (.cells #[.int .i64 (xn : Int), .int .i64 y] 63) := ⟨_, rfl⟩
      have HC4 := hid (show ColW w w4 V1 (.slice a1 ls.length cap1) w.heap.size V cur av cv P _ by rw [hw4]; exact HC.out.keep (hB3.alloc hB3.size (.cells #[.int .i64 (xn : Int), .int .i64 y] 63)))
      have P4 := hid (show w4.heap[w3.heap.size]? = some (.cells #[.int .i64 (xn : Int), .int .i64 y] 63 (0, 0)) by rw [hw4]; exact heap_alloc_new _ _)
      have HW4 := hid hw4
      obtain ⟨j0, j1, _, _⟩ := two_of HC4.out.left
      obtain ⟨p0, p1, _, _⟩ := two_of P4.out
      have hs3 := hB3.size
      rw [HW4.out] at j0 j1 p0 p1
      clear k0 k1 l0 l1 hB3 hw4
      go_wp2_with fail
      rw [← HW4.out]
      refine (take_any V av cv cur xn w4 (owned_slI HC4.out.row) hcl Hcf.out hx64).mono ?_
      rintro e w5 ⟨v, rfl, hr⟩
      rw [← Hys.out] at hr
      obtain ⟨_, a5, c5, rfl, _⟩ := ownsRow_slI hr.1
      have HC5 := hid (HC4.out.keep hr.2)
      obtain ⟨i0, i1, g0, g1⟩ := two_of HC5.out.left
      have P5 := hid ((hr.2.block _ (lt_get P4.out)).trans P4.out)
      obtain ⟨w6, hw6⟩ : ∃ w6, w6 = (w5.setCell ⟨w.heap.size, 0, none⟩ (.int .i64 V)).setCell ⟨w.heap.size, 1, none⟩ (.slice a5 ys.length c5) := ⟨_, rfl⟩
      have HC6 := hid (HC5.out.put (ownsRow_base hr.1 HC4.out.below.size))
      have hne : w3.heap.size ≠ w.heap.size := by
        intro e
        have h1 := P5.out
        rw [e, HC5.out.left] at h1
        simp at h1
      have P6 := hid (show w6.heap[w3.heap.size]? = some (.cells #[.int .i64 (xn : Int), .int .i64 y] 63 (0, 0)) by rw [hw6]; exact (Below.heap_setCell _ _ _ _ hne).trans ((Below.heap_setCell _ _ _ _ hne).trans P5.out))
      rw [← hw6] at HC6
      obtain ⟨b0, b1, _, _⟩ := two_of P6.out
      rw [hw6] at b0 b1
      have hown6 := HC6.out.prs
      rw [hw6] at hown6
      have hs6 := HC6.out.below.size
      rw [hw6] at hs6
      have hsz6 : ((w5.setCell ⟨w.heap.size, 0, none⟩ (.int .i64 V)).setCell ⟨w.heap.size, 1, none⟩ (.slice a5 ys.length c5)).heap.size = w5.heap.size := by simp [World.setCell]
      clear j0 j1 p0 p1 hr HC5 P5
      go_wp2_with (at_builtin; refine append_pair rfl rfl hown6 hs6 (by omega) rfl (by rw [hsz6]; rfl) ?_; intro v' w7 hown7 hgrow7 hB7)
      go_roundg ys.length
      case measure => have h1 := Hg.out; have h2 := Hlt.out; omega
      case rel => exact ⟨n + 1, ys, P ++ [((xn : Int), y)], a5, c5, hid (Nat.le_refl _), HA2, hid (HC6.out.push (by rw [hw6]; exact hgrow7) hown7)⟩

end Go.Proofs.Ytojnpacklcajpaa
