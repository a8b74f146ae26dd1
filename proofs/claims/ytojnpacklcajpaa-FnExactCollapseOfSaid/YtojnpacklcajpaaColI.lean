import Derived.Test.YtojnpacklcajpaaFirst
import Derived.Test.YtojnpacklcajpaaColPair
import Derived.Test.YtojnpacklcajpaaWo
import Derived.Test.YtojnpacklcajpaaBookP
/-! The program's collapse. -/
namespace Go.Proofs.Ytojnpacklcajpaa
open Go.RowKit

theorem row_ne_any {W : World} {base e t s : Nat} {v : Value} {n : Nat} {xs : List Value} {b : Nat} {cs : Array Value} {fz : Nat × Nat} (h : W.ownsRow base e s v n xs) (hb : W.heap[b]? = some (.cells cs t fz)) (hne : e ≠ t) : some b ≠ v.ownBlock := by
  intro he
  rcases h.2 with ⟨rfl, _⟩ | ⟨g, cap, cur, rfl, _, hg, _⟩
  · simp [Value.ownBlock] at he
  · simp [Value.ownBlock] at he
    subst he
    rw [hb] at hg
    simp at hg
    exact hne hg.2.1.symm

/-- The world of a collapse that is under way. -/
structure ColW (w W : World) (V1 : Int) (s1 : Value) (NL : Nat) (V : Int) (cur : List Int) (av : Option Addr) (cv : Nat) (P : List (Int × Int)) (q : Value) : Prop where
  lbox : W.heap[w.heap.size + 1]? = some (.cells #[.int .i64 V1, s1] 29 (0, 0))
  res : W.heap[w.heap.size + 1 + 1]? = some (.cells #[.int .i64 0, .slice none 0 0] 29 (0, 0))
  left : W.heap[NL]? = some (.cells #[.int .i64 V, .slice av cur.length cv] 29 (0, 0))
  row : W.ownsRow w.heap.size 2 1 (.slice av cur.length cv) cur.length (cur.map (Value.int .i64))
  prs : W.ownsRow w.heap.size 63 2 q P.length ((flatP P).map (Value.int .i64))
  below : Below w.heap.size w W
  nl : w.heap.size ≤ NL ∧ NL ≠ w.heap.size + 1 ∧ NL ≠ w.heap.size + 1 + 1

section
variable {w W W' : World} {V1 : Int} {s1 : Value} {NL : Nat} {V : Int} {cur : List Int} {av : Option Addr} {cv : Nat} {P : List (Int × Int)} {q : Value}

theorem ColW.keep (h : ColW w W V1 s1 NL V cur av cv P q) (hB : Below W.heap.size W W') : ColW w W' V1 s1 NL V cur av cv P q where
  lbox := (hB.block _ (lt_get h.lbox)).trans h.lbox
  res := (hB.block _ (lt_get h.res)).trans h.res
  left := (hB.block _ (lt_get h.left)).trans h.left
  row := ownsRow_below h.row hB (fun g hg => (h.row.lt g hg).2)
  prs := ownsRow_below h.prs hB (fun g hg => (h.prs.lt g hg).2)
  below := h.below.trans (hB.mono h.below.size)
  nl := h.nl

theorem ColW.push (h : ColW w W V1 s1 NL V cur av cv P q) (hg : W.grownBy W' q.ownBlock) {P' : List (Int × Int)} {q' : Value} (hown : W'.ownsRow w.heap.size 63 2 q' P'.length ((flatP P').map (Value.int .i64))) : ColW w W' V1 s1 NL V cur av cv P' q' where
  lbox := (hg.block _ (lt_get h.lbox) (row_ne_any h.prs h.lbox (by decide))).trans h.lbox
  res := (hg.block _ (lt_get h.res) (row_ne_any h.prs h.res (by decide))).trans h.res
  left := (hg.block _ (lt_get h.left) (row_ne_any h.prs h.left (by decide))).trans h.left
  row := h.row.kept hg (by
    cases hv : (Value.slice av cur.length cv).ownBlock with
    | none => exact .inl rfl
    | some g => exact .inr (fun e => apart_ty h.row h.prs (by decide) g hv e.symm))
  prs := hown
  below := h.below.grown hg h.below.size (fun k e => (h.prs.lt k e).1)
  nl := h.nl

theorem ColW.put (h : ColW w W V1 s1 NL V cur av cv P q) {ys : List Int} {a2 : Option Addr} {c2 : Nat} (hr : W.ownsRow w.heap.size 2 1 (.slice a2 ys.length c2) ys.length (ys.map (Value.int .i64))) :
    ColW w ((W.setCell ⟨NL, 0, none⟩ (.int .i64 V)).setCell ⟨NL, 1, none⟩ (.slice a2 ys.length c2)) V1 s1 NL V ys a2 c2 P q := by
  have hn := h.nl
  obtain ⟨n1, n2, n3⟩ := h.nl
  have e : ∀ k, k ≠ NL → ((W.setCell ⟨NL, 0, none⟩ (.int .i64 V)).setCell ⟨NL, 1, none⟩ (.slice a2 ys.length c2)).heap[k]? = W.heap[k]? := fun k hk => (Below.heap_setCell _ _ _ _ hk).trans (Below.heap_setCell _ _ _ _ hk)
  refine ⟨(e _ (by omega)).trans h.lbox, (e _ (by omega)).trans h.res, two_set h.left _ _, ?_, ?_, ?_, hn⟩
  · have hx := row_ne_any hr h.left (by decide)
    exact ownsRow_set (ownsRow_set hr (fun e => hx e.symm) _) (fun e => hx e.symm) _
  · have hx := row_ne_any h.prs h.left (by decide)
    exact ownsRow_set (ownsRow_set h.prs (fun e => hx e.symm) _) (fun e => hx e.symm) _
  · exact (h.below.setCell (p := ⟨NL, 0, none⟩) (by show w.heap.size ≤ NL; omega) _).setCell (p := ⟨NL, 1, none⟩) (by show w.heap.size ≤ NL; omega) _
end

set_option maxRecDepth 100000 in
set_option maxHeartbeats 8000000 in
theorem colI_any (V : Int) (a0 : Option Addr) (cap : Nat) (fs : List Int) (V1 : Int) (a1 : Option Addr) (cap1 : Nat) (ls : List Int) (w : World) (hx : SlI w w.heap.size a0 fs) (hx1 : SlI w w.heap.size a1 ls) (hl : fs.length ≤ 1048576) (hl1 : ls.length ≤ 1048576) (hf : ∀ x ∈ fs, 1 ≤ x ∧ x ≤ 63) :
    Calls Try.prog 66 #[.agg #[.int .i64 V, .slice a0 fs.length cap], .agg #[.int .i64 V1, .slice a1 ls.length cap1]] w fun e w' => ∃ v q, e = .returned (.tuple #[.agg #[.int .i64 V, v], q]) ∧ Res w w' v (colE ls fs).1 ∧ ResP w w' q (colE ls fs).2 ∧ Apart v q := by
  have hB0 : Below w.heap.size w (((w.alloc (.cells #[.int .i64 V, .slice a0 fs.length cap] 29)).alloc (.cells #[.int .i64 V1, .slice a1 ls.length cap1] 29)).alloc (.cells #[.int .i64 0, .slice none 0 0] 29)) := (((Below.refl _ w).alloc (Nat.le_refl _) _).alloc (by simp) _).alloc (by simp <;> omega) _
  obtain ⟨W, hW⟩ : ∃ W, W = ((w.alloc (.cells #[.int .i64 V, .slice a0 fs.length cap] 29)).alloc (.cells #[.int .i64 V1, .slice a1 ls.length cap1] 29)).alloc (.cells #[.int .i64 0, .slice none 0 0] 29) := ⟨_, rfl⟩
  have k0 : W.cell? ⟨w.heap.size, 0, none⟩ = some (.int .i64 V) := by rw [hW]; simp [go_sem]
  have k1 : W.cell? ⟨w.heap.size, 1, none⟩ = some (.slice a0 fs.length cap) := by rw [hW]; simp [go_sem]
  have Q1 := hid (show W.heap[w.heap.size + 1]? = some (.cells #[.int .i64 V1, .slice a1 ls.length cap1] 29 (0, 0)) by rw [hW, Below.heap_alloc _ _ _ (by simp)]; exact new2 _ _ _)
  have R1 := hid (show W.heap[w.heap.size + 1 + 1]? = some (.cells #[.int .i64 0, .slice none 0 0] 29 (0, 0)) by rw [hW]; exact new3 _ _ _ _)
  have HBW : Hid (Below w.heap.size w W) := hid (by rw [hW]; exact hB0)
  have HW := hid hW
  have Hx0 := hid hx
  have Hx1 := hid hx1
  have Hf := hid hf
  have hfilt : (fs.filter fun x => decide (x ∉ ([] : List Int))) = fs := by simp
  have hwo := wo_any V a0 cap fs none 0 [] W (Hx0.out.later HBW.out HBW.out.size) (.inl rfl) hl (by simp)
  rw [hfilt] at hwo
  have HWO := hid hwo
  clear hf hx hx1 hB0 hW hwo hfilt
  go_enter Try.func66, Try.ntmps66
  go_wp2_with fail
  rw [← HW.out]
  refine HWO.out.mono ?_
  rintro e w2 ⟨v2, rfl, hr2⟩
  obtain ⟨_, av2, cv2, rfl, _⟩ := ownsRow_slI hr2.1
  obtain ⟨NL, hNL⟩ : ∃ NL, NL = w2.heap.size := ⟨_, rfl⟩
  have H0 : Hid (ColW w (w2.alloc (.cells #[.int .i64 V, .slice av2 fs.length cv2] 29)) V1 (.slice a1 ls.length cap1) NL V fs av2 cv2 [] (.slice none 0 0)) := hid (by
    have hB := HBW.out.trans (hr2.2.mono HBW.out.size)
    have hs := lt_get R1.out
    have hs2 := hr2.2.size
    have al := fun k (hk : k < w2.heap.size) => Below.heap_alloc w2 (.cells #[.int .i64 V, .slice av2 fs.length cv2] 29) k hk
    refine ⟨(al _ (by omega)).trans ((hr2.2.block _ (lt_get Q1.out)).trans Q1.out), (al _ (by omega)).trans ((hr2.2.block _ hs).trans R1.out), by rw [hNL]; exact heap_alloc_new _ _, ?_, World.ownsRow_nil _ _ _ _, hB.alloc hB.size _, by omega, by omega, by omega⟩
    exact (ownsRow_base hr2.1 HBW.out.size).alloc _)
  clear hr2 k0 k1 Q1 R1 HWO
  go_wp2_with fail
  rw [← hNL]
  clear hNL
  go_loopg [7] fs.length (fun g p wr => ∃ (n : Nat) (cur : List Int) (P : List (Int × Int)) (av : Option Addr) (cv : Nat), Hid (cur.length ≤ g) ∧ Hid (ColAt ls fs n cur P) ∧ Hid (ColW w wr V1 (.slice a1 ls.length cap1) NL V cur av cv P p))
  case atStart => exact ⟨0, fs, [], av2, cv2, hid (Nat.le_refl _), hid (ColAt.start ls fs), H0⟩
  case round =>
    clear H0
    obtain ⟨n, cur, P, av, cv, Hg, HA, HC⟩ := hrel
    obtain ⟨k0, k1, _, _⟩ := two_of HC.out.left
    obtain ⟨l0, l1, _, _⟩ := two_of HC.out.lbox
    have hcl : cur.length ≤ 1048576 := Nat.le_trans HA.out.sub.length_le hl
    have Hcf := hid (fun x hx => Hf.out x (HA.out.sub.subset hx))
    have HFI := hid (first_any V av cv cur V1 a1 cap1 ls wr (owned_slI HC.out.row) (Hx1.out.later HC.out.below HC.out.below.size) hcl hl1 Hcf.out)
    have Heq := eq_pairF
    cases hfp : firstP cur ls with
    | none =>
      rw [hfp] at HFI
      simp only [prO, Option.getD_none] at HFI
      have HE := hid (HA.out.stop hfp)
      clear hfp
      go_wp2_with fail
      refine HFI.out.mono ?_
      rintro e w3 ⟨rfl, hB3⟩
      have HC3 := hid (HC.out.keep (hB3.alloc hB3.size (.cells #[.int .i64 0, .int .i64 0] 63)))
      obtain ⟨c0, c1, f0, f1⟩ := two_of HC3.out.res
      obtain ⟨j0, j1, _, _⟩ := two_of HC3.out.left
      clear k0 k1 l0 l1 hB3
      go_wp2_with fail
      (try simp only [Exit.inBlock, Exit.then])
      have R3 := two_of (two_set HC3.out.res (.int .i64 V) (.slice av cur.length cv))
      refine done_cx (p := 4) (u := 5) (by kernel_rfl) rfl rfl R3.1 R3.2.1 rfl ?_
      have hx := row_ne_any HC3.out.row HC3.out.res (by decide)
      have hy := row_ne_any HC3.out.prs HC3.out.res (by decide)
      have hBf := (HC3.out.below.setCell (p := ⟨w.heap.size + 1 + 1, 0, none⟩) (by show w.heap.size ≤ w.heap.size + 1 + 1; omega) (.int .i64 V)).setCell (p := ⟨w.heap.size + 1 + 1, 1, none⟩) (by show w.heap.size ≤ w.heap.size + 1 + 1; omega) (.slice av cur.length cv)
      have hr3 := ownsRow_set (ownsRow_set HC3.out.row (a := ⟨w.heap.size + 1 + 1, 0, none⟩) (fun e => hx e.symm) (.int .i64 V)) (a := ⟨w.heap.size + 1 + 1, 1, none⟩) (fun e => hx e.symm) (.slice av cur.length cv)
      have hp3 := ownsRow_set (ownsRow_set HC3.out.prs (a := ⟨w.heap.size + 1 + 1, 0, none⟩) (fun e => hy e.symm) (.int .i64 V)) (a := ⟨w.heap.size + 1 + 1, 1, none⟩) (fun e => hy e.symm) (.slice av cur.length cv)
      rw [HE.out]
      exact ⟨_, _, rfl, ⟨hr3, hBf⟩, ⟨hp3, hBf⟩, apart_ty hr3 hp3 (by decide)⟩
    | some p =>
      rw [hfp] at HFI
      obtain ⟨x, y⟩ := p
      simp only [prO, Option.getD_some] at HFI
      have hfs := firstP_some hfp
      have hxr := Hcf.out x hfs.1
      have HT := hid (take_free (p := (x, y)) Hcf.out hfs.1 hfs.2.1 hfs.2.2.1)
      have HA2 := hid (HA.out.step hfp)
      have Hlt := hid (take_lt hfs.1)
      have hx0 : (x == 0) = false := by simp; omega
      have hPl : P.length ≤ 1048576 := by have := HA.out.plen; have := HA.out.len; omega
      simp only at HT HA2 Hlt
      obtain ⟨ys, hys⟩ : ∃ ys, ys = takeL cur x := ⟨_, rfl⟩
      rw [← hys] at HT HA2 Hlt
      clear hfp hfs hys
      go_wp2_with fail
      refine HFI.out.mono ?_
      rintro e w3 ⟨rfl, hB3⟩
      obtain ⟨w4, hw4⟩ : ∃ w4, w4 = w3.alloc (.cells #[.int .i64 x, .int .i64 y] 63) := ⟨_, rfl⟩
      have HC4 := hid (show ColW w w4 V1 (.slice a1 ls.length cap1) NL V cur av cv P _ by rw [hw4]; exact HC.out.keep (hB3.alloc hB3.size (.cells #[.int .i64 x, .int .i64 y] 63)))
      have P4 := hid (show w4.heap[w3.heap.size]? = some (.cells #[.int .i64 x, .int .i64 y] 63 (0, 0)) by rw [hw4]; exact heap_alloc_new _ _)
      have HW4 := hid hw4
      obtain ⟨j0, j1, _, _⟩ := two_of HC4.out.left
      obtain ⟨p0, p1, _, _⟩ := two_of P4.out
      have hs3 := hB3.size
      clear k0 k1 l0 l1 hB3 hw4
      go_wp2_with fail
      rw [← HW4.out]
      have HpW := hid (pair_slI P4.out)
      have HrW := hid (owned_slI HC4.out.row)
      go_region_with (go_at_call 62; refine (wo_any V av cv cur _ 2 [x, y] w4.drew HrW.out HpW.out hcl (by simp)).mono ?_; rintro e w5 ⟨v, rfl, hr⟩; rw [← HT.out] at hr; obtain ⟨_, a5, c5, rfl, _⟩ := ownsRow_slI hr.1; have hrb : Below w4.heap.size w4 w5 := ⟨hr.2.os, hr.2.tape, hr.2.output, hr.2.size, hr.2.block⟩; have HC5 := hid (HC4.out.keep hrb); obtain ⟨i0, i1, g0, g1⟩ := two_of HC5.out.left; have hr5 := hid hr.1; have P5 := hid ((hrb.block _ (lt_get P4.out)).trans P4.out); clear hr hrb)
      all_goals
        obtain ⟨w6, hw6⟩ : ∃ w6, w6 = (w5.setCell ⟨NL, 0, none⟩ (.int .i64 V)).setCell ⟨NL, 1, none⟩ (.slice a5 ys.length c5) := ⟨_, rfl⟩
        have HC6 := hid (HC5.out.put (ownsRow_base hr5.out HC4.out.below.size))
        have hne : w3.heap.size ≠ NL := by
          intro e
          have h1 := P5.out
          rw [e, HC5.out.left] at h1
          simp at h1
        have P6 := hid (show w6.heap[w3.heap.size]? = some (.cells #[.int .i64 x, .int .i64 y] 63 (0, 0)) by rw [hw6]; exact (Below.heap_setCell _ _ _ _ hne).trans ((Below.heap_setCell _ _ _ _ hne).trans P5.out))
        rw [← hw6] at HC6
        rw [← hw6]
        obtain ⟨b0, b1, _, _⟩ := two_of P6.out
        have hown6 := HC6.out.prs
        have hs6 := HC6.out.below.size
        clear i0 i1 g0 g1 j0 j1 p0 p1 hw6 HC5 P5 hr5
        go_wp2_with (at_builtin; refine append_pair rfl rfl hown6 hs6 (by omega) rfl rfl ?_; intro v' w7 hown7 hgrow7 hB7)
        go_roundg ys.length
        case measure => have h1 := Hg.out; have h2 := Hlt.out; omega
        case rel => exact ⟨n + 1, ys, P ++ [(x, y)], a5, c5, hid (Nat.le_refl _), HA2, hid (HC6.out.push hgrow7 hown7)⟩

end Go.Proofs.Ytojnpacklcajpaa
