import Derived.Maps.OwnSet
import Derived.Deep.RegionHeld3
import Derived.Laws.StructEq
import Derived.Laws.Cover2
import Derived.Test.YtbgkalkipalndaaMM1
import Derived.Test.YtbgkalkipalndaaMM2
import Derived.Test.YtbgkalkipalndaaMM3
/-! The critical faces, the program's. -/
namespace Go.Proofs.Ytbgkalkipalndaa
open Go.RowKit

noncomputable def pcodeR (V : Int) (fs : List Int) (n : Nat) (ps : List Int) : Int := if isCB V fs then (if pairingB fs ps n then 0 else 2) else 1
def critL (fs ps : List Int) : List Int := fs.filter fun x => !decide (x ∈ ps)
noncomputable def criticalFacesR (V : Int) (fs : List Int) (n : Nat) (ps : List Int) : List Int × Int := if pcodeR V fs n ps = 0 then (critL fs ps, 0) else ([], pcodeR V fs n ps)

theorem pcode_cases (V : Int) (fs : List Int) (n : Nat) (ps : List Int) :
    (IsC V fs ∧ OkTo fs ps n ∧ pcodeR V fs n ps = 0 ∧ isPairingR V fs n ps = (true, 0) ∧ pairingB fs ps n = true) ∨ (IsC V fs ∧ ¬ OkTo fs ps n ∧ pcodeR V fs n ps = 2 ∧ isPairingR V fs n ps = (false, 0) ∧ pairingB fs ps n = false) ∨ (¬ IsC V fs ∧ pcodeR V fs n ps = 1 ∧ isPairingR V fs n ps = (false, 1)) := by
  unfold pcodeR isPairingR
  by_cases hC : IsC V fs
  · rw [isCB_true hC]
    by_cases ho : OkTo fs ps n
    · rw [pairingB_true ho]; exact .inl ⟨hC, ho, by simp, by simp, rfl⟩
    · rw [pairingB_false ho]; exact .inr (.inl ⟨hC, ho, by simp, by simp, rfl⟩)
  · rw [isCB_false hC]; exact .inr (.inr ⟨hC, by simp, by simp⟩)

set_option maxRecDepth 100000 in
set_option maxHeartbeats 1000000 in
theorem pcode_impl (V : Int) (a0 : Option Addr) (cap : Nat) (fs : List Int) (a1 : Option Addr) (n cap1 : Nat) (ps : List Int) (w : World) (hx : SlI w w.heap.size a0 fs) (hx1 : SlI w w.heap.size a1 ps) (hl : fs.length ≤ 1048576) (hp : ps.length = 2 * n) (hn : n ≤ 1048576) (hw : ∀ x ∈ ps, (Lit.int .i64 x).wf = true) :
    Calls Try.prog 103 #[.agg #[.int .i64 V, .slice a0 fs.length cap], .slice a1 n cap1] w fun e w' => e = .returned (.int .i64 (pcodeR V fs n ps)) ∧ Below w.heap.size w w' := by
  have hB0 : Below w.heap.size w (w.alloc (.cells #[.int .i64 V, .slice a0 fs.length cap] 30)) := (Below.refl _ w).alloc (Nat.le_refl _) _
  have HI := hid (implIsPairing V a0 cap fs a1 n cap1 ps _ (hx.later hB0 hB0.size) (hx1.later hB0 hB0.size) hl hp hn hw)
  clear hx hx1 hp hw
  rcases pcode_cases V fs n ps with ⟨_, _, h0, h1, _⟩ | ⟨_, _, h0, h1, _⟩ | ⟨_, h0, h1⟩
  all_goals
    rw [h1] at HI
    rw [h0]
    clear h0 h1
    go_enter Try.func103, Try.ntmps103
    go_wp2_with fail
    refine HI.out.mono ?_
    rintro e w1 ⟨rfl, hB1⟩
    go_wp2_with fail
    go_ret
    exact ⟨rfl, hB0.trans (hB1.mono (by simp))⟩

theorem critWanted (L : List Int) (bm b n : Nat) (x : Int) (w : World) (hx0 : 1 ≤ x) (hx1 : x ≤ 63) (hm : w.cell? ⟨bm, 0, none⟩ = some (.map (some b))) (hM : w.ownsMap Try.prog 2 (plainElem (H := Unit) Try.prog 4) b n (knownD L)) :
    Calls Try.prog 169 #[.int .i64 x, .pointer (some ⟨bm, 0, none⟩)] w fun e w' => e = .returned (.bool (!decide (x ∈ L))) ∧ Below w.heap.size w w' := by
  have hlook := lookup_known hM (p := x) (WalkArith.wf_i64 (by omega))
  clear hM
  obtain ⟨c, hc⟩ : ∃ c, c = decide (x ∈ L) := ⟨_, rfl⟩
  rw [← hc] at hlook ⊢
  clear hc
  cases c
  · go_enter Try.func169, Try.ntmps169
    go_wp2_with fail
    go_ret
    exact ⟨rfl, Below.refl _ _⟩
  · go_enter Try.func169, Try.ntmps169
    go_wp2_with fail
    go_ret
    exact ⟨rfl, Below.refl _ _⟩

theorem res_mono {P : Program} {f : FuncId} {args : Array Value} {w : World} {r : List Int × Int} {xs : List Int} {c : Int} (hr : r = (xs, c))
    (h : Calls P f args w fun e w' => ∃ v, e = .returned (.tuple #[v, .int .i64 c]) ∧ Res w w' v xs) : Calls P f args w fun e w' => ∃ v, e = .returned (.tuple #[v, .int .i64 r.2]) ∧ Res w w' v r.1 := by
  subst hr; exact h

/-- What the loop keeps: the map's variable, the map. -/
structure CrW (w1 wr : World) (L : List Int) : Prop where
  below : Below w1.heap.size w1 wr
  own : wr.ownsMap Try.prog 2 (plainElem (H := Unit) Try.prog 4) w1.heap.size L.length (knownD L)
  mbox : wr.heap[w1.heap.size + 1]? = some (.cells #[.map (some w1.heap.size)] 107 (0, 0))

set_option maxRecDepth 100000 in
set_option maxHeartbeats 4000000 in
theorem crit_ok (V : Int) (a0 : Option Addr) (cap : Nat) (fs : List Int) (a1 : Option Addr) (n cap1 : Nat) (ps : List Int) (w : World) (hx : SlI w w.heap.size a0 fs) (hx1 : SlI w w.heap.size a1 ps) (hl : fs.length ≤ 1048576) (hp : ps.length = 2 * n) (hn : n ≤ 1048576) (hw : ∀ x ∈ ps, (Lit.int .i64 x).wf = true)
    (hC : IsC V fs) (h0 : pcodeR V fs n ps = 0) :
    Calls Try.prog 113 #[.agg #[.int .i64 V, .slice a0 fs.length cap], .slice a1 n cap1] w fun e w' => ∃ v, e = .returned (.tuple #[v, .int .i64 0]) ∧ Res w w' v (critL fs ps) := by
  have hB0 : Below w.heap.size w (w.alloc (.cells #[.int .i64 V, .slice a0 fs.length cap] 30)) := (Below.refl _ w).alloc (Nat.le_refl _) _
  have HI := hid (pcode_impl V a0 cap fs a1 n cap1 ps _ (hx.later hB0 hB0.size) (hx1.later hB0 hB0.size) hl hp hn hw)
  rw [h0] at HI
  have Hx := hid hx
  have Hy := hid hx1
  have Hp := hid hp
  have Hw := hid hw
  have Hf := hid hC.range63
  have hmm := @run_makeMap Try.prog
  clear hx hx1 hp hw hC h0
  go_enter Try.func113, Try.ntmps113
  go_wp2_with fail
  refine HI.out.mono ?_
  rintro e w1 ⟨rfl, hB1⟩
  have HB1 := hid (hB0.trans (hB1.mono (by simp)))
  have q0 : w1.heap[w.heap.size]? = some (.cells #[.int .i64 V, .slice a0 fs.length cap] 30 (0, 0)) := (hB1.block _ (by simp)).trans (heap_alloc_new _ _)
  have Q0 := hid q0
  have hs1 : w.heap.size < w1.heap.size := by have := hB1.size; simp at this; omega
  have hF0 : CrW w1 ((w1.alloc (.map #[] 0)).alloc (.cells #[.map (some w1.heap.size)] 107)) [] := by
    have e3 := heap_alloc_new (w1.alloc (.map #[] 0)) (.cells #[.map (some w1.heap.size)] 107)
    rw [World.size_alloc] at e3
    exact ⟨((Below.refl _ w1).alloc (Nat.le_refl _) _).alloc (by simp) _, (World.ownsMap_made w1 Try.prog 2 (plainElem (H := Unit) Try.prog 4)).alloc _, e3⟩
  have HF0 := hid hF0
  clear hB0 hB1 q0 hF0
  go_wp2_with fail
  clear hmm
  go_loopw [19] (fun i wr => ∃ k : Nat, k ≤ n ∧ i = .int .i64 k ∧ CrW w1 wr (ps.take (k * 2))) (fun i _ => n - (intOf i).toNat)
  case atStart => exact ⟨0, Nat.zero_le _, rfl, by simpa using HF0.out⟩
  case round =>
    obtain ⟨k, hk, rfl, hcr⟩ := hrel
    have HC := hid hcr
    clear hcr HF0
    by_cases hlt : k < n
    · obtain ⟨b, off, hb, rfl, hc⟩ : ∃ b off, b < w.heap.size ∧ a1 = some ⟨b, off, none⟩ ∧ ∀ i, i < ps.length → w.cell? ⟨b, off + i, none⟩ = some (.int .i64 (ps[i]?.getD 0)) := by
        rcases Hy.out with h | h
        · have := Hp.out; rw [h] at this; simp at this; omega
        · exact h
      have hBw : Hid (Below w.heap.size w wr) := hid (HB1.out.trans (HC.out.below.mono (by omega)))
      have hc2 : wr.cell? ⟨b, off + k * 2, none⟩ = some (.int .i64 (at0 ps (k * 2))) := (hBw.out.cell (p := ⟨b, off + k * 2, none⟩) hb).trans (hc _ (by have := Hp.out; omega))
      have hc3 : wr.cell? ⟨b, off + k * 2 + 1, none⟩ = some (.int .i64 (at0 ps (k * 2 + 1))) := (hBw.out.cell (p := ⟨b, off + (k * 2 + 1), none⟩) hb).trans (hc _ (by have := Hp.out; omega))
      obtain ⟨x, hx⟩ : ∃ x, x = at0 ps (k * 2) := ⟨_, rfl⟩
      obtain ⟨y, hy⟩ : ∃ y, y = at0 ps (k * 2 + 1) := ⟨_, rfl⟩
      have hlen := Hp.out
      have hwx : (Lit.int .i64 x).wf = true := Hw.out x (by rw [hx]; exact getD_mem (by omega))
      have hwy : (Lit.int .i64 y).wf = true := Hw.out y (by rw [hy]; exact getD_mem (by omega))
      have Hsn : Hid (ps.take ((k + 1) * 2) = ps.take (k * 2) ++ [x] ++ [y]) := hid (by
        rw [show (k + 1) * 2 = k * 2 + 1 + 1 by omega, take_snoc (show k * 2 + 1 < ps.length by omega), take_snoc (show k * 2 < ps.length by omega), hx, hy]; rfl)
      have htl : (ps.take (k * 2)).length = k * 2 := by rw [List.length_take]; omega
      have Htl := hid htl
      rw [← hx] at hc2
      rw [← hy] at hc3
      have hmb : wr.cell? ⟨w1.heap.size + 1, 0, none⟩ = some (.map (some w1.heap.size)) := (box_cell HC.out.mbox).1
      have hsr : w1.heap.size + 1 < wr.heap.size := lt_get HC.out.mbox
      have hi0 : (0 : Int) ≤ (k : Int) := by omega
      have hi1 : (k : Int) < (n : Int) := by omega
      obtain ⟨wa, hrun1, hwa, hga⟩ := World.ownsMap.update (w := World.drew (wr.alloc (.cells #[.int .i64 x, .int .i64 y] 77))) (World.ownsMap.alloc HC.out.own _) (Maps.int_keyed Try.underlying2) Try.underlying107 (show (ps.take (k * 2)).length < maxLen by rw [htl]; unfold maxLen; omega) (Maps.keyOf_int_mk Try.underlying2 hwx) (plainElem_bool Try.underlying4 true)
      obtain ⟨wb, hrun2, hwb, hgb⟩ := World.ownsMap.update hwa (Maps.int_keyed Try.underlying2) Try.underlying107 (show (ps.take (k * 2)).length + 1 < maxLen by rw [htl]; unfold maxLen; omega) (Maps.keyOf_int_mk Try.underlying2 hwy) (plainElem_bool Try.underlying4 true)
      have hba : ∀ j, j ≠ w1.heap.size → j < wr.heap.size + 1 → wa.heap[j]? = (wr.alloc (.cells #[.int .i64 x, .int .i64 y] 77)).heap[j]? := fun j hj hlt => hga.block j (by show j < (wr.alloc _).heap.size; simp; omega) (by simpa using hj)
      have qa : wa.heap[wr.heap.size]? = some (.cells #[.int .i64 x, .int .i64 y] 77 (0, 0)) := (hba _ (by omega) (by omega)).trans (heap_alloc_new _ _)
      have qb : wb.heap[wr.heap.size]? = some (.cells #[.int .i64 x, .int .i64 y] 77 (0, 0)) := (hgb.block _ (lt_get qa) (by simp; omega)).trans qa
      have ma : wa.heap[w1.heap.size + 1]? = some (.cells #[.map (some w1.heap.size)] 107 (0, 0)) := (hba _ (by omega) (by omega)).trans ((Below.heap_alloc _ _ _ hsr).trans HC.out.mbox)
      have mb : wb.heap[w1.heap.size + 1]? = some (.cells #[.map (some w1.heap.size)] 107 (0, 0)) := (hgb.block _ (lt_get ma) (by simp)).trans ma
      obtain ⟨ca0, ca1, _, _⟩ := two_of qa
      obtain ⟨cb0, cb1, _, _⟩ := two_of qb
      have da := (box_cell ma).1
      have db := (box_cell mb).1
      have Hga := hid hga
      have Hgb := hid hgb
      have Hwb := hid hwb
      have Mb := hid mb
      clear hga hgb hwb hwa hba qa qb ma mb hx hy hc htl hlen
      go_wp2_with fail
      go_region_held3 (fun w' => w'.cell? ⟨wr.heap.size, 0, none⟩ = some (.int .i64 x) ∧ w'.cell? ⟨wr.heap.size, 1, none⟩ = some (.int .i64 y) ∧ w'.cell? ⟨w1.heap.size + 1, 0, none⟩ = some (.map (some w1.heap.size))) (go_keep) (first
        | (simp only [hrun1])
        | (simp only [hrun2]))
      go_wp2_with fail
      go_roundw
      case rel =>
        have hBx : Below w1.heap.size w1 wa := (HC.out.below.alloc HC.out.below.size _).grown (w := wr.alloc (.cells #[.int .i64 x, .int .i64 y] 77)) ⟨Hga.out.os, Hga.out.tape, Hga.out.output, Hga.out.size, Hga.out.block⟩ (by have := HC.out.below.size; simp; omega) (fun r e => by cases e; omega)
        refine ⟨k + 1, by omega, by go_num, hBx.grown Hgb.out hBx.size (fun r e => by cases e; omega), ?_, Mb.out⟩
        rw [Hsn.out, knownD_snoc, knownD_snoc, List.length_append, List.length_append]
        exact Hwb.out
      case measure => simp [intOf]; omega
    · obtain rfl : k = n := by omega
      have htk : ps.take (k * 2) = ps := List.take_of_length_le (by have := Hp.out; omega)
      rw [htk] at HC
      have hBw : Hid (Below w.heap.size w wr) := hid (HB1.out.trans (HC.out.below.mono (by omega)))
      have q0 : wr.heap[w.heap.size]? = some (.cells #[.int .i64 V, .slice a0 fs.length cap] 30 (0, 0)) := (HC.out.below.block _ hs1).trans Q0.out
      obtain ⟨k0, k1, _, _⟩ := two_of q0
      have HFW : Hid (Calls Try.prog 140 #[.agg #[.int .i64 V, .slice a0 fs.length cap], .func (.func 169) #[] #[.pointer (some ⟨w1.heap.size + 1, 0, none⟩)]] wr fun e w' => ∃ v, e = .returned v ∧ Res wr w' v (critL fs ps)) := hid (by
        unfold critL
        refine fw_any V _ cap fs wr 169 _ (fun x => !decide (x ∈ ps)) (Hx.out.later hBw.out hBw.out.size) hl (enters_of Try.func169 (by kernel_rfl) rfl) ?_
        intro W' x hW' hxm
        have hr := Hf.out x hxm
        have hkeep : wr.grownBy W' none := ⟨hW'.os, hW'.tape, hW'.output, hW'.size, fun k hk _ => hW'.block k hk⟩
        exact critWanted ps _ _ _ x W' hr.1 hr.2 ((hW'.cell (p := ⟨w1.heap.size + 1, 0, none⟩) (lt_get HC.out.mbox)).trans (box_cell HC.out.mbox).1) (HC.out.own.kept hkeep (by simp)))
      clear q0 htk HI
      go_wp2_with fail
      refine HFW.out.mono ?_
      rintro e w2 ⟨v, rfl, hr⟩
      go_wp2_with fail
      go_ret2
      exact ⟨v, rfl, ownsRow_base hr.1 hBw.out.size, hBw.out.trans (hr.2.mono hBw.out.size)⟩

set_option maxRecDepth 100000 in
set_option maxHeartbeats 1000000 in
theorem crit_bad (V : Int) (a0 : Option Addr) (cap : Nat) (fs : List Int) (a1 : Option Addr) (n cap1 : Nat) (ps : List Int) (w : World) (hx : SlI w w.heap.size a0 fs) (hx1 : SlI w w.heap.size a1 ps) (hl : fs.length ≤ 1048576) (hp : ps.length = 2 * n) (hn : n ≤ 1048576) (hw : ∀ x ∈ ps, (Lit.int .i64 x).wf = true)
    (c : Int) (hc : (c != 0) = true) (h0 : pcodeR V fs n ps = c) :
    Calls Try.prog 113 #[.agg #[.int .i64 V, .slice a0 fs.length cap], .slice a1 n cap1] w fun e w' => ∃ v, e = .returned (.tuple #[v, .int .i64 c]) ∧ Res w w' v [] := by
  have hB0 : Below w.heap.size w (w.alloc (.cells #[.int .i64 V, .slice a0 fs.length cap] 30)) := (Below.refl _ w).alloc (Nat.le_refl _) _
  have HI := hid (pcode_impl V a0 cap fs a1 n cap1 ps _ (hx.later hB0 hB0.size) (hx1.later hB0 hB0.size) hl hp hn hw)
  rw [h0] at HI
  clear hx hx1 hp hw h0
  go_enter Try.func113, Try.ntmps113
  go_wp2_with fail
  refine HI.out.mono ?_
  rintro e w1 ⟨rfl, hB1⟩
  go_wp2_with fail
  go_ret2
  exact ⟨_, rfl, res_nil _ _ (hB0.trans (hB1.mono (by simp)))⟩

theorem implCriticalFaces (V : Int) (a0 : Option Addr) (cap : Nat) (fs : List Int) (a1 : Option Addr) (n cap1 : Nat) (ps : List Int) (w : World) (hx : SlI w w.heap.size a0 fs) (hx1 : SlI w w.heap.size a1 ps) (hl : fs.length ≤ 1048576) (hp : ps.length = 2 * n) (hn : n ≤ 1048576) (hw : ∀ x ∈ ps, (Lit.int .i64 x).wf = true) :
    Calls Try.prog 113 #[.agg #[.int .i64 V, .slice a0 fs.length cap], .slice a1 n cap1] w fun e w' => ∃ v, e = .returned (.tuple #[v, .int .i64 (criticalFacesR V fs n ps).2]) ∧ Res w w' v (criticalFacesR V fs n ps).1 := by
  rcases pcode_cases V fs n ps with ⟨hC, _, h0, _, _⟩ | ⟨_, _, h0, _, _⟩ | ⟨_, h0, _⟩
  · exact res_mono (by unfold criticalFacesR; rw [h0, if_pos rfl]) (crit_ok V a0 cap fs a1 n cap1 ps w hx hx1 hl hp hn hw hC h0)
  · exact res_mono (by unfold criticalFacesR; rw [h0, if_neg (by decide)]) (crit_bad V a0 cap fs a1 n cap1 ps w hx hx1 hl hp hn hw 2 (by decide) h0)
  · exact res_mono (by unfold criticalFacesR; rw [h0, if_neg (by decide)]) (crit_bad V a0 cap fs a1 n cap1 ps w hx hx1 hl hp hn hw 1 (by decide) h0)

end Go.Proofs.Ytbgkalkipalndaa

/-! The model's IsPairing. -/
namespace Go.Proofs.Ytbgkalkipalndaa
open Go.RowKit

set_option maxRecDepth 100000 in
set_option maxHeartbeats 1000000 in
theorem pis_any (V : Int) (a : Option Addr) (cap : Nat) (fs : List Int) (a1 : Option Addr) (n c2 : Nat) (ps : List Int) (w : World) (hx : SlI w w.heap.size a fs) (hx1 : SlI w w.heap.size a1 ps) (hl : fs.length ≤ 1048576) (hf : ∀ x ∈ fs, 1 ≤ x ∧ x ≤ 63) (hp : ps.length = 2 * n) (hn : n ≤ 1048576) :
    Calls Try.prog 105 #[.agg #[.int .i64 V, .slice a fs.length cap], .slice a1 n c2] w fun e w' => e = .returned (.bool (pairingB fs ps n)) ∧ Below w.heap.size w w' := by
  rcases hx1 with rfl | ⟨b, off, hb, rfl, hc⟩
  · obtain rfl : n = 0 := by simp at hp; omega
    have He := hid (pairingB_true (fs := fs) (ps := []) (n := 0) (fun i hi => by omega))
    clear hp hf hx
    go_enter Try.func105, Try.ntmps105
    go_wp2
    refine wp_loop_rounds 1 ?_; rw [rounds_succ]
    go_wp2
    go_ret
    exact ⟨ret_bool He.out.symm, (Below.refl _ w).alloc (Nat.le_refl _) _⟩
  · exact pis_some V a cap fs b off n c2 ps w hx hl hf hb hc hp hn

end Go.Proofs.Ytbgkalkipalndaa

/-! The critical faces, the model's. -/
namespace Go.Proofs.Ytbgkalkipalndaa
open Go.RowKit Go.Sort

set_option maxRecDepth 100000 in
set_option maxHeartbeats 8000000 in
theorem critS_any (V : Int) (a0 : Option Addr) (cap : Nat) (fs : List Int) (a1 : Option Addr) (n cap1 : Nat) (ps : List Int) (w : World) (hx : SlI w w.heap.size a0 fs) (hx1 : SlI w w.heap.size a1 ps) (hl : fs.length ≤ 1048576) (hp : ps.length = 2 * n) (hn : n ≤ 1048576) :
    Calls Try.prog 107 #[.agg #[.int .i64 V, .slice a0 fs.length cap], .slice a1 n cap1] w fun e w' => ∃ v, e = .returned v ∧ Res w w' v (critL fs ps) := by
  have hB0 : Below w.heap.size w (w.alloc (.cells #[.int .i64 V, .slice a0 fs.length cap] 30)) := (Below.refl _ w).alloc (Nat.le_refl _) _
  have hB00 := (hB0.alloc (by simp) (.cells #[] 2))
  have hown0 := World.ownsRow_made (base := w.heap.size + 1) (e := 2) (size := 1) (w.alloc (.cells #[.int .i64 V, .slice a0 fs.length cap] 30)) #[] 0 (by simp) (by simp [maxLen]) rfl
  rw [World.size_alloc] at hown0
  have Hown0 := hid hown0
  have HB0 := hid hB0
  have HB00 := hid hB00
  clear hown0 hB0 hB00
  rcases hx with rfl | ⟨b, off, hb, rfl, hc⟩
  · go_enter Try.func107, Try.ntmps107
    go_wp2
    refine wp_loop_rounds 1 ?_; rw [rounds_succ]
    go_wp2
    go_ret
    exact ⟨_, rfl, ownsRow_base (by simpa [critL] using Hown0.out) (Nat.le_succ _), HB00.out⟩
  · have Hc := hid hc
    have Hp := hid hp
    have Hy := hid hx1
    clear hc hp hx1
    go_enter Try.func107, Try.ntmps107
    go_wp2
    go_loopw [5, 6] (fun v i wr => ∃ k : Nat, k ≤ fs.length ∧ i = .int .i64 k ∧ wr.ownsRow (w.heap.size + 1) 2 1 v (critL (fs.take k) ps).length ((critL (fs.take k) ps).map (Value.int .i64)) ∧
        Below (w.heap.size + 1) (w.alloc (.cells #[.int .i64 V, .slice (some ⟨b, off, none⟩) fs.length cap] 30)) wr) (fun _ i _ => fs.length - (intOf i).toNat)
    case atStart => exact ⟨0, Nat.zero_le _, rfl, Hown0.out, (Below.refl _ _).alloc (by simp) _⟩
    case round =>
      obtain ⟨k, hk, rfl, hown, hB⟩ := hrel
      have c0 : wr.cell? ⟨w.heap.size, 0, none⟩ = some (.int .i64 V) := (hB.cell (p := ⟨w.heap.size, 0, none⟩) (by simp)).trans (by simp [go_sem])
      have c1 : wr.cell? ⟨w.heap.size, 1, none⟩ = some (.slice (some ⟨b, off, none⟩) fs.length cap) := (hB.cell (p := ⟨w.heap.size, 1, none⟩) (by simp)).trans (by simp [go_sem])
      by_cases hlt : k < fs.length
      · obtain ⟨x, hx⟩ : ∃ x, x = fs[k]?.getD 0 := ⟨_, rfl⟩
        have Hp' : Hid (∀ c, decide (x ∉ ps) = c → critL (fs.take (k + 1)) ps = critL (fs.take k) ps ++ (if c then [x] else [])) := hid (fun c hc => by
          unfold critL
          rw [take_snoc hlt, List.filter_append, ← hx]
          cases c <;> simpa using hc)
        have Hx := hid hx
        have hi0 : (0 : Int) ≤ (k : Int) := by omega
        have hi1 : (k : Int) < (fs.length : Int) := by omega
        have hfl : (critL (fs.take k) ps).length ≤ 1048576 := Nat.le_trans (List.length_filter_le _ _) (by simp; omega)
        have HB := hid hB
        have Hown := hid hown
        clear hx hB hown
        go_wp2
        clear c0 c1
        go_loopw [7, 8] (fun q j wx => ∃ m : Nat, m ≤ n ∧ q = .bool (decide (x ∉ ps.take (m * 2))) ∧ j = .int .i64 m ∧ wx.ownsRow (w.heap.size + 1) 2 1 u5 (critL (fs.take k) ps).length ((critL (fs.take k) ps).map (Value.int .i64)) ∧
            Below (w.heap.size + 1) (w.alloc (.cells #[.int .i64 V, .slice (some ⟨b, off, none⟩) fs.length cap] 30)) wx) (fun _ j _ => n - (intOf j).toNat)
        case atStart => exact ⟨0, Nat.zero_le _, by simp, rfl, Hown.out, HB.out⟩
        case round =>
          clear HB Hown
          obtain ⟨m, hm, rfl, rfl, hown, hBx⟩ := hrel
          have c0 : wr.cell? ⟨w.heap.size, 0, none⟩ = some (.int .i64 V) := (hBx.cell (p := ⟨w.heap.size, 0, none⟩) (by simp)).trans (by simp [go_sem])
          have c1 : wr.cell? ⟨w.heap.size, 1, none⟩ = some (.slice (some ⟨b, off, none⟩) fs.length cap) := (hBx.cell (p := ⟨w.heap.size, 1, none⟩) (by simp)).trans (by simp [go_sem])
          have hBw : Below w.heap.size w wr := HB0.out.trans (hBx.mono (Nat.le_succ _))
          have hck : wr.cell? ⟨b, off + k, none⟩ = some (.int .i64 x) := by rw [Hx.out]; exact (hBw.cell (p := ⟨b, off + k, none⟩) hb).trans (Hc.out k hlt)
          by_cases hltm : m < n
          · obtain ⟨b1, o1, hb1, rfl, hc1⟩ : ∃ b o, b < w.heap.size ∧ a1 = some ⟨b, o, none⟩ ∧ ∀ i, i < ps.length → w.cell? ⟨b, o + i, none⟩ = some (.int .i64 (ps[i]?.getD 0)) := by
              rcases Hy.out with h | h
              · have := Hp.out; rw [h] at this; simp at this; omega
              · exact h
            have hd2 : wr.cell? ⟨b1, o1 + m * 2, none⟩ = some (.int .i64 (at0 ps (m * 2))) := (hBw.cell (p := ⟨b1, o1 + m * 2, none⟩) hb1).trans (hc1 _ (by have := Hp.out; omega))
            have hd3 : wr.cell? ⟨b1, o1 + m * 2 + 1, none⟩ = some (.int .i64 (at0 ps (m * 2 + 1))) := (hBw.cell (p := ⟨b1, o1 + (m * 2 + 1), none⟩) hb1).trans (hc1 _ (by have := Hp.out; omega))
            obtain ⟨u, hu⟩ : ∃ u, u = at0 ps (m * 2) := ⟨_, rfl⟩
            obtain ⟨v, hv⟩ : ∃ v, v = at0 ps (m * 2 + 1) := ⟨_, rfl⟩
            have Hsn : Hid (ps.take ((m + 1) * 2) = ps.take (m * 2) ++ [u] ++ [v]) := hid (by
              have := Hp.out
              rw [show (m + 1) * 2 = m * 2 + 1 + 1 by omega, take_snoc (show m * 2 + 1 < ps.length by omega), take_snoc (show m * 2 < ps.length by omega), hu, hv]; rfl)
            rw [← hu] at hd2
            rw [← hv] at hd3
            have hm0 : (0 : Int) ≤ (m : Int) := by omega
            have hm1 : (m : Int) < (n : Int) := by omega
            have HBx := hid hBx
            have HO := hid hown
            clear hu hv hBx hBw hc1 hown
            by_cases h0 : x ∈ ps.take (m * 2)
            · have hfr : decide (x ∉ ps.take (m * 2)) = false := by simp [h0]
              have He : Hid (decide (x ∉ ps.take ((m + 1) * 2)) = false) := hid (by rw [Hsn.out]; simp [h0])
              rw [hfr]
              clear h0 hfr
              go_wp2_with fail
              refine wp_region_quiet_lit (by kernel_rfl) (by kernel_rfl) ?_
              iterate 28 (with_reducible refine wpQuiet_step (fun K hK => ?_); have HK := hid hK; clear hK; go_simp; (first | with_reducible refine HK.out _ ?_ | (rw [if_neg (by decide)]; with_reducible refine HK.out _ ?_)); clear HK K)
              with_reducible refine wpQuiet_nil ?_
              intro _ hw'
              obtain ⟨nq, hw''⟩ := hw'
              subst hw''
              go_wp2_with fail
              go_roundw
              case rel => exact ⟨m + 1, by omega, by rw [He.out], by go_num, HO.out, HBx.out.trans ⟨rfl, rfl, rfl, Nat.le_refl _, fun _ _ => rfl⟩⟩
              case measure => simp [intOf]; omega
            · have hfr : decide (x ∉ ps.take (m * 2)) = true := by simp [h0]
              by_cases h1 : u = x
              · have g1 : (u != x) = false := by simp [h1]
                have He : Hid (decide (x ∉ ps.take ((m + 1) * 2)) = false) := hid (by rw [Hsn.out]; simp [h1])
                rw [hfr]
                clear h0 h1 hfr
                go_wp2_with fail
                refine wp_region_quiet_lit (by kernel_rfl) (by kernel_rfl) ?_
                iterate 28 (with_reducible refine wpQuiet_step (fun K hK => ?_); have HK := hid hK; clear hK; go_simp; (first | with_reducible refine HK.out _ ?_ | (rw [if_neg (by decide)]; with_reducible refine HK.out _ ?_)); clear HK K)
                with_reducible refine wpQuiet_nil ?_
                intro _ hw'
                obtain ⟨nq, hw''⟩ := hw'
                subst hw''
                go_wp2_with fail
                go_roundw
                case rel => exact ⟨m + 1, by omega, by rw [He.out], by go_num, HO.out, HBx.out.trans ⟨rfl, rfl, rfl, Nat.le_refl _, fun _ _ => rfl⟩⟩
                case measure => simp [intOf]; omega
              · have g1 : (u != x) = true := by simp [h1]
                by_cases h2 : v = x
                · have g2 : (v != x) = false := by simp [h2]
                  have He : Hid (decide (x ∉ ps.take ((m + 1) * 2)) = false) := hid (by rw [Hsn.out]; simp [h2])
                  rw [hfr]
                  clear h0 h1 h2 hfr
                  go_wp2_with fail
                  refine wp_region_quiet_lit (by kernel_rfl) (by kernel_rfl) ?_
                  iterate 28 (with_reducible refine wpQuiet_step (fun K hK => ?_); have HK := hid hK; clear hK; go_simp; (first | with_reducible refine HK.out _ ?_ | (rw [if_neg (by decide)]; with_reducible refine HK.out _ ?_)); clear HK K)
                  with_reducible refine wpQuiet_nil ?_
                  intro _ hw'
                  obtain ⟨nq, hw''⟩ := hw'
                  subst hw''
                  go_wp2_with fail
                  go_roundw
                  case rel => exact ⟨m + 1, by omega, by rw [He.out], by go_num, HO.out, HBx.out.trans ⟨rfl, rfl, rfl, Nat.le_refl _, fun _ _ => rfl⟩⟩
                  case measure => simp [intOf]; omega
                · have g2 : (v != x) = true := by simp [h2]
                  have He : Hid (decide (x ∉ ps.take ((m + 1) * 2)) = true) := hid (by rw [Hsn.out]; simp [h0, Ne.symm h1, Ne.symm h2])
                  rw [hfr]
                  clear h0 h1 h2 hfr
                  go_wp2_with fail
                  refine wp_region_quiet_lit (by kernel_rfl) (by kernel_rfl) ?_
                  iterate 28 (with_reducible refine wpQuiet_step (fun K hK => ?_); have HK := hid hK; clear hK; go_simp; (first | with_reducible refine HK.out _ ?_ | (rw [if_neg (by decide)]; with_reducible refine HK.out _ ?_)); clear HK K)
                  with_reducible refine wpQuiet_nil ?_
                  intro _ hw'
                  obtain ⟨nq, hw''⟩ := hw'
                  subst hw''
                  go_wp2_with fail
                  go_roundw
                  case rel => exact ⟨m + 1, by omega, by rw [He.out], by go_num, HO.out, HBx.out.trans ⟨rfl, rfl, rfl, Nat.le_refl _, fun _ _ => rfl⟩⟩
                  case measure => simp [intOf]; omega
          · obtain rfl : m = n := by omega
            have htk : ps.take (m * 2) = ps := List.take_of_length_le (by have := Hp.out; omega)
            have hsz := hBx.size
            simp only [World.size_alloc] at hsz
            have HBx := hid hBx
            have HO := hid hown
            rw [htk]
            clear htk hBx hBw hown
            by_cases hin : x ∉ ps
            · have HP := hid (Hp'.out true (by simp [hin]))
              have hdx : decide (x ∉ ps) = true := by simp [hin]
              rw [hdx]
              clear hin hdx
              go_wp2_with (at_builtin; refine append_int rfl rfl HO.out hsz (by omega) rfl rfl ?_; intro v' w2 hown2 hgrow2 hB2)
              go_roundw
              case rel => exact ⟨k + 1, by omega, by go_num, by rw [HP.out]; exact hown2, HBx.out.trans hB2⟩
              case measure => simp [intOf]; omega
            · have HP := hid (Hp'.out false (by simpa using hin))
              have hdx : decide (x ∉ ps) = false := by simpa using hin
              rw [hdx]
              clear hin hdx
              go_wp2_with fail
              go_roundw
              case rel => exact ⟨k + 1, by omega, by go_num, by rw [HP.out]; simpa using HO.out, HBx.out⟩
              case measure => simp [intOf]; omega
      · obtain rfl : k = fs.length := by omega
        rw [List.take_of_length_le (Nat.le_refl _)] at hown
        go_wp2
        go_ret
        exact ⟨_, rfl, ownsRow_base hown (Nat.le_succ _), HB0.out.trans (hB.mono (Nat.le_succ _))⟩

set_option maxRecDepth 100000 in
set_option maxHeartbeats 1000000 in
theorem pcode_spec (V : Int) (a0 : Option Addr) (cap : Nat) (fs : List Int) (a1 : Option Addr) (n cap1 : Nat) (ps : List Int) (w : World) (hx : SlI w w.heap.size a0 fs) (hx1 : SlI w w.heap.size a1 ps) (hl : fs.length ≤ 1048576) (hp : ps.length = 2 * n) (hn : n ≤ 1048576) :
    Calls Try.prog 50 #[.agg #[.int .i64 V, .slice a0 fs.length cap], .slice a1 n cap1, .slice none 0 0] w fun e w' => e = .returned (.int .i64 (pcodeR V fs n ps)) ∧ Below w.heap.size w w' := by
  have hB0 : Below w.heap.size w (w.alloc (.cells #[.int .i64 V, .slice a0 fs.length cap] 30)) := (Below.refl _ w).alloc (Nat.le_refl _) _
  have Hx := hid (hx.later hB0 hB0.size)
  have Hx0 := hid hx
  have Hy := hid hx1
  clear hx hx1
  rcases pcode_cases V fs n ps with ⟨hC, _, h0, _, h1⟩ | ⟨hC, _, h0, _, h1⟩ | ⟨hC, h0, _⟩
  · rw [h0]
    have HC := hid hC
    clear hC h0
    go_enter Try.func50, Try.ntmps50
    go_wp2_with fail
    refine (is_yes V a0 cap fs _ Hx.out hl HC.out).mono ?_
    rintro e w1 ⟨rfl, hB1⟩
    have HB1 := hid (hB0.trans (hB1.mono (by simp)))
    have k0 : w1.cell? ⟨w.heap.size, 0, none⟩ = some (.int .i64 V) := (hB1.cell (p := ⟨w.heap.size, 0, none⟩) (by simp)).trans (by simp [go_sem])
    have k1 : w1.cell? ⟨w.heap.size, 1, none⟩ = some (.slice a0 fs.length cap) := (hB1.cell (p := ⟨w.heap.size, 1, none⟩) (by simp)).trans (by simp [go_sem])
    have HI := hid (pis_any V a0 cap fs a1 n cap1 ps w1 (Hx0.out.later HB1.out HB1.out.size) (Hy.out.later HB1.out HB1.out.size) hl HC.out.range63 hp hn)
    rw [h1] at HI
    clear hB0 hB1 h1 hp
    go_wp2_with fail
    refine HI.out.mono ?_
    rintro e w2 ⟨rfl, hB2⟩
    go_wp2_with fail
    refine wp_loop_rounds 1 ?_; rw [rounds_succ]
    go_wp2_with fail
    go_ret
    exact ⟨rfl, HB1.out.trans (hB2.mono HB1.out.size)⟩
  · rw [h0]
    have HC := hid hC
    clear hC h0
    go_enter Try.func50, Try.ntmps50
    go_wp2_with fail
    refine (is_yes V a0 cap fs _ Hx.out hl HC.out).mono ?_
    rintro e w1 ⟨rfl, hB1⟩
    have HB1 := hid (hB0.trans (hB1.mono (by simp)))
    have k0 : w1.cell? ⟨w.heap.size, 0, none⟩ = some (.int .i64 V) := (hB1.cell (p := ⟨w.heap.size, 0, none⟩) (by simp)).trans (by simp [go_sem])
    have k1 : w1.cell? ⟨w.heap.size, 1, none⟩ = some (.slice a0 fs.length cap) := (hB1.cell (p := ⟨w.heap.size, 1, none⟩) (by simp)).trans (by simp [go_sem])
    have HI := hid (pis_any V a0 cap fs a1 n cap1 ps w1 (Hx0.out.later HB1.out HB1.out.size) (Hy.out.later HB1.out HB1.out.size) hl HC.out.range63 hp hn)
    rw [h1] at HI
    clear hB0 hB1 h1 hp
    go_wp2_with fail
    refine HI.out.mono ?_
    rintro e w2 ⟨rfl, hB2⟩
    go_wp2_with fail
    go_ret
    exact ⟨rfl, HB1.out.trans (hB2.mono HB1.out.size)⟩
  · rw [h0]
    clear h0
    go_enter Try.func50, Try.ntmps50
    go_wp2_with fail
    refine (is_no V a0 cap fs _ Hx.out hl hC).mono ?_
    rintro e w1 ⟨rfl, hB1⟩
    go_wp2_with fail
    go_ret
    exact ⟨rfl, hB0.trans (hB1.mono (by simp))⟩


theorem criticalFacesR_len (V : Int) (fs : List Int) (n : Nat) (ps : List Int) (h : fs.length ≤ 1048576) (_hp : ps.length = 2 * n) (_hn : n ≤ 1048576) : (criticalFacesR V fs n ps).1.length ≤ 1048576 := by
  unfold criticalFacesR
  split
  · exact Nat.le_trans (List.length_filter_le _ _) h
  · simp

end Go.Proofs.Ytbgkalkipalndaa

/-! FacesReached, the model's. -/
namespace Go.Proofs.Ytbgkalkipalndaa
open Go.RowKit

noncomputable def reachB (ps : List Int) (n : Nat) (a y : Int) : Bool := @decide (y = a ∨ Way ps n a y) (Classical.propDecidable _)
theorem reachB_true {ps : List Int} {n : Nat} {a y : Int} (h : y = a ∨ Way ps n a y) : reachB ps n a y = true := by unfold reachB; exact @decide_eq_true _ (Classical.propDecidable _) h
theorem reachB_false {ps : List Int} {n : Nat} {a y : Int} (h : ¬ (y = a ∨ Way ps n a y)) : reachB ps n a y = false := by unfold reachB; exact @decide_eq_false _ (Classical.propDecidable _) h
/-- The faces reached. -/
noncomputable def reachL (fs ps : List Int) (n : Nat) (a : Int) : List Int := fs.filter fun y => reachB ps n a y
noncomputable def code1R (V : Int) (fs : List Int) (n : Nat) (ps : List Int) (a : Int) : Int := if pcodeR V fs n ps = 0 then (if a ∈ fs then 0 else 2) else pcodeR V fs n ps
noncomputable def facesReachedR (V : Int) (fs : List Int) (n : Nat) (ps : List Int) (a : Int) : List Int × Int := if code1R V fs n ps a = 0 then (reachL fs ps n a, 0) else ([], code1R V fs n ps a)
theorem facesReachedR_len (V : Int) (fs : List Int) (n : Nat) (ps : List Int) (a : Int) (h : fs.length ≤ 1048576) (_hp : ps.length = 2 * n) (_hn : n ≤ 1048576) : (facesReachedR V fs n ps a).1.length ≤ 1048576 := by
  unfold facesReachedR
  split
  · exact Nat.le_trans (List.length_filter_le _ _) h
  · simp

theorem okTo_highs {V : Int} {fs ps : List Int} {n : Nat} (hC : IsC V fs) (h : OkTo fs ps n) : HighsB ps n := by
  intro a
  by_cases hex : ∃ i, i < n ∧ at0 ps (i * 2) = a
  · have hmin : ∃ i, (i < n ∧ at0 ps (i * 2) = a) ∧ ∀ j, j < i → ¬ (j < n ∧ at0 ps (j * 2) = a) := by
      obtain ⟨i, hi⟩ := hex
      induction i using Nat.strongRecOn with
      | _ i ih =>
        by_cases hj : ∃ j, j < i ∧ (j < n ∧ at0 ps (j * 2) = a)
        · obtain ⟨j, h1, h2⟩ := hj
          exact ih j h1 h2
        · exact ⟨i, hi, fun j h1 h2 => hj ⟨j, h1, h2⟩⟩
    obtain ⟨i, ⟨hi, ha⟩, hm⟩ := hmin
    rw [highOf_some hi ha (fun j hj e => hm j hj ⟨by omega, e⟩)]
    have hp := (h i hi).1
    unfold pairB at hp
    simp at hp
    have := hC.range63 _ hp.1.1.2
    omega
  · rw [highOf_none (fun j hj e => hex ⟨j, hj, e⟩)]
    omega

set_option maxRecDepth 1000000 in
set_option maxHeartbeats 2000000 in
theorem code1_spec (V : Int) (a0 : Option Addr) (cap : Nat) (fs : List Int) (a1 : Option Addr) (n cap1 : Nat) (ps : List Int) (a : Int) (bf : Nat) (w : World) (hx : SlI w w.heap.size a0 fs) (hx1 : SlI w w.heap.size a1 ps) (hl : fs.length ≤ 1048576) (hp : ps.length = 2 * n) (hn : n ≤ 1048576)
    (hbf : bf < w.heap.size) (hcf : w.cell? ⟨bf, 0, none⟩ = some (.int .i64 a)) :
    Calls Try.prog 50 #[.agg #[.int .i64 V, .slice a0 fs.length cap], .slice a1 n cap1, .slice (some ⟨bf, 0, none⟩) 1 1] w fun e w' => e = .returned (.int .i64 (code1R V fs n ps a)) ∧ Below w.heap.size w w' := by
  have hB0 : Below w.heap.size w (w.alloc (.cells #[.int .i64 V, .slice a0 fs.length cap] 30)) := (Below.refl _ w).alloc (Nat.le_refl _) _
  have Hx := hid (hx.later hB0 hB0.size)
  have Hx0 := hid hx
  have Hy := hid hx1
  clear hx hx1
  obtain ⟨E, hE⟩ : ∃ E, E = code1R V fs n ps a := ⟨_, rfl⟩
  rw [← hE]
  rcases pcode_cases V fs n ps with ⟨hC, _, h0, _, h1⟩ | ⟨hC, _, h0, _, h1⟩ | ⟨hC, h0, _⟩
  · have HC := hid hC
    have hE1 : E = if a ∈ fs then 0 else 2 := by rw [hE, code1R, if_pos h0]
    clear hC h0 hE
    go_enter Try.func50, Try.ntmps50
    go_wp2_with fail
    refine (is_yes V a0 cap fs _ Hx.out hl HC.out).mono ?_
    rintro e w1 ⟨rfl, hB1⟩
    have HB1 := hid (hB0.trans (hB1.mono (by simp)))
    have k0 : w1.cell? ⟨w.heap.size, 0, none⟩ = some (.int .i64 V) := (hB1.cell (p := ⟨w.heap.size, 0, none⟩) (by simp)).trans (by simp [go_sem])
    have k1 : w1.cell? ⟨w.heap.size, 1, none⟩ = some (.slice a0 fs.length cap) := (hB1.cell (p := ⟨w.heap.size, 1, none⟩) (by simp)).trans (by simp [go_sem])
    have hs1 : w.heap.size < w1.heap.size := by have := hB1.size; simp at this; omega
    have HI := hid (pis_any V a0 cap fs a1 n cap1 ps w1 (Hx0.out.later HB1.out HB1.out.size) (Hy.out.later HB1.out HB1.out.size) hl HC.out.range63 hp hn)
    rw [h1] at HI
    clear hB0 hB1 h1 hp
    go_wp2_with fail
    refine HI.out.mono ?_
    rintro e w2 ⟨rfl, hB2⟩
    have n0 : w2.cell? ⟨w.heap.size, 0, none⟩ = some (.int .i64 V) := (hB2.cell (p := ⟨w.heap.size, 0, none⟩) hs1).trans k0
    have n1 : w2.cell? ⟨w.heap.size, 1, none⟩ = some (.slice a0 fs.length cap) := (hB2.cell (p := ⟨w.heap.size, 1, none⟩) hs1).trans k1
    have HB2 := hid (HB1.out.trans (hB2.mono HB1.out.size))
    have n2 : w2.cell? ⟨bf, 0, none⟩ = some (.int .i64 a) := (HB2.out.cell (p := ⟨bf, 0, none⟩) hbf).trans hcf
    have hs2 : w.heap.size < w2.heap.size := Nat.lt_of_lt_of_le hs1 hB2.size
    have HB2d : Hid (Below w.heap.size w w2.drew) := hid (HB2.out.trans ⟨rfl, rfl, rfl, Nat.le_refl _, fun _ _ => rfl⟩)
    clear hB2 k0 k1 hcf
    by_cases ha : a ∈ fs
    · have He : Hid (E = 0) := hid (by rw [hE1, if_pos ha])
      have HA := hid (has_yes V a a0 cap fs w2.drew (Hx0.out.later HB2d.out HB2d.out.size) hl ha)
      clear hE1 ha
      go_wp2_with fail
      refine wp_loop_rounds 2 ?_
      rw [rounds_succ]
      go_wp2_with fail
      go_region_held3 (fun w' => w'.cell? ⟨w.heap.size, 0, none⟩ = some (.int .i64 V) ∧ w'.cell? ⟨w.heap.size, 1, none⟩ = some (.slice a0 fs.length cap) ∧ w'.cell? ⟨bf, 0, none⟩ = some (.int .i64 a)) (go_keep) (first
        | (go_at_call 76; refine HA.out.mono ?_; rintro e w3 ⟨rfl, hB3⟩; have m0 := (hB3.cell (p := ⟨w.heap.size, 0, none⟩) hs2).trans n0; have m1 := (hB3.cell (p := ⟨w.heap.size, 1, none⟩) hs2).trans n1; have m2 := (hB3.cell (p := ⟨bf, 0, none⟩) (Nat.lt_trans hbf hs2)).trans n2; have HB3 := hid hB3; clear hB3))
      all_goals
        have HB4 := hid (HB2d.out.trans (HB3.out.mono HB2d.out.size))
        go_wp2_with fail
        rw [rounds_succ]
        go_wp2_with fail
        go_ret
        exact ⟨ret_int (by rw [He.out]), HB4.out⟩
    · have He : Hid (E = 2) := hid (by rw [hE1, if_neg ha])
      have HA := hid (has_no V a a0 cap fs w2.drew (Hx0.out.later HB2d.out HB2d.out.size) hl ha)
      clear hE1 ha
      go_wp2_with fail
      refine wp_loop_rounds 2 ?_
      rw [rounds_succ]
      go_wp2_with fail
      go_region_held3 (fun w' => w'.cell? ⟨w.heap.size, 0, none⟩ = some (.int .i64 V) ∧ w'.cell? ⟨w.heap.size, 1, none⟩ = some (.slice a0 fs.length cap) ∧ w'.cell? ⟨bf, 0, none⟩ = some (.int .i64 a)) (go_keep) (first
        | (go_at_call 76; refine HA.out.mono ?_; rintro e w3 ⟨rfl, hB3⟩; have m0 := (hB3.cell (p := ⟨w.heap.size, 0, none⟩) hs2).trans n0; have m1 := (hB3.cell (p := ⟨w.heap.size, 1, none⟩) hs2).trans n1; have m2 := (hB3.cell (p := ⟨bf, 0, none⟩) (Nat.lt_trans hbf hs2)).trans n2; have HB3 := hid hB3; clear hB3))
      all_goals
        have HB4 := hid (HB2d.out.trans (HB3.out.mono HB2d.out.size))
        go_wp2_with fail
        go_ret
        exact ⟨ret_int (by rw [He.out]), HB4.out⟩
  · have He : Hid (E = 2) := hid (by rw [hE, code1R, if_neg (by rw [h0]; decide), h0])
    have HC := hid hC
    clear hC h0 hE
    go_enter Try.func50, Try.ntmps50
    go_wp2_with fail
    refine (is_yes V a0 cap fs _ Hx.out hl HC.out).mono ?_
    rintro e w1 ⟨rfl, hB1⟩
    have HB1 := hid (hB0.trans (hB1.mono (by simp)))
    have k0 : w1.cell? ⟨w.heap.size, 0, none⟩ = some (.int .i64 V) := (hB1.cell (p := ⟨w.heap.size, 0, none⟩) (by simp)).trans (by simp [go_sem])
    have k1 : w1.cell? ⟨w.heap.size, 1, none⟩ = some (.slice a0 fs.length cap) := (hB1.cell (p := ⟨w.heap.size, 1, none⟩) (by simp)).trans (by simp [go_sem])
    have HI := hid (pis_any V a0 cap fs a1 n cap1 ps w1 (Hx0.out.later HB1.out HB1.out.size) (Hy.out.later HB1.out HB1.out.size) hl HC.out.range63 hp hn)
    rw [h1] at HI
    clear hB0 hB1 h1 hp
    go_wp2_with fail
    refine HI.out.mono ?_
    rintro e w2 ⟨rfl, hB2⟩
    go_wp2_with fail
    go_ret
    exact ⟨ret_int (by rw [He.out]), HB1.out.trans (hB2.mono HB1.out.size)⟩
  · have He : Hid (E = 1) := hid (by rw [hE, code1R, if_neg (by rw [h0]; decide), h0])
    clear h0 hE
    go_enter Try.func50, Try.ntmps50
    go_wp2_with fail
    refine (is_no V a0 cap fs _ Hx.out hl hC).mono ?_
    rintro e w1 ⟨rfl, hB1⟩
    go_wp2_with fail
    go_ret
    exact ⟨ret_int (by rw [He.out]), hB0.trans (hB1.mono (by simp))⟩

end Go.Proofs.Ytbgkalkipalndaa

/-! l02Acyclic: the model's word on cycles. -/
namespace Go.Proofs.Ytbgkalkipalndaa
open Go.RowKit

noncomputable def wayB (ps : List Int) (n : Nat) (a b : Int) : Bool := @decide (Way ps n a b) (Classical.propDecidable _)
theorem wayB_true {ps : List Int} {n : Nat} {a b : Int} (h : Way ps n a b) : wayB ps n a b = true := by unfold wayB; exact @decide_eq_true _ (Classical.propDecidable _) h
theorem wayB_false {ps : List Int} {n : Nat} {a b : Int} (h : ¬ Way ps n a b) : wayB ps n a b = false := by unfold wayB; exact @decide_eq_false _ (Classical.propDecidable _) h
theorem met_way {ps : List Int} {n : Nat} (hh : HighsB ps n) {a y : Int} {met : List Bool} (h : Srch ps n a met []) (hy : 0 ≤ y ∧ y < 64) : metAt met y = wayB ps n a y := by
  by_cases hw : Way ps n a y
  · rw [wayB_true hw]; exact h.done hh hw
  · rw [wayB_false hw]
    cases hm : metAt met y
    · rfl
    · have := h.good y.toNat (by omega) hm
      rw [show ((y.toNat : Nat) : Int) = y by omega] at this
      exact absurd this hw
/-- No low face of a pair lies on a cycle. -/
def NoCycle (ps : List Int) (n : Nat) : Prop := ∀ i, i < n → ¬ Way ps n (at0 ps (i * 2)) (at0 ps (i * 2))
noncomputable def acyB (ps : List Int) (n : Nat) : Bool := @decide (NoCycle ps n) (Classical.propDecidable _)
theorem acyB_true {ps : List Int} {n : Nat} (h : NoCycle ps n) : acyB ps n = true := by unfold acyB; exact @decide_eq_true _ (Classical.propDecidable _) h
theorem acyB_false {ps : List Int} {n : Nat} (h : ¬ NoCycle ps n) : acyB ps n = false := by unfold acyB; exact @decide_eq_false _ (Classical.propDecidable _) h

/-- What l02Reached says of a number. -/
theorem reached_at (a1 : Option Addr) (n cap : Nat) (ps : List Int) (a : Int) (y : Nat) (w : World) (hx : SlI w w.heap.size a1 ps) (hp : ps.length = 2 * n) (hl : n ≤ 1048576) (hh : HighsB ps n) (hy : y < 64) :
    Calls Try.prog 106 #[.slice a1 n cap, .int .i64 a] w fun e w' => ∃ g, e = .returned (.slice (some ⟨g, 0, none⟩) 64 64) ∧ w'.cell? ⟨g, y, none⟩ = some (.bool (wayB ps n a (y : Int))) ∧ Below w.heap.size w w' :=
  (reached_any a1 n cap ps a w hx hp hl hh).mono fun e w' ⟨g, met, he, hom, HS, hB⟩ => by
    refine ⟨g, he, ?_, hB⟩
    have hml := HS.out.len
    rw [hom.cellAt y (by omega), ← met_way hh HS.out (by omega)]
    unfold metAt
    rw [Int.toNat_natCast, List.getElem?_eq_getElem (by omega : y < met.length)]
    simp [hml, hy]

set_option maxRecDepth 1000000 in
set_option maxHeartbeats 4000000 in
theorem acyclicS_any (a1 : Option Addr) (n cap : Nat) (ps : List Int) (w : World) (hx : SlI w w.heap.size a1 ps) (hp : ps.length = 2 * n) (hl : n ≤ 1048576) (hh : HighsB ps n) (hlo : ∀ i, i < n → 0 ≤ at0 ps (i * 2) ∧ at0 ps (i * 2) < 64) :
    Calls Try.prog 52 #[.slice a1 n cap] w fun e w' => e = .returned (.bool (acyB ps n)) ∧ Below w.heap.size w w' := by
  obtain ⟨E, hE⟩ : ∃ E, E = acyB ps n := ⟨_, rfl⟩
  have HE := hid hE
  rw [← hE]
  clear hE
  have HR := hid (fun a y w' (h : Below w.heap.size w w') (hy : y < 64) => reached_at a1 n cap ps a y w' (hx.later h h.size) hp hl hh hy)
  have Hx := hid hx
  have Hp := hid hp
  have Hlo := hid hlo
  clear hx hp hh hlo
  go_enter Try.func52, Try.ntmps52
  go_wp2
  go_loopw [3] (fun i wr => ∃ k : Nat, k ≤ n ∧ i = .int .i64 k ∧ Hid (∀ j, j < k → ¬ Way ps n (at0 ps (j * 2)) (at0 ps (j * 2))) ∧ Below w.heap.size w wr) (fun i _ => n - (intOf i).toNat)
  case atStart => exact ⟨0, Nat.zero_le _, rfl, hid (fun j hj => absurd hj (Nat.not_lt_zero _)), Below.refl _ _⟩
  case round =>
    obtain ⟨k, hk, rfl, Hk, hB⟩ := hrel
    by_cases hlt : k < n
    · obtain ⟨b, off, hb, rfl, hc⟩ : ∃ b off, b < w.heap.size ∧ a1 = some ⟨b, off, none⟩ ∧ ∀ i, i < ps.length → w.cell? ⟨b, off + i, none⟩ = some (.int .i64 (ps[i]?.getD 0)) := by
        rcases Hx.out with h | h
        · have := Hp.out; rw [h] at this; simp at this; omega
        · exact h
      have hck : wr.cell? ⟨b, off + k * 2, none⟩ = some (.int .i64 (at0 ps (k * 2))) := (hB.cell (p := ⟨b, off + k * 2, none⟩) hb).trans (hc _ (by have := Hp.out; omega))
      have hxr := Hlo.out k hlt
      obtain ⟨x, hx⟩ : ∃ x : Nat, (x : Int) = at0 ps (k * 2) := ⟨(at0 ps (k * 2)).toNat, by omega⟩
      rw [← hx] at hck hxr
      have Hxx := hid hx
      have hx0 : (0 : Int) ≤ (x : Int) := by omega
      have hx64 : (x : Int) < 64 := by omega
      have hi0 : (0 : Int) ≤ (k : Int) := by omega
      have hi1 : (k : Int) < (n : Int) := by omega
      have HC := hid (HR.out (x : Int) x wr.drew (below_drewN hB 1) (by omega))
      have HB := hid hB
      have hbr : b < wr.heap.size := Nat.lt_of_lt_of_le hb hB.size
      obtain ⟨q, hq⟩ : ∃ q, q = wayB ps n (x : Int) (x : Int) := ⟨_, rfl⟩
      rw [← hq] at HC
      have Hq := hid hq
      clear hx hc hB hq hxr
      cases q
      · go_wp2_with fail
        go_region_with (first
          | (go_at_call 106; refine HC.out.mono ?_; rintro e w2 ⟨g, rfl, hcm, hB2⟩; have n0 := (hB2.cell (p := ⟨b, off + k * 2, none⟩) hbr).trans hck; have HB2 := hid hB2; clear hB2))
        all_goals
          have HB3 := hid ((below_drewN HB.out 1).trans (HB2.out.mono (below_drewN HB.out 1).size))
          have He : Hid (∀ j, j < k + 1 → ¬ Way ps n (at0 ps (j * 2)) (at0 ps (j * 2))) := hid (fun j hj hw => by
            by_cases e : j = k
            · subst e
              rw [← Hxx.out] at hw
              have := Hq.out
              rw [wayB_true hw] at this
              cases this
            · exact Hk.out j (by omega) hw)
          clear HB HB2 hcm n0 hck
          go_wp2_with fail
          go_roundw
          case rel => exact ⟨k + 1, by omega, by go_num, He, HB3.out⟩
          case measure => simp [intOf]; omega
      · go_wp2_with fail
        go_region_with (first
          | (go_at_call 106; refine HC.out.mono ?_; rintro e w2 ⟨g, rfl, hcm, hB2⟩; have n0 := (hB2.cell (p := ⟨b, off + k * 2, none⟩) hbr).trans hck; have HB2 := hid hB2; clear hB2))
        all_goals
          have HB3 := hid ((below_drewN HB.out 1).trans (HB2.out.mono (below_drewN HB.out 1).size))
          have He : Hid (E = false) := hid (by
            rw [HE.out]
            refine acyB_false (fun hno => ?_)
            have := Hq.out
            rw [wayB_false (by rw [Hxx.out]; exact hno k hlt)] at this
            cases this)
          clear HB HB2 hcm n0 hck
          go_wp2_with fail
          go_ret
          exact ⟨ret_bool (by rw [He.out]), HB3.out⟩
    · have He : Hid (E = true) := hid (by rw [HE.out]; exact acyB_true (fun i hi => Hk.out i (by omega)))
      go_wp2_with fail
      go_ret
      exact ⟨ret_bool (by rw [He.out]), hB⟩

end Go.Proofs.Ytbgkalkipalndaa

/-! The sides of a face, one after the other: an iterator. -/
namespace Go.Proofs.Ytbgkalkipalndaa
open Go.RowKit Go.Shelf

attribute [local go_sem] Oper.semAt_some

/-- A face without a vertex (the face itself if the vertex is not in it). -/
def sideN (f v : Nat) : Nat := f - (f &&& 2 ^ v)
def sideO (f v : Nat) : Option (Fin 64) := if h : sideN f v < 64 then (if sideN f v ≠ f ∧ sideN f v ≠ 0 then some ⟨sideN f v, h⟩ else none) else none
/-- The sides that lack one of the first k vertices. -/
def sidesTo (f k : Nat) : List (Fin 64) := (List.range k).filterMap (sideO f)
def sidesF (f : Nat) : List (Fin 64) := sidesTo f 6

theorem side_lt {f : Nat} (hf : f < 64) (v : Nat) : sideN f v < 64 := by unfold sideN; omega
theorem side_bits : ∀ f : Fin 64, ∀ v : Fin 6, bits BinOp.andNot IntKind.i64 (f.val : Int) (wrap64 (2 ^ v.val)) = (sideN f.val v.val : Int) := by decide +kernel
theorem sidesTo_some {f k : Nat} (hf : f < 64) (h1 : sideN f k ≠ f) (h0 : sideN f k ≠ 0) : sidesTo f (k + 1) = sidesTo f k ++ [⟨sideN f k, side_lt hf k⟩] := by
  unfold sidesTo
  rw [List.range_succ, List.filterMap_append]
  have : sideO f k = some ⟨sideN f k, side_lt hf k⟩ := by unfold sideO; rw [dif_pos (side_lt hf k), if_pos ⟨h1, h0⟩]
  simp [this]
theorem sidesTo_none {f k : Nat} (h : ¬ (sideN f k ≠ f ∧ sideN f k ≠ 0)) : sidesTo f (k + 1) = sidesTo f k := by
  unfold sidesTo
  rw [List.range_succ, List.filterMap_append]
  have : sideO f k = none := by
    unfold sideO
    by_cases hh : sideN f k < 64
    · rw [dif_pos hh, if_neg h]
    · rw [dif_neg hh]
  simp [this]
theorem sidesTo_prefix (f : Nat) : ∀ m k, sidesTo f k <+: sidesTo f (k + m)
  | 0, k => List.prefix_refl _
  | m + 1, k => by
    refine (sidesTo_prefix f m k).trans ?_
    unfold sidesTo
    rw [← Nat.add_assoc, List.range_succ, List.filterMap_append]
    exact List.prefix_append _ _
theorem sides_len (f k : Nat) : (sidesTo f k).length ≤ k := by
  unfold sidesTo
  exact Nat.le_trans (List.length_filterMap_le _ _) (by simp)

set_option maxRecDepth 100000 in
set_option maxHeartbeats 2000000 in
/-- The iterator over the sides of f: whatever the loop's body, as long as it keeps the block of f. -/
theorem sides1_in (n : Nat) (hn : 1 ≤ n) (l B0 f : Nat) (hf : f < 64) (J Jx : List (Fin 64) → World → Prop)
    (hY : ∀ pre x W, J pre W → pre ++ [x] <+: sidesF f → YieldAt Fence.wide (n - 1) Try.prog l #[.int .i64 (x.val : Int)] W fun e W' =>
      (e = .returned (.bool true) ∧ J (pre ++ [x]) W' ∧ KeepB B0 W W') ∨ (e = .returned (.bool false) ∧ Jx (pre ++ [x]) W'))
    (hJd : ∀ pre W m, J pre W → J pre (W.drewN m))
    (W : World) (hB0 : W.heap[B0]? = some (.cells #[.int .i64 (f : Int)] 2 (0, 0))) (h0 : J [] W) :
    CallsIn Fence.wide n Try.prog 183 #[.func (.yield l) #[] #[], .pointer (some ⟨B0, 0, none⟩)] W fun e W' => (∃ v, e = .returned v) ∧
      ((∃ ys, ys = sidesF f ∧ J ys W') ∨ (∃ pre, pre <+: sidesF f ∧ Jx pre W')) := by
  have c0 := (box_cell hB0).1
  refine callsIn_of_wp Try.func183 rfl trivial ?_ rfl
  simp only [Try.ntmps183, List.size_toArray, List.length_cons, List.length_nil, Nat.reduceAdd, Nat.reduceSub, Array.replicate_succ, Array.replicate_zero, List.push_toArray, List.append_toArray, List.nil_append, List.cons_append]
  gi_wp2
  gi_loopw [5] (fun p wr => ∃ (k : Nat), p = .int .i64 (k : Int) ∧ k ≤ 6 ∧ J (sidesTo f k) wr ∧ wr.heap[B0]? = some (.cells #[.int .i64 (f : Int)] 2 (0, 0)))
    (fun p _ => 6 - (intOf p).toNat)
  case atStart =>
    exact ⟨0, rfl, by omega, h0, hB0⟩
  case round =>
    obtain ⟨k, rfl, hk, hJs, hBr⟩ := hrel
    by_cases hk6 : k < 6
    · have hki : (k : Int) < 6 := by omega
      have hk0 : (0 : Int) ≤ (k : Int) := by omega
      have c0r := (box_cell hBr).1
      have hb : bits BinOp.andNot IntKind.i64 (f : Int) (wrap64 (2 ^ k)) = (sideN f k : Int) := side_bits ⟨f, hf⟩ ⟨k, hk6⟩
      obtain ⟨s, hs⟩ : ∃ s, s = sideN f k := ⟨_, rfl⟩
      rw [← hs] at hb
      have hs64 : s < 64 := by rw [hs]; exact side_lt hf k
      have HJ := hid hJs
      have HB := hid hBr
      clear hJs hBr
      by_cases h1 : s = f
      · have hd : ((s : Int) != (f : Int)) = false := by simp [h1]
        have Hst := hid (sidesTo_none (f := f) (k := k) (fun h => h.1 (by rw [← hs]; exact h1)))
        clear h1 hs
        gi_wp2
        gi_quiet (fail)
        gi_wp2
        refine ⟨fun _ h => (by cases h), ?_⟩
        gi_wp2
        go_roundw
        case rel => exact ⟨k + 1, by go_num, by omega, by rw [Hst.out]; exact hJd _ _ _ HJ.out, HB.out⟩
        case measure => simp [intOf]; omega
      · have hd : ((s : Int) != (f : Int)) = true := by simp; omega
        by_cases h2 : s = 0
        · have hd2 : ((s : Int) != 0) = false := by simp [h2]
          have Hst := hid (sidesTo_none (f := f) (k := k) (fun h => h.2 (by rw [← hs]; exact h2)))
          clear h1 h2 hs
          gi_wp2
          gi_quiet (fail)
          gi_wp2
          refine ⟨fun _ h => (by cases h), ?_⟩
          gi_wp2
          go_roundw
          case rel => exact ⟨k + 1, by go_num, by omega, by rw [Hst.out]; exact hJd _ _ _ HJ.out, HB.out⟩
          case measure => simp [intOf]; omega
        · have hd2 : ((s : Int) != 0) = true := by simp; omega
          have Hst := hid (sidesTo_some hf (k := k) (by rw [← hs]; exact h1) (by rw [← hs]; exact h2))
          have Hpre : Hid (sidesTo f k ++ [⟨s, hs64⟩] <+: sidesF f) := hid (by
            have e : sidesTo f (k + 1) = sidesTo f k ++ [⟨s, hs64⟩] := by rw [Hst.out]; simp [hs]
            rw [← e]
            have := sidesTo_prefix f (6 - (k + 1)) (k + 1)
            rwa [show k + 1 + (6 - (k + 1)) = 6 by omega] at this)
          have Hst' : Hid (sidesTo f (k + 1) = sidesTo f k ++ [⟨s, hs64⟩]) := hid (by rw [Hst.out]; simp [hs])
          have HY : Hid (∀ W', J (sidesTo f k) W' → YieldAt Fence.wide (n - 1) Try.prog l #[.int .i64 (s : Int)] W' fun e W'' =>
              (e = .returned (.bool true) ∧ J (sidesTo f k ++ [⟨s, hs64⟩]) W'' ∧ KeepB B0 W' W'') ∨ (e = .returned (.bool false) ∧ Jx (sidesTo f k ++ [⟨s, hs64⟩]) W'')) := hid (fun W' hj => hY _ ⟨s, hs64⟩ W' hj Hpre.out)
          clear h1 h2 hs Hst
          gi_wp2
          gi_quiet (fail)
          obtain ⟨fn, tmps, assign, body, hy, hR⟩ := HY.out _ (hJd _ _ nq HJ.out)
          gi_wp2
          refine hR.mono ?_
          rintro e W3 (⟨rfl, hJ3, hk3⟩ | ⟨rfl, hJx3⟩)
          · have hBr3 : W3.heap[B0]? = some (.cells #[.int .i64 (f : Int)] 2 (0, 0)) := Eq.trans hk3 HB.out
            have c03 := (box_cell hBr3).1
            gi_wp2
            go_roundw
            case rel => exact ⟨k + 1, by go_num, by omega, by rw [Hst'.out]; exact hJ3, hBr3⟩
            case measure => simp [intOf]; omega
          · gi_wp2
            refine bodyPost_ret (results_none rfl _ _ _) rfl ?_
            exact ⟨⟨_, rfl⟩, .inr ⟨_, Hpre.out, hJx3⟩⟩
    · obtain rfl : k = 6 := by omega
      gi_wp2
      go_end0
      exact ⟨⟨_, rfl⟩, .inl ⟨_, rfl, hJs⟩⟩

set_option maxHeartbeats 1000000 in
/-- sidesOf: its argument is boxed; the function value captures the box. -/
theorem sides_in (n : Nat) (x : Int) (w : World) :
    CallsIn Fence.wide n Try.prog 142 #[.int .i64 x] w fun e w' => e = .returned (.func (.func 183) #[] #[.pointer (some ⟨w.heap.size, 0, none⟩)]) ∧ w' = w.alloc (.cells #[.int .i64 x] 2) := by
  refine callsIn_of_wp Try.func142 rfl trivial ?_ rfl
  simp only [Try.ntmps142, List.size_toArray, List.length_cons, List.length_nil, Nat.reduceAdd, Nat.reduceSub, Array.replicate_succ, Array.replicate_zero, List.push_toArray, List.append_toArray, List.nil_append, List.cons_append]
  gi_wp2
  go_ret
  exact ⟨rfl, rfl⟩

theorem grown_drewN (W : World) (m : Nat) : W.grownBy (W.drewN m) none := ⟨rfl, rfl, rfl, Nat.le_refl _, fun _ _ _ => rfl⟩

theorem sides_stops (n : Nat) (hn : 1 ≤ n) (B0 f : Nat) (hf : f < 64) (w : World) (hB : B0 < w.heap.size)
    (hc : w.heap[B0]? = some (.cells #[.int .i64 (f : Int)] 2 (0, 0))) :
    SeqStopsK Fence.wide n Try.prog 183 #[.pointer (some ⟨B0, 0, none⟩)] (fun x : Fin 64 => #[Value.int .i64 (x.val : Int)]) (KeepB B0) (fun ys => ys = sidesF f) (fun pre => pre <+: sidesF f) 64 w :=
  fun l J Jx W hW hA _ hY h0 => sides1_in n hn l B0 f hf J Jx (fun pre x W1 hj hp => hY pre x W1 hj (by have h1 := hp.length_le; have h2 := sides_len f 6; unfold sidesF at h1; simp only [List.length_append, List.length_cons, List.length_nil] at h1; omega)) (fun pre W m h => hA pre W _ none h (grown_drewN W m) (fun r e => by cases e)) W ((hW.block B0 hB).trans hc) h0

end Go.Proofs.Ytbgkalkipalndaa

/-! Iterators that keep a state of their own in cells: what lies in the blocks that they lay themselves. -/
namespace Go.Proofs.Ytbgkalkipalndaa
open Go.RowKit Go.Shelf

attribute [local go_sem] Oper.semAt_some

/-- I abides new blocks, and the turn of one of the k blocks from lo on, or of one behind them that is no cells. -/
def OwnIn {β : Type} (lo k : Nat) (I : β → World → Prop) : Prop :=
  ∀ s W W' row, I s W → W.grownBy W' row → (∀ r, row = some r → lo ≤ r ∧ (r < lo + k ∨ ∃ o : Obj, W.heap[r]? = some o ∧ o.isCells = false)) → I s W'

/-- The blocks Bs and the k blocks from lo on lie as they lay; no block is lost. -/
structure KeepP (Bs : List Nat) (lo k : Nat) (W W' : World) : Prop where
  size : W.heap.size ≤ W'.heap.size
  same : ∀ r, (r ∈ Bs ∨ (lo ≤ r ∧ r < lo + k)) → W'.heap[r]? = W.heap[r]?

theorem KeepP.refl (Bs : List Nat) (lo k : Nat) (W : World) : KeepP Bs lo k W W := ⟨Nat.le_refl _, fun _ _ => rfl⟩
theorem KeepP.trans {Bs : List Nat} {lo k : Nat} {X Y Z : World} (h : KeepP Bs lo k X Y) (h' : KeepP Bs lo k Y Z) : KeepP Bs lo k X Z := ⟨Nat.le_trans h.size h'.size, fun r hr => (h'.same r hr).trans (h.same r hr)⟩
theorem KeepP.of_grownBy {Bs : List Nat} {lo k : Nat} {W W' : World} {row : Option Nat} (hg : W.grownBy W' row) (hB : ∀ b ∈ Bs, b < W.heap.size) (hlo : lo + k ≤ W.heap.size) (hrow : ∀ j, row = some j → j ∉ Bs ∧ (j < lo ∨ lo + k ≤ j)) : KeepP Bs lo k W W' :=
  ⟨hg.size, fun r hr => hg.block r (by rcases hr with h | h; exact hB r h; omega) (fun e => by have := hrow r e.symm; rcases hr with h | h; exact this.1 h; omega)⟩
theorem KeepP.of_below {Bs : List Nat} {lo k B : Nat} {W W' : World} (h : Below B W W') (hB : ∀ b ∈ Bs, b < B) (hlo : lo + k ≤ B) : KeepP Bs lo k W W' :=
  ⟨h.size, fun r hr => h.block r (by rcases hr with h | h; exact hB r h; omega)⟩
theorem KeepP.less {Bs Bs' : List Nat} {lo lo' k k' : Nat} {W W' : World} (h : KeepP Bs lo k W W') (hB : ∀ b ∈ Bs', b ∈ Bs ∨ (lo ≤ b ∧ b < lo + k)) (hlo : lo ≤ lo') (hk : lo' + k' ≤ lo + k) : KeepP Bs' lo' k' W W' :=
  ⟨h.size, fun r hr => h.same r (by rcases hr with h | h; exact hB r h; exact .inr (by omega))⟩
theorem KeepP.setCell {Bs : List Nat} {lo k : Nat} (W : World) (b : Nat) (o : Nat) (v : Value) (hb : b ∉ Bs ∧ (b < lo ∨ lo + k ≤ b)) : KeepP Bs lo k W (W.setCell ⟨b, o, none⟩ v) :=
  ⟨by simp [World.setCell], fun r hr => Below.heap_setCell _ _ _ _ (fun e => by simp only at e; subst e; rcases hr with h | h; exact hb.1 h; omega)⟩

theorem OwnIn.less {β : Type} {lo lo' k k' : Nat} {I : β → World → Prop} (h : OwnIn lo k I) (hlo : lo ≤ lo') (hk : lo' + k' ≤ lo + k) : OwnIn lo' k' I :=
  fun s W W' row hs hg hr => h s W W' row hs hg (fun r e => by
    obtain ⟨h1, h2⟩ := hr r e
    refine ⟨by omega, ?_⟩
    rcases h2 with h2 | h2
    · exact .inl (by omega)
    · exact .inr h2)
theorem OwnIn.and {β : Type} {lo k : Nat} {I I' : β → World → Prop} (h : OwnIn lo k I) (h' : OwnIn lo k I') : OwnIn lo k (fun s W => I s W ∧ I' s W) := fun s W W' row hs hg hr => ⟨h s W W' row hs.1 hg hr, h' s W W' row hs.2 hg hr⟩
theorem OwnIn.alloc {β : Type} {lo k : Nat} {I : β → World → Prop} (h : OwnIn lo k I) {s : β} {W : World} (o : Obj) (hs : I s W) : I s (W.alloc o) := h s W _ none hs (World.grownBy_alloc W o none) (fun r e => by cases e)
theorem OwnIn.drewN {β : Type} {lo k : Nat} {I : β → World → Prop} (h : OwnIn lo k I) {s : β} {W : World} (m : Nat) (hs : I s W) : I s (W.drewN m) := h s W _ none hs (grown_drewN W m) (fun r e => by cases e)
theorem OwnIn.putObj {β : Type} {lo k : Nat} {I : β → World → Prop} (h : OwnIn lo k I) {s : β} {W : World} {l : Nat} (o' : Obj) (hs : I s W) (h1 : lo ≤ l) (h2 : l < lo + k) : I s (W.putObj l o') :=
  h s W _ (some l) hs (grownBy_putObj' W l o') (fun r e => by cases e; exact ⟨h1, .inl h2⟩)
theorem OwnIn.map {β γ : Type} {lo k : Nat} {I : β → World → Prop} (h : OwnIn lo k I) (f : γ → β) : OwnIn lo k (fun s W => I (f s) W) := fun s W W' row hs hg hr => h (f s) W W' row hs hg hr
theorem ownIn_pure {β : Type} (lo k : Nat) (p : β → Prop) : OwnIn lo k (fun s (_ : World) => p s) := fun _ _ _ _ hs _ _ => hs
/-- What lies in a block of cells ahead of lo, or beyond the k blocks, stays. -/
theorem ownIn_block {β : Type} {lo k : Nat} {b : Nat} (f : β → Obj) (hb : b < lo) : OwnIn lo k (fun s (W : World) => W.heap[b]? = some (f s)) :=
  fun s W W' row hs hg hr => (hg.block b (Array.getElem?_eq_some_iff.1 hs).1 (fun e => by have := (hr b e.symm).1; omega)).trans hs
theorem ownIn_below {β : Type} {lo k n₀ : Nat} {w₀ : World} (h0 : n₀ ≤ lo) (hsz : n₀ ≤ w₀.heap.size) : OwnIn lo k (fun (_ : β) W => Below n₀ w₀ W) :=
  fun _ W W' row hs hg hr => hs.grown hg (Nat.le_trans hsz hs.size) (fun r e => by have := (hr r e).1; omega)

/-- An iterator's contract: it hands over the elements of L, one after the other, until a round says no more; it lays k blocks of its own when it begins, and reads the blocks Bs; every invariant that abides the turns of its own blocks is carried on. -/
def SeqStopsP {α : Type} (F : Fence) (n : Nat) (P : Program) (g : Nat) (lb : Array Value) (encs : α → Array Value) (Bs : List Nat) (k : Nat) (L : List α) (w0 : World) : Prop :=
  ∀ (l : Nat) (J Jx : List α → World → Prop) (W : World), Below w0.heap.size w0 W → OwnIn W.heap.size k J → OwnIn W.heap.size k Jx →
    (∀ pre x W1, pre ++ [x] <+: L → W.heap.size + k ≤ W1.heap.size → J pre W1 → YieldAt F (n - 1) P l (encs x) W1 fun e W' => KeepP Bs W.heap.size k W1 W' ∧ ((e = .returned (.bool true) ∧ J (pre ++ [x]) W') ∨ (e = .returned (.bool false) ∧ Jx (pre ++ [x]) W'))) →
    J [] W →
    CallsIn F n P g (#[.func (.yield l) #[] #[]] ++ lb) W fun e W' => (∃ v, e = .returned v) ∧ (J L W' ∨ ∃ pre, pre <+: L ∧ Jx pre W')

/-- How a round may be left. -/
def postP {α : Type} (Bs : List Nat) (lo k : Nat) (I : List α → World → Prop) (Ix : Code → List α → World → Prop) (xs : List α) (W : World) : Exit → Act → World → Prop
  | .normal, _, W' => KeepP Bs lo k W W' ∧ I xs W'
  | .ret, _, W' => KeepP Bs lo k W W' ∧ Ix .ret xs W'
  | .exit id, _, W' => KeepP Bs lo k W W' ∧ Ix (.exit id) xs W'
  | .goto t, _, W' => KeepP Bs lo k W W' ∧ Ix (.goto t) xs W'
  | .panic _, _, _ => False
  | .outgrown, _, _ => False

/-- A loop over such an iterator. -/
theorem wpIn_rangeFunc_P {α : Type} {F : Fence} {n : Nat} {P : Program} {w : World} {g : Operand} {ps : Array Tmp} {assign body : Code} {Q : Exit → Act → World → Prop} {a : Act}
    (hro : F.round = none) (h1 : 1 ≤ n) {gf : Nat} {lb : Array Value} (hg : a.eval g = .func (.func gf) #[] lb) (hFg : F.fn gf) (eg : ∀ args w, (callFunc gf args).run P w = .ok (.enter gf args) w)
    {encs : α → Array Value} {Bs : List Nat} {k : Nat} {L : List α} {w0 : World} (hseq : SeqStopsP F (n - 1) P gf lb encs Bs k L w0) (hBs : ∀ b ∈ Bs, b < w.heap.size)
    (hb0 : Below w0.heap.size w0 w) (hps : ∀ x, (encs x).size = ps.size)
    (I : List α → World → Prop) (Ix : Code → List α → World → Prop) (hI : OwnIn w.heap.size (2 + k) I) (hIx : ∀ c, OwnIn w.heap.size (2 + k) (Ix c)) (h0 : I [] w) (a₁ : α → Act)
    (hassign : ∀ (l : Nat) (x : α) (W : World) (K : Act → World → Prop), K (a₁ x) W →
      assign.wpIn (F.inRound l) (n - 1 - 1) P (Exit.then K (fun _ _ _ => False)) { tmps := (ps.zip (encs x)).foldl (fun t (p, v) => t.setIfInBounds p v) a.tmps, defers := [] } W)
    (hbody : ∀ (l : Nat) (pre : List α) (x : α) (W : World), pre ++ [x] <+: L → w.heap.size + (2 + k) ≤ W.heap.size → I pre W → body.wpIn (F.inRound l) (n - 1 - 1) P (postP Bs w.heap.size (2 + k) I Ix (pre ++ [x]) W) (a₁ x) W)
    (hdone : ∀ (W : World), I L W → W.heap[w.heap.size]? = some (.deferred (some [])) → Q .normal { a with defers := { target := .collected w.heap.size, args := #[] } :: a.defers } W)
    (hstop : ∀ (c : Code) (pre : List α) (W : World), pre <+: L → Ix c pre W → W.heap[w.heap.size]? = some (.deferred (some [])) → c.wpIn F n P Q { a with defers := { target := .collected w.heap.size, args := #[] } :: a.defers } W) :
    (Code.rangeFunc g ps assign body).wpIn F n P Q a w := by
  refine wpIn_rangeFunc ?_
  intro fn hfn
  rw [hro]
  let rec_ : LoopState → Option Code → Loop := fun st pe => { state := st, pending := pe, fn, tmps := a.tmps, params := ps, assign, body, defers := w.heap.size }
  obtain ⟨rec, hrec⟩ : ∃ rec, rec = rec_ := ⟨_, rfl⟩
  obtain ⟨W1, hW1⟩ : ∃ W1, (w.alloc (.deferred (some []))).alloc (.loop (rec .ready none)) = W1 := ⟨_, rfl⟩
  have hs1 : W1.heap.size = w.heap.size + 2 := by rw [← hW1]; simp
  have hL1 : W1.heap[w.heap.size + 1]? = some (.loop (rec .ready none)) := by
    rw [← hW1]; have := World.alloc_heap_new (w.alloc (.deferred (some []))) (.loop (rec .ready none)); rwa [World.size_alloc] at this
  have hK1 : W1.heap[w.heap.size]? = some (.deferred (some [])) := by
    rw [← hW1]; exact (Below.heap_alloc _ _ _ (by simp)).trans (World.alloc_heap_new w _)
  have hI1 : I [] W1 := by rw [← hW1]; exact hI.alloc _ (hI.alloc _ h0)
  have hb1 : Below w0.heap.size w0 W1 := by
    rw [← hW1]; exact hb0.trans ((((Below.refl _ w).alloc (Nat.le_refl _) _).alloc (by simp) _).mono hb0.size)
  have hIk : ∀ {I' : List α → World → Prop}, OwnIn w.heap.size (2 + k) I' → OwnIn W1.heap.size k I' := fun h => h.less (by omega) (by omega)
  refine ⟨w.heap.size + 1, [{ target := .collected w.heap.size, args := #[] }], W1, { target := .fn (.func gf) lb, args := #[.func (.yield (w.heap.size + 1)) #[] #[]] }, W1, gf,
    #[.func (.yield (w.heap.size + 1)) #[] #[]] ++ lb, W1, ?_, ?_, ?_, ?_, fun _ => h1, ?_⟩
  · rw [← hW1, hrec]; exact run_enterLoop_outer _ _ _ _ _
  · simp only [resolve, hg]
    simp [go_sem]
  · intro f' hf'; simp [Target.leads] at hf'; subst hf'; exact hFg
  · simp [invoke, go_sem, eg]
  · have hrow : ∀ {A B : World} {row : Option Nat} {b : Nat} {o : Obj}, A.grownBy B row → (∀ r, row = some r → W1.heap.size ≤ r ∧ (r < W1.heap.size + k ∨ ∃ o : Obj, A.heap[r]? = some o ∧ o.isCells = false)) → b < W1.heap.size → A.heap[b]? = some o → B.heap[b]? = some o :=
      fun hg' hr hb ho => (hg'.block _ (Array.getElem?_eq_some_iff.1 ho).1 (fun e => by have := (hr _ e.symm).1; omega)).trans ho
    refine (hseq (w.heap.size + 1)
      (fun pre W => I pre W ∧ W.heap[w.heap.size + 1]? = some (.loop (rec .ready none)) ∧ W.heap[w.heap.size]? = some (.deferred (some [])))
      (fun pre W => ∃ c, Ix c pre W ∧ W.heap[w.heap.size + 1]? = some (.loop (rec .done (some c))) ∧ W.heap[w.heap.size]? = some (.deferred (some [])))
      W1 hb1
      (fun s A B row hs hg' hr => ⟨hIk hI s A B row hs.1 hg' hr, hrow hg' hr (by omega) hs.2.1, hrow hg' hr (by omega) hs.2.2⟩)
      (fun s A B row hs hg' hr => by
        obtain ⟨c, hc, hl, hk⟩ := hs
        exact ⟨c, hIk (hIx c) s A B row hc hg' hr, hrow hg' hr (by omega) hl, hrow hg' hr (by omega) hk⟩)
      ?_ ⟨hI1, hL1, hK1⟩).mono ?_
    · rintro pre x W hpre hsk ⟨hi, hl, hk⟩
      have hlt : w.heap.size + 1 < W.heap.size := (Array.getElem?_eq_some_iff.1 hl).1
      have hy := run_yield (P := P) (args := encs x) hl (by rw [hrec]; exact hps x)
      rw [hrec] at hy
      refine ⟨fn, _, assign, body, hy, roundIn_of_wpIn hfn (hassign _ x W _ ?_)⟩
      clear hy
      refine ⟨_, run_beginRound hl (by rw [hrec]), ?_⟩
      obtain ⟨W2, hW2⟩ : ∃ W2, W2 = W.putObj (w.heap.size + 1) (.loop { rec .ready none with state := .busy }) := ⟨_, rfl⟩
      have hl2 : W2.heap[w.heap.size + 1]? = some (.loop { rec .ready none with state := .busy }) := by rw [hW2]; exact World.putObj_heap_same hlt
      have hk2 : W2.heap[w.heap.size]? = some (.deferred (some [])) := by rw [hW2]; exact (World.putObj_heap_other (by omega)).trans hk
      have hi2 : I pre W2 := by rw [hW2]; exact hI.putObj _ hi (by omega) (by omega)
      have hkp : ∀ {X Y : World} {o : Obj}, X = Y.putObj (w.heap.size + 1) o → KeepP Bs W1.heap.size k Y X := fun e => ⟨by rw [e, World.putObj_size]; exact Nat.le_refl _, fun r hr => by
        rw [e]
        refine World.putObj_heap_other ?_
        rcases hr with h | h
        · have := hBs r h; omega
        · omega⟩
      refine wpIn_mono (hbody _ pre x _ hpre (by rw [World.putObj_size]; omega) (by rw [← hW2]; exact hi2)) ?_
      rw [← hW2]
      have fin : ∀ (jump : Option Code) (W3 : World), KeepP Bs w.heap.size (2 + k) W2 W3 →
          (Instr.endRound (w.heap.size + 1) jump).run P W3 = .ok (.bool jump.isNone) (W3.putObj (w.heap.size + 1) (.loop (rec (if jump.isNone then .ready else .done) jump))) ∧
          (W3.putObj (w.heap.size + 1) (.loop (rec (if jump.isNone then .ready else .done) jump))).heap[w.heap.size + 1]? = some (.loop (rec (if jump.isNone then .ready else .done) jump)) ∧
          (W3.putObj (w.heap.size + 1) (.loop (rec (if jump.isNone then .ready else .done) jump))).heap[w.heap.size]? = some (.deferred (some [])) ∧
          KeepP Bs W1.heap.size k W (W3.putObj (w.heap.size + 1) (.loop (rec (if jump.isNone then .ready else .done) jump))) := fun jump W3 hk3 => by
        have hl3 := (hk3.same (w.heap.size + 1) (.inr ⟨by omega, by omega⟩)).trans hl2
        have hd3 := (hk3.same w.heap.size (.inr ⟨by omega, by omega⟩)).trans hk2
        have := run_endRound (P := P) jump hl3
        rw [hrec] at this ⊢
        exact ⟨this, World.putObj_heap_same (Array.getElem?_eq_some_iff.1 hl3).1, (World.putObj_heap_other (by omega)).trans hd3,
          (hkp hW2).trans ((hk3.less (fun b hb => .inl hb) (by omega) (by omega)).trans (hkp rfl))⟩
      rintro e a3 W3 hp
      cases e with
      | normal =>
        obtain ⟨hr, hl4, hk4, hkk⟩ := fin none W3 hp.1
        exact ⟨_, _, hr, hkk, .inl ⟨rfl, hI.putObj _ hp.2 (by omega) (by omega), hl4, hk4⟩⟩
      | ret =>
        obtain ⟨hr, hl4, hk4, hkk⟩ := fin (some .ret) W3 hp.1
        exact ⟨_, _, hr, hkk, .inr ⟨rfl, .ret, (hIx _).putObj _ hp.2 (by omega) (by omega), hl4, hk4⟩⟩
      | exit id =>
        obtain ⟨hr, hl4, hk4, hkk⟩ := fin (some (.exit id)) W3 hp.1
        exact ⟨_, _, hr, hkk, .inr ⟨rfl, .exit id, (hIx _).putObj _ hp.2 (by omega) (by omega), hl4, hk4⟩⟩
      | goto t =>
        obtain ⟨hr, hl4, hk4, hkk⟩ := fin (some (.goto t)) W3 hp.1
        exact ⟨_, _, hr, hkk, .inr ⟨rfl, .goto t, (hIx _).putObj _ hp.2 (by omega) (by omega), hl4, hk4⟩⟩
      | panic ch => exact hp.elim
      | outgrown => exact hp.elim
    · rintro e W2 ⟨⟨v, rfl⟩, (⟨hi, hl, hk⟩ | ⟨pre, hSp, c, hi, hl, hk⟩)⟩
      · exact ⟨none, _, by have := run_endLoop (P := P) hl (by rw [hrec]; simp [rec_]); rw [hrec] at this; exact this, hdone _ (hI.putObj _ hi (by omega) (by omega)) ((World.putObj_heap_other (by omega)).trans hk)⟩
      · exact ⟨some c, _, by have := run_endLoop (P := P) hl (by rw [hrec]; simp [rec_]); rw [hrec] at this; exact this, hstop c pre _ hSp ((hIx c).putObj _ hi (by omega) (by omega)) ((World.putObj_heap_other (by omega)).trans hk)⟩

end Go.Proofs.Ytbgkalkipalndaa

/-! The signs of the sides of a face, the model's. -/
namespace Go.Proofs.Ytbgkalkipalndaa
open Go.RowKit

/-- The first j signs of a face with n + 1 vertices. -/
def sgTo (n j : Nat) : List Int := (List.range j).map fun i => 1 - 2 * (((n - i) % 2 : Nat) : Int)
def signL (f : Nat) : List Int := if ones f = 1 then [] else sgTo (ones f - 1) (ones f)
theorem sgTo_succ (n j : Nat) : sgTo n (j + 1) = sgTo n j ++ [1 - 2 * (((n - j) % 2 : Nat) : Int)] := by simp [sgTo, List.range_succ]
theorem sgTo_len (n j : Nat) : (sgTo n j).length = j := by simp [sgTo]

/-- What SignsOf hands back. -/
noncomputable def signsOfR (V : Int) (fs : List Int) (f : Int) : List Int × Int := if isCB V fs then (if f ∈ fs then (signL f.toNat, 0) else ([], 2)) else ([], 1)

theorem signsOfR_len (V : Int) (fs : List Int) (f : Int) (_h : fs.length ≤ 1048576) : (signsOfR V fs f).1.length ≤ 1048576 := by
  unfold signsOfR
  have := ones_le f.toNat
  split
  · split
    · unfold signL
      split
      · simp
      · simp only [sgTo_len]; omega
    · simp
  · simp

theorem sign_mono {P : Program} {fn : FuncId} {args : Array Value} {w : World} {r : List Int × Int} {xs : List Int} {c : Int} (hr : r = (xs, c))
    (h : Calls P fn args w fun e w' => ∃ v, e = .returned (.tuple #[v, .int .i64 c]) ∧ Res w w' v xs) : Calls P fn args w fun e w' => ∃ v, e = .returned (.tuple #[v, .int .i64 r.2]) ∧ Res w w' v r.1 := by
  subst hr; exact h

end Go.Proofs.Ytbgkalkipalndaa

/-! The sides of a face with their signs: an iterator over an iterator. -/
namespace Go.Proofs.Ytbgkalkipalndaa
open Go.RowKit Go.Shelf

attribute [local go_sem] Oper.semAt_some

theorem sides_P (n : Nat) (hn : 1 ≤ n) (B0 f : Nat) (hf : f < 64) (w : World) (hB : B0 < w.heap.size)
    (hc : w.heap[B0]? = some (.cells #[.int .i64 (f : Int)] 2 (0, 0))) :
    SeqStopsP Fence.wide n Try.prog 183 #[.pointer (some ⟨B0, 0, none⟩)] (fun x : Fin 64 => #[Value.int .i64 (x.val : Int)]) [B0] 0 (sidesF f) w :=
  fun l J Jx W hW hJ _ hY h0 => (sides1_in n hn l B0 f hf (fun pre W1 => J pre W1 ∧ W.heap.size ≤ W1.heap.size) Jx
    (fun pre x W1 hj hp => YieldAt.mono (hY pre x W1 hp hj.2 hj.1) (fun e W' ⟨hk, h⟩ => by
      rcases h with ⟨he, hj'⟩ | ⟨he, hj'⟩
      · exact .inl ⟨he, ⟨hj', Nat.le_trans hj.2 hk.size⟩, hk.same B0 (.inl (by simp))⟩
      · exact .inr ⟨he, hj'⟩))
    (fun pre W m h => ⟨hJ.drewN m h.1, h.2⟩) W ((hW.block B0 hB).trans hc) ⟨h0, Nat.le_refl _⟩).mono (by
      rintro e W' ⟨hv, ⟨ys, rfl, hj⟩ | ⟨pre, hp, hj⟩⟩
      · exact ⟨hv, .inl hj.1⟩
      · exact ⟨hv, .inr ⟨pre, hp, hj⟩⟩)

/-- Sides with their signs. -/
def sgN (j : Nat) : Int := if j % 2 = 0 then 1 else -1
def signedL : Nat → List (Fin 64) → List (Fin 64 × Int)
  | _, [] => []
  | j, x :: l => (x, sgN j) :: signedL (j + 1) l
theorem signedL_append (l l' : List (Fin 64)) : ∀ j, signedL j (l ++ l') = signedL j l ++ signedL (j + l.length) l' := by
  induction l with
  | nil => intro j; simp [signedL]
  | cons x l ih => intro j; simp [signedL, ih, Nat.add_assoc, Nat.add_comm 1]
theorem signedL_snoc (l : List (Fin 64)) (x : Fin 64) : signedL 0 (l ++ [x]) = signedL 0 l ++ [(x, sgN l.length)] := by rw [signedL_append]; simp [signedL]
theorem signedL_len (l : List (Fin 64)) : ∀ j, (signedL j l).length = l.length := by
  induction l with
  | nil => intro j; rfl
  | cons x l ih => intro j; simp [signedL, ih]
theorem signedL_prefix {l l' : List (Fin 64)} (h : l <+: l') : signedL 0 l <+: signedL 0 l' := by
  obtain ⟨t, rfl⟩ := h
  rw [signedL_append]
  exact List.prefix_append _ _
theorem sgN_succ (j : Nat) : sgN (j + 1) = -sgN j := by
  unfold sgN
  rcases Nat.mod_two_eq_zero_or_one j with h | h <;> simp [h, Nat.add_mod]
theorem sgN_abs (j : Nat) : -1 ≤ sgN j ∧ sgN j ≤ 1 := by unfold sgN; split <;> omega
theorem sgN_neg (j : Nat) : wrap64 (-sgN j) = sgN (j + 1) := by
  rw [sgN_succ]
  have := sgN_abs j
  exact IntWalk.wrap64_in _ ⟨by omega, by omega⟩
def signedF (f : Nat) : List (Fin 64 × Int) := signedL 0 (sidesF f)


theorem yieldAny {m : Nat} (m' : Nat) {P : Program} {l : Nat} {args : Array Value} {W : World} {R : Ending → World → Prop} (h : YieldAt Fence.wide m P l args W R) : YieldAt Fence.wide m' P l args W R := by
  obtain ⟨fn, tmps, assign, body, hy, hR⟩ := h
  exact ⟨fn, tmps, assign, body, hy, ⟨hR.1, fun c cs _ => hR.2 c cs (fun d hd => by cases hd)⟩⟩
theorem yieldRound {m l0 : Nat} {P : Program} {l : Nat} {args : Array Value} {W : World} {R : Ending → World → Prop} (h : YieldAt Fence.wide m P l args W R) : YieldAt (Fence.wide.inRound l0) m P l args W R := h

theorem shut_grown {Ds : List Nat} {D : Nat} {w w' : World} (h : Shut Ds w w') (hD : ∀ E ∈ Ds, E = D) : w.grownBy w' (some D) :=
  ⟨h.os, h.tape, h.output, by rw [h.size]; exact Nat.le_refl _, fun k _ hk => h.block k (fun hm => hk (by rw [hD k hm]))⟩

end Go.Proofs.Ytbgkalkipalndaa

/-! pairsByLow: a map from low faces to their pairs. -/
namespace Go.Proofs.Ytbgkalkipalndaa
open Go.RowKit

def pairV (x y : Int) : Value := .agg #[.int .i64 x, .int .i64 y]
def pairD (x y : Int) : DataW Unit := .agg [.lit (.int .i64 x), .lit (.int .i64 y)]
/-- How the map's values are read. -/
def pairElem (v : Value) : Option (DataW Unit × List MemPlace) := match v with
  | .agg a => match a.toList with
    | [.int .i64 x, .int .i64 y] => some (pairD x y, [])
    | _ => none
  | _ => none
theorem pairElem_mk (x y : Int) : pairElem (.agg #[.int .i64 x, .int .i64 y]) = some (pairD x y, []) := rfl
theorem pairElem_inv {v : Value} {x y : Int} {ps : List MemPlace} (h : pairElem v = some (pairD x y, ps)) : v = .agg #[.int .i64 x, .int .i64 y] := by
  unfold pairElem at h
  split at h
  · rename_i a
    split at h
    · rename_i x' y' he
      simp [pairD] at h
      obtain ⟨rfl, rfl⟩ := h.1
      have : a = #[.int .i64 x', .int .i64 y'] := by cases a; simp at he; simp [he]
      rw [this]
    · cases h
  · cases h
theorem zero_pair (w : World) : (zeroValue 77).run Try.prog w = .ok (.agg #[.int .i64 0, .int .i64 0]) w := by kernel_rfl

/-- The map with the first k pairs. -/
def lowsD (ps : List Int) : Nat → DataW Unit
  | 0 => .map []
  | k + 1 => (lowsD ps k).put (.int .i64 (at0 ps (k * 2))) (pairD (at0 ps (k * 2)) (at0 ps (k * 2 + 1)))
theorem lowsD_map (ps : List Int) : ∀ k, Maps.IsMap (lowsD ps k)
  | 0 => Maps.isMap_empty
  | k + 1 => (lowsD_map ps k).put _ _
/-- No two pairs have the same low face. -/
def LowsApart (ps : List Int) (n : Nat) : Prop := ∀ i j, i < j → j < n → at0 ps (i * 2) ≠ at0 ps (j * 2)
theorem okTo_apart {fs ps : List Int} {n : Nat} (h : OkTo fs ps n) : LowsApart ps n := by
  intro i j hij hj e
  have := (h j hj).2.2 i hij
  unfold clashB at this
  rw [decide_eq_true e.symm] at this
  simp at this
theorem lows_hit {ps : List Int} {a : Int} : ∀ (k i : Nat), LowsApart ps k → i < k → at0 ps (i * 2) = a → (∀ z, (lowsD ps k).atKey (.int .i64 a) z = pairD a (at0 ps (i * 2 + 1))) ∧ Maps.has (lowsD ps k) (.int .i64 a) = true
  | 0, _, _, h, _ => absurd h (Nat.not_lt_zero _)
  | k + 1, i, hd, hi, ha => by
    by_cases e : i = k
    · subst e
      unfold lowsD
      rw [ha]
      exact ⟨fun z => Maps.atKey_put_same (lowsD_map ps i) (show WideAt.IsKeyLit (.int .i64 a) from trivial) _ _, Maps.has_put_same (lowsD_map ps i) (show WideAt.IsKeyLit (.int .i64 a) from trivial) _⟩
    · have hne : a ≠ at0 ps (k * 2) := by rw [← ha]; exact hd i k (by omega) (by omega)
      obtain ⟨h1, h2⟩ := lows_hit k i (fun i j h1 h2 => hd i j h1 (by omega)) (by omega) ha
      unfold lowsD
      exact ⟨fun z => by rw [Maps.atKey_put_other (by simpa using hne)]; exact h1 z, by rw [Maps.has_put_other (by simpa using hne)]; exact h2⟩
theorem lows_miss {ps : List Int} {a : Int} : ∀ (k : Nat), (∀ i, i < k → at0 ps (i * 2) ≠ a) → (∀ z, (lowsD ps k).atKey (.int .i64 a) z = z) ∧ Maps.has (lowsD ps k) (.int .i64 a) = false
  | 0, _ => ⟨fun _ => rfl, rfl⟩
  | k + 1, h => by
    have hne : a ≠ at0 ps (k * 2) := fun e => h k (by omega) e.symm
    obtain ⟨h1, h2⟩ := lows_miss k (fun i hi => h i (by omega))
    unfold lowsD
    exact ⟨fun z => by rw [Maps.atKey_put_other (by simpa using hne)]; exact h1 z, by rw [Maps.has_put_other (by simpa using hne)]; exact h2⟩

/-- 'own, ok := lows[a]'. -/
theorem lows_look {w : World} {b N n : Nat} {ps : List Int} {a : Int} (hown : w.ownsMap Try.prog 2 pairElem b N (lowsD ps n)) (hd : LowsApart ps n) (ha : (Lit.int .i64 a).wf = true) :
    (∃ i, i < n ∧ at0 ps (i * 2) = a ∧ highOf ps n a = at0 ps (i * 2 + 1) ∧ (Instr.lookup 151 (.map (some b)) (.int .i64 a) true).run Try.prog w = .ok (.tuple #[.agg #[.int .i64 a, .int .i64 (highOf ps n a)], .bool true]) w) ∨
    (highOf ps n a = 0 ∧ (Instr.lookup 151 (.map (some b)) (.int .i64 a) true).run Try.prog w = .ok (.tuple #[.agg #[.int .i64 0, .int .i64 0], .bool false]) w) := by
  obtain ⟨v, qs, hrun, hv⟩ := hown.look_ok (Maps.int_keyed Try.underlying2) Try.underlying151 (zero_pair w) (pairElem_mk 0 0) (Maps.keyOf_int_mk Try.underlying2 ha)
  by_cases hex : ∃ i, i < n ∧ at0 ps (i * 2) = a
  · obtain ⟨i, hi, hia⟩ := hex
    have hh : highOf ps n a = at0 ps (i * 2 + 1) := highOf_some hi hia (fun j hj e => hd j i hj hi (e.trans hia.symm))
    obtain ⟨h1, h2⟩ := lows_hit n i hd hi hia
    rw [h1, ← hh] at hv
    rw [h2, pairElem_inv hv] at hrun
    exact .inl ⟨i, hi, hia, hh, hrun⟩
  · obtain ⟨h1, h2⟩ := lows_miss n (fun i hi e => hex ⟨i, hi, e⟩)
    rw [h1] at hv
    rw [h2, pairElem_inv hv] at hrun
    exact .inr ⟨highOf_none (fun i hi e => hex ⟨i, hi, e⟩), hrun⟩

set_option maxRecDepth 100000 in
set_option maxHeartbeats 4000000 in
theorem lows_any (a1 : Option Addr) (n cap1 : Nat) (ps : List Int) (w : World) (hx1 : SlI w w.heap.size a1 ps) (hp : ps.length = 2 * n) (hn : n ≤ 1048576) (hw : ∀ x ∈ ps, (Lit.int .i64 x).wf = true) :
    Calls Try.prog 127 #[.slice a1 n cap1] w fun e w' => e = .returned (.map (some w.heap.size)) ∧ w'.ownsMap Try.prog 2 pairElem w.heap.size n (lowsD ps n) ∧ Below w.heap.size w w' := by
  have Hy := hid hx1
  have Hp := hid hp
  have Hw := hid hw
  have hmm := @run_makeMap Try.prog
  clear hx1 hp hw
  have H0 : Hid ((w.alloc (.map #[] 0)).ownsMap Try.prog 2 pairElem w.heap.size 0 (lowsD ps 0)) := hid (World.ownsMap_made w Try.prog 2 pairElem)
  go_enter Try.func127, Try.ntmps127
  go_wp2_with fail
  clear hmm
  go_loopw [9] (fun i wr => ∃ k : Nat, k ≤ n ∧ i = .int .i64 k ∧ wr.ownsMap Try.prog 2 pairElem w.heap.size k (lowsD ps k) ∧ Below w.heap.size w wr) (fun i _ => n - (intOf i).toNat)
  case atStart => exact ⟨0, Nat.zero_le _, rfl, H0.out, (Below.refl _ w).alloc (Nat.le_refl _) _⟩
  case round =>
    obtain ⟨k, hk, rfl, hown, hB⟩ := hrel
    by_cases hlt : k < n
    · obtain ⟨b, off, hb, rfl, hc⟩ : ∃ b off, b < w.heap.size ∧ a1 = some ⟨b, off, none⟩ ∧ ∀ i, i < ps.length → w.cell? ⟨b, off + i, none⟩ = some (.int .i64 (ps[i]?.getD 0)) := by
        rcases Hy.out with h | h
        · have := Hp.out; rw [h] at this; simp at this; omega
        · exact h
      have hc2 : wr.cell? ⟨b, off + k * 2, none⟩ = some (.int .i64 (at0 ps (k * 2))) := (hB.cell (p := ⟨b, off + k * 2, none⟩) hb).trans (hc _ (by have := Hp.out; omega))
      have hc3 : wr.cell? ⟨b, off + k * 2 + 1, none⟩ = some (.int .i64 (at0 ps (k * 2 + 1))) := (hB.cell (p := ⟨b, off + (k * 2 + 1), none⟩) hb).trans (hc _ (by have := Hp.out; omega))
      obtain ⟨x, hx⟩ : ∃ x, x = at0 ps (k * 2) := ⟨_, rfl⟩
      obtain ⟨y, hy⟩ : ∃ y, y = at0 ps (k * 2 + 1) := ⟨_, rfl⟩
      have hlen := Hp.out
      have hwx : (Lit.int .i64 x).wf = true := Hw.out x (by rw [hx]; exact getD_mem (by omega))
      have Hsn : Hid (lowsD ps (k + 1) = (lowsD ps k).put (.int .i64 x) (pairD x y)) := hid (by rw [hx, hy]; rfl)
      rw [← hx] at hc2
      rw [← hy] at hc3
      have hi0 : (0 : Int) ≤ (k : Int) := by omega
      have hi1 : (k : Int) < (n : Int) := by omega
      have hlm := hown.lt
      obtain ⟨wa, hrun1, hwa, hga⟩ := World.ownsMap.update (w := wr.alloc (.cells #[.int .i64 x, .int .i64 y] 77)) (World.ownsMap.alloc hown _) (Maps.int_keyed Try.underlying2) Try.underlying151 (show k < maxLen by unfold maxLen; omega) (Maps.keyOf_int_mk Try.underlying2 hwx) (pairElem_mk x y)
      rw [← Hsn.out] at hwa
      have Hwa := hid hwa
      have HBa := hid (((hB.alloc hB.size (.cells #[.int .i64 x, .int .i64 y] 77))).grown hga (by have := hB.size; simp; omega) (fun r e => by cases e; exact Nat.le_refl _))
      clear hwa hga hx hy hc hlen hown hB
      go_wp2_with fail
      go_roundw
      case rel => exact ⟨k + 1, by omega, by go_num, Hwa.out, HBa.out⟩
      case measure => simp [intOf]; omega
    · obtain rfl : k = n := by omega
      have Hown := hid hown
      have HB := hid hB
      clear hown hB
      go_wp2_with fail
      go_ret
      exact ⟨rfl, Hown.out, HB.out⟩

end Go.Proofs.Ytbgkalkipalndaa

/-! FacesOf, the model's and the program's. -/
namespace Go.Proofs.Ytbgkalkipalndaa
open Go.RowKit

/-- The faces of a dimension. -/
def ofDim (fs : List Int) (d : Int) : List Int := fs.filter fun x => decide ((ones x.toNat : Int) = d + 1)

noncomputable def facesOfR (V : Int) (fs : List Int) (d : Int) : List Int × Int := if isCB V fs then (if 0 ≤ d ∧ d ≤ 5 then (ofDim fs d, 0) else ([], 2)) else ([], 1)

theorem facesOfR_len (V : Int) (fs : List Int) (d : Int) (h : fs.length ≤ 1048576) : (facesOfR V fs d).1.length ≤ 1048576 := by
  unfold facesOfR
  split
  · split
    · exact Nat.le_trans (List.length_filter_le _ _) h
    · simp
  · simp

theorem pair_mono {P : Program} {f : FuncId} {args : Array Value} {w : World} {r : List Int × Int} {xs : List Int} {c : Int} (hr : r = (xs, c))
    (h : Calls P f args w fun e w' => ∃ v, e = .returned (.tuple #[v, .int .i64 c]) ∧ Res w w' v xs) : Calls P f args w fun e w' => ∃ v, e = .returned (.tuple #[v, .int .i64 r.2]) ∧ Res w w' v r.1 := by
  subst hr; exact h



end Go.Proofs.Ytbgkalkipalndaa

/-! The dimension of a complex, the model's and the program's. -/
namespace Go.Proofs.Ytbgkalkipalndaa
open Go.RowKit

/-- The greater number, as the model has it. -/
def more (m y : Int) : Int := if m < y then y else m

/-- The dimension of a list of faces. -/
def top (fs : List Int) : Int := fs.foldl (fun m x => more m ((ones x.toNat : Int) - 1)) (-1)

theorem top_snoc (pre : List Int) (x : Int) : top (pre ++ [x]) = more (top pre) ((ones x.toNat : Int) - 1) := by simp [top]

theorem top_from (fs : List Int) : ∀ m : Int, -1 ≤ m → m ≤ 5 → -1 ≤ fs.foldl (fun m x => more m ((ones x.toNat : Int) - 1)) m ∧ fs.foldl (fun m x => more m ((ones x.toNat : Int) - 1)) m ≤ 5 ∧ m ≤ fs.foldl (fun m x => more m ((ones x.toNat : Int) - 1)) m ∧ ∀ x ∈ fs, (ones x.toNat : Int) - 1 ≤ fs.foldl (fun m x => more m ((ones x.toNat : Int) - 1)) m := by
  induction fs with
  | nil => intro m h0 h1; exact ⟨h0, h1, Int.le_refl _, by simp⟩
  | cons x fs ih =>
    intro m h0 h1
    have ho := ones_le x.toNat
    have hm : -1 ≤ more m ((ones x.toNat : Int) - 1) ∧ more m ((ones x.toNat : Int) - 1) ≤ 5 ∧ m ≤ more m ((ones x.toNat : Int) - 1) ∧ (ones x.toNat : Int) - 1 ≤ more m ((ones x.toNat : Int) - 1) := by
      unfold more
      split <;> omega
    obtain ⟨a1, a2, a3, a4⟩ := ih _ hm.1 hm.2.1
    simp only [List.foldl_cons]
    refine ⟨a1, a2, by omega, ?_⟩
    intro y hy
    rcases List.mem_cons.1 hy with rfl | hy
    · omega
    · exact a4 y hy

theorem top_lo (fs : List Int) : -1 ≤ top fs := (top_from fs (-1) (by omega) (by omega)).1
theorem top_hi (fs : List Int) : top fs ≤ 5 := (top_from fs (-1) (by omega) (by omega)).2.1
theorem top_ge (fs : List Int) {x : Int} (hx : x ∈ fs) : (ones x.toNat : Int) - 1 ≤ top fs := (top_from fs (-1) (by omega) (by omega)).2.2.2 x hx

theorem cell_alloc0 {W : World} {p : Addr} {v : Value} (h : W.cell? p = some v) (o : Obj) : (W.alloc o).cell? p = some v :=
  (World.cell?_alloc_some W p o (show (W.cell? p).isSome = true by rw [h]; rfl)).trans h


set_option maxHeartbeats 1000000 in
theorem dimI_any (V : Int) (a0 : Option Addr) (cap : Nat) (fs : List Int) (w : World) (hx : SlI w w.heap.size a0 fs) (hl : fs.length ≤ 1048576) (hf : ∀ x ∈ fs, 1 ≤ x ∧ x ≤ 63) :
    Calls Try.prog 114 #[.agg #[.int .i64 V, .slice a0 fs.length cap]] w fun e w' => e = .returned (.int .i64 (top fs)) ∧ Below w.heap.size w w' := by
  have hB0 : Below w.heap.size w (w.alloc (.cells #[.int .i64 V, .slice a0 fs.length cap] 30)) := (Below.refl _ w).alloc (Nat.le_refl _) _
  have Hx0 := hid hx
  have Hf := hid hf
  clear hx hf
  go_enter Try.func114, Try.ntmps114
  go_wp2
  go_loopw [3, 9] (fun m i wr => ∃ k : Nat, k ≤ fs.length ∧ i = .int .i64 k ∧ m = .int .i64 (top (fs.take k)) ∧ wr = w.alloc (.cells #[.int .i64 V, .slice a0 fs.length cap] 30)) (fun _ i _ => fs.length - (intOf i).toNat)
  case atStart => exact ⟨0, Nat.zero_le _, rfl, by simp [top], rfl⟩
  case round =>
    obtain ⟨k, hk, rfl, rfl, rfl⟩ := hrel
    by_cases hlt : k < fs.length
    · obtain ⟨b, off, hb, rfl, hc⟩ : ∃ b off, b < w.heap.size ∧ a0 = some ⟨b, off, none⟩ ∧ ∀ i, i < fs.length → w.cell? ⟨b, off + i, none⟩ = some (.int .i64 (fs[i]?.getD 0)) := by
        rcases Hx0.out with rfl | h
        · simp at hlt
        · exact h
      obtain ⟨x, hx⟩ : ∃ x : Nat, (x : Int) = fs[k]?.getD 0 := ⟨(fs[k]?.getD 0).toNat, by have := Hf.out _ (getD_mem hlt); omega⟩
      have hx64 : x < 64 := by have := Hf.out _ (getD_mem hlt); omega
      have hck : ∀ o, (w.alloc o).cell? ⟨b, off + k, none⟩ = some (.int .i64 (x : Int)) := cell_alloc0 (by rw [hx]; exact hc k hlt)
      have hi0 : (0 : Int) ≤ (k : Int) := by omega
      have hi1 : (k : Int) < (fs.length : Int) := by omega
      have Ht : Hid (top (fs.take (k + 1)) = more (top (fs.take k)) ((ones x : Int) - 1)) := hid (by rw [take_snoc hlt, ← hx, top_snoc]; simp)
      have ht0 := top_lo (fs.take k)
      have ht1 := top_hi (fs.take k)
      obtain ⟨t, htt⟩ : ∃ t, t = top (fs.take k) := ⟨_, rfl⟩
      rw [← htt] at Ht ht0 ht1 ⊢
      have ho := ones_le x
      clear hx hc htt
      by_cases hm : t < (ones x : Int) - 1
      · have hmm : more t ((ones x : Int) - 1) = (ones x : Int) - 1 := by unfold more; rw [if_pos hm]
        rw [hmm] at Ht
        clear hmm
        go_wp2_with (go_at_call 115; refine (dim_any x _ hx64).mono ?_; rintro e w' ⟨rfl, rfl⟩)
        go_roundw
        case rel => exact ⟨k + 1, by omega, by go_num, by first | (rw [Ht.out]; done) | (rw [Ht.out]; congr 1; omega), trivial⟩
        case measure => simp [intOf]; omega
      · have hmm : more t ((ones x : Int) - 1) = t := by unfold more; rw [if_neg hm]
        rw [hmm] at Ht
        have hm' : (ones x : Int) - 1 ≤ t := by omega
        clear hmm
        go_wp2_with (go_at_call 115; refine (dim_any x _ hx64).mono ?_; rintro e w' ⟨rfl, rfl⟩)
        go_roundw
        case rel => exact ⟨k + 1, by omega, by go_num, by first | (rw [Ht.out]; done) | (rw [Ht.out]; congr 1; omega), trivial⟩
        case measure => simp [intOf]; omega
    · go_wp2
      go_ret
      obtain rfl : k = fs.length := by omega
      exact ⟨ret_int (by rw [List.take_of_length_le (Nat.le_refl _)]), hB0⟩

end Go.Proofs.Ytbgkalkipalndaa

/-! stepsFrom: the steps from a face as an iterator. -/
namespace Go.Proofs.Ytbgkalkipalndaa
open Go.RowKit Go.Shelf

attribute [local go_sem] Oper.semAt_some

/-- The sides that a step leads to: all but the face itself. -/
def otherF (a : Int) (l : List (Fin 64)) : List (Fin 64) := l.filter fun x => decide ((x.val : Int) ≠ a)
def stepsF (ps : List Int) (n : Nat) (a : Int) : List (Fin 64) := if highOf ps n a = 0 then [] else otherF a (sidesF (highOf ps n a).toNat)
theorem otherF_snoc (a : Int) (l : List (Fin 64)) (x : Fin 64) : otherF a (l ++ [x]) = otherF a l ++ (if (x.val : Int) = a then [] else [x]) := by
  unfold otherF
  rw [List.filter_append]
  by_cases h : (x.val : Int) = a <;> simp [h]
theorem otherF_prefix {a : Int} {l l' : List (Fin 64)} (h : l <+: l') : otherF a l <+: otherF a l' := by
  obtain ⟨t, rfl⟩ := h
  unfold otherF
  rw [List.filter_append]
  exact List.prefix_append _ _

set_option maxHeartbeats 1000000 in
/-- stepsFrom: its arguments are boxed; the function value captures the boxes. -/
theorem stepsFrom_in (n : Nat) (M : Nat) (a : Int) (w : World) :
    CallsIn Fence.wide n Try.prog 130 #[.map (some M), .int .i64 a] w fun e w' => e = .returned (.func (.func 179) #[] #[.pointer (some ⟨w.heap.size, 0, none⟩), .pointer (some ⟨w.heap.size + 1, 0, none⟩)]) ∧ w' = (w.alloc (  .cells #[.map (some M)] 151)).alloc (.cells #[.int .i64 a] 2) := by
  refine callsIn_of_wp Try.func130 rfl trivial ?_ rfl
  simp only [Try.ntmps130, List.size_toArray, List.length_cons, List.length_nil, Nat.reduceAdd, Nat.reduceSub, Array.replicate_succ, Array.replicate_zero, List.push_toArray, List.append_toArray, List.nil_append, List.cons_append]
  gi_wp2
  go_ret
  exact ⟨rfl, rfl⟩

/-- Two pairs are compared number by number. -/
theorem eq_pair (x y x' y' : Int) (w : World) : (Op.equalIn 10000 77 (.agg #[.int .i64 x, .int .i64 y]) (.agg #[.int .i64 x', .int .i64 y'])).run Try.prog w = .ok (x == x' && y == y') w := by
  have hu := Try.underlying2
  have hi := Try.isAgg2
  have hs := Try.sizeOf2
  rw [show (10000 : Nat) = 9999 + 1 from rfl, Op.equalIn]
  simp only [Sem.run_bind, run_underlying Try.underlying77, Result.andThen_ok]
  simp only [Std.Legacy.Range.forIn_eq_forIn_range', Std.Legacy.Range.size, Nat.sub_zero, Nat.add_sub_cancel, Nat.div_one, List.range'_succ, List.range'_zero, List.forIn_cons, List.forIn_nil]
  go_simp
  by_cases e1 : x = x' <;> by_cases e2 : y = y' <;> simp [e1, e2]

theorem KeepP.new {Bs : List Nat} {lo k : Nat} {W : World} (o : Obj) (hB : ∀ b ∈ Bs, b < W.heap.size) (hk : lo + k ≤ W.heap.size) : KeepP Bs lo k W (W.alloc o) :=
  ⟨by simp, fun r hr => Below.heap_alloc _ _ _ (by rcases hr with h | h; exact hB r h; omega)⟩
theorem stepsF_hit (ps : List Int) (n : Nat) (a : Int) : stepsF ps n a = otherF a (sidesF (highOf ps n a).toNat) := by
  unfold stepsF
  split
  · rename_i h
    rw [h]
    have : sidesF (0 : Int).toNat = [] := by decide
    rw [this]
    rfl
  · rfl

set_option maxRecDepth 100000 in
set_option maxHeartbeats 2000000 in
/-- Its iterator. -/
theorem steps_P (n : Nat) (hn : 4 ≤ n) (bm ba M N k : Nat) (ps : List Int) (a : Int) (w : World)
    (hcm : w.heap[bm]? = some (.cells #[.map (some M)] 151 (0, 0))) (hca : w.heap[ba]? = some (.cells #[.int .i64 a] 2 (0, 0)))
    (hown : w.ownsMap Try.prog 2 pairElem M N (lowsD ps k)) (hd : LowsApart ps k) (hh : HighsB ps k) (ha : (Lit.int .i64 a).wf = true) :
    SeqStopsP Fence.wide n Try.prog 179 #[.pointer (some ⟨bm, 0, none⟩), .pointer (some ⟨ba, 0, none⟩)] (fun x : Fin 64 => #[Value.int .i64 (x.val : Int)]) [] 5 (stepsF ps k a) w := by
  intro l J Jx W hW hJ hJx hY h0
  have hcmW := (hW.block bm (lt_of_get hcm)).trans hcm
  have hcaW := (hW.block ba (lt_of_get hca)).trans hca
  have cm := (box_cell hcmW).1
  have ca := (box_cell hcaW).1
  have hbm : bm < W.heap.size := lt_of_get hcmW
  have hba : ba < W.heap.size := lt_of_get hcaW
  have hMW : W.ownsMap Try.prog 2 pairElem M N (lowsD ps k) := by
    have hlt := hown.lt
    obtain ⟨es, clock, hb, F, hs, hD⟩ := hown
    exact ⟨es, clock, (hW.block M hlt).trans hb, F, hs, hD⟩
  have HY := hid hY
  have h1 : 1 ≤ n := by omega
  have cm1 : (W.alloc (.cells #[.func (.yield l) #[] #[]] 115)).cell? ⟨bm, 0, none⟩ = some (.map (some M)) := cell_alloc0 cm _
  have ca1 : (W.alloc (.cells #[.func (.yield l) #[] #[]] 115)).cell? ⟨ba, 0, none⟩ = some (.int .i64 a) := cell_alloc0 ca _
  have hlk := lows_look (w := W.alloc (.cells #[.func (.yield l) #[] #[]] 115)) (hMW.alloc _) hd ha
  clear hY hcmW hcaW hcm hca hown hMW cm ca
  show CallsIn Fence.wide n Try.prog 179 #[.func (.yield l) #[] #[], .pointer (some ⟨bm, 0, none⟩), .pointer (some ⟨ba, 0, none⟩)] W _
  rcases hlk with ⟨i, hi, hia, hio, hrun⟩ | ⟨hz, hrun⟩
  · obtain ⟨f, hf⟩ : ∃ f : Nat, highOf ps k a = f := ⟨(highOf ps k a).toNat, by have := hh a; omega⟩
    have hf64 : f < 64 := by have := hh a; omega
    rw [stepsF_hit, hf, Int.toNat_natCast] at HY ⊢
    rw [hf] at hrun
    clear hi hia hio hf hd hh
    refine callsIn_of_wp_marks Try.func179 rfl trivial ?_ rfl
    simp only [Try.ntmps179, List.size_toArray, List.length_cons, List.length_nil, Nat.reduceAdd, Nat.reduceSub, Array.replicate_succ, Array.replicate_zero, List.push_toArray, List.append_toArray, List.nil_append, List.cons_append]
    gi_wp2_with (first
      | (refine ⟨trivial, ?_⟩; gi_at_call 142; refine (sides_in _ _ _).mono ?_; rintro e w' ⟨rfl, rfl⟩))
    clear hrun cm1 ca1
    have hb1 := heap_alloc_new W (.cells #[.func (.yield l) #[] #[]] 115)
    have hb2 := heap_alloc_new (W.alloc (.cells #[.func (.yield l) #[] #[]] 115)) (.cells #[.int .i64 a, .int .i64 (f : Int)] 77)
    have hb3 := heap_alloc_new ((W.alloc (.cells #[.func (.yield l) #[] #[]] 115)).alloc (.cells #[.int .i64 a, .int .i64 (f : Int)] 77)) (.cells #[.int .i64 (f : Int)] 2)
    rw [World.size_alloc] at hb2
    rw [World.size_alloc, World.size_alloc] at hb3
    have hJ3 := hJ.alloc (.cells #[.int .i64 (f : Int)] 2) (hJ.alloc (.cells #[.int .i64 a, .int .i64 (f : Int)] 77) (hJ.alloc (.cells #[.func (.yield l) #[] #[]] 115) h0))
    refine wpIn_rangeFunc_P rfl h1 (gf := 183) (lb := #[.pointer (some ⟨W.heap.size + 1 + 1, 0, none⟩)]) rfl trivial (enters_of Try.func183 (by kernel_rfl) rfl)
      (sides_P (n - 1) (by omega) (W.heap.size + 1 + 1) f hf64 _ (by simp) hb3) (by simp) (Below.refl _ _) (fun _ => rfl)
      (fun pre W' => J (otherF a pre) W' ∧ W'.heap[W.heap.size]? = some (.cells #[.func (.yield l) #[] #[]] 115 (0, 0)) ∧ W'.heap[W.heap.size + 1]? = some (.cells #[.int .i64 a, .int .i64 (f : Int)] 77 (0, 0)))
      (fun c _ W' => c = .ret ∧ ∃ q, q <+: otherF a (sidesF f) ∧ Jx q W')
      (OwnIn.and ((hJ.map (otherF a)).less (by simp <;> omega) (by simp <;> omega)) (OwnIn.and (ownIn_block (β := List (Fin 64)) (fun _ => _) (by simp <;> omega)) (ownIn_block (β := List (Fin 64)) (fun _ => _) (by simp <;> omega))))
      (fun c s A B row hs hg hr => ⟨hs.1, by obtain ⟨q, hq, hx⟩ := hs.2; exact ⟨q, hq, (hJx.less (by simp <;> omega) (by simp <;> omega)) q A B row hx hg hr⟩⟩)
      ⟨hJ3, ?_, ?_⟩
      (fun x => { tmps := #[.func (.yield l) #[] #[], .pointer (some ⟨bm, 0, none⟩), .pointer (some ⟨ba, 0, none⟩), .pointer (some ⟨W.heap.size, 0, none⟩), .pointer (some ⟨W.heap.size + 1, 0, none⟩), .bool true, .int .i64 (x.val : Int), undef, .tuple #[.agg #[.int .i64 a, .int .i64 (f : Int)], .bool true], .map (some M), .int .i64 a, .tuple #[.agg #[.int .i64 a, .int .i64 (f : Int)], .bool true], .agg #[.int .i64 a, .int .i64 (f : Int)], .bool true, .bool true, .bool false, .pointer (some ⟨W.heap.size + 1, 1, none⟩), .int .i64 (f : Int), .func (.func 183) #[] #[.pointer (some ⟨W.heap.size + 1 + 1, 0, none⟩)], .int .i64 (x.val : Int), undef, undef, undef, undef, undef, undef, undef, undef, undef, undef, undef, undef, undef], defers := [] }) ?assign ?body ?done ?stop
    · exact (Below.heap_alloc _ _ _ (by simp <;> omega)).trans ((Below.heap_alloc _ _ _ (by simp <;> omega)).trans hb1)
    · exact (Below.heap_alloc _ _ _ (by simp <;> omega)).trans hb2
    case assign =>
      intro l' x W3 K hK
      gi_wp2
      exact hK
    case body =>
      rintro l' pre x W3 hpre hsz ⟨hj, hyb, hpb⟩
      simp only [World.size_alloc] at hsz
      have cy := (box_cell hyb).1
      obtain ⟨co0, co1, _, _⟩ := two_of hpb
      have d0 : ∀ o : Obj, (W3.alloc o).cell? ⟨W.heap.size + 1, 0, none⟩ = some (.int .i64 a) := fun o => cell_alloc0 co0 o
      have d1 : ∀ o : Obj, (W3.alloc o).cell? ⟨W.heap.size + 1, 1, none⟩ = some (.int .i64 (f : Int)) := fun o => cell_alloc0 co1 o
      have dy : ∀ o : Obj, (W3.alloc o).cell? ⟨W.heap.size, 0, none⟩ = some (.func (.yield l) #[] #[]) := fun o => cell_alloc0 cy o
      have Heq := eq_pair (x.val : Int) (f : Int) a (f : Int)
      have hff : ((f : Int) == (f : Int)) = true := by simp
      have Hpre := hid (otherF_prefix (a := a) hpre)
      have Hsn := hid (otherF_snoc a pre x)
      have Hyb := hid hyb
      have Hpb := hid hpb
      by_cases hxa : (x.val : Int) = a
      · have e : otherF a (pre ++ [x]) = otherF a pre := by rw [Hsn.out, if_pos hxa]; simp
        have HJ3 := hid hj
        have g1 : ((x.val : Int) == a) = true := by simp [hxa]
        rw [hxa] at Heq
        clear hyb hpb hj hpre
        gi_wp2
        refine ⟨(fun _ h => by cases h), ?_⟩
        gi_wp2
        refine ⟨KeepP.new _ (by simp; omega) (by simp; omega), ?_⟩
        exact ⟨by rw [e]; exact hJ.alloc _ HJ3.out, (Below.heap_alloc _ _ _ (by omega)).trans Hyb.out, (Below.heap_alloc _ _ _ (by omega)).trans Hpb.out⟩
      · have e : otherF a (pre ++ [x]) = otherF a pre ++ [x] := by rw [Hsn.out, if_neg hxa]
        have g1 : ((x.val : Int) == a) = false := by simpa using hxa
        have hys := HY.out (otherF a pre) x (W3.alloc (.cells #[.int .i64 (x.val : Int), .int .i64 (f : Int)] 77)) (by rw [← e]; exact Hpre.out) (by simp; omega) (hJ.alloc _ hj)
        rw [← e] at hys
        clear hyb hpb hj hpre
        obtain ⟨fn, tmps, assign, body, hy, hR⟩ := yieldRound (l0 := l') (yieldAny (n - 1 - 1 - 1) hys)
        have He := hid e
        clear e
        gi_wp2
        refine ⟨fun _ => by omega, hR.mono ?_⟩
        rintro e W4 ⟨hk, (⟨rfl, hj4⟩ | ⟨rfl, hx4⟩)⟩
        · have hpb4 := (hk.same (W.heap.size + 1) (.inr ⟨by omega, by omega⟩)).trans ((Below.heap_alloc _ _ _ (by omega)).trans Hpb.out)
          have hyb4 := (hk.same W.heap.size (.inr ⟨by omega, by omega⟩)).trans ((Below.heap_alloc _ _ _ (by omega)).trans Hyb.out)
          have Hk := hid hk
          have Hpb4 := hid hpb4
          have Hyb4 := hid hyb4
          have HJ4 := hid hj4
          clear hk hpb4 hyb4 hj4
          gi_wp2
          refine ⟨?_, HJ4.out, Hyb4.out, Hpb4.out⟩
          exact (KeepP.new _ (by simp; omega) (by simp; omega)).trans (Hk.out.less (fun b hb => by simp at hb; subst hb; exact .inr ⟨by omega, by omega⟩) (by simp <;> omega) (by simp <;> omega))
        · gi_wp2
          exact ⟨(KeepP.new _ (by simp; omega) (by simp; omega)).trans (hk.less (fun b hb => by simp at hb; subst hb; exact .inr ⟨by omega, by omega⟩) (by simp <;> omega) (by simp <;> omega)), rfl, _, Hpre.out, hx4⟩
    case done =>
      rintro W3 ⟨hj, _, _⟩ hD
      simp only [World.size_alloc] at hD
      gi_wp2
      refine leaves_marks (by simp) [_] _ (by simp) (fun D hD' => by simp only [List.mem_singleton] at hD'; subst hD'; simp only [World.size_alloc]; exact hD) (fun w' hw' => ?_)
      exact ⟨_, results_none rfl _ _ _, ⟨_, rfl⟩, .inl (hJ _ W3 w' (some (W.heap.size + 3)) hj (shut_grown hw' (by simp)) (fun r e => by cases e; exact ⟨by omega, .inl (by omega)⟩))⟩
    case stop =>
      rintro c pre W3 hpre ⟨rfl, q, hq, hx⟩ hD
      simp only [World.size_alloc] at hD
      gi_wp2
      refine leaves_marks (by simp) [_] _ (by simp) (fun D hD' => by simp only [List.mem_singleton] at hD'; subst hD'; simp only [World.size_alloc]; exact hD) (fun w' hw' => ?_)
      exact ⟨_, results_none rfl _ _ _, ⟨_, rfl⟩, .inr ⟨q, hq, hJx _ W3 w' (some (W.heap.size + 3)) hx (shut_grown hw' (by simp)) (fun r e => by cases e; exact ⟨by omega, .inl (by omega)⟩)⟩⟩
  · have hs0 : stepsF ps k a = [] := by unfold stepsF; rw [if_pos hz]
    rw [hs0]
    have hJ2 := hJ.alloc (.cells #[.int .i64 0, .int .i64 0] 77) (hJ.alloc (.cells #[.func (.yield l) #[] #[]] 115) h0)
    refine callsIn_of_wp_marks Try.func179 rfl trivial ?_ rfl
    simp only [Try.ntmps179, List.size_toArray, List.length_cons, List.length_nil, Nat.reduceAdd, Nat.reduceSub, Array.replicate_succ, Array.replicate_zero, List.push_toArray, List.append_toArray, List.nil_append, List.cons_append]
    gi_wp2
    refine leaves_marks (by simp) [] _ (by simp) (by simp) (fun w' hw' => ?_)
    exact ⟨_, results_none rfl _ _ _, ⟨_, rfl⟩, .inl (hJ _ _ w' none hJ2 ⟨hw'.os, hw'.tape, hw'.output, by rw [hw'.size]; exact Nat.le_refl _, fun j _ _ => hw'.block j (by simp)⟩ (fun r e => by cases e))⟩

end Go.Proofs.Ytbgkalkipalndaa
