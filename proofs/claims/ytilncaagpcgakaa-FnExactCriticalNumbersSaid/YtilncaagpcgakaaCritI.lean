import Derived.Test.YtilncaagpcgakaaIsPair
/-! The critical faces, the program's. -/
namespace Go.Proofs.Ytilncaagpcgakaa
open Go.RowKit

noncomputable def pcodeR (V : Int) (fs : List Int) (n : Nat) (ps : List Int) : Int := if isCB V fs then (if pairingB fs ps n then 0 else 2) else 1
def critL (fs ps : List Int) : List Int := fs.filter fun x => !decide (x ∈ ps)
noncomputable def criticalFacesR (V : Int) (fs : List Int) (n : Nat) (ps : List Int) : List Int × Int := if pcodeR V fs n ps = 0 then (critL fs ps, 0) else ([], pcodeR V fs n ps)

theorem pcode_cases (V : Int) (fs : List Int) (n : Nat) (ps : List Int) :
    (IsC V fs ∧ OkTo fs ps n ∧ pcodeR V fs n ps = 0 ∧ isPairingR V fs n ps = (true, 0) ∧ pairingB fs ps n = true) ∨ (IsC V fs ∧ ¬ OkTo fs ps n ∧ pcodeR V fs n ps = 2 ∧ isPairingR V fs n ps = (false, 0) ∧ pairingB fs ps n = false) ∨ (¬ IsC V fs ∧ pcodeR V fs n ps = 1 ∧ isPairingR V fs n ps = (false, 1)) := by
  unfold pcodeR isPairingR
  by_cases hC : IsC V fs
  · rw [isCB_true hC]
    by_cases ho : OkTo fs ps n
    · rw [pairingB_true ho]; exact .inl ⟨hC, ho, by simp, by simp, rfl⟩
    · rw [pairingB_false ho]; exact .inr (.inl ⟨hC, ho, by simp, by simp, rfl⟩)
  · rw [isCB_false hC]; exact .inr (.inr ⟨hC, by simp, by simp⟩)

set_option maxRecDepth 100000 in
set_option maxHeartbeats 1000000 in
theorem pcode_impl (V : Int) (a0 : Option Addr) (cap : Nat) (fs : List Int) (a1 : Option Addr) (n cap1 : Nat) (ps : List Int) (w : World) (hx : SlI w w.heap.size a0 fs) (hx1 : SlI w w.heap.size a1 ps) (hl : fs.length ≤ 1048576) (hp : ps.length = 2 * n) (hn : n ≤ 1048576) (hw : ∀ x ∈ ps, (Lit.int .i64 x).wf = true) :
    Calls Try.prog 54 #[.agg #[.int .i64 V, .slice a0 fs.length cap], .slice a1 n cap1] w fun e w' => e = .returned (.int .i64 (pcodeR V fs n ps)) ∧ Below w.heap.size w w' := by
  have hB0 : Below w.heap.size w (w.alloc (.cells #[.int .i64 V, .slice a0 fs.length cap] 30)) := (Below.refl _ w).alloc (Nat.le_refl _) _
  have HI := hid (implIsPairing V a0 cap fs a1 n cap1 ps _ (hx.later hB0 hB0.size) (hx1.later hB0 hB0.size) hl hp hn hw)
  clear hx hx1 hp hw
  rcases pcode_cases V fs n ps with ⟨_, _, h0, h1, _⟩ | ⟨_, _, h0, h1, _⟩ | ⟨_, h0, h1⟩
  all_goals
    rw [h1] at HI
    rw [h0]
    clear h0 h1
    go_enter Try.func54, Try.ntmps54
    go_wp2_with fail
    refine HI.out.mono ?_
    rintro e w1 ⟨rfl, hB1⟩
    go_wp2_with fail
    go_ret
    exact ⟨rfl, hB0.trans (hB1.mono (by simp))⟩

theorem critWanted (L : List Int) (bm b n : Nat) (x : Int) (w : World) (hx0 : 1 ≤ x) (hx1 : x ≤ 63) (hm : w.cell? ⟨bm, 0, none⟩ = some (.map (some b))) (hM : w.ownsMap Try.prog 2 (plainElem (H := Unit) Try.prog 4) b n (knownD L)) :
    Calls Try.prog 56 #[.int .i64 x, .pointer (some ⟨bm, 0, none⟩)] w fun e w' => e = .returned (.bool (!decide (x ∈ L))) ∧ Below w.heap.size w w' := by
  have hlook := lookup_known hM (p := x) (WalkArith.wf_i64 (by omega))
  clear hM
  obtain ⟨c, hc⟩ : ∃ c, c = decide (x ∈ L) := ⟨_, rfl⟩
  rw [← hc] at hlook ⊢
  clear hc
  cases c
  · go_enter Try.func56, Try.ntmps56
    go_wp2_with fail
    go_ret
    exact ⟨rfl, Below.refl _ _⟩
  · go_enter Try.func56, Try.ntmps56
    go_wp2_with fail
    go_ret
    exact ⟨rfl, Below.refl _ _⟩

theorem res_mono {P : Program} {f : FuncId} {args : Array Value} {w : World} {r : List Int × Int} {xs : List Int} {c : Int} (hr : r = (xs, c))
    (h : Calls P f args w fun e w' => ∃ v, e = .returned (.tuple #[v, .int .i64 c]) ∧ Res w w' v xs) : Calls P f args w fun e w' => ∃ v, e = .returned (.tuple #[v, .int .i64 r.2]) ∧ Res w w' v r.1 := by
  subst hr; exact h

/-- What the loop keeps: the map's variable, the map. -/
structure CrW (w1 wr : World) (L : List Int) : Prop where
  below : Below w1.heap.size w1 wr
  own : wr.ownsMap Try.prog 2 (plainElem (H := Unit) Try.prog 4) w1.heap.size L.length (knownD L)
  mbox : wr.heap[w1.heap.size + 1]? = some (.cells #[.map (some w1.heap.size)] 64 (0, 0))

set_option maxRecDepth 100000 in
set_option maxHeartbeats 4000000 in
theorem crit_ok (V : Int) (a0 : Option Addr) (cap : Nat) (fs : List Int) (a1 : Option Addr) (n cap1 : Nat) (ps : List Int) (w : World) (hx : SlI w w.heap.size a0 fs) (hx1 : SlI w w.heap.size a1 ps) (hl : fs.length ≤ 1048576) (hp : ps.length = 2 * n) (hn : n ≤ 1048576) (hw : ∀ x ∈ ps, (Lit.int .i64 x).wf = true)
    (hC : IsC V fs) (h0 : pcodeR V fs n ps = 0) :
    Calls Try.prog 21 #[.agg #[.int .i64 V, .slice a0 fs.length cap], .slice a1 n cap1] w fun e w' => ∃ v, e = .returned (.tuple #[v, .int .i64 0]) ∧ Res w w' v (critL fs ps) := by
  have hB0 : Below w.heap.size w (w.alloc (.cells #[.int .i64 V, .slice a0 fs.length cap] 30)) := (Below.refl _ w).alloc (Nat.le_refl _) _
  have HI := hid (pcode_impl V a0 cap fs a1 n cap1 ps _ (hx.later hB0 hB0.size) (hx1.later hB0 hB0.size) hl hp hn hw)
  rw [h0] at HI
  have Hx := hid hx
  have Hy := hid hx1
  have Hp := hid hp
  have Hw := hid hw
  have Hf := hid hC.range63
  have hmm := @run_makeMap Try.prog
  clear hx hx1 hp hw hC h0
  go_enter Try.func21, Try.ntmps21
  go_wp2_with fail
  refine HI.out.mono ?_
  rintro e w1 ⟨rfl, hB1⟩
  have HB1 := hid (hB0.trans (hB1.mono (by simp)))
  have q0 : w1.heap[w.heap.size]? = some (.cells #[.int .i64 V, .slice a0 fs.length cap] 30 (0, 0)) := (hB1.block _ (by simp)).trans (heap_alloc_new _ _)
  have Q0 := hid q0
  have hs1 : w.heap.size < w1.heap.size := by have := hB1.size; simp at this; omega
  have hF0 : CrW w1 ((w1.alloc (.map #[] 0)).alloc (.cells #[.map (some w1.heap.size)] 64)) [] := by
    have e3 := heap_alloc_new (w1.alloc (.map #[] 0)) (.cells #[.map (some w1.heap.size)] 64)
    rw [World.size_alloc] at e3
    exact ⟨((Below.refl _ w1).alloc (Nat.le_refl _) _).alloc (by simp) _, (World.ownsMap_made w1 Try.prog 2 (plainElem (H := Unit) Try.prog 4)).alloc _, e3⟩
  have HF0 := hid hF0
  clear hB0 hB1 q0 hF0
  go_wp2_with fail
  clear hmm
  go_loopw [19] (fun i wr => ∃ k : Nat, k ≤ n ∧ i = .int .i64 k ∧ CrW w1 wr (ps.take (k * 2))) (fun i _ => n - (intOf i).toNat)
  case atStart => exact ⟨0, Nat.zero_le _, rfl, by simpa using HF0.out⟩
  case round =>
    obtain ⟨k, hk, rfl, hcr⟩ := hrel
    have HC := hid hcr
    clear hcr HF0
    by_cases hlt : k < n
    · obtain ⟨b, off, hb, rfl, hc⟩ : ∃ b off, b < w.heap.size ∧ a1 = some ⟨b, off, none⟩ ∧ ∀ i, i < ps.length → w.cell? ⟨b, off + i, none⟩ = some (.int .i64 (ps[i]?.getD 0)) := by
        rcases Hy.out with h | h
        · have := Hp.out; rw [h] at this; simp at this; omega
        · exact h
      have hBw : Hid (Below w.heap.size w wr) := hid (HB1.out.trans (HC.out.below.mono (by omega)))
      have hc2 : wr.cell? ⟨b, off + k * 2, none⟩ = some (.int .i64 (at0 ps (k * 2))) := (hBw.out.cell (p := ⟨b, off + k * 2, none⟩) hb).trans (hc _ (by have := Hp.out; omega))
      have hc3 : wr.cell? ⟨b, off + k * 2 + 1, none⟩ = some (.int .i64 (at0 ps (k * 2 + 1))) := (hBw.out.cell (p := ⟨b, off + (k * 2 + 1), none⟩) hb).trans (hc _ (by have := Hp.out; omega))
      obtain ⟨x, hx⟩ : ∃ x, x = at0 ps (k * 2) := ⟨_, rfl⟩
      obtain ⟨y, hy⟩ : ∃ y, y = at0 ps (k * 2 + 1) := ⟨_, rfl⟩
      have hlen := Hp.out
      have hwx : (Lit.int .i64 x).wf = true := Hw.out x (by rw [hx]; exact getD_mem (by omega))
      have hwy : (Lit.int .i64 y).wf = true := Hw.out y (by rw [hy]; exact getD_mem (by omega))
      have Hsn : Hid (ps.take ((k + 1) * 2) = ps.take (k * 2) ++ [x] ++ [y]) := hid (by
        rw [show (k + 1) * 2 = k * 2 + 1 + 1 by omega, take_snoc (show k * 2 + 1 < ps.length by omega), take_snoc (show k * 2 < ps.length by omega), hx, hy]; rfl)
      have htl : (ps.take (k * 2)).length = k * 2 := by rw [List.length_take]; omega
      have Htl := hid htl
      rw [← hx] at hc2
      rw [← hy] at hc3
      have hmb : wr.cell? ⟨w1.heap.size + 1, 0, none⟩ = some (.map (some w1.heap.size)) := (box_cell HC.out.mbox).1
      have hsr : w1.heap.size + 1 < wr.heap.size := lt_get HC.out.mbox
      have hi0 : (0 : Int) ≤ (k : Int) := by omega
      have hi1 : (k : Int) < (n : Int) := by omega
      obtain ⟨wa, hrun1, hwa, hga⟩ := World.ownsMap.update (w := World.drew (wr.alloc (.cells #[.int .i64 x, .int .i64 y] 58))) (World.ownsMap.alloc HC.out.own _) (Maps.int_keyed Try.underlying2) Try.underlying64 (show (ps.take (k * 2)).length < maxLen by rw [htl]; unfold maxLen; omega) (Maps.keyOf_int_mk Try.underlying2 hwx) (plainElem_bool Try.underlying4 true)
      obtain ⟨wb, hrun2, hwb, hgb⟩ := World.ownsMap.update hwa (Maps.int_keyed Try.underlying2) Try.underlying64 (show (ps.take (k * 2)).length + 1 < maxLen by rw [htl]; unfold maxLen; omega) (Maps.keyOf_int_mk Try.underlying2 hwy) (plainElem_bool Try.underlying4 true)
      have hba : ∀ j, j ≠ w1.heap.size → j < wr.heap.size + 1 → wa.heap[j]? = (wr.alloc (.cells #[.int .i64 x, .int .i64 y] 58)).heap[j]? := fun j hj hlt => hga.block j (by show j < (wr.alloc _).heap.size; simp; omega) (by simpa using hj)
      have qa : wa.heap[wr.heap.size]? = some (.cells #[.int .i64 x, .int .i64 y] 58 (0, 0)) := (hba _ (by omega) (by omega)).trans (heap_alloc_new _ _)
      have qb : wb.heap[wr.heap.size]? = some (.cells #[.int .i64 x, .int .i64 y] 58 (0, 0)) := (hgb.block _ (lt_get qa) (by simp; omega)).trans qa
      have ma : wa.heap[w1.heap.size + 1]? = some (.cells #[.map (some w1.heap.size)] 64 (0, 0)) := (hba _ (by omega) (by omega)).trans ((Below.heap_alloc _ _ _ hsr).trans HC.out.mbox)
      have mb : wb.heap[w1.heap.size + 1]? = some (.cells #[.map (some w1.heap.size)] 64 (0, 0)) := (hgb.block _ (lt_get ma) (by simp)).trans ma
      obtain ⟨ca0, ca1, _, _⟩ := two_of qa
      obtain ⟨cb0, cb1, _, _⟩ := two_of qb
      have da := (box_cell ma).1
      have db := (box_cell mb).1
      have Hga := hid hga
      have Hgb := hid hgb
      have Hwb := hid hwb
      have Mb := hid mb
      clear hga hgb hwb hwa hba qa qb ma mb hx hy hc htl hlen
      go_wp2_with fail
      go_region_held3 (fun w' => w'.cell? ⟨wr.heap.size, 0, none⟩ = some (.int .i64 x) ∧ w'.cell? ⟨wr.heap.size, 1, none⟩ = some (.int .i64 y) ∧ w'.cell? ⟨w1.heap.size + 1, 0, none⟩ = some (.map (some w1.heap.size))) (go_keep) (first
        | (simp only [hrun1])
        | (simp only [hrun2]))
      go_wp2_with fail
      go_roundw
      case rel =>
        have hBx : Below w1.heap.size w1 wa := (HC.out.below.alloc HC.out.below.size _).grown (w := wr.alloc (.cells #[.int .i64 x, .int .i64 y] 58)) ⟨Hga.out.os, Hga.out.tape, Hga.out.output, Hga.out.size, Hga.out.block⟩ (by have := HC.out.below.size; simp; omega) (fun r e => by cases e; omega)
        refine ⟨k + 1, by omega, by go_num, hBx.grown Hgb.out hBx.size (fun r e => by cases e; omega), ?_, Mb.out⟩
        rw [Hsn.out, knownD_snoc, knownD_snoc, List.length_append, List.length_append]
        exact Hwb.out
      case measure => simp [intOf]; omega
    · obtain rfl : k = n := by omega
      have htk : ps.take (k * 2) = ps := List.take_of_length_le (by have := Hp.out; omega)
      rw [htk] at HC
      have hBw : Hid (Below w.heap.size w wr) := hid (HB1.out.trans (HC.out.below.mono (by omega)))
      have q0 : wr.heap[w.heap.size]? = some (.cells #[.int .i64 V, .slice a0 fs.length cap] 30 (0, 0)) := (HC.out.below.block _ hs1).trans Q0.out
      obtain ⟨k0, k1, _, _⟩ := two_of q0
      have HFW : Hid (Calls Try.prog 55 #[.agg #[.int .i64 V, .slice a0 fs.length cap], .func (.func 56) #[] #[.pointer (some ⟨w1.heap.size + 1, 0, none⟩)]] wr fun e w' => ∃ v, e = .returned v ∧ Res wr w' v (critL fs ps)) := hid (by
        unfold critL
        refine fw_any V _ cap fs wr 56 _ (fun x => !decide (x ∈ ps)) (Hx.out.later hBw.out hBw.out.size) hl (enters_of Try.func56 (by kernel_rfl) rfl) ?_
        intro W' x hW' hxm
        have hr := Hf.out x hxm
        have hkeep : wr.grownBy W' none := ⟨hW'.os, hW'.tape, hW'.output, hW'.size, fun k hk _ => hW'.block k hk⟩
        exact critWanted ps _ _ _ x W' hr.1 hr.2 ((hW'.cell (p := ⟨w1.heap.size + 1, 0, none⟩) (lt_get HC.out.mbox)).trans (box_cell HC.out.mbox).1) (HC.out.own.kept hkeep (by simp)))
      clear q0 htk HI
      go_wp2_with fail
      refine HFW.out.mono ?_
      rintro e w2 ⟨v, rfl, hr⟩
      go_wp2_with fail
      go_ret2
      exact ⟨v, rfl, ownsRow_base hr.1 hBw.out.size, hBw.out.trans (hr.2.mono hBw.out.size)⟩

set_option maxRecDepth 100000 in
set_option maxHeartbeats 1000000 in
theorem crit_bad (V : Int) (a0 : Option Addr) (cap : Nat) (fs : List Int) (a1 : Option Addr) (n cap1 : Nat) (ps : List Int) (w : World) (hx : SlI w w.heap.size a0 fs) (hx1 : SlI w w.heap.size a1 ps) (hl : fs.length ≤ 1048576) (hp : ps.length = 2 * n) (hn : n ≤ 1048576) (hw : ∀ x ∈ ps, (Lit.int .i64 x).wf = true)
    (c : Int) (hc : (c != 0) = true) (h0 : pcodeR V fs n ps = c) :
    Calls Try.prog 21 #[.agg #[.int .i64 V, .slice a0 fs.length cap], .slice a1 n cap1] w fun e w' => ∃ v, e = .returned (.tuple #[v, .int .i64 c]) ∧ Res w w' v [] := by
  have hB0 : Below w.heap.size w (w.alloc (.cells #[.int .i64 V, .slice a0 fs.length cap] 30)) := (Below.refl _ w).alloc (Nat.le_refl _) _
  have HI := hid (pcode_impl V a0 cap fs a1 n cap1 ps _ (hx.later hB0 hB0.size) (hx1.later hB0 hB0.size) hl hp hn hw)
  rw [h0] at HI
  clear hx hx1 hp hw h0
  go_enter Try.func21, Try.ntmps21
  go_wp2_with fail
  refine HI.out.mono ?_
  rintro e w1 ⟨rfl, hB1⟩
  go_wp2_with fail
  go_ret2
  exact ⟨_, rfl, res_nil _ _ (hB0.trans (hB1.mono (by simp)))⟩

theorem implCriticalFaces (V : Int) (a0 : Option Addr) (cap : Nat) (fs : List Int) (a1 : Option Addr) (n cap1 : Nat) (ps : List Int) (w : World) (hx : SlI w w.heap.size a0 fs) (hx1 : SlI w w.heap.size a1 ps) (hl : fs.length ≤ 1048576) (hp : ps.length = 2 * n) (hn : n ≤ 1048576) (hw : ∀ x ∈ ps, (Lit.int .i64 x).wf = true) :
    Calls Try.prog 21 #[.agg #[.int .i64 V, .slice a0 fs.length cap], .slice a1 n cap1] w fun e w' => ∃ v, e = .returned (.tuple #[v, .int .i64 (criticalFacesR V fs n ps).2]) ∧ Res w w' v (criticalFacesR V fs n ps).1 := by
  rcases pcode_cases V fs n ps with ⟨hC, _, h0, _, _⟩ | ⟨_, _, h0, _, _⟩ | ⟨_, h0, _⟩
  · exact res_mono (by unfold criticalFacesR; rw [h0, if_pos rfl]) (crit_ok V a0 cap fs a1 n cap1 ps w hx hx1 hl hp hn hw hC h0)
  · exact res_mono (by unfold criticalFacesR; rw [h0, if_neg (by decide)]) (crit_bad V a0 cap fs a1 n cap1 ps w hx hx1 hl hp hn hw 2 (by decide) h0)
  · exact res_mono (by unfold criticalFacesR; rw [h0, if_neg (by decide)]) (crit_bad V a0 cap fs a1 n cap1 ps w hx hx1 hl hp hn hw 1 (by decide) h0)

end Go.Proofs.Ytilncaagpcgakaa
