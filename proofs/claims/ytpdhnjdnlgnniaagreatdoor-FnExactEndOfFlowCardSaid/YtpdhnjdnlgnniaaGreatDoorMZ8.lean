import Derived.Test.YtpdhnjdnlgnniaaGreatDoorRows
import Derived.ProofKit
import Derived.OpenShut
import Derived.ShutString
import Derived.ChangeOld
import Derived.Below
import Derived.Lib.SmallJoins
import Derived.Test.YtpdhnjdnlgnniaaGreatDoorTie
import Derived.Test.YtpdhnjdnlgnniaaGreatDoorCards
import Derived.OpenVars
import Derived.LaidMore
import Derived.MakeChecks
import Derived.Stop.LaidErr
import Derived.SevenTiedAt
import Derived.Test.YtpdhnjdnlgnniaaGreatDoorMZ1
import Derived.Test.YtpdhnjdnlgnniaaGreatDoorMZ4
import Derived.Test.YtpdhnjdnlgnniaaGreatDoorMZ6
import Derived.Test.YtpdhnjdnlgnniaaGreatDoorMZ7
/-! chainCode: a deferred recover turns the panic into a code. -/
namespace Go.Proofs.YtpdhnjdnlgnniaaGreatDoor
open Go.RowKit

theorem assert_err (pv : Value) (w : World) : (Instr.typeAssert (.iface 129 pv) 20 59 true).run Tryz.prog w = .ok (.tuple #[.iface 129 pv, .bool true]) w := by kernel_rfl
theorem assert_nil (w : World) : (Instr.typeAssert .nilIface 20 59 true).run Tryz.prog w = .ok (.tuple #[.nilIface, .bool false]) w := by kernel_rfl

set_option maxHeartbeats 1000000 in
theorem catch_panic (p : Addr) (x : Int) (pv : Value) (older : List PanicEntry) (w : World) (hc : w.cell? p = some (.int .i64 x)) (hz : w.frozen? p = false) :
    CallsD Tryz.prog 40 #[.pointer (some p)] (.panicking ({ v := .iface 129 pv, recovered := false } :: older)) w fun e u' w' =>
      e = .returned (.tuple #[]) ∧ u' = .panicking ({ v := .iface 129 pv, recovered := true } :: older) ∧ w' = w.setCell p (.int .i64 2) := by
  have ha := assert_err
  refine callsD_of_wpS Tryz.func40 rfl fun c₀ cs hu => ?_
  apply wpS_seq
  apply wpS_region
  simp [wpOpsS, go_sem, recoverD, hu, ha, Tryz.ntmps40, Exit.thenS]
  apply wpS_seq
  apply wpS_region
  simp [wpOpsS, go_sem, Exit.thenS]
  refine wpS_cond (t := true) (by simp [Act.eval, Array.replicate]) ?_
  simp only [if_true]
  apply wpS_region
  simp [wpOpsS, go_sem, hc, hz, bodyPostS, results, Tryz.results40]

theorem catch_idle (p : Addr) (w : World) :
    CallsD Tryz.prog 40 #[.pointer (some p)] .returning w fun e u' w' => e = .returned (.tuple #[]) ∧ u' = .returning ∧ w' = w := by
  have ha := assert_nil
  refine callsD_of_wpS Tryz.func40 rfl fun c₀ cs hu => ?_
  apply wpS_seq
  apply wpS_region
  simp [wpOpsS, go_sem, recoverD, hu, ha, Tryz.ntmps40, Exit.thenS]
  apply wpS_seq
  apply wpS_region
  simp [wpOpsS, go_sem, Exit.thenS]
  refine wpS_cond (t := false) (by simp [Act.eval, Array.replicate]) ?_
  simp only [Bool.false_eq_true, if_false]
  refine wpS_of_wp (wp_skip ?_)
  cases c₀
  simp_all [bodyPostS, results, Tryz.results40]

/-- The code of a complex and some lists. -/
noncomputable def chnsR (V : Int) (fs : List Int) (chs : List (List Int)) : Int := if isCB V fs then (if chs.all (chainB fs) then 0 else 2) else 1
/-- Some lists that lie one behind the other, as slices, in block bl. -/
def Lists (w : World) (B bl : Nat) (ls : List (Option Addr × Nat × List Int)) : Prop :=
  ∀ i a cap ch, ls[i]? = some (a, cap, ch) → w.cell? ⟨bl, i, none⟩ = some (.slice a ch.length cap) ∧ SlI w B a ch ∧ ch.length ≤ 1048576

theorem all_take {α : Type} {p : α → Bool} {ls : List α} {k : Nat} (h : ∀ i x, i < k → ls[i]? = some x → p x = true) (hk : ls.length ≤ k) : ls.all p = true := by
  rw [List.all_eq_true]
  intro x hx
  obtain ⟨i, hi, rfl⟩ := List.getElem_of_mem hx
  exact h i _ (by omega) (List.getElem?_eq_getElem hi)
theorem all_not {α : Type} {p : α → Bool} {ls : List α} {k : Nat} {x : α} (hk : ls[k]? = some x) (h : p x = false) : ls.all p = false := by
  rw [List.all_eq_false]
  exact ⟨x, List.mem_of_getElem? hk, by simp [h]⟩

theorem set_one {W : World} {b : Nat} {v u : Value} (h : W.cell? ⟨b, 0, none⟩ = some v) : (W.setCell ⟨b, 0, none⟩ u).cell? ⟨b, 0, none⟩ = some u := by simp [go_sem, h]
theorem leave_code {tmps : Array Value} {R : Ending → World → Prop} {W : World} {b : Nat} {x : Int} (hp : tmps.getD 4 undef = .pointer (some ⟨b, 0, none⟩)) (hc : W.cell? ⟨b, 0, none⟩ = some (.int .i64 x)) (hR : R (.returned (.int .i64 x)) W) :
    Leaves Tryz.prog Tryz.f26 tmps R [] .returning W := by
  have hp' : tmps[4]?.getD undef = .pointer (some ⟨b, 0, none⟩) := by simpa using hp
  refine ⟨.int .i64 x, ?_, hR⟩
  simp [results, Tryz.results26, hp', asAddr, go_sem, hc]

set_option maxRecDepth 100000 in
set_option maxHeartbeats 4000000 in
theorem code_any (V : Int) (a0 : Option Addr) (cap : Nat) (fs : List Int) (bl cl : Nat) (ls : List (Option Addr × Nat × List Int)) (w : World) (pv : Value) (hx : SlI w w.heap.size a0 fs) (hl : fs.length ≤ 1048576)
    (hb : bl < w.heap.size) (hL : Lists w w.heap.size bl ls) (hn : ls.length ≤ 1048576) (hG : w.cell? ⟨0, 0, none⟩ = some (.iface 129 pv)) :
    Calls Tryz.prog 26 #[.agg #[.int .i64 V, .slice a0 fs.length cap], .slice (some ⟨bl, 0, none⟩) ls.length cl] w fun e w' => e = .returned (.int .i64 (chnsR V fs (ls.map (·.2.2)))) ∧ Below w.heap.size w w' := by
  have hmf : ∀ (fn : Fn) (first cap : Array Value) (w : World), (Instr.makeFunc fn first cap).run Tryz.prog w = .ok (.func fn first cap) w := fun _ _ _ _ => rfl
  obtain ⟨W0, hW0⟩ : ∃ W0, W0 = (w.alloc (.cells #[.int .i64 V, .slice a0 fs.length cap] 30)).alloc (.cells #[.int .i64 0] 2) := ⟨_, rfl⟩
  have hB0 : Below w.heap.size w W0 := by rw [hW0]; exact ((Below.refl _ w).alloc (Nat.le_refl _) _).alloc (by simp) _
  have Hk : Hid (W0.heap[w.heap.size]? = some (.cells #[.int .i64 V, .slice a0 fs.length cap] 30 (0, 0))) := hid (by rw [hW0]; exact (Below.heap_alloc _ _ _ (by simp)).trans (heap_alloc_new _ _))
  have Hr : Hid (W0.heap[w.heap.size + 1]? = some (.cells #[.int .i64 0] 2 (0, 0))) := hid (by rw [hW0]; exact new2 _ _ _)
  have Hx := hid hx
  have HB0 := hid hB0
  have HL := hid hL
  have HG := hid hG
  have HGl := hid (World.block_lt_of_cell? w _ hG)
  have HI := hid (implIsComplex V a0 cap fs W0 (hx.later hB0 hB0.size) hl)
  rw [hW0] at HI
  clear hx hB0 hL hG
  cases hc : isCB V fs
  · have HR : Hid (chnsR V fs (ls.map (·.2.2)) = 1) := hid (by unfold chnsR; rw [hc]; rfl)
    rw [hc] at HI
    clear hc
    go_enter_defers Tryz.func26, Tryz.ntmps26
    go_wp2_with fail
    refine HI.out.mono ?_
    rintro e w1 ⟨rfl, hB1⟩
    rw [← hW0] at hB1
    have hr1 := (hB1.block _ (lt_get Hr.out)).trans Hr.out
    obtain ⟨r0, g0⟩ := box_cell hr1
    have Hr1 := hid hr1
    have HB1 := hid (HB0.out.trans (hB1.mono HB0.out.size))
    clear hB1 hr1
    go_wp2_with fail
    simp only [bodyPostD]
    refine leave_code (b := w.heap.size + 1) rfl (set_one r0) ⟨by rw [HR.out], ?_⟩
    exact HB1.out.setCell (Nat.le_succ _) _
  · have hC := isCB_iff.1 hc
    have HC := hid hC
    have HY : Hid (ls.all (fun x => chainB fs x.2.2) = true → chnsR V fs (ls.map (·.2.2)) = 0) := hid (fun h => by unfold chnsR; rw [hc, if_pos rfl, List.all_map]; exact if_pos h)
    have HN : Hid (ls.all (fun x => chainB fs x.2.2) = false → chnsR V fs (ls.map (·.2.2)) = 2) := hid (fun h => by unfold chnsR; rw [hc, if_pos rfl, List.all_map]; exact if_neg (by simpa using h))
    rw [hc] at HI
    clear hc hC
    obtain ⟨R, hR⟩ : ∃ R, R = chnsR V fs (ls.map (·.2.2)) := ⟨_, rfl⟩
    rw [← hR] at HY HN ⊢
    clear hR
    go_enter_defers Tryz.func26, Tryz.ntmps26
    go_wp2_with fail
    refine HI.out.mono ?_
    rintro e w1 ⟨rfl, hB1⟩
    rw [← hW0] at hB1
    have Hk1 := hid ((hB1.block _ (lt_get Hk.out)).trans Hk.out)
    have Hr1 := hid ((hB1.block _ (lt_get Hr.out)).trans Hr.out)
    have HB1 := hid (HB0.out.trans (hB1.mono HB0.out.size))
    clear hB1
    go_wp2_with fail
    clear hmf
    go_loopw [13] (fun iv wx => ∃ k : Nat, k ≤ ls.length ∧ iv = .int .i64 k ∧ Hid (∀ i x, i < k → ls[i]? = some x → chainB fs x.2.2 = true) ∧ Hid (Below w1.heap.size w1 wx)) (fun iv _ => ls.length - (RowKit.intOf iv).toNat)
    case atStart => exact ⟨0, Nat.zero_le _, rfl, hid (by intro i x h; omega), hid (Below.refl _ _)⟩
    case round =>
      obtain ⟨k, hk, rfl, HK, HB⟩ := hrel
      have HBw := hid (HB1.out.trans (HB.out.mono HB1.out.size))
      have Hkr := hid ((HB.out.block _ (lt_get Hk1.out)).trans Hk1.out)
      have Hrr := hid ((HB.out.block _ (lt_get Hr1.out)).trans Hr1.out)
      by_cases hlt : k < ls.length
      · obtain ⟨⟨a, c2, ch⟩, hx⟩ : ∃ x, ls[k]? = some x := ⟨_, List.getElem?_eq_getElem hlt⟩
        obtain ⟨hcl, hsl, hcn⟩ := HL.out k a c2 ch hx
        have hck := (HBw.out.cell (p := ⟨bl, k, none⟩) hb).trans hcl
        obtain ⟨k0, k1, _, _⟩ := two_of Hkr.out
        have HM := hid (must_any V a0 cap fs a c2 ch wr 129 pv (Hx.out.later HBw.out HBw.out.size) (hsl.later HBw.out HBw.out.size) hl hcn HC.out ((HBw.out.cell (p := ⟨0, 0, none⟩) HGl.out).trans HG.out))
        have hi0 : (0 : Int) ≤ (k : Int) := by omega
        have hi1 : (k : Int) < (ls.length : Int) := by omega
        have Hxk := hid hx
        clear hcl hsl hcn hx
        obtain ⟨c, hcc⟩ : ∃ c, c = chainB fs ch := ⟨_, rfl⟩
        rw [← hcc] at HM
        have Hcc := hid hcc
        clear hcc
        go_wp2_with fail
        refine HM.out.mono ?_
        rintro e w2 ⟨rfl, hB2⟩
        have HB2 := hid hB2
        clear hB2 k0 k1
        cases c
        · have He := hid (HN.out (all_not Hxk.out Hcc.out.symm))
          have hr2 := (HB2.out.block _ (lt_get Hrr.out)).trans Hrr.out
          obtain ⟨r0, g0⟩ := box_cell hr2
          simp only [endOf]
          refine leaves_cons (f := 40) (args := #[.pointer (some ⟨w.heap.size + 1, 0, none⟩)]) (by simp) (by simp [go_sem]) ?_
          refine (catch_panic ⟨w.heap.size + 1, 0, none⟩ 0 pv [] _ r0 g0).mono ?_
          rintro e u' w3 ⟨rfl, rfl, rfl⟩
          refine leave_code (b := w.heap.size + 1) rfl (set_one r0) ⟨by rw [He.out], ?_⟩
          exact (HBw.out.trans (HB2.out.mono HBw.out.size)).setCell (Nat.le_succ _) _
        · have HS : Hid (∀ i x, i < k + 1 → ls[i]? = some x → chainB fs x.2.2 = true) := hid (fun i x hi h => by
            by_cases e : i = k
            · subst e
              rw [Hxk.out] at h
              cases h
              exact Hcc.out.symm
            · exact HK.out i x (by omega) h)
          simp only [endOf]
          go_wp2_with fail
          go_roundw
          case rel => exact ⟨k + 1, by omega, by go_num, HS, hid (HB.out.trans (HB2.out.mono HB.out.size))⟩
          case measure => simp [RowKit.intOf]; omega
      · obtain rfl : k = ls.length := by omega
        have He := hid (HY.out (all_take HK.out (Nat.le_refl _)))
        obtain ⟨r0, g0⟩ := box_cell Hrr.out
        go_wp2_with fail
        refine leaves_cons (f := 40) (args := #[.pointer (some ⟨w.heap.size + 1, 0, none⟩)]) (by simp) (by simp [go_sem]) ?_
        refine (catch_idle ⟨w.heap.size + 1, 0, none⟩ _).mono ?_
        rintro e u' w3 ⟨rfl, rfl, rfl⟩
        refine leave_code (b := w.heap.size + 1) rfl (set_one r0) ⟨by rw [He.out], ?_⟩
        exact HBw.out.setCell (Nat.le_succ _) _

end Go.Proofs.YtpdhnjdnlgnniaaGreatDoor

/-! BoundaryOf, IsCycle, IsChain, on both sides. -/
namespace Go.Proofs.YtpdhnjdnlgnniaaGreatDoor
open Go.RowKit

/-- What BoundaryOf answers. -/
noncomputable def bdyR (V : Int) (fs ch : List Int) : List Int × Int := if chnR V fs ch = 0 then (bdL fs ch, 0) else ([], chnR V fs ch)
/-- What IsCycle answers. -/
noncomputable def cycleR (V : Int) (fs ch : List Int) : Bool × Int := if chnR V fs ch = 0 then (decide ((bdL fs ch).length = 0), 0) else (false, chnR V fs ch)
/-- What IsChain answers. -/
noncomputable def isChainR (V : Int) (fs ch : List Int) : Bool × Int := if isCB V fs then (chainB fs ch, 0) else (false, 1)

theorem chn_zero {V : Int} {fs ch : List Int} (h : chnR V fs ch = 0) : isCB V fs = true ∧ chainB fs ch = true := by
  unfold chnR at h
  split at h
  · rename_i h1
    split at h
    · rename_i h2; exact ⟨h1, h2⟩
    · simp at h
  · simp at h
theorem bdL_len {fs ch : List Int} : (bdL fs ch).length ≤ fs.length := by unfold bdL; exact List.length_filter_le _ _
theorem bdyR_len (V : Int) (fs ch : List Int) (h : fs.length ≤ 1048576) (_h2 : ch.length ≤ 1048576) : (bdyR V fs ch).1.length ≤ 1048576 := by
  unfold bdyR
  split
  · exact Nat.le_trans bdL_len h
  · simp
theorem ret_two {a b : Bool} {c : Int} (h : a = b) : Ending.returned (.tuple #[.bool a, .int .i64 c]) = .returned (.tuple #[.bool b, .int .i64 c]) := by rw [h]
theorem chns_one {V : Int} {fs : List Int} (a : Option Addr) (cap : Nat) (ch : List Int) : chnsR V fs ([(a, cap, ch)].map (·.2.2)) = chnR V fs ch := by
  unfold chnsR chnR
  simp



/-- chainCode at one list that has just been put into a slice. -/
theorem code_one (V : Int) (a0 : Option Addr) (cap : Nat) (fs : List Int) (a1 : Option Addr) (cap1 : Nat) (ch : List Int) (w : World) (pv : Value) (hx : SlI w w.heap.size a0 fs) (hx1 : SlI w w.heap.size a1 ch) (hl : fs.length ≤ 1048576) (hg : ch.length ≤ 1048576)
    (hG : w.cell? ⟨0, 0, none⟩ = some (.iface 129 pv)) :
    Calls Tryz.prog 26 #[.agg #[.int .i64 V, .slice a0 fs.length cap], .slice (some ⟨w.heap.size + 1, 0, none⟩) 1 1] ((w.alloc (.cells #[.int .i64 V, .slice a0 fs.length cap] 30)).alloc (.cells #[.slice a1 ch.length cap1] 22)) fun e w' =>
      e = .returned (.int .i64 (chnR V fs ch)) ∧ Below w.heap.size w w' ∧ w'.heap[w.heap.size]? = some (.cells #[.int .i64 V, .slice a0 fs.length cap] 30 (0, 0)) := by
  obtain ⟨W, hW0⟩ : ∃ W, W = (w.alloc (.cells #[.int .i64 V, .slice a0 fs.length cap] 30)).alloc (.cells #[.slice a1 ch.length cap1] 22) := ⟨_, rfl⟩
  have hB : Below w.heap.size w W := by rw [hW0]; exact ((Below.refl _ w).alloc (Nat.le_refl _) _).alloc (by simp) _
  have hk : W.heap[w.heap.size]? = some (.cells #[.int .i64 V, .slice a0 fs.length cap] 30 (0, 0)) := by rw [hW0]; exact (Below.heap_alloc _ _ _ (by simp)).trans (heap_alloc_new _ _)
  have hW : W.heap[w.heap.size + 1]? = some (.cells #[.slice a1 ch.length cap1] 22 (0, 0)) := by rw [hW0]; exact new2 _ _ _
  rw [← hW0]
  have hlt := lt_get hW
  have h := code_any V a0 cap fs (w.heap.size + 1) 1 [(a1, cap1, ch)] W pv (hx.later hB hB.size) hl hlt (by
    intro i a c xs hi
    match i, hi with
    | 0, hi =>
      simp at hi
      obtain ⟨rfl, rfl, rfl⟩ := hi
      exact ⟨(box_cell hW).1, hx1.later hB hB.size, hg⟩) (by simp) ((hB.cell (p := ⟨0, 0, none⟩) (World.block_lt_of_cell? w _ hG)).trans hG)
  rw [chns_one] at h
  exact h.mono fun e w' ⟨he, hb⟩ => ⟨he, hB.trans (hb.mono hB.size), (hb.block _ (lt_get hk)).trans hk⟩



end Go.Proofs.YtpdhnjdnlgnniaaGreatDoor

/-! IsChain, on both sides. -/
namespace Go.Proofs.YtpdhnjdnlgnniaaGreatDoor
open Go.RowKit Go.Sort

set_option maxRecDepth 100000 in
set_option maxHeartbeats 8000000 in
theorem chain6_any (V : Int) (a0 : Option Addr) (cap : Nat) (fs : List Int) (a1 : Option Addr) (cap1 : Nat) (ch : List Int) (w : World) (hx : SlI w w.heap.size a0 fs) (hx1 : SlI w w.heap.size a1 ch) (hl : fs.length ≤ 1048576) (hg : ch.length ≤ 1048576) (hC : IsC V fs) :
    Calls Tryz.prog 32 #[.agg #[.int .i64 V, .slice a0 fs.length cap], .slice a1 ch.length cap1] w fun e w' => e = .returned (.bool (chainB fs ch)) ∧ Below w.heap.size w w' := by
  obtain ⟨W0, hW0⟩ : ∃ W0, W0 = w.alloc (.cells #[.int .i64 V, .slice a0 fs.length cap] 30) := ⟨_, rfl⟩
  have hB0 : Below w.heap.size w W0 := by rw [hW0]; exact (Below.refl _ w).alloc (Nat.le_refl _) _
  have Hk : Hid (W0.heap[w.heap.size]? = some (.cells #[.int .i64 V, .slice a0 fs.length cap] 30 (0, 0))) := hid (by rw [hW0]; exact heap_alloc_new _ _)
  have Hx := hid hx
  have Hy := hid hx1
  have HB0 := hid hB0
  have HC := hid hC
  obtain ⟨c, hcc⟩ : ∃ c, c = chainB fs ch := ⟨_, rfl⟩
  rw [← hcc]
  have Hc := hid hcc
  clear hx hx1 hB0 hC hcc
  go_enter Tryz.func32, Tryz.ntmps32
  go_wp2_with fail
  rw [← hW0]
  clear hW0
  go_loopw [5] (fun iv wx => ∃ k : Nat, k ≤ ch.length ∧ iv = .int .i64 k ∧ Hid (linksTo fs ch k) ∧ Hid (Below w.heap.size w wx) ∧ Hid (wx.heap[w.heap.size]? = some (.cells #[.int .i64 V, .slice a0 fs.length cap] 30 (0, 0)))) (fun iv _ => ch.length - (RowKit.intOf iv).toNat)
  case atStart => exact ⟨0, Nat.zero_le _, rfl, hid (by intro i h; omega), HB0, Hk⟩
  case round =>
    obtain ⟨k, hk, rfl, HK, HB, Hkr⟩ := hrel
    have hBw := HB.out
    have Hq : Hid (∀ d os, Below w.heap.size w (grow (redrawn wr d) os)) := hid (fun d os => HB.out.trans ((below_regrown wr d os).mono HB.out.size))
    have Hkq : Hid (∀ d os, (grow (redrawn wr d) os).heap[w.heap.size]? = some (.cells #[.int .i64 V, .slice a0 fs.length cap] 30 (0, 0))) := hid (fun d os => ((below_regrown wr d os).block _ (lt_get Hkr.out)).trans Hkr.out)
    by_cases hlt : k < ch.length
    · obtain ⟨b, off, hb, rfl, hcl⟩ : ∃ b off, b < w.heap.size ∧ a1 = some ⟨b, off, none⟩ ∧ ∀ i, i < ch.length → w.cell? ⟨b, off + i, none⟩ = some (.int .i64 (ch[i]?.getD 0)) := by
        rcases Hy.out with h | h
        · rw [h] at hlt; simp at hlt
        · exact h
      obtain ⟨x, hxe⟩ : ∃ x, x = ch[k]?.getD 0 := ⟨_, rfl⟩
      have c0 := cell_regrown ((hBw.cell (p := ⟨b, off + k, none⟩) hb).trans (hcl k hlt))
      rw [← hxe] at c0
      obtain ⟨k0, k1, _, _⟩ := two_of Hkr.out
      have r0 := cell_regrown k0
      have r1 := cell_regrown k1
      have CH := hid (fun d os => Calls.regrown_of (has_any V x a0 cap fs (grow (redrawn wr d) os) (Hx.out.later (Hq.out d os) (Hq.out d os).size) hl))
      have hi0 : (0 : Int) ≤ (k : Int) := by omega
      have hi1 : (k : Int) < (ch.length : Int) := by omega
      clear hBw k0 k1
      by_cases hm : x ∈ fs
      · rw [decide_eq_true hm] at CH
        have hxr := HC.out.range63 _ hm
        obtain ⟨z, hze⟩ : ∃ z, z = ch[0]?.getD 0 := ⟨_, rfl⟩
        have c2 := cell_regrown ((HB.out.cell (p := ⟨b, off, none⟩) hb).trans (hcl 0 (by omega)))
        rw [← hze] at c2
        have hzr := HC.out.range63 _ (show z ∈ fs by
          by_cases hk0 : k = 0
          · subst hk0; rw [hze, ← hxe]; exact hm
          · rw [hze]; exact link_head (by omega) HK.out)
        have hl0 : 0 < ch.length := by omega
        have HZ : Hid (k = 0 → z = x) := hid (fun h => by rw [hze, hxe, h])
        have HLn : Hid (¬ ones x.toNat = ones z.toNat → c = false) := hid (fun h => Hc.out.trans (chain_no hlt (link_no_ones (by rw [← hxe, ← hze]; exact h))))
        have HLo : Hid (0 < k → x ≤ ch[k - 1]?.getD 0 → c = false) := hid (fun h0 h => Hc.out.trans (chain_no hlt (link_no_ord h0 (by rw [← hxe]; exact h))))
        have HLy : Hid (ones x.toNat = ones z.toNat → (0 < k → ch[k - 1]?.getD 0 < x) → linksTo fs ch (k + 1)) := hid (fun ho h => links_succ HK.out ((link_eq (by rw [← hxe]; exact hm) (fun h0 => by rw [← hxe]; exact h h0)).trans (by rw [← hxe, ← hze]; exact decide_eq_true ho)))
        obtain ⟨x, rfl⟩ : ∃ n : Nat, x = n := ⟨x.toNat, by omega⟩
        obtain ⟨z, rfl⟩ : ∃ n : Nat, z = n := ⟨z.toNat, by omega⟩
        have hx64 : x < 64 := by omega
        have hz64 : z < 64 := by omega
        have cO : ∀ (f : Nat), f < 64 → ∀ d os, Calls Tryz.prog 51 #[.int .i64 (f : Int)] (grow (redrawn wr d) os) fun e w'' => e = .returned (.int .i64 (ones f : Int)) ∧ ∃ p : Regrown, w'' = grow (redrawn wr p.d) p.os := fun f hf d os => Calls.regrown_of ((ones_any f _ hf).mono fun _ _ ⟨he, hw⟩ => ⟨he, by rw [← hw]; exact Below.refl _ _⟩)
        have CX := hid (cO x hx64)
        have CZ := hid (cO z hz64)
        simp only [Int.toNat_natCast] at HLn HLy
        clear hxe hze hxr hzr hm hx64 hz64 cO
        by_cases ho : ones x = ones z
        · have hd2 : (((ones x : Nat) : Int) != ((ones z : Nat) : Int)) = false := by simp [ho]
          rw [ho] at CX hd2
          by_cases hk0 : 0 < k
          · have hd0 : decide (0 < k) = true := decide_eq_true hk0
            have hsub : IntKind.i64.wrap ((k : Int) - 1) = ((k - 1 : Nat) : Int) := by rw [IntKind.wrap_i64]; omega
            have hj0 : (0 : Int) ≤ ((k - 1 : Nat) : Int) := by omega
            have hj1 : ((k - 1 : Nat) : Int) < (ch.length : Int) := by omega
            have c1 := cell_regrown ((HB.out.cell (p := ⟨b, off + (k - 1), none⟩) hb).trans (hcl (k - 1) (by omega)))
            obtain ⟨y, hye⟩ : ∃ y, y = ch[k - 1]?.getD 0 := ⟨_, rfl⟩
            rw [← hye] at c1 HLo HLy
            clear hcl hye
            by_cases hle : (x : Int) ≤ y
            · have hd1 : decide ((x : Int) ≤ y) = true := decide_eq_true hle
              have He := hid (HLo.out hk0 hle)
              clear hle ho hk0
              go_wp2_with fail
              refine wp_region_quiet_below (by kernel_rfl) (by kernel_rfl) ?_
              iterate 5 (with_reducible refine wpQuiet_step (fun K hK => ?_); have HK := hid hK; clear hK; go_simp; (first | with_reducible refine HK.out _ ?_ | (rw [if_neg (by decide)]; with_reducible refine HK.out _ ?_)); clear HK K)
              (with_reducible refine wpQuiet_step (fun K hK => ?_); have HK := hid hK; clear hK; go_simp; apply Exists.intro; with_reducible refine ⟨fun _ => ?_, HK.out _ ?_⟩; exact CH.out _ _; clear HK K)
              iterate 6 (with_reducible refine wpQuiet_step (fun K hK => ?_); have HK := hid hK; clear hK; go_simp; (first | with_reducible refine HK.out _ ?_ | (rw [if_neg (by decide)]; with_reducible refine HK.out _ ?_)); clear HK K)
              (with_reducible refine wpQuiet_step (fun K hK => ?_); have HK := hid hK; clear hK; go_simp; apply Exists.intro; with_reducible refine ⟨fun _ => ?_, HK.out _ ?_⟩; exact CX.out _ _; clear HK K)
              iterate 3 (with_reducible refine wpQuiet_step (fun K hK => ?_); have HK := hid hK; clear hK; go_simp; (first | with_reducible refine HK.out _ ?_ | (rw [if_neg (by decide)]; with_reducible refine HK.out _ ?_)); clear HK K)
              (with_reducible refine wpQuiet_step (fun K hK => ?_); have HK := hid hK; clear hK; go_simp; apply Exists.intro; with_reducible refine ⟨fun _ => ?_, HK.out _ ?_⟩; exact CZ.out _ _; clear HK K)
              iterate 18 (with_reducible refine wpQuiet_step (fun K hK => ?_); have HK := hid hK; clear hK; go_simp; (first | with_reducible refine HK.out _ ?_ | (rw [if_neg (by decide)]; with_reducible refine HK.out _ ?_)); clear HK K)
              with_reducible refine wpQuiet_nil ?_
              intro _ hw'
              obtain ⟨⟨dq, osq⟩, hw''⟩ := hw'
              subst hw''
              go_wp2_with fail
              go_ret
              exact ⟨ret_bool He.out.symm, Hq.out _ _⟩
            · have hd1 : decide ((x : Int) ≤ y) = false := decide_eq_false hle
              have HS := hid (HLy.out ho (fun _ => by omega))
              clear hle ho hk0
              go_wp2_with fail
              refine wp_region_quiet_below (by kernel_rfl) (by kernel_rfl) ?_
              iterate 5 (with_reducible refine wpQuiet_step (fun K hK => ?_); have HK := hid hK; clear hK; go_simp; (first | with_reducible refine HK.out _ ?_ | (rw [if_neg (by decide)]; with_reducible refine HK.out _ ?_)); clear HK K)
              (with_reducible refine wpQuiet_step (fun K hK => ?_); have HK := hid hK; clear hK; go_simp; apply Exists.intro; with_reducible refine ⟨fun _ => ?_, HK.out _ ?_⟩; exact CH.out _ _; clear HK K)
              iterate 6 (with_reducible refine wpQuiet_step (fun K hK => ?_); have HK := hid hK; clear hK; go_simp; (first | with_reducible refine HK.out _ ?_ | (rw [if_neg (by decide)]; with_reducible refine HK.out _ ?_)); clear HK K)
              (with_reducible refine wpQuiet_step (fun K hK => ?_); have HK := hid hK; clear hK; go_simp; apply Exists.intro; with_reducible refine ⟨fun _ => ?_, HK.out _ ?_⟩; exact CX.out _ _; clear HK K)
              iterate 3 (with_reducible refine wpQuiet_step (fun K hK => ?_); have HK := hid hK; clear hK; go_simp; (first | with_reducible refine HK.out _ ?_ | (rw [if_neg (by decide)]; with_reducible refine HK.out _ ?_)); clear HK K)
              (with_reducible refine wpQuiet_step (fun K hK => ?_); have HK := hid hK; clear hK; go_simp; apply Exists.intro; with_reducible refine ⟨fun _ => ?_, HK.out _ ?_⟩; exact CZ.out _ _; clear HK K)
              iterate 18 (with_reducible refine wpQuiet_step (fun K hK => ?_); have HK := hid hK; clear hK; go_simp; (first | with_reducible refine HK.out _ ?_ | (rw [if_neg (by decide)]; with_reducible refine HK.out _ ?_)); clear HK K)
              with_reducible refine wpQuiet_nil ?_
              intro _ hw'
              obtain ⟨⟨dq, osq⟩, hw''⟩ := hw'
              subst hw''
              go_wp2_with fail
              go_roundw
              case rel => exact ⟨k + 1, by omega, by go_num, HS, hid (Hq.out _ _), hid (Hkq.out _ _)⟩
              case measure => simp [RowKit.intOf]; omega
          · obtain rfl : k = 0 := by omega
            have hd0 : decide (0 < 0) = false := rfl
            have HS := hid (HLy.out ho (fun h => absurd h (by omega)))
            obtain rfl : z = x := by have := HZ.out rfl; omega
            clear ho hk0 hcl c0
            go_wp2_with fail
            refine wp_region_quiet_below (by kernel_rfl) (by kernel_rfl) ?_
            iterate 5 (with_reducible refine wpQuiet_step (fun K hK => ?_); have HK := hid hK; clear hK; go_simp; (first | with_reducible refine HK.out _ ?_ | (rw [if_neg (by decide)]; with_reducible refine HK.out _ ?_)); clear HK K)
            (with_reducible refine wpQuiet_step (fun K hK => ?_); have HK := hid hK; clear hK; go_simp; apply Exists.intro; with_reducible refine ⟨fun _ => ?_, HK.out _ ?_⟩; exact CH.out _ _; clear HK K)
            iterate 6 (with_reducible refine wpQuiet_step (fun K hK => ?_); have HK := hid hK; clear hK; go_simp; (first | with_reducible refine HK.out _ ?_ | (rw [if_neg (by decide)]; with_reducible refine HK.out _ ?_)); clear HK K)
            (with_reducible refine wpQuiet_step (fun K hK => ?_); have HK := hid hK; clear hK; go_simp; apply Exists.intro; with_reducible refine ⟨fun _ => ?_, HK.out _ ?_⟩; exact CX.out _ _; clear HK K)
            iterate 3 (with_reducible refine wpQuiet_step (fun K hK => ?_); have HK := hid hK; clear hK; go_simp; (first | with_reducible refine HK.out _ ?_ | (rw [if_neg (by decide)]; with_reducible refine HK.out _ ?_)); clear HK K)
            (with_reducible refine wpQuiet_step (fun K hK => ?_); have HK := hid hK; clear hK; go_simp; apply Exists.intro; with_reducible refine ⟨fun _ => ?_, HK.out _ ?_⟩; exact CZ.out _ _; clear HK K)
            iterate 18 (with_reducible refine wpQuiet_step (fun K hK => ?_); have HK := hid hK; clear hK; go_simp; (first | with_reducible refine HK.out _ ?_ | (rw [if_neg (by decide)]; with_reducible refine HK.out _ ?_)); clear HK K)
            with_reducible refine wpQuiet_nil ?_
            intro _ hw'
            obtain ⟨⟨dq, osq⟩, hw''⟩ := hw'
            subst hw''
            go_wp2_with fail
            go_roundw
            case rel => exact ⟨1, by omega, by go_num, HS, hid (Hq.out _ _), hid (Hkq.out _ _)⟩
            case measure => simp [RowKit.intOf]; omega
        · have hd2 : (((ones x : Nat) : Int) != ((ones z : Nat) : Int)) = true := by simp; omega
          have He := hid (HLn.out ho)
          by_cases hk0 : 0 < k
          · clear ho hcl hk0
            go_wp2_with fail
            refine wp_region_quiet_below (by kernel_rfl) (by kernel_rfl) ?_
            iterate 5 (with_reducible refine wpQuiet_step (fun K hK => ?_); have HK := hid hK; clear hK; go_simp; (first | with_reducible refine HK.out _ ?_ | (rw [if_neg (by decide)]; with_reducible refine HK.out _ ?_)); clear HK K)
            (with_reducible refine wpQuiet_step (fun K hK => ?_); have HK := hid hK; clear hK; go_simp; apply Exists.intro; with_reducible refine ⟨fun _ => ?_, HK.out _ ?_⟩; exact CH.out _ _; clear HK K)
            iterate 6 (with_reducible refine wpQuiet_step (fun K hK => ?_); have HK := hid hK; clear hK; go_simp; (first | with_reducible refine HK.out _ ?_ | (rw [if_neg (by decide)]; with_reducible refine HK.out _ ?_)); clear HK K)
            (with_reducible refine wpQuiet_step (fun K hK => ?_); have HK := hid hK; clear hK; go_simp; apply Exists.intro; with_reducible refine ⟨fun _ => ?_, HK.out _ ?_⟩; exact CX.out _ _; clear HK K)
            iterate 3 (with_reducible refine wpQuiet_step (fun K hK => ?_); have HK := hid hK; clear hK; go_simp; (first | with_reducible refine HK.out _ ?_ | (rw [if_neg (by decide)]; with_reducible refine HK.out _ ?_)); clear HK K)
            (with_reducible refine wpQuiet_step (fun K hK => ?_); have HK := hid hK; clear hK; go_simp; apply Exists.intro; with_reducible refine ⟨fun _ => ?_, HK.out _ ?_⟩; exact CZ.out _ _; clear HK K)
            iterate 18 (with_reducible refine wpQuiet_step (fun K hK => ?_); have HK := hid hK; clear hK; go_simp; (first | with_reducible refine HK.out _ ?_ | (rw [if_neg (by decide)]; with_reducible refine HK.out _ ?_)); clear HK K)
            with_reducible refine wpQuiet_nil ?_
            intro _ hw'
            obtain ⟨⟨dq, osq⟩, hw''⟩ := hw'
            subst hw''
            go_wp2_with fail
            go_ret
            exact ⟨ret_bool He.out.symm, Hq.out _ _⟩
          · obtain rfl : k = 0 := by omega
            exact absurd (by have := HZ.out rfl; rw [show z = x by omega]) ho
      · rw [decide_eq_false hm] at CH
        have He := hid (Hc.out.trans (chain_no hlt (link_no_mem (by rw [← hxe]; exact hm))))
        clear hm hcl hxe
        go_wp2_with fail
        refine wp_region_quiet_below (by kernel_rfl) (by kernel_rfl) ?_
        iterate 5 (with_reducible refine wpQuiet_step (fun K hK => ?_); have HK := hid hK; clear hK; go_simp; (first | with_reducible refine HK.out _ ?_ | (rw [if_neg (by decide)]; with_reducible refine HK.out _ ?_)); clear HK K)
        (with_reducible refine wpQuiet_step (fun K hK => ?_); have HK := hid hK; clear hK; go_simp; apply Exists.intro; with_reducible refine ⟨fun _ => ?_, HK.out _ ?_⟩; exact CH.out _ _; clear HK K)
        iterate 29 (with_reducible refine wpQuiet_step (fun K hK => ?_); have HK := hid hK; clear hK; go_simp; (first | with_reducible refine HK.out _ ?_ | (rw [if_neg (by decide)]; with_reducible refine HK.out _ ?_)); clear HK K)
        with_reducible refine wpQuiet_nil ?_
        intro _ hw'
        obtain ⟨⟨dq, osq⟩, hw''⟩ := hw'
        subst hw''
        go_wp2_with fail
        go_ret
        exact ⟨ret_bool He.out.symm, Hq.out _ _⟩
    · obtain rfl : k = ch.length := by omega
      have He : Hid (c = true) := hid (Hc.out.trans (chain_yes HK.out))
      go_wp2_with fail
      go_ret
      exact ⟨ret_bool He.out.symm, HB.out⟩


theorem chain_code {V : Int} {fs ch : List Int} : (chnR V fs ch = 2 → isChainR V fs ch = (false, 0)) ∧ (¬ chnR V fs ch = 2 → isChainR V fs ch = (decide (chnR V fs ch = 0), chnR V fs ch)) := by
  unfold chnR isChainR
  cases isCB V fs <;> cases chainB fs ch <;> simp


end Go.Proofs.YtpdhnjdnlgnniaaGreatDoor

/-! FlowOf, both doors. -/
namespace Go.Proofs.YtpdhnjdnlgnniaaGreatDoor
open Go.RowKit

theorem chain_ascF {fs ch : List Int} (h : chainB fs ch = true) : ch.Pairwise (· < ·) := by
  unfold chainB at h
  rw [List.all_eq_true] at h
  rw [List.pairwise_iff_getElem]
  have step : ∀ i, i + 1 < ch.length → ch[i]?.getD 0 < ch[i + 1]?.getD 0 := fun i hi => by
    have := h (i + 1) (by simpa using hi)
    unfold linkB at this
    simp only [Bool.and_eq_true, Bool.or_eq_true, decide_eq_true_eq] at this
    rcases this.2 with h1 | h1
    · omega
    · simpa using h1
  have all : ∀ n i, i + n + 1 < ch.length → ch[i]?.getD 0 < ch[i + n + 1]?.getD 0 := by
    intro n
    induction n with
    | zero => exact fun i hi => step i hi
    | succ n ih => exact fun i hi => Int.lt_trans (ih i (by omega)) (by have := step (i + n + 1) (by omega); rwa [show i + n + 1 + 1 = i + (n + 1) + 1 by omega] at this)
  intro i j hi hj hij
  have := all (j - i - 1) i (by omega)
  rw [show i + (j - i - 1) + 1 = j by omega, List.getElem?_eq_getElem hi, List.getElem?_eq_getElem hj] at this
  simpa using this

/-- The code of a complex, a pairing and a chain. -/
noncomputable def fcodeR (V : Int) (fs : List Int) (n : Nat) (ps ch : List Int) : Int := acodeR V fs n ps (decide (chnR V fs ch = 0))
noncomputable def flowR (V : Int) (fs : List Int) (n : Nat) (ps ch : List Int) : List Int × Int := if fcodeR V fs n ps ch = 0 then (flowL fs ps n ch, 0) else ([], fcodeR V fs n ps ch)
theorem flowR_len (V : Int) (fs : List Int) (n : Nat) (ps ch : List Int) (h : fs.length ≤ 1048576) (_hp : ps.length = 2 * n) (_hn : n ≤ 1048576) (_hg : ch.length ≤ 1048576) : (flowR V fs n ps ch).1.length ≤ 1048576 := by
  unfold flowR
  split
  · exact Nat.le_trans (flowL_len _ _ _ _) h
  · simp
theorem fcode_cases {V : Int} {fs : List Int} {n : Nat} {ps ch : List Int} (hpc : pcodeR V fs n ps = 0) : fcodeR V fs n ps ch = if chainB fs ch then (if acyB ps n then 0 else 5) else 2 := by
  obtain ⟨hC, _⟩ := pcode_zero hpc
  unfold fcodeR acodeR
  rw [if_pos hpc]
  have : decide (chnR V fs ch = 0) = chainB fs ch := by
    unfold chnR
    rw [if_pos (isCB_iff.2 hC)]
    cases chainB fs ch <;> simp
  rw [this]
theorem fcode_zero {V : Int} {fs : List Int} {n : Nat} {ps ch : List Int} (h : fcodeR V fs n ps ch = 0) : IsC V fs ∧ OkTo fs ps n ∧ chainB fs ch = true ∧ acyB ps n = true := by
  by_cases hp : pcodeR V fs n ps = 0
  · rw [fcode_cases hp] at h
    refine ⟨(pcode_zero hp).1, (pcode_zero hp).2, ?_⟩
    cases h1 : chainB fs ch
    · rw [h1] at h; simp at h
    · cases h2 : acyB ps n
      · rw [h1, h2] at h; simp at h
      · exact ⟨rfl, rfl⟩
  · unfold fcodeR acodeR at h
    rw [if_neg hp] at h
    exact absurd h hp
theorem okTo_63 {V : Int} {fs ps : List Int} {n : Nat} (hC : IsC V fs) (hO : OkTo fs ps n) : n ≤ 63 := by
  have h1 : (pushTo ps (((List.range n).map fun i => at0 ps (i * 2))) n).length = n := by
    have : ∀ k, k ≤ n → (pushTo ps (((List.range n).map fun i => at0 ps (i * 2))) k).length = k := by
      intro k
      induction k with
      | zero => simp [pushTo]
      | succ k ih =>
        intro hk
        rw [pushTo, List.length_append, ih (by omega), if_pos (by rw [List.mem_map]; exact ⟨k, by simp; omega, rfl⟩)]
        rfl
    exact this n (Nat.le_refl _)
  have h2 := sub_lenI (pushTo ps ((List.range n).map fun i => at0 ps (i * 2)) n) fs (pushTo_nodup hO n (Nat.le_refl _)) (fun x hx => pushTo_fs hO x hx)
  rw [h1] at h2
  have := hC.len63
  omega

set_option maxRecDepth 1000000 in
set_option maxHeartbeats 2000000 in
theorem code6_any (V : Int) (a0 : Option Addr) (cap : Nat) (fs : List Int) (a1 : Option Addr) (n cap1 : Nat) (ps : List Int) (a2 : Option Addr) (cap2 : Nat) (ch : List Int) (w : World) (hx : SlI w w.heap.size a0 fs) (hx1 : SlI w w.heap.size a1 ps) (hx2 : SlI w w.heap.size a2 ch) (hl : fs.length ≤ 1048576) (hp : ps.length = 2 * n) (hn : n ≤ 1048576) (hg : ch.length ≤ 1048576) :
    Calls Tryz.prog 22 #[.agg #[.int .i64 V, .slice a0 fs.length cap], .slice a1 n cap1, .slice a2 ch.length cap2] w fun e w' => e = .returned (.int .i64 (fcodeR V fs n ps ch)) ∧ Below w.heap.size w w' := by
  obtain ⟨W0, hW0⟩ : ∃ W0, W0 = w.alloc (.cells #[.int .i64 V, .slice a0 fs.length cap] 30) := ⟨_, rfl⟩
  have hB0 : Below w.heap.size w W0 := by rw [hW0]; exact (Below.refl _ w).alloc (Nat.le_refl _) _
  have hk0 : W0.heap[w.heap.size]? = some (.cells #[.int .i64 V, .slice a0 fs.length cap] 30 (0, 0)) := by rw [hW0]; exact heap_alloc_new _ _
  have HK := hid (pcode_spec V a0 cap fs a1 n cap1 ps W0 (hx.later hB0 hB0.size) (hx1.later hB0 hB0.size) hl hp hn)
  rw [hW0] at HK
  have HB0 := hid hB0
  have Hk0 := hid hk0
  by_cases hpc : pcodeR V fs n ps = 0
  · obtain ⟨hC, hO⟩ := pcode_zero hpc
    have HA := hid (fun (W : World) (h : Below w.heap.size w W) => acyclicS_any a1 n cap1 ps W (hx1.later h h.size) hp hn (okTo_highs hC hO) (okTo_lows hC hO))
    have HCh := hid (fun (W : World) (h : Below w.heap.size w W) => chain6_any V a0 cap fs a2 cap2 ch W (hx.later h h.size) (hx2.later h h.size) hl hg hC)
    have HE : Hid (fcodeR V fs n ps ch = if chainB fs ch then (if acyB ps n then 0 else 5) else 2) := hid (fcode_cases hpc)
    rw [hpc] at HK
    obtain ⟨E, hE⟩ : ∃ E, E = fcodeR V fs n ps ch := ⟨_, rfl⟩
    rw [← hE] at HE ⊢
    obtain ⟨ab, hab⟩ : ∃ ab, ab = acyB ps n := ⟨_, rfl⟩
    rw [← hab] at HE HA
    obtain ⟨cb, hcb⟩ : ∃ cb, cb = chainB fs ch := ⟨_, rfl⟩
    rw [← hcb] at HE HCh
    clear hx hx1 hx2 hB0 hk0 hpc hE hab hcb hC hO
    go_enter Tryz.func22, Tryz.ntmps22
    go_wp2_with fail
    refine HK.out.mono ?_
    rintro e w1 ⟨rfl, hB1⟩
    rw [← hW0] at hB1
    have HB1 := hid (HB0.out.trans (hB1.mono HB0.out.size))
    obtain ⟨k0, k1, _, _⟩ := two_of ((hB1.block _ (lt_get Hk0.out)).trans Hk0.out)
    clear hB1
    go_wp2_with fail
    refine (HCh.out w1 HB1.out).mono ?_
    rintro e w2 ⟨rfl, hB2⟩
    have HB2 := hid (HB1.out.trans (hB2.mono HB1.out.size))
    clear hB2
    cases cb
    · go_wp2_with fail
      go_ret
      exact ⟨by rw [HE.out]; rfl, HB2.out⟩
    · cases ab
      all_goals
        go_wp2_with (go_at_call 33; refine (HA.out _ HB2.out).mono ?_; rintro e w3 ⟨rfl, hB3⟩; have HB3 := hid (HB2.out.trans (hB3.mono HB2.out.size)); clear hB3)
        go_ret
        exact ⟨by rw [HE.out]; rfl, HB3.out⟩
  · have HE : Hid (fcodeR V fs n ps ch = pcodeR V fs n ps) := hid (by unfold fcodeR acodeR; rw [if_neg hpc])
    obtain ⟨E, hE⟩ : ∃ E, E = fcodeR V fs n ps ch := ⟨_, rfl⟩
    rw [← hE] at HE ⊢
    rw [← HE.out] at HK hpc
    have hcn : (E != 0) = true := by simpa using hpc
    clear hx hx1 hx2 hB0 hk0 hpc hE
    go_enter Tryz.func22, Tryz.ntmps22
    go_wp2_with fail
    refine HK.out.mono ?_
    rintro e w1 ⟨rfl, hB1⟩
    rw [← hW0] at hB1
    have HB1 := hid (HB0.out.trans (hB1.mono HB0.out.size))
    clear hB1
    go_wp2_with fail
    go_ret
    exact ⟨rfl, HB1.out⟩

set_option maxRecDepth 100000 in
set_option maxHeartbeats 2000000 in
theorem specFlowOf (V : Int) (a0 : Option Addr) (cap : Nat) (fs : List Int) (a1 : Option Addr) (n cap1 : Nat) (ps : List Int) (a2 : Option Addr) (cap2 : Nat) (ch : List Int) (w : World) (hx : SlI w w.heap.size a0 fs) (hx1 : SlI w w.heap.size a1 ps) (hx2 : SlI w w.heap.size a2 ch) (hl : fs.length ≤ 1048576) (hp : ps.length = 2 * n) (hn : n ≤ 1048576) (_hw : ∀ x ∈ ps, (Lit.int .i64 x).wf = true) (hg : ch.length ≤ 1048576) :
    Calls Tryz.prog 7 #[.agg #[.int .i64 V, .slice a0 fs.length cap], .slice a1 n cap1, .slice a2 ch.length cap2] w fun e w' => ∃ v, e = .returned (.tuple #[v, .int .i64 (flowR V fs n ps ch).2]) ∧ Res w w' v (flowR V fs n ps ch).1 := by
  obtain ⟨W0, hW0⟩ : ∃ W0, W0 = w.alloc (.cells #[.int .i64 V, .slice a0 fs.length cap] 30) := ⟨_, rfl⟩
  have hB0 : Below w.heap.size w W0 := by rw [hW0]; exact (Below.refl _ w).alloc (Nat.le_refl _) _
  have HI := hid (code6_any V a0 cap fs a1 n cap1 ps a2 cap2 ch W0 (hx.later hB0 hB0.size) (hx1.later hB0 hB0.size) (hx2.later hB0 hB0.size) hl hp hn hg)
  rw [hW0] at HI
  have HB0 := hid hB0
  by_cases h0 : fcodeR V fs n ps ch = 0
  · obtain ⟨hC, hO, hch, _⟩ := fcode_zero h0
    have HR : Hid (flowR V fs n ps ch = (flowL fs ps n ch, 0)) := hid (by unfold flowR; rw [if_pos h0])
    have HD := hid (fun W (h : Below w.heap.size w W) => flow6_any fs a1 n cap1 ps a2 cap2 ch W (hx1.later h h.size) (hx2.later h h.size) hp hn hC hO (chain_ascF hch) (links_mem hch))
    rw [h0] at HI
    clear h0 hch hC hO hx hx1 hx2 hB0
    go_enter Tryz.func7, Tryz.ntmps7
    go_wp2_with fail
    refine HI.out.mono ?_
    rintro e w1 ⟨rfl, hB1⟩
    rw [← hW0] at hB1
    have HB1 := hid (HB0.out.trans (hB1.mono HB0.out.size))
    clear hB1
    go_wp2_with fail
    refine (HD.out w1 HB1.out).mono ?_
    rintro e w2 ⟨v, rfl, hr⟩
    have Hr := hid (hr.later HB1.out)
    clear hr
    go_wp2_with fail
    go_ret2
    rw [HR.out]
    exact ⟨_, rfl, Hr.out⟩
  · obtain ⟨c, hcc⟩ : ∃ c, c = fcodeR V fs n ps ch := ⟨_, rfl⟩
    have HR : Hid (flowR V fs n ps ch = ([], c)) := hid (by unfold flowR; rw [if_neg h0, hcc])
    rw [← hcc] at h0 HI
    clear hcc hx hx1 hx2 hB0
    have hn : (c != 0) = true := by simpa using h0
    go_enter Tryz.func7, Tryz.ntmps7
    go_wp2_with fail
    refine HI.out.mono ?_
    rintro e w1 ⟨rfl, hB1⟩
    rw [← hW0] at hB1
    have HB1 := hid (HB0.out.trans (hB1.mono HB0.out.size))
    clear hB1 h0
    go_wp2_with fail
    go_ret2
    rw [HR.out]
    exact ⟨_, rfl, res_nil _ _ HB1.out⟩

set_option maxRecDepth 100000 in
set_option maxHeartbeats 4000000 in
theorem implFlowOf (V : Int) (a0 : Option Addr) (cap : Nat) (fs : List Int) (a1 : Option Addr) (n cap1 : Nat) (ps : List Int) (a2 : Option Addr) (cap2 : Nat) (ch : List Int) (w : World) (hx : SlI w w.heap.size a0 fs) (hx1 : SlI w w.heap.size a1 ps) (hx2 : SlI w w.heap.size a2 ch) (hl : fs.length ≤ 1048576) (hp : ps.length = 2 * n) (hn : n ≤ 1048576) (hw : ∀ x ∈ ps, (Lit.int .i64 x).wf = true) (hg : ch.length ≤ 1048576)
    (pv : Value) (hG : w.cell? ⟨0, 0, none⟩ = some (.iface 129 pv)) :
    Calls Tryz.prog 11 #[.agg #[.int .i64 V, .slice a0 fs.length cap], .slice a1 n cap1, .slice a2 ch.length cap2] w fun e w' => ∃ v, e = .returned (.tuple #[v, .int .i64 (flowR V fs n ps ch).2]) ∧ Res w w' v (flowR V fs n ps ch).1 := by
  obtain ⟨W0, hW0⟩ : ∃ W0, W0 = w.alloc (.cells #[.int .i64 V, .slice a0 fs.length cap] 30) := ⟨_, rfl⟩
  have hB0 : Below w.heap.size w W0 := by rw [hW0]; exact (Below.refl _ w).alloc (Nat.le_refl _) _
  have hk0 : W0.heap[w.heap.size]? = some (.cells #[.int .i64 V, .slice a0 fs.length cap] 30 (0, 0)) := by rw [hW0]; exact heap_alloc_new _ _
  have hwl : w.heap.size < W0.heap.size := lt_get hk0
  have hkc := two_of hk0
  have HGl := hid (World.block_lt_of_cell? w _ hG)
  have HCo := hid (fun W (h : Below w.heap.size w W) bl (hb : bl < W.heap.size) (hc : W.cell? ⟨bl, 0, none⟩ = some (.slice a2 ch.length cap2)) => by
    have := code_any V a0 cap fs bl 1 [(a2, cap2, ch)] W pv (hx.later h h.size) hl hb (by
      intro i a c xs hi
      match i, hi with
      | 0, hi =>
        simp at hi
        obtain ⟨rfl, rfl, rfl⟩ := hi
        exact ⟨hc, hx2.later h h.size, hg⟩) (by simp) ((h.cell (p := ⟨0, 0, none⟩) HGl.out).trans hG)
    rw [chns_one] at this
    exact this)
  have HAc := hid (fun s W (h : Below w.heap.size w W) => acode_any V a0 cap fs a1 n cap1 ps s W (hx.later h h.size) (hx1.later h h.size) hl hp hn hw)
  have HDf : Hid (fcodeR V fs n ps ch = 0 → ∀ W, Below w.heap.size w W → Calls Tryz.prog 27 #[.agg #[.int .i64 V, .slice a0 fs.length cap], .slice a1 n cap1, .slice a2 ch.length cap2] W fun e w' => ∃ v, e = .returned v ∧ Res W w' v (flowL fs ps n ch)) := hid (fun h0 W h => by
    obtain ⟨hC, hO, hch, _⟩ := fcode_zero h0
    exact flow_any V a0 cap fs a1 n cap1 ps a2 cap2 ch W (hx.later h h.size) (hx1.later h h.size) (hx2.later h h.size) hl hp hn hg (by
      rcases hx2.later h h.size with e | ⟨b, off, hb, e, hc⟩
      · exact .inl e
      · exact .inr ⟨b, off, hb, e, hc⟩) hC hO (chain_ascF hch) (links_mem hch) (okTo_63 hC hO))
  obtain ⟨c1, hc1⟩ : ∃ c, c = chnR V fs ch := ⟨_, rfl⟩
  obtain ⟨s, hs⟩ : ∃ s, s = decide (chnR V fs ch = 0) := ⟨_, rfl⟩
  have hsd : (c1 == 0) = s := by rw [hs, hc1, Bool.eq_iff_iff]; simp
  obtain ⟨c, hcc⟩ : ∃ c, c = fcodeR V fs n ps ch := ⟨_, rfl⟩
  have HAs := hid (fun W (h : Below w.heap.size w W) => HAc.out s W h)
  rw [show acodeR V fs n ps s = c by rw [hcc, hs]; rfl] at HAs
  rw [← hc1] at HCo
  rw [← hcc] at HDf
  have HR1 : Hid (c = 0 → flowR V fs n ps ch = (flowL fs ps n ch, 0)) := hid (fun h => by unfold flowR; rw [← hcc, if_pos h])
  have HR2 : Hid (¬ c = 0 → flowR V fs n ps ch = ([], c)) := hid (fun h => by unfold flowR; rw [← hcc, if_neg h])
  have HB0 := hid hB0
  have Hwl := hid hwl
  have Hkc := hid (show W0.cell? ⟨w.heap.size, 0, none⟩ = some (.int .i64 V) ∧ W0.cell? ⟨w.heap.size, 1, none⟩ = some (.slice a0 fs.length cap) from ⟨hkc.1, hkc.2.1⟩)
  clear hx hx1 hx2 hB0 hk0 hkc hwl hG hc1 hs hcc HAc hp hw
  go_enter Tryz.func11, Tryz.ntmps11
  go_wp2_with fail
  rw [← hW0]
  clear hW0
  refine region_M 8 (fun W : World => W.cell? ⟨w.heap.size, 0, none⟩ = some (.int .i64 V) ∧ W.cell? ⟨w.heap.size, 1, none⟩ = some (.slice a0 fs.length cap)) (by kernel_rfl) ?_
  obtain ⟨x0, hx0⟩ : ∃ x, x = W0.drew := ⟨_, rfl⟩
  have hb0 : Below W0.heap.size W0 x0 := by rw [hx0]; exact ⟨rfl, rfl, rfl, Nat.le_refl _, fun _ _ => rfl⟩
  rw [← hx0]
  have HX0 : Hid (x0.cell? ⟨w.heap.size, 0, none⟩ = some (.int .i64 V) ∧ x0.cell? ⟨w.heap.size, 1, none⟩ = some (.slice a0 fs.length cap)) := hid ⟨(hb0.cell (p := ⟨w.heap.size, 0, none⟩) Hwl.out).trans Hkc.out.1, (hb0.cell (p := ⟨w.heap.size, 1, none⟩) Hwl.out).trans Hkc.out.2⟩
  have HBx := hid (HB0.out.trans (hb0.mono HB0.out.size))
  have Hwx := hid (Nat.lt_of_lt_of_le Hwl.out hb0.size)
  clear hx0 hb0 HB0 Hkc Hwl
  refine anyM_take (i := 0) (v := .agg #[.int .i64 V, .slice a0 fs.length cap]) [7, 8] rfl (by kernel_rfl) (fun _ _ _ h => h) (Or.inl ⟨by rfl, fun W hW => by (obtain ⟨z0, z1⟩ := hW; go_simp)⟩) HX0.out ?_
  refine anyM_take (i := 1) (v := .slice a1 n cap1) [7, 8] rfl (by kernel_rfl) (fun _ _ _ h => h) (Or.inl ⟨by rfl, fun W hW => by go_simp⟩) HX0.out ?_
  refine anyM_take (i := 2) (v := .agg #[.int .i64 V, .slice a0 fs.length cap]) [5, 6, 7, 8] rfl (by kernel_rfl) (fun _ _ _ h => h) (Or.inl ⟨by rfl, fun W hW => by (obtain ⟨z0, z1⟩ := hW; go_simp)⟩) HX0.out ?_
  refine anyM_take (i := 3) (v := .slice a2 ch.length cap2) [4, 5, 6, 7, 8] rfl (by kernel_rfl) (fun _ _ _ h => h) (Or.inl ⟨by rfl, fun W hW => by go_simp⟩) HX0.out ?_
  refine anyM_ready (rs := [4]) (by kernel_rfl) (by simp) ?_
  refine AllM.cons rfl (fun K hK => ?_) AllM.nil
  go_simp
  obtain ⟨x1, hx1⟩ : ∃ x, x = x0.alloc (.cells #[.slice a2 ch.length cap2] 22) := ⟨_, rfl⟩
  have hb1 : Below x0.heap.size x0 x1 := by rw [hx1]; exact (Below.refl _ x0).alloc (Nat.le_refl _) _
  have hlt1 : x0.heap.size < x1.heap.size := by rw [hx1]; simp
  have hq0 : x1.cell? ⟨x0.heap.size, 0, none⟩ = some (.slice a2 ch.length cap2) := by rw [hx1]; simp [go_sem]
  have HX1 : Hid (x1.cell? ⟨w.heap.size, 0, none⟩ = some (.int .i64 V) ∧ x1.cell? ⟨w.heap.size, 1, none⟩ = some (.slice a0 fs.length cap)) := hid ⟨(hb1.cell (p := ⟨w.heap.size, 0, none⟩) Hwx.out).trans HX0.out.1, (hb1.cell (p := ⟨w.heap.size, 1, none⟩) Hwx.out).trans HX0.out.2⟩
  have HB1 := hid (HBx.out.trans (hb1.mono HBx.out.size))
  have HC1 := hid (HCo.out x1 HB1.out x0.heap.size hlt1 hq0)
  have Hw1 := hid (Nat.lt_of_lt_of_le Hwx.out hb1.size)
  rw [← hx1]
  clear hx1 hb1 hlt1 hq0
  refine hK.out _ _ (fun _ => HX1.out) ?_
  clear hK K
  refine anyM_ready (rs := [5]) (by kernel_rfl) (by simp) ?_
  refine AllM.cons rfl (fun K hK => ?_) AllM.nil
  go_simp
  go_at_call 26
  refine HC1.out.mono ?_
  rintro e x2 ⟨rfl, hb2⟩
  have HX2 : Hid (x2.cell? ⟨w.heap.size, 0, none⟩ = some (.int .i64 V) ∧ x2.cell? ⟨w.heap.size, 1, none⟩ = some (.slice a0 fs.length cap)) := hid ⟨(hb2.cell (p := ⟨w.heap.size, 0, none⟩) Hw1.out).trans HX1.out.1, (hb2.cell (p := ⟨w.heap.size, 1, none⟩) Hw1.out).trans HX1.out.2⟩
  have HB2 := hid (HB1.out.trans (hb2.mono HB1.out.size))
  have Hw2 := hid (Nat.lt_of_lt_of_le Hw1.out hb2.size)
  clear hb2
  refine hK.out _ _ (fun _ => HX2.out) ?_
  clear hK K
  refine anyM_take (i := 6) (v := .bool s) [7, 8] rfl (by kernel_rfl) (fun _ _ _ h => h) (Or.inl ⟨by rfl, fun W hW => by go_simp⟩) HX2.out ?_
  refine anyM_ready (rs := [7]) (by kernel_rfl) (by simp) ?_
  refine AllM.cons rfl (fun K hK => ?_) AllM.nil
  go_simp
  go_at_call 25
  refine (HAs.out x2 HB2.out).mono ?_
  rintro e x3 ⟨rfl, hb3⟩
  have HX3 : Hid (x3.cell? ⟨w.heap.size, 0, none⟩ = some (.int .i64 V) ∧ x3.cell? ⟨w.heap.size, 1, none⟩ = some (.slice a0 fs.length cap)) := hid ⟨(hb3.cell (p := ⟨w.heap.size, 0, none⟩) Hw2.out).trans HX2.out.1, (hb3.cell (p := ⟨w.heap.size, 1, none⟩) Hw2.out).trans HX2.out.2⟩
  have HB3 := hid (HB2.out.trans (hb3.mono HB2.out.size))
  clear hb3
  refine hK.out _ _ (fun _ => HX3.out) ?_
  clear hK K
  refine anyM_ready (rs := [8]) (by kernel_rfl) (by simp) ?_
  refine AllM.cons rfl (fun K hK => ?_) AllM.nil
  go_simp
  refine hK.out _ _ (fun h => absurd rfl h) ?_
  clear hK K
  refine anyM_done (by kernel_rfl) ?_ _
  by_cases h0 : c = 0
  · have HR := hid (HR1.out h0)
    have HD := hid (HDf.out h0 x3 HB3.out)
    obtain ⟨n0, n1⟩ := HX3.out
    clear hsd
    subst h0
    go_wp2_with fail
    refine HD.out.mono ?_
    rintro e x4 ⟨v, rfl, hr⟩
    have Hr := hid (hr.later HB3.out)
    clear hr
    go_wp2_with fail
    go_ret2
    rw [HR.out]
    exact ⟨_, rfl, Hr.out⟩
  · have HR := hid (HR2.out h0)
    have hn : (c != 0) = true := by simpa using h0
    clear h0 hsd
    go_wp2_with fail
    go_ret2
    rw [HR.out]
    exact ⟨_, rfl, res_nil _ _ HB3.out⟩

end Go.Proofs.YtpdhnjdnlgnniaaGreatDoor

/-! The flow of an acyclic pairing comes to an end: the mathematics. -/
namespace Go.Proofs.YtpdhnjdnlgnniaaGreatDoor
open Go.RowKit

/-- The number of pairs to whose low faces ways lead. -/
noncomputable def rkW (ps : List Int) (n : Nat) (x : Int) : Nat := (List.range n).countP fun j => wayB ps n x (at0 ps (j * 2))
theorem rkW_le (ps : List Int) (n : Nat) (x : Int) : rkW ps n x ≤ n := by
  have := List.countP_le_length (p := fun j => wayB ps n x (at0 ps (j * 2))) (l := List.range n)
  simpa [rkW] using this
theorem rkW_lt {ps : List Int} {n : Nat} (hc : NoCycle ps n) {x : Int} {j : Nat} (hj : j < n) (hw : Way ps n x (at0 ps (j * 2))) : rkW ps n (at0 ps (j * 2)) < rkW ps n x := by
  refine countP_lt (y := j) (fun k _ hk => ?_) (by simpa using hj) (wayB_true hw) (wayB_false (hc j hj))
  by_cases hw2 : Way ps n (at0 ps (j * 2)) (at0 ps (k * 2))
  · exact wayB_true (way_trans hw hw2)
  · rw [wayB_false hw2] at hk; cases hk

/-- The sides of a face, as integers. -/
def sdI (x : Int) : List Int := sidesI x.toNat (sidesF x.toNat)
theorem sdI_nodup {x : Int} (h : 1 ≤ x ∧ x ≤ 63) : (sdI x).Nodup := by
  have := sides_nodup ⟨x.toNat, by omega⟩
  exact this
theorem sidesAll_app (p q : List Int) : sidesAll (p ++ q) = sidesAll p ++ sidesAll q := by simp [sidesAll]
theorem sidesAll_one (x : Int) : sidesAll [x] = sdI x := by simp [sidesAll, sdI]
/-- If all pushes over a side but that of its own pair come from elsewhere: the sides' parity. -/
theorem push_par {fs ps B : List Int} {n : Nat} {x : Int} (hr : ∀ y ∈ fs, 1 ≤ y ∧ y ≤ 63) (hO : OkTo fs ps n) (hno : ∀ i, i < n → at0 ps (i * 2) ∈ B → x ∈ sdI (at0 ps (i * 2 + 1)) → at0 ps (i * 2) = x) (hs : ∀ i, i < n → at0 ps (i * 2) = x → x ∈ sdI (at0 ps (i * 2 + 1))) :
    ∀ k, k ≤ n → par x (sidesAll (pushTo ps B k)) = decide (∃ i, i < k ∧ at0 ps (i * 2) ∈ B ∧ at0 ps (i * 2) = x)
  | 0, _ => by simp [pushTo, sidesAll, par]
  | k + 1, hk => by
    have ih := push_par hr hO hno hs k (by omega)
    rw [pushTo, sidesAll_app, par_app, ih]
    by_cases hB : at0 ps (k * 2) ∈ B
    · rw [if_pos hB, sidesAll_one, par_nodup (sdI_nodup (hr _ (okTo_mem hO (show k < n by omega)).2))]
      by_cases hx : at0 ps (k * 2) = x
      · have h1 := hs k (by omega) hx
        have h2 : ¬ ∃ i, i < k ∧ at0 ps (i * 2) ∈ B ∧ at0 ps (i * 2) = x := by
          rintro ⟨i, hi, _, hxi⟩
          exact okTo_apart hO i k hi (by omega) (by rw [hxi, hx])
        have h3 : ∃ i, i < k + 1 ∧ at0 ps (i * 2) ∈ B ∧ at0 ps (i * 2) = x := ⟨k, by omega, hB, hx⟩
        rw [decide_eq_true h1, decide_eq_false h2, decide_eq_true h3]
        rfl
      · have h1 : ¬ x ∈ sdI (at0 ps (k * 2 + 1)) := fun h => hx (hno k (by omega) hB h)
        rw [decide_eq_false h1, Bool.bne_false, Bool.eq_iff_iff, decide_eq_true_eq, decide_eq_true_eq]
        constructor
        · rintro ⟨i, h2, h3, h4⟩; exact ⟨i, by omega, h3, h4⟩
        · rintro ⟨i, h2, h3, h4⟩
          by_cases e : i = k
          · subst e; exact absurd h4 hx
          · exact ⟨i, by omega, h3, h4⟩
    · rw [if_neg hB]
      have : par x (sidesAll []) = false := by simp [sidesAll, par]
      rw [this, Bool.bne_false, Bool.eq_iff_iff, decide_eq_true_eq, decide_eq_true_eq]
      constructor
      · rintro ⟨i, h2, h3, h4⟩; exact ⟨i, by omega, h3, h4⟩
      · rintro ⟨i, h2, h3, h4⟩
        by_cases e : i = k
        · subst e; exact absurd h3 hB
        · exact ⟨i, by omega, h3, h4⟩

/-- Sides of a sum. -/
theorem par_xor {S A B : List Int} (hS : S.Nodup) (hA : A.Nodup) (hB : B.Nodup) (h : ∀ y, y ∈ S ↔ (decide (y ∈ A) != decide (y ∈ B)) = true) (x : Int) : par x (sidesAll S) = (par x (sidesAll A) != par x (sidesAll B)) := by
  obtain ⟨I, hI⟩ : ∃ I, I = A.filter fun y => decide (y ∈ B) := ⟨_, rfl⟩
  have hIn : I.Nodup := by rw [hI]; exact hA.filter _
  have hIm : ∀ y, y ∈ I ↔ y ∈ A ∧ y ∈ B := fun y => by rw [hI, List.mem_filter]; simp
  have hp : (S ++ (I ++ I)).Perm (A ++ B) := by
    rw [List.perm_iff_count]
    intro y
    rw [List.count_append, List.count_append, List.count_append, hS.count, hA.count, hB.count, hIn.count]
    have h1 := h y
    have h2 := hIm y
    by_cases a : y ∈ A <;> by_cases b : y ∈ B <;> simp [a, b] at h1 h2 <;> simp [a, b, h1, h2]
  have := par_perm (sidesAll_perm hp) x
  rw [sidesAll_app, sidesAll_app, sidesAll_app, par_app, par_app, par_app] at this
  rw [← this]
  cases par x (sidesAll S) <;> cases par x (sidesAll I) <;> rfl

theorem side_pair : ∀ f g : Fin 64, g.val ≠ 0 → g.val &&& f.val = g.val → ones f.val = ones g.val + 1 → g ∈ sidesF f.val := by decide +kernel
theorem okTo_side {V : Int} {fs ps : List Int} {n i : Nat} (hC : IsC V fs) (h : OkTo fs ps n) (hi : i < n) : at0 ps (i * 2) ∈ sdI (at0 ps (i * 2 + 1)) := by
  have hm := okTo_mem h hi
  have r1 := hC.range63 _ hm.1
  have r2 := hC.range63 _ hm.2
  have hb := (h i hi).1
  unfold pairB at hb
  simp only [Bool.and_eq_true, decide_eq_true_eq] at hb
  have := side_pair ⟨(at0 ps (i * 2 + 1)).toNat, by omega⟩ ⟨(at0 ps (i * 2)).toNat, by omega⟩ (by simp only; omega) hb.1.2 hb.2
  unfold sdI sidesI
  rw [List.mem_map]
  exact ⟨_, this, by simp only; omega⟩
theorem low_not_highF {fs ps : List Int} {n i j : Nat} (h : OkTo fs ps n) (hi : i < n) (hj : j < n) : at0 ps (i * 2) ≠ at0 ps (j * 2 + 1) := by
  intro e
  by_cases hij : i = j
  · subst hij
    have hb := (h i hi).1
    unfold pairB at hb
    simp only [Bool.and_eq_true, decide_eq_true_eq] at hb
    have := hb.2
    rw [← e] at this
    omega
  · rcases Nat.lt_or_gt_of_ne hij with h1 | h1
    · have := (h j hj).2.2 i h1
      unfold clashB at this
      simp [e] at this
    · have := (h i hi).2.2 j h1
      unfold clashB at this
      simp [e] at this
/-- A side of a pair's high face that is not its low face: a step. -/
theorem step_of {V : Int} {fs ps : List Int} {n j : Nat} (hC : IsC V fs) (h : OkTo fs ps n) (hj : j < n) {x : Int} (hx : x ∈ sdI (at0 ps (j * 2 + 1))) (hne : at0 ps (j * 2) ≠ x) : x ∈ nextL ps n (at0 ps (j * 2)) := by
  have r2 := hC.range63 _ (okTo_mem h hj).2
  unfold nextL
  rw [high_of h hj, if_neg (by omega), List.mem_filter]
  refine ⟨?_, by simpa using fun e : x = _ => hne e.symm⟩
  have hb := below_sides ⟨(at0 ps (j * 2 + 1)).toNat, by omega⟩
  simp only at hb
  rw [hb, List.mem_reverse]
  exact hx

/-- The greatest rank of the low faces of a list. -/
noncomputable def lowM (ps : List Int) (n : Nat) (B : List Int) : Nat → Nat
  | 0 => 0
  | k + 1 => if at0 ps (k * 2) ∈ B then max (rkW ps n (at0 ps (k * 2)) + 1) (lowM ps n B k) else lowM ps n B k
theorem lowM_le (ps : List Int) (n : Nat) (B : List Int) : ∀ k, lowM ps n B k ≤ n + 1
  | 0 => by simp [lowM]
  | k + 1 => by
    have h1 := lowM_le ps n B k
    have h2 := rkW_le ps n (at0 ps (k * 2))
    rw [lowM]
    split
    · omega
    · exact h1
theorem lowM_ge {ps : List Int} {n : Nat} {B : List Int} : ∀ {k i : Nat}, i < k → at0 ps (i * 2) ∈ B → rkW ps n (at0 ps (i * 2)) + 1 ≤ lowM ps n B k
  | 0, _, h, _ => by omega
  | k + 1, i, h, hm => by
    rw [lowM]
    by_cases e : i = k
    · subst e; rw [if_pos hm]; omega
    · have := lowM_ge (n := n) (k := k) (i := i) (by omega) hm
      split <;> omega
theorem lowM_get {ps : List Int} {n : Nat} {B : List Int} : ∀ {k : Nat}, lowM ps n B k ≠ 0 → ∃ i, i < k ∧ at0 ps (i * 2) ∈ B ∧ lowM ps n B k = rkW ps n (at0 ps (i * 2)) + 1
  | 0, h => by simp [lowM] at h
  | k + 1, h => by
    rw [lowM] at h ⊢
    by_cases hm : at0 ps (k * 2) ∈ B
    · rw [if_pos hm] at h ⊢
      by_cases hle : lowM ps n B k ≤ rkW ps n (at0 ps (k * 2)) + 1
      · exact ⟨k, by omega, hm, by omega⟩
      · obtain ⟨i, h1, h2, h3⟩ := lowM_get (ps := ps) (n := n) (B := B) (k := k) (by omega)
        exact ⟨i, by omega, h2, by omega⟩
    · rw [if_neg hm] at h ⊢
      obtain ⟨i, h1, h2, h3⟩ := lowM_get h
      exact ⟨i, by omega, h2, h3⟩
theorem lowM_lt {ps : List Int} {n : Nat} (hc : NoCycle ps n) {B B' : List Int} (h : ∀ i, i < n → at0 ps (i * 2) ∈ B' → ∃ j, j < n ∧ at0 ps (j * 2) ∈ B ∧ at0 ps (i * 2) ∈ nextL ps n (at0 ps (j * 2))) : lowM ps n B' n = 0 ∨ lowM ps n B' n < lowM ps n B n := by
  by_cases h0 : lowM ps n B' n = 0
  · exact .inl h0
  · obtain ⟨i, h1, h2, h3⟩ := lowM_get h0
    obtain ⟨j, h4, h5, h6⟩ := h i h1 h2
    have := rkW_lt hc h1 (Way.one h6)
    have := lowM_ge (n := n) h4 h5
    exact .inr (by omega)

/-- Low faces in the flow: steps lead to them. -/
theorem flow_low {V : Int} {fs ps ch : List Int} {n : Nat} (hC : IsC V fs) (hO : OkTo fs ps n) (hch : ∀ x ∈ ch, x ∈ fs) {i : Nat} (hi : i < n) (hm : at0 ps (i * 2) ∈ flowL fs ps n ch) :
    ∃ j, j < n ∧ at0 ps (j * 2) ∈ ch ∧ at0 ps (i * 2) ∈ nextL ps n (at0 ps (j * 2)) := by
  refine Classical.byContradiction fun hno => ?_
  have hp := push_par (B := ch) (x := at0 ps (i * 2)) hC.range63 hO (fun j hj hB hx => Classical.byContradiction fun hne => hno ⟨j, hj, hB, step_of hC hO hj hx hne⟩) (fun j hj e => by rw [← e]; exact okTo_side hC hO hj) n (Nat.le_refl _)
  have h1 : par (at0 ps (i * 2)) (sidesAll (pushTo ps ch n)) = decide (at0 ps (i * 2) ∈ ch) := by
    rw [hp, Bool.eq_iff_iff, decide_eq_true_eq, decide_eq_true_eq]
    constructor
    · rintro ⟨j, _, h2, h3⟩; rw [← h3]; exact h2
    · intro h; exact ⟨i, hi, h, rfl⟩
  have h2 : at0 ps (i * 2) ∉ pushTo ps (bdL fs ch) n := fun h => by
    obtain ⟨j, hj, _, e⟩ := pushTo_mem.1 h
    exact low_not_highF hO hi hj e.symm
  have h3 : decide (at0 ps (i * 2) ∈ bdL fs (pushTo ps ch n)) = decide (at0 ps (i * 2) ∈ ch) := by
    rw [← h1, Bool.eq_iff_iff, decide_eq_true_eq]
    unfold bdL
    rw [List.mem_filter]
    exact ⟨fun h => h.2, fun h => ⟨(okTo_mem hO hi).1, h⟩⟩
  rw [mem_flowL hO hch, h3, decide_eq_false h2] at hm
  cases hd : decide (at0 ps (i * 2) ∈ ch) <;> rw [hd] at hm <;> simp at hm
theorem push_none {ps ch : List Int} {n : Nat} (h : ∀ i, i < n → at0 ps (i * 2) ∉ ch) : pushTo ps ch n = [] := by
  rw [List.eq_nil_iff_forall_not_mem]
  intro y hy
  obtain ⟨i, hi, hm, _⟩ := pushTo_mem.1 hy
  exact h i hi hm
theorem bdL_none (fs : List Int) : bdL fs [] = [] := by
  unfold bdL
  rw [List.filter_eq_nil_iff]
  intro x _
  simp [sidesAll, par]
/-- .. where no low face is left. -/
theorem flow_bd {V : Int} {fs ps ch : List Int} {n : Nat} (hC : IsC V fs) (hO : OkTo fs ps n) (ha : ch.Pairwise (· < ·)) (hch : ∀ x ∈ ch, x ∈ fs) (h0 : ∀ i, i < n → at0 ps (i * 2) ∉ ch) {i : Nat} (hi : i < n) (hm : at0 ps (i * 2) ∈ bdL fs (flowL fs ps n ch)) :
    ∃ j, j < n ∧ at0 ps (j * 2) ∈ bdL fs ch ∧ at0 ps (i * 2) ∈ nextL ps n (at0 ps (j * 2)) := by
  refine Classical.byContradiction fun hno => ?_
  have hp := push_par (B := bdL fs ch) (x := at0 ps (i * 2)) hC.range63 hO (fun j hj hB hx => Classical.byContradiction fun hne => hno ⟨j, hj, hB, step_of hC hO hj hx hne⟩) (fun j hj e => by rw [← e]; exact okTo_side hC hO hj) n (Nat.le_refl _)
  have h1 : par (at0 ps (i * 2)) (sidesAll (pushTo ps (bdL fs ch) n)) = par (at0 ps (i * 2)) (sidesAll ch) := by
    rw [hp, Bool.eq_iff_iff, decide_eq_true_eq]
    constructor
    · rintro ⟨j, _, h2, h3⟩
      rw [h3] at h2
      exact (List.mem_filter.1 h2).2
    · intro h
      exact ⟨i, hi, List.mem_filter.2 ⟨(okTo_mem hO hi).1, h⟩, rfl⟩
  have hx := par_xor (S := flowL fs ps n ch) (asc_nodup (flowL_asc hC ps n ch)) (asc_nodup ha) (pushTo_nodup (ch := bdL fs ch) hO n (Nat.le_refl _)) (fun y => by
    rw [mem_flowL hO hch, push_none h0, bdL_none]
    simp) (at0 ps (i * 2))
  rw [h1] at hx
  have := (List.mem_filter.1 hm).2
  rw [hx] at this
  simp at this
/-- The measure that falls. -/
noncomputable def muF (fs ps : List Int) (n : Nat) (ch : List Int) : Nat := if lowM ps n ch n = 0 then lowM ps n (bdL fs ch) n else n + 1 + lowM ps n ch n
theorem lowM_zero {ps : List Int} {n : Nat} {B : List Int} (h : lowM ps n B n = 0) : ∀ i, i < n → at0 ps (i * 2) ∉ B := fun i hi hm => by
  have := lowM_ge (n := n) hi hm
  omega
theorem flow_falls {V : Int} {fs ps ch : List Int} {n : Nat} (hC : IsC V fs) (hO : OkTo fs ps n) (hc : NoCycle ps n) (ha : ch.Pairwise (· < ·)) (hch : ∀ x ∈ ch, x ∈ fs) (hne : flowL fs ps n ch ≠ ch) : muF fs ps n (flowL fs ps n ch) < muF fs ps n ch := by
  have hA := lowM_lt hc (B := ch) (B' := flowL fs ps n ch) (fun i hi hm => flow_low hC hO hch hi hm)
  have hle := lowM_le ps n (bdL fs (flowL fs ps n ch)) n
  unfold muF
  by_cases h0 : lowM ps n ch n = 0
  · have h1 : lowM ps n (flowL fs ps n ch) n = 0 := by omega
    rw [if_pos h0, if_pos h1]
    have hz := lowM_zero h0
    rcases lowM_lt hc (B := bdL fs ch) (B' := bdL fs (flowL fs ps n ch)) (fun i hi hm => flow_bd hC hO ha hch hz hi hm) with h2 | h2
    · by_cases h3 : lowM ps n (bdL fs ch) n = 0
      · refine absurd ?_ hne
        have hp := push_none (lowM_zero h3)
        refine asc_ext (flowL_asc hC ps n ch) ha (fun y => ?_)
        rw [mem_flowL hO hch, push_none hz, bdL_none, hp]
        simp
      · omega
    · exact h2
  · rw [if_neg h0]
    split
    · omega
    · omega
/-- The end of the flow. -/
noncomputable def endL (fs ps : List Int) (n : Nat) (ch : List Int) : List Int := if flowL fs ps n ch = ch then ch else
  if muF fs ps n (flowL fs ps n ch) < muF fs ps n ch then endL fs ps n (flowL fs ps n ch) else []
termination_by muF fs ps n ch
theorem endL_done {fs ps ch : List Int} {n : Nat} (h : flowL fs ps n ch = ch) : endL fs ps n ch = ch := by rw [endL, if_pos h]
theorem endL_step {V : Int} {fs ps ch : List Int} {n : Nat} (hC : IsC V fs) (hO : OkTo fs ps n) (hc : NoCycle ps n) (ha : ch.Pairwise (· < ·)) (hch : ∀ x ∈ ch, x ∈ fs) (hne : flowL fs ps n ch ≠ ch) : endL fs ps n ch = endL fs ps n (flowL fs ps n ch) := by
  rw [endL, if_neg hne, if_pos (flow_falls hC hO hc ha hch hne)]

end Go.Proofs.YtpdhnjdnlgnniaaGreatDoor

/-! What a complex that comes in is told as, for the rows of all laws. -/
namespace Go.Proofs.YtpdhnjdnlgnniaaGreatDoor
open Go.ChangeShapes Go.WideShapes Go.ChangeAt Go.RowKit Go.Joins

theorem own : ownKnob Tryz.prog.godebug = none := by kernel_rfl
theorem laidOut : laidOutB Tryz.prog = true := by kernel_rfl

variable {H : Type} {enc : TypeId × Value → H}

/-- A slice of int64 that came in. -/
theorem slI_of_trod {W : World} {n : Nat} {v : Value} {y : DataW H × List MemPlace} (hf : DataW.trod enc Tryz.prog W 0 (fun _ => true) true n 22 [v] = some y) :
    ∃ a len cap xs, v = .slice a len cap ∧ xs.length = len ∧ len ≤ 9223372036854775807 ∧ SlI W W.heap.size a xs ∧ ∀ x ∈ xs, (Lit.int .i64 x).wf = true := by
  rcases open_ints Tryz.underlying22 Tryz.underlying2 (by kernel_rfl) hf with ⟨hcs, _⟩ | ⟨x, l, c, zs, hcs, _, hl, hm, hz, _, hcell, hwf⟩
  · simp at hcs
    subst hcs
    exact ⟨none, 0, 0, [], rfl, rfl, by omega, .inl rfl, by simp⟩
  · simp at hcs
    subst hcs
    simp at hz
    have hlen : (zs.take l).length = l := by simp; omega
    unfold maxLen at hm
    refine ⟨some x, l, c, zs.take l, rfl, hlen, by omega, ?_, fun y hy => hwf y (List.mem_of_mem_take hy)⟩
    by_cases h0 : l = 0
    · subst h0; exact .inl (by simp)
    · right
      obtain ⟨b, off, spot⟩ := x
      have hc0 := hcell 0 (by omega)
      have hspot : spot = none := by simpa [Addr.add] using World.cell?_spot hc0
      subst hspot
      refine ⟨b, off, ?_, rfl, fun i hi => ?_⟩
      · have := World.block_lt_of_cell? W _ hc0
        simpa [Addr.add] using this
      · rw [hlen] at hi
        have := hcell i (by omega)
        have hadd : (⟨b, off, none⟩ : Addr).add i = ⟨b, off + i, none⟩ := by unfold Addr.add; split <;> simp_all
        rw [hadd] at this
        rw [List.getElem?_take, if_pos hi]
        simpa using this

end Go.Proofs.YtpdhnjdnlgnniaaGreatDoor

/-! What the listed variables hold, for the rows of tied cards. -/
namespace Go.Proofs.YtpdhnjdnlgnniaaGreatDoor
open Go.ChangeShapes Go.WideShapes Go.ChangeAt Go.RowKit Go.Joins

theorem starErr : "*" ++ "errors.errorString" = "*errors.errorString" := by decide
theorem rowErr (u : TypeId) (h : Tryz.prog.typeName? 3 u = some "*errors.errorString") : u = 129 :=
  typeName_ptr_named (nm := "errors.errorString") (by rw [starErr]; kernel_rfl) (by kernel_rfl) (by decide) u (by rw [starErr]; exact h)

theorem gChain : Tryz.prog.globalNamed "loop.example/g01348/impl.errNoChain" = some 0 := by kernel_rfl
theorem tChain : (Tryz.prog.globals[0]?).map (·.type) = some 59 := by kernel_rfl
theorem sentChain {W : World} (h : laidMet Tryz.prog [("loop.example/g01348/impl.errNoChain", Rows.laid_loop_example_g01348_impl_errNoChain)] W) : ∃ pv, W.cell? ⟨0, 0, none⟩ = some (.iface 129 pv) := by
  unfold Rows.laid_loop_example_g01348_impl_errNoChain at h
  obtain ⟨a, s, hv, _, _, _⟩ := laid_sentinel h gChain tChain Tryz.underlying59 rowErr Tryz.underlying129 Tryz.underlying146 rfl rfl Tryz.underlying9 (by kernel_rfl) (by kernel_rfl)
  exact ⟨_, by simpa using World.var?_cell gChain hv 0⟩


end Go.Proofs.YtpdhnjdnlgnniaaGreatDoor

/-! What a list of pairs that comes in is told as. -/
namespace Go.Proofs.YtpdhnjdnlgnniaaGreatDoor
open Go.ChangeShapes Go.WideShapes Go.ChangeAt Go.RowKit Go.Joins

variable {H : Type} {enc : TypeId × Value → H}

/-- The number in a cell. -/
def cellInt (v : Option Value) : Int := match v with | some (.int _ n) => n | _ => 0

set_option maxRecDepth 100000 in
theorem two_of_trod {W : World} {n : Nat} {cs : List Value} {y : DataW H × List MemPlace} (hf : DataW.trod enc Tryz.prog W 0 (fun _ => true) true n 44 cs = some y) : ∃ x y : Int, cs = [.int .i64 x, .int .i64 y] ∧ (Lit.int .i64 x).wf = true ∧ (Lit.int .i64 y).wf = true := by
  cases n with
  | zero => simp [DataW.trod] at hf
  | succ n =>
    unfold DataW.trod at hf
    rw [Tryz.underlying44] at hf
    simp only at hf
    rw [show Tryz.prog.cellsOf 44 = 2 by kernel_rfl, show Tryz.prog.cellsOf 2 = 1 by kernel_rfl] at hf
    split at hf
    · next hl =>
      match cs, hl with
      | [c0, c1], _ =>
        simp only [Option.map_eq_some_iff] at hf
        obtain ⟨xs, hx, _⟩ := hf
        rw [show List.range 2 = [0, 1] from rfl, List.mapM_cons, List.mapM_cons, List.mapM_nil] at hx
        simp only [bind, Option.bind_eq_some_iff, pure, Option.some.injEq] at hx
        obtain ⟨y0, h0, _, ⟨y1, h1, _, rfl, rfl⟩, rfl⟩ := hx
        obtain ⟨a, ea, _, wa⟩ := DataW.trod_int Tryz.underlying2 h0
        obtain ⟨b, eb, _, wb⟩ := DataW.trod_int Tryz.underlying2 h1
        simp at ea eb
        subst ea; subst eb
        exact ⟨a, b, rfl, wa, wb⟩
    · cases hf

set_option maxRecDepth 100000 in
/-- A list of pairs that came in. -/
theorem pairs_of_trod {W : World} {n : Nat} {v : Value} {y : DataW H × List MemPlace} (hf : DataW.trod enc Tryz.prog W 0 (fun _ => true) true n 25 [v] = some y) :
    ∃ a len cap ps, v = .slice a len cap ∧ ps.length = 2 * len ∧ len ≤ 9223372036854775807 ∧ SlI W W.heap.size a ps ∧ ∀ x ∈ ps, (Lit.int .i64 x).wf = true := by
  rcases DataW.trod_slice Tryz.underlying25 hf with ⟨hcs, _⟩ | ⟨a, len, cap, elems, rest, m, _, hcs, _, hb, hl, hm, hlen, hel, _, _⟩
  · simp at hcs
    subst hcs
    exact ⟨none, 0, 0, [], rfl, rfl, by omega, .inl rfl, by simp⟩
  · simp at hcs
    subst hcs
    unfold maxLen at hm
    have hc : Tryz.prog.cellsOf 44 = 2 := by kernel_rfl
    have each : ∀ i, i < 2 * len → ∃ x, W.cell? (a.add i) = some (.int .i64 x) ∧ (Lit.int .i64 x).wf = true := by
      intro i hi
      have h := hel (i / 2) (by omega)
      rw [hc] at h
      have hy : elems[i / 2]? = some (elems[i / 2]'(by omega)) := List.getElem?_eq_getElem (by omega)
      rw [hy, Option.bind_eq_some_iff] at h
      obtain ⟨cs, hcs, ht⟩ := h
      obtain ⟨x, y, rfl, wx, wy⟩ := two_of_trod ht
      have h3 := (World.cells?_some hcs).2.2 (i % 2) (Nat.mod_lt _ (by decide))
      have hadd : (a.add (i / 2 * 2)).add (i % 2) = a.add i := by
        rw [Addr.add_add]
        congr 1
        omega
      rw [hadd] at h3
      rcases Nat.mod_two_eq_zero_or_one i with h | h <;> rw [h] at h3 <;> simp at h3
      · exact ⟨_, h3, wx⟩
      · exact ⟨_, h3, wy⟩
    refine ⟨some a, len, cap, (List.range (2 * len)).map (fun i => cellInt (W.cell? (a.add i))), rfl, by simp, by omega, ?_, ?_⟩
    rotate_left
    · intro x hx
      obtain ⟨i, hi, rfl⟩ := List.mem_map.1 hx
      obtain ⟨y, hy, wy⟩ := each i (List.mem_range.1 hi)
      rw [hy]
      exact wy
    by_cases h0 : len = 0
    · subst h0; exact .inl (by simp)
    · right
      obtain ⟨b, off, spot⟩ := a
      obtain ⟨x0, hc0, _⟩ := each 0 (by omega)
      have hspot : spot = none := by simpa [Addr.add] using World.cell?_spot hc0
      subst hspot
      refine ⟨b, off, ?_, rfl, fun i hi => ?_⟩
      · have := World.block_lt_of_cell? W _ hc0
        simpa [Addr.add] using this
      · simp only [List.length_map, List.length_range] at hi
        obtain ⟨x, hx, _⟩ := each i hi
        have hadd : (⟨b, off, none⟩ : Addr).add i = ⟨b, off + i, none⟩ := by unfold Addr.add; split <;> simp_all
        rw [hadd] at hx
        rw [hx, List.getElem?_map, List.getElem?_range hi]
        simp only [Option.map_some, Option.getD_some]
        rw [hadd, hx]
        rfl

theorem pairs_in {W : World} {n : Nat} {a : Option Addr} {m cap : Nat} {y : DataW H × List MemPlace} (hf : DataW.trod enc Tryz.prog W 0 (fun _ => true) true n 25 (Value.slice a m cap).cells.toList = some y) :
    ∃ ps, ps.length = 2 * m ∧ m ≤ 9223372036854775807 ∧ SlI W W.heap.size a ps ∧ ∀ x ∈ ps, (Lit.int .i64 x).wf = true := by
  obtain ⟨a', len, cap', ps, he, h1, h2, h3, h4⟩ := pairs_of_trod (v := .slice a m cap) hf
  cases he
  exact ⟨ps, h1, h2, h3, h4⟩

end Go.Proofs.YtpdhnjdnlgnniaaGreatDoor
