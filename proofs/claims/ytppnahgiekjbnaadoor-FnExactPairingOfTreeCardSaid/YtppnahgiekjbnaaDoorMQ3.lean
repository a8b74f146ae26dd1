import Derived.Lib.QuietBelow
import Derived.Defers
import Derived.Recover
import Derived.Laws.Pointers
import Derived.Test.YtppnahgiekjbnaaDoorMQ1
import Derived.Test.YtppnahgiekjbnaaDoorMQ2
/-! Is a list a chain? The model's two tests. -/
namespace Go.Proofs.YtppnahgiekjbnaaDoor
open Go.RowKit Go.Sort

/-- Element i of a list is a face with as many vertices as the first one, and greater than the one ahead of it. -/
def linkB (fs ch : List Int) (i : Nat) : Bool :=
  decide (ch[i]?.getD 0 ∈ fs) && decide (ones (ch[i]?.getD 0).toNat = ones (ch[0]?.getD 0).toNat) && (decide (i = 0) || decide (ch[i - 1]?.getD 0 < ch[i]?.getD 0))
def linksTo (fs ch : List Int) (k : Nat) : Prop := ∀ i, i < k → linkB fs ch i = true
def chainB (fs ch : List Int) : Bool := (List.range ch.length).all (linkB fs ch)
/-- The code of a complex and a list. -/
noncomputable def chnR (V : Int) (fs ch : List Int) : Int := if isCB V fs then (if chainB fs ch then 0 else 2) else 1

theorem chain_yes {fs ch : List Int} (h : linksTo fs ch ch.length) : chainB fs ch = true := by
  unfold chainB
  rw [List.all_eq_true]
  intro i hi
  exact h i (by simpa using hi)
theorem chain_no {fs ch : List Int} {k : Nat} (hk : k < ch.length) (h : linkB fs ch k = false) : chainB fs ch = false := by
  unfold chainB
  rw [List.all_eq_false]
  exact ⟨k, by simpa using hk, by simp [h]⟩
theorem links_succ {fs ch : List Int} {k : Nat} (h : linksTo fs ch k) (h1 : linkB fs ch k = true) : linksTo fs ch (k + 1) := by
  intro i hi
  by_cases e : i = k
  · subst e; exact h1
  · exact h i (by omega)
theorem links_mem {fs ch : List Int} (h : chainB fs ch = true) : ∀ x ∈ ch, x ∈ fs := by
  intro x hx
  obtain ⟨i, hi, rfl⟩ := List.getElem_of_mem hx
  unfold chainB at h
  rw [List.all_eq_true] at h
  have h2 := h i (by simpa using hi)
  unfold linkB at h2
  simp only [Bool.and_eq_true, decide_eq_true_eq] at h2
  have h3 := h2.1.1
  rw [List.getElem?_eq_getElem hi] at h3
  simpa using h3
theorem chain_len {fs ch : List Int} {V : Int} (hC : IsC V fs) (h : chainB fs ch = true) : (∀ x ∈ ch, 1 ≤ x ∧ x ≤ 63) := fun x hx => hC.range63 x (links_mem h x hx)
theorem link_no_mem {fs ch : List Int} {k : Nat} (h : ch[k]?.getD 0 ∉ fs) : linkB fs ch k = false := by unfold linkB; simp [h]
theorem link_no_ord {fs ch : List Int} {k : Nat} (hk : 0 < k) (h : ch[k]?.getD 0 ≤ ch[k - 1]?.getD 0) : linkB fs ch k = false := by
  unfold linkB
  rw [decide_eq_false (show ¬ k = 0 by omega), decide_eq_false (show ¬ ch[k - 1]?.getD 0 < ch[k]?.getD 0 by omega)]
  simp
theorem link_first {fs ch : List Int} (h : ch[0]?.getD 0 ∈ fs) : linkB fs ch 0 = true := by unfold linkB; simp [h]
theorem link_eq {fs ch : List Int} {k : Nat} (h : ch[k]?.getD 0 ∈ fs) (ho : 0 < k → ch[k - 1]?.getD 0 < ch[k]?.getD 0) : linkB fs ch k = decide (ones (ch[k]?.getD 0).toNat = ones (ch[0]?.getD 0).toNat) := by
  unfold linkB
  rw [decide_eq_true h]
  by_cases hk : k = 0
  · subst hk; simp
  · rw [decide_eq_true (ho (by omega))]; simp
theorem link_head {fs ch : List Int} {k : Nat} (hk : 0 < k) (h : linksTo fs ch k) : ch[0]?.getD 0 ∈ fs := by
  have h2 := h 0 hk
  unfold linkB at h2
  simp only [Bool.and_eq_true, decide_eq_true_eq] at h2
  exact h2.1.1

theorem chn_bad {V : Int} {fs ch : List Int} (h : isCB V fs = false) : chnR V fs ch = 1 := by unfold chnR; rw [h]; rfl
theorem chn_no {V : Int} {fs ch : List Int} (h : isCB V fs = true) (h2 : chainB fs ch = false) : chnR V fs ch = 2 := by unfold chnR; rw [h, h2]; rfl
theorem chn_yes {V : Int} {fs ch : List Int} (h : isCB V fs = true) (h2 : chainB fs ch = true) : chnR V fs ch = 0 := by unfold chnR; rw [h, h2]; rfl

set_option maxRecDepth 100000 in
set_option maxHeartbeats 8000000 in
theorem chain3_any (V : Int) (a0 : Option Addr) (cap : Nat) (fs : List Int) (a1 : Option Addr) (cap1 : Nat) (ch : List Int) (w : World) (hx : SlI w w.heap.size a0 fs) (hx1 : SlI w w.heap.size a1 ch) (hl : fs.length ≤ 1048576) (hg : ch.length ≤ 1048576) :
    Calls Tryd.prog 45 #[.agg #[.int .i64 V, .slice a0 fs.length cap], .slice a1 ch.length cap1] w fun e w' => e = .returned (.int .i64 (chnR V fs ch)) ∧ Below w.heap.size w w' := by
  obtain ⟨W0, hW0⟩ : ∃ W0, W0 = w.alloc (.cells #[.int .i64 V, .slice a0 fs.length cap] 28) := ⟨_, rfl⟩
  have hB0 : Below w.heap.size w W0 := by rw [hW0]; exact (Below.refl _ w).alloc (Nat.le_refl _) _
  have Hk : Hid (W0.heap[w.heap.size]? = some (.cells #[.int .i64 V, .slice a0 fs.length cap] 28 (0, 0))) := hid (by rw [hW0]; exact heap_alloc_new _ _)
  have Hx := hid hx
  have Hy := hid hx1
  have HB0 := hid hB0
  have HI := hid (is_all V a0 cap fs W0 (hx.later hB0 hB0.size) hl)
  rw [hW0] at HI
  clear hx hx1 hB0
  cases hc : isCB V fs
  · have HR : Hid (chnR V fs ch = 1) := hid (chn_bad hc)
    rw [hc] at HI
    clear hc
    go_enter Tryd.func45, Tryd.ntmps45
    go_wp2_with fail
    refine HI.out.mono ?_
    rintro e w1 ⟨rfl, hB1⟩
    rw [← hW0] at hB1
    go_wp2_with fail
    go_ret
    exact ⟨ret_int HR.out.symm, HB0.out.trans (hB1.mono HB0.out.size)⟩
  · have hC := isCB_iff.1 hc
    have HC := hid hC
    have HY : Hid (chainB fs ch = true → chnR V fs ch = 0) := hid (chn_yes hc)
    have HN : Hid (chainB fs ch = false → chnR V fs ch = 2) := hid (chn_no hc)
    rw [hc] at HI
    clear hc hC
    obtain ⟨R, hR⟩ : ∃ R, R = chnR V fs ch := ⟨_, rfl⟩
    rw [← hR] at HY HN ⊢
    clear hR
    go_enter Tryd.func45, Tryd.ntmps45
    go_wp2_with fail
    refine HI.out.mono ?_
    rintro e w1 ⟨rfl, hB1⟩
    rw [← hW0] at hB1
    have Hk1 := hid ((hB1.block _ (lt_get Hk.out)).trans Hk.out)
    have HB1 := hid (HB0.out.trans (hB1.mono HB0.out.size))
    clear hB1
    go_wp2_with fail
    go_loopw [5] (fun iv wx => ∃ k : Nat, k ≤ ch.length ∧ iv = .int .i64 k ∧ Hid (linksTo fs ch k) ∧ Hid (Below w1.heap.size w1 wx)) (fun iv _ => ch.length - (RowKit.intOf iv).toNat)
    case atStart => exact ⟨0, Nat.zero_le _, rfl, hid (by intro i h; omega), hid (Below.refl _ _)⟩
    case round =>
      obtain ⟨k, hk, rfl, HK, HB⟩ := hrel
      have hBw := HB1.out.trans (HB.out.mono HB1.out.size)
      have HBw := hid hBw
      have Hkr := hid ((HB.out.block _ (lt_get Hk1.out)).trans Hk1.out)
      by_cases hlt : k < ch.length
      · obtain ⟨b, off, hb, rfl, hcl⟩ : ∃ b off, b < w.heap.size ∧ a1 = some ⟨b, off, none⟩ ∧ ∀ i, i < ch.length → w.cell? ⟨b, off + i, none⟩ = some (.int .i64 (ch[i]?.getD 0)) := by
          rcases Hy.out with h | h
          · rw [h] at hlt; simp at hlt
          · exact h
        obtain ⟨x, hxe⟩ : ∃ x, x = ch[k]?.getD 0 := ⟨_, rfl⟩
        have c0 := cell_regrown ((hBw.cell (p := ⟨b, off + k, none⟩) hb).trans (hcl k hlt))
        rw [← hxe] at c0
        obtain ⟨k0, k1, _, _⟩ := two_of Hkr.out
        have r0 := cell_regrown k0
        have r1 := cell_regrown k1
        have CH := hid (fun d os => Calls.regrown_of (has_any V x a0 cap fs (grow (redrawn wr d) os) (Hx.out.later (hBw.trans ((below_regrown wr d os).mono hBw.size)) (hBw.trans ((below_regrown wr d os).mono hBw.size)).size) hl))
        have hi0 : (0 : Int) ≤ (k : Int) := by omega
        have hi1 : (k : Int) < (ch.length : Int) := by omega
        clear k0 k1 hBw
        by_cases hm : x ∈ fs
        · rw [decide_eq_true hm] at CH
          have hxr := HC.out.range63 _ hm
          by_cases hk0 : 0 < k
          · have hd0 : decide (0 < k) = true := decide_eq_true hk0
            have hsub : IntKind.i64.wrap ((k : Int) - 1) = ((k - 1 : Nat) : Int) := by rw [IntKind.wrap_i64]; omega
            have hj0 : (0 : Int) ≤ ((k - 1 : Nat) : Int) := by omega
            have hj1 : ((k - 1 : Nat) : Int) < (ch.length : Int) := by omega
            obtain ⟨y, hye⟩ : ∃ y, y = ch[k - 1]?.getD 0 := ⟨_, rfl⟩
            have c1 := cell_regrown ((HBw.out.cell (p := ⟨b, off + (k - 1), none⟩) hb).trans (hcl (k - 1) (by omega)))
            rw [← hye] at c1
            by_cases hle : x ≤ y
            · have hd1 : decide (x ≤ y) = true := decide_eq_true hle
              have He := hid (HN.out (chain_no hlt (link_no_ord hk0 (by rw [← hxe, ← hye]; exact hle))))
              clear hle hcl hxe hye hk0
              go_wp2_with fail
              refine wp_region_quiet_below (by kernel_rfl) (by kernel_rfl) ?_
              iterate 5 (with_reducible refine wpQuiet_step (fun K hK => ?_); have HK := hid hK; clear hK; go_simp; (first | with_reducible refine HK.out _ ?_ | (rw [if_neg (by decide)]; with_reducible refine HK.out _ ?_)); clear HK K)
              (with_reducible refine wpQuiet_step (fun K hK => ?_); have HK := hid hK; clear hK; go_simp; apply Exists.intro; with_reducible refine ⟨fun _ => ?_, HK.out _ ?_⟩; exact CH.out _ _; clear HK K)
              iterate 29 (with_reducible refine wpQuiet_step (fun K hK => ?_); have HK := hid hK; clear hK; go_simp; (first | with_reducible refine HK.out _ ?_ | (rw [if_neg (by decide)]; with_reducible refine HK.out _ ?_)); clear HK K)
              with_reducible refine wpQuiet_nil ?_
              intro _ hw'
              obtain ⟨⟨dq, osq⟩, hw''⟩ := hw'
              subst hw''
              go_wp2_with fail
              go_ret
              exact ⟨ret_int He.out.symm, HBw.out.trans ((below_regrown wr dq osq).mono HBw.out.size)⟩
            · have hd1 : decide (x ≤ y) = false := decide_eq_false hle
              obtain ⟨z, hze⟩ : ∃ z, z = ch[0]?.getD 0 := ⟨_, rfl⟩
              have c2 := cell_regrown ((HBw.out.cell (p := ⟨b, off, none⟩) hb).trans (hcl 0 (by omega)))
              rw [← hze] at c2
              have hzr := HC.out.range63 _ (show z ∈ fs by rw [hze]; exact link_head hk0 HK.out)
              have He := hid (link_eq (fs := fs) (ch := ch) (k := k) (by rw [← hxe]; exact hm) (fun _ => by rw [← hxe, ← hye]; omega))
              have hl0 : 0 < ch.length := by omega
              rw [← hxe, ← hze] at He
              obtain ⟨x, rfl⟩ : ∃ n : Nat, x = n := ⟨x.toNat, by omega⟩
              obtain ⟨z, rfl⟩ : ∃ n : Nat, z = n := ⟨z.toNat, by omega⟩
              have hx64 : x < 64 := by omega
              have hz64 : z < 64 := by omega
              have cO : ∀ (f : Nat), f < 64 → ∀ d os, Calls Tryd.prog 49 #[.int .i64 (f : Int)] (grow (redrawn wr d) os) fun e w'' => e = .returned (.int .i64 (ones f : Int)) ∧ ∃ p : Regrown, w'' = grow (redrawn wr p.d) p.os := fun f hf d os => Calls.regrown_of ((ones_any f _ hf).mono fun _ _ ⟨he, hw⟩ => ⟨he, by rw [← hw]; exact Below.refl _ _⟩)
              have COx := hid (cO x hx64)
              have COz := hid (cO z hz64)
              simp only [Int.toNat_natCast] at He
              clear hcl hxe hye hze cO hm hxr hzr hle hx64 hz64
              by_cases ho : ones x = ones z
              · have hd2 : (((ones x : Nat) : Int) != ((ones z : Nat) : Int)) = false := by simp [ho]
                have HS := hid (links_succ HK.out (He.out.trans (decide_eq_true ho)))
                clear ho hk0
                go_wp2_with fail
                refine wp_region_quiet_below (by kernel_rfl) (by kernel_rfl) ?_
                iterate 5 (with_reducible refine wpQuiet_step (fun K hK => ?_); have HK := hid hK; clear hK; go_simp; (first | with_reducible refine HK.out _ ?_ | (rw [if_neg (by decide)]; with_reducible refine HK.out _ ?_)); clear HK K)
                (with_reducible refine wpQuiet_step (fun K hK => ?_); have HK := hid hK; clear hK; go_simp; apply Exists.intro; with_reducible refine ⟨fun _ => ?_, HK.out _ ?_⟩; exact CH.out _ _; clear HK K)
                iterate 20 (with_reducible refine wpQuiet_step (fun K hK => ?_); have HK := hid hK; clear hK; go_simp; (first | with_reducible refine HK.out _ ?_ | (rw [if_neg (by decide)]; with_reducible refine HK.out _ ?_)); clear HK K)
                (with_reducible refine wpQuiet_step (fun K hK => ?_); have HK := hid hK; clear hK; go_simp; apply Exists.intro; with_reducible refine ⟨fun _ => ?_, HK.out _ ?_⟩; exact COx.out _ _; clear HK K)
                iterate 3 (with_reducible refine wpQuiet_step (fun K hK => ?_); have HK := hid hK; clear hK; go_simp; (first | with_reducible refine HK.out _ ?_ | (rw [if_neg (by decide)]; with_reducible refine HK.out _ ?_)); clear HK K)
                (with_reducible refine wpQuiet_step (fun K hK => ?_); have HK := hid hK; clear hK; go_simp; apply Exists.intro; with_reducible refine ⟨fun _ => ?_, HK.out _ ?_⟩; exact COz.out _ _; clear HK K)
                iterate 4 (with_reducible refine wpQuiet_step (fun K hK => ?_); have HK := hid hK; clear hK; go_simp; (first | with_reducible refine HK.out _ ?_ | (rw [if_neg (by decide)]; with_reducible refine HK.out _ ?_)); clear HK K)
                with_reducible refine wpQuiet_nil ?_
                intro _ hw'
                obtain ⟨⟨dq, osq⟩, hw''⟩ := hw'
                subst hw''
                go_wp2_with fail
                go_roundw
                case rel => exact ⟨k + 1, by omega, by go_num, HS, hid (HB.out.trans ((below_regrown wr dq osq).mono HB.out.size))⟩
                case measure => simp [RowKit.intOf]; omega
              · have hd2 : (((ones x : Nat) : Int) != ((ones z : Nat) : Int)) = true := by simp; omega
                have HE2 := hid (HN.out (chain_no hlt (He.out.trans (decide_eq_false ho))))
                clear ho hk0
                go_wp2_with fail
                refine wp_region_quiet_below (by kernel_rfl) (by kernel_rfl) ?_
                iterate 5 (with_reducible refine wpQuiet_step (fun K hK => ?_); have HK := hid hK; clear hK; go_simp; (first | with_reducible refine HK.out _ ?_ | (rw [if_neg (by decide)]; with_reducible refine HK.out _ ?_)); clear HK K)
                (with_reducible refine wpQuiet_step (fun K hK => ?_); have HK := hid hK; clear hK; go_simp; apply Exists.intro; with_reducible refine ⟨fun _ => ?_, HK.out _ ?_⟩; exact CH.out _ _; clear HK K)
                iterate 20 (with_reducible refine wpQuiet_step (fun K hK => ?_); have HK := hid hK; clear hK; go_simp; (first | with_reducible refine HK.out _ ?_ | (rw [if_neg (by decide)]; with_reducible refine HK.out _ ?_)); clear HK K)
                (with_reducible refine wpQuiet_step (fun K hK => ?_); have HK := hid hK; clear hK; go_simp; apply Exists.intro; with_reducible refine ⟨fun _ => ?_, HK.out _ ?_⟩; exact COx.out _ _; clear HK K)
                iterate 3 (with_reducible refine wpQuiet_step (fun K hK => ?_); have HK := hid hK; clear hK; go_simp; (first | with_reducible refine HK.out _ ?_ | (rw [if_neg (by decide)]; with_reducible refine HK.out _ ?_)); clear HK K)
                (with_reducible refine wpQuiet_step (fun K hK => ?_); have HK := hid hK; clear hK; go_simp; apply Exists.intro; with_reducible refine ⟨fun _ => ?_, HK.out _ ?_⟩; exact COz.out _ _; clear HK K)
                iterate 4 (with_reducible refine wpQuiet_step (fun K hK => ?_); have HK := hid hK; clear hK; go_simp; (first | with_reducible refine HK.out _ ?_ | (rw [if_neg (by decide)]; with_reducible refine HK.out _ ?_)); clear HK K)
                with_reducible refine wpQuiet_nil ?_
                intro _ hw'
                obtain ⟨⟨dq, osq⟩, hw''⟩ := hw'
                subst hw''
                go_wp2_with fail
                go_ret
                exact ⟨ret_int HE2.out.symm, HBw.out.trans ((below_regrown wr dq osq).mono HBw.out.size)⟩
          · obtain rfl : k = 0 := by omega
            have hd0 : decide (0 < 0) = false := rfl
            have c00 : ∀ d os, (grow (redrawn wr d) os).cell? ⟨b, off, none⟩ = some (.int .i64 x) := fun d os => by simpa using c0 d os
            have HS := hid (links_succ HK.out (link_first (by rw [← hxe]; exact hm)))
            clear hcl hxe hk0 hm
            go_wp2_with fail
            refine wp_region_quiet_below (by kernel_rfl) (by kernel_rfl) ?_
            iterate 5 (with_reducible refine wpQuiet_step (fun K hK => ?_); have HK := hid hK; clear hK; go_simp; (first | with_reducible refine HK.out _ ?_ | (rw [if_neg (by decide)]; with_reducible refine HK.out _ ?_)); clear HK K)
            (with_reducible refine wpQuiet_step (fun K hK => ?_); have HK := hid hK; clear hK; go_simp; apply Exists.intro; with_reducible refine ⟨fun _ => ?_, HK.out _ ?_⟩; exact CH.out _ _; clear HK K)
            iterate 29 (with_reducible refine wpQuiet_step (fun K hK => ?_); have HK := hid hK; clear hK; go_simp; (first | with_reducible refine HK.out _ ?_ | (rw [if_neg (by decide)]; with_reducible refine HK.out _ ?_)); clear HK K)
            with_reducible refine wpQuiet_nil ?_
            intro _ hw'
            obtain ⟨⟨dq, osq⟩, hw''⟩ := hw'
            subst hw''
            go_wp2_with fail
            go_roundw
            case rel => exact ⟨1, by omega, by go_num, HS, hid (HB.out.trans ((below_regrown wr dq osq).mono HB.out.size))⟩
            case measure => simp [RowKit.intOf]; omega
        · rw [decide_eq_false hm] at CH
          have He := hid (HN.out (chain_no hlt (link_no_mem (by rw [← hxe]; exact hm))))
          clear hm hcl hxe
          go_wp2_with fail
          refine wp_region_quiet_below (by kernel_rfl) (by kernel_rfl) ?_
          iterate 5 (with_reducible refine wpQuiet_step (fun K hK => ?_); have HK := hid hK; clear hK; go_simp; (first | with_reducible refine HK.out _ ?_ | (rw [if_neg (by decide)]; with_reducible refine HK.out _ ?_)); clear HK K)
          (with_reducible refine wpQuiet_step (fun K hK => ?_); have HK := hid hK; clear hK; go_simp; apply Exists.intro; with_reducible refine ⟨fun _ => ?_, HK.out _ ?_⟩; exact CH.out _ _; clear HK K)
          iterate 29 (with_reducible refine wpQuiet_step (fun K hK => ?_); have HK := hid hK; clear hK; go_simp; (first | with_reducible refine HK.out _ ?_ | (rw [if_neg (by decide)]; with_reducible refine HK.out _ ?_)); clear HK K)
          with_reducible refine wpQuiet_nil ?_
          intro _ hw'
          obtain ⟨⟨dq, osq⟩, hw''⟩ := hw'
          subst hw''
          go_wp2_with fail
          go_ret
          exact ⟨ret_int He.out.symm, HBw.out.trans ((below_regrown wr dq osq).mono HBw.out.size)⟩
      · obtain rfl : k = ch.length := by omega
        have He := hid (HY.out (chain_yes HK.out))
        go_wp2_with fail
        go_ret
        exact ⟨ret_int He.out.symm, HBw.out⟩

end Go.Proofs.YtppnahgiekjbnaaDoor

/-! slices.Contains on a list of int64. -/
namespace Go.Proofs.YtppnahgiekjbnaaDoor
open Go.RowKit

set_option maxRecDepth 100000 in
set_option maxHeartbeats 1000000 in
theorem index_any (a : Option Addr) (cap : Nat) (xs : List Int) (x : Int) (w : World) (hx : SlI w w.heap.size a xs) (hl : xs.length ≤ 1048576) :
    Calls Tryd.prog 81 #[.slice a xs.length cap, .int .i64 x] w fun e w' => ∃ i : Int, e = .returned (.int .i64 i) ∧ -1 ≤ i ∧ (0 ≤ i ↔ x ∈ xs) ∧ w = w' := by
  rcases hx with rfl | ⟨b, off, hb, rfl, hc⟩
  · go_enter Tryd.func81, Tryd.ntmps81
    go_wp2
    refine wp_loop_rounds 1 ?_; rw [rounds_succ]
    go_wp2
    go_ret
    exact ⟨-1, rfl, by decide, by simp, rfl⟩
  · have Hc := hid hc
    clear hc
    go_enter Tryd.func81, Tryd.ntmps81
    go_wp2
    go_loop [8] (fun i => ∃ k : Nat, k ≤ xs.length ∧ i = .int .i64 k ∧ Hid (x ∉ xs.take k)) (fun i => xs.length - (intOf i).toNat)
    case atStart => exact ⟨0, Nat.zero_le _, rfl, hid (by simp)⟩
    case round =>
      obtain ⟨k, hk, rfl, Hk⟩ := hrel
      by_cases hlt : k < xs.length
      · obtain ⟨y, hy⟩ : ∃ y, y = xs[k]?.getD 0 := ⟨_, rfl⟩
        have hck : w.cell? ⟨b, off + k, none⟩ = some (.int .i64 y) := by rw [hy]; exact Hc.out k hlt
        have Hy := hid hy
        have hi0 : (0 : Int) ≤ (k : Int) := by omega
        have hi1 : (k : Int) < (xs.length : Int) := by omega
        clear hy
        by_cases hxy : x = y
        · have hd : (x == y) = true := by simp [hxy]
          have He : Hid (x ∈ xs) := hid (by rw [hxy, Hy.out]; exact getD_mem hlt)
          clear hxy
          go_wp2
          go_ret
          exact ⟨k, rfl, by omega, ⟨fun _ => He.out, fun _ => by omega⟩, rfl⟩
        · have hd : (x == y) = false := by simp [hxy]
          have He : Hid (x ∉ xs.take (k + 1)) := hid (by
            rw [take_snoc hlt, ← Hy.out]
            intro h
            rcases List.mem_append.1 h with h | h
            · exact Hk.out h
            · simp at h; exact hxy h)
          clear hxy
          go_wp2
          go_round
          case rel => exact ⟨k + 1, by omega, by go_num, He.out⟩
          case measure => simp [intOf]; omega
      · have He : Hid (x ∉ xs) := hid (by have := Hk.out; rwa [List.take_of_length_le (by omega)] at this)
        go_wp2
        go_ret
        exact ⟨-1, rfl, by decide, ⟨fun h => absurd h (by decide), fun h => absurd h He.out⟩, rfl⟩

set_option maxRecDepth 100000 in
set_option maxHeartbeats 1000000 in
theorem contains_any (a : Option Addr) (cap : Nat) (xs : List Int) (x : Int) (w : World) (hx : SlI w w.heap.size a xs) (hl : xs.length ≤ 1048576) :
    Calls Tryd.prog 54 #[.slice a xs.length cap, .int .i64 x] w fun e w' => e = .returned (.bool (decide (x ∈ xs))) ∧ w = w' := by
  have HI := hid (index_any a cap xs x w hx hl)
  obtain ⟨c, hc⟩ : ∃ c, c = decide (x ∈ xs) := ⟨_, rfl⟩
  have Hc := hid hc
  rw [← hc]
  clear hc hx
  go_enter Tryd.func54, Tryd.ntmps54
  go_wp2_with fail
  refine HI.out.mono ?_
  rintro e w' ⟨i, rfl, h1, h2, rfl⟩
  have Hi := hid h2
  have H1 := hid h1
  clear h1 h2
  by_cases h0 : 0 ≤ i
  · have He : Hid (c = true) := hid (by rw [Hc.out]; exact decide_eq_true (Hi.out.1 h0))
    go_wp2_with fail
    go_ret
    exact ⟨ret_bool (by rw [He.out]), rfl⟩
  · have He : Hid (c = false) := hid (by rw [Hc.out]; exact decide_eq_false (fun h => h0 (Hi.out.2 h)))
    have hlt : i < 0 := by omega
    go_wp2_with fail
    go_ret
    exact ⟨ret_bool (by rw [He.out]; simp [hlt]), rfl⟩

end Go.Proofs.YtppnahgiekjbnaaDoor

/-! Is a list a chain? The program's test, which panics, and the deferred recover. -/
namespace Go.Proofs.YtppnahgiekjbnaaDoor
open Go.RowKit

theorem below_dn (w : World) (n : Nat) : Below w.heap.size w (w.drewN n) := ⟨rfl, rfl, rfl, Nat.le_refl _, fun _ _ => rfl⟩
theorem link_no_ones {fs ch : List Int} {k : Nat} (h : ¬ ones (ch[k]?.getD 0).toNat = ones (ch[0]?.getD 0).toNat) : linkB fs ch k = false := by unfold linkB; simp [h]

/-- What a call ends with that returns nothing, or panics with a value. -/
def endOf (c : Bool) (u : TypeId) (pv : Value) : Ending := if c then .returned (.tuple #[]) else .panicked [{ v := .iface u pv, recovered := false }]

set_option maxRecDepth 100000 in
set_option maxHeartbeats 8000000 in
theorem must_any (V : Int) (a0 : Option Addr) (cap : Nat) (fs : List Int) (a1 : Option Addr) (cap1 : Nat) (ch : List Int) (w : World) (u : TypeId) (pv : Value) (hx : SlI w w.heap.size a0 fs) (hx1 : SlI w w.heap.size a1 ch) (hl : fs.length ≤ 1048576) (hg : ch.length ≤ 1048576)
    (hC : IsC V fs) (hG : w.cell? ⟨1, 0, none⟩ = some (.iface u pv)) :
    Calls Tryd.prog 77 #[.agg #[.int .i64 V, .slice a0 fs.length cap], .slice a1 ch.length cap1] w fun e w' => e = endOf (chainB fs ch) u pv ∧ Below w.heap.size w w' := by
  obtain ⟨W0, hW0⟩ : ∃ W0, W0 = w.alloc (.cells #[.int .i64 V, .slice a0 fs.length cap] 28) := ⟨_, rfl⟩
  have hB0 : Below w.heap.size w W0 := by rw [hW0]; exact (Below.refl _ w).alloc (Nat.le_refl _) _
  have Hk : Hid (W0.heap[w.heap.size]? = some (.cells #[.int .i64 V, .slice a0 fs.length cap] 28 (0, 0))) := hid (by rw [hW0]; exact heap_alloc_new _ _)
  have Hx := hid hx
  have Hy := hid hx1
  have HB0 := hid hB0
  have HC := hid hC
  have HG := hid hG
  have HGl := hid (World.block_lt_of_cell? w _ hG)
  obtain ⟨c, hcc⟩ : ∃ c, c = chainB fs ch := ⟨_, rfl⟩
  rw [← hcc]
  have Hc := hid hcc
  clear hx hx1 hB0 hC hG hcc
  go_enter Tryd.func77, Tryd.ntmps77
  go_wp2_with fail
  rw [← hW0]
  clear hW0
  go_loopw [8] (fun iv wx => ∃ k : Nat, k ≤ ch.length ∧ iv = .int .i64 k ∧ Hid (linksTo fs ch k) ∧ Hid (Below w.heap.size w wx) ∧ Hid (wx.heap[w.heap.size]? = some (.cells #[.int .i64 V, .slice a0 fs.length cap] 28 (0, 0)))) (fun iv _ => ch.length - (RowKit.intOf iv).toNat)
  case atStart => exact ⟨0, Nat.zero_le _, rfl, hid (by intro i h; omega), HB0, Hk⟩
  case round =>
    obtain ⟨k, hk, rfl, HK, HB, Hkr⟩ := hrel
    have hBw := HB.out
    have Hq : Hid (∀ n, Below w.heap.size w (wr.drewN n)) := hid (fun n => HB.out.trans ((below_dn wr n).mono HB.out.size))
    by_cases hlt : k < ch.length
    · obtain ⟨b, off, hb, rfl, hcl⟩ : ∃ b off, b < w.heap.size ∧ a1 = some ⟨b, off, none⟩ ∧ ∀ i, i < ch.length → w.cell? ⟨b, off + i, none⟩ = some (.int .i64 (ch[i]?.getD 0)) := by
        rcases Hy.out with h | h
        · rw [h] at hlt; simp at hlt
        · exact h
      obtain ⟨x, hxe⟩ : ∃ x, x = ch[k]?.getD 0 := ⟨_, rfl⟩
      have c0 := (hBw.cell (p := ⟨b, off + k, none⟩) hb).trans (hcl k hlt)
      rw [← hxe] at c0
      obtain ⟨k0, k1, _, _⟩ := two_of Hkr.out
      have hGr := (hBw.cell (p := ⟨1, 0, none⟩) HGl.out).trans HG.out
      have CH := hid (fun n => contains_any a0 cap fs x (wr.drewN n) (Hx.out.later (Hq.out n) (Hq.out n).size) hl)
      have hi0 : (0 : Int) ≤ (k : Int) := by omega
      have hi1 : (k : Int) < (ch.length : Int) := by omega
      clear hBw
      by_cases hm : x ∈ fs
      · rw [decide_eq_true hm] at CH
        have hxr := HC.out.range63 _ hm
        obtain ⟨z, hze⟩ : ∃ z, z = ch[0]?.getD 0 := ⟨_, rfl⟩
        have c2 := (HB.out.cell (p := ⟨b, off, none⟩) hb).trans (hcl 0 (by omega))
        rw [← hze] at c2
        have hzr := HC.out.range63 _ (show z ∈ fs by
          by_cases hk0 : k = 0
          · subst hk0; rw [hze, ← hxe]; exact hm
          · rw [hze]; exact link_head (by omega) HK.out)
        have hl0 : (0 : Int) < (ch.length : Int) := by omega
        have HZ : Hid (k = 0 → z = x) := hid (fun h => by rw [hze, hxe, h])
        have HLn : Hid (¬ ones x.toNat = ones z.toNat → c = false) := hid (fun h => Hc.out.trans (chain_no hlt (link_no_ones (by rw [← hxe, ← hze]; exact h))))
        have HLo : Hid (0 < k → x ≤ ch[k - 1]?.getD 0 → c = false) := hid (fun h0 h => Hc.out.trans (chain_no hlt (link_no_ord h0 (by rw [← hxe]; exact h))))
        have HLy : Hid (ones x.toNat = ones z.toNat → (0 < k → ch[k - 1]?.getD 0 < x) → linksTo fs ch (k + 1)) := hid (fun ho h => links_succ HK.out ((link_eq (by rw [← hxe]; exact hm) (fun h0 => by rw [← hxe]; exact h h0)).trans (by rw [← hxe, ← hze]; exact decide_eq_true ho)))
        obtain ⟨x, rfl⟩ : ∃ n : Nat, x = n := ⟨x.toNat, by omega⟩
        obtain ⟨z, rfl⟩ : ∃ n : Nat, z = n := ⟨z.toNat, by omega⟩
        have hx64 : x < 64 := by omega
        have hz64 : z < 64 := by omega
        have CX := hid (fun n => dim_any x (wr.drewN n) hx64)
        have CZ := hid (fun n => dim_any z (wr.drewN n) hz64)
        simp only [Int.toNat_natCast] at HLn HLy
        clear hxe hze hxr hzr hm hx64 hz64
        by_cases ho : ones x = ones z
        · have hd2 : (((ones x : Nat) : Int) - 1 != ((ones z : Nat) : Int) - 1) = false := by simp [ho]
          rw [ho] at CX hd2
          by_cases hk0 : 0 < k
          · have hd0 : decide (0 < k) = true := decide_eq_true hk0
            have hsub : IntKind.i64.wrap ((k : Int) - 1) = ((k - 1 : Nat) : Int) := by rw [IntKind.wrap_i64]; omega
            have hsub2 : wrap64 ((k : Int) - 1) = ((k - 1 : Nat) : Int) := by rw [wrap64]; omega
            have hj0 : (0 : Int) ≤ ((k - 1 : Nat) : Int) := by omega
            have hj1 : ((k - 1 : Nat) : Int) < (ch.length : Int) := by omega
            have c1 := (HB.out.cell (p := ⟨b, off + (k - 1), none⟩) hb).trans (hcl (k - 1) (by omega))
            obtain ⟨y, hye⟩ : ∃ y, y = ch[k - 1]?.getD 0 := ⟨_, rfl⟩
            rw [← hye] at c1 HLo HLy
            clear hcl hye
            by_cases hle : (x : Int) ≤ y
            · have hd1 : decide ((x : Int) ≤ y) = true := decide_eq_true hle
              have He := hid (HLo.out hk0 hle)
              clear hle ho hk0
              go_wp2_with fail
              go_quiet (first
          | (go_at_call 54; exact quiet_of_eq (CH.out _))
          | (go_at_call 51; first | exact quiet_of_eq (CX.out _) | exact quiet_of_eq (CZ.out _)))
              go_wp2_with fail
              refine ⟨rfl, ?_, Hq.out _⟩
              rw [He.out]
              rfl
            · have hd1 : decide ((x : Int) ≤ y) = false := decide_eq_false hle
              have HS := hid (HLy.out ho (fun _ => by omega))
              clear hle ho hk0
              go_wp2_with fail
              go_quiet (first
          | (go_at_call 54; exact quiet_of_eq (CH.out _))
          | (go_at_call 51; first | exact quiet_of_eq (CX.out _) | exact quiet_of_eq (CZ.out _)))
              go_wp2_with fail
              go_roundw
              case rel => exact ⟨k + 1, by omega, by go_num, HS, hid (Hq.out _), hid (by exact Hkr.out)⟩
              case measure => simp [RowKit.intOf]; omega
          · obtain rfl : k = 0 := by omega
            have hd0 : decide (0 < 0) = false := rfl
            have HS := hid (HLy.out ho (fun h => absurd h (by omega)))
            obtain rfl : z = x := by have := HZ.out rfl; omega
            clear ho hk0 hcl c0
            go_wp2_with fail
            go_quiet (first
          | (go_at_call 54; exact quiet_of_eq (CH.out _))
          | (go_at_call 51; first | exact quiet_of_eq (CX.out _) | exact quiet_of_eq (CZ.out _)))
            go_wp2_with fail
            go_roundw
            case rel => exact ⟨1, by omega, by go_num, HS, hid (Hq.out _), hid (by exact Hkr.out)⟩
            case measure => simp [RowKit.intOf]; omega
        · have hd2 : (((ones x : Nat) : Int) - 1 != ((ones z : Nat) : Int) - 1) = true := by simp; omega
          have He := hid (HLn.out ho)
          clear ho hcl
          go_wp2_with fail
          go_quiet (first
          | (go_at_call 54; exact quiet_of_eq (CH.out _))
          | (go_at_call 51; first | exact quiet_of_eq (CX.out _) | exact quiet_of_eq (CZ.out _)))
          go_wp2_with fail
          refine ⟨rfl, ?_, Hq.out _⟩
          rw [He.out]
          rfl
      · rw [decide_eq_false hm] at CH
        have He := hid (Hc.out.trans (chain_no hlt (link_no_mem (by rw [← hxe]; exact hm))))
        clear hm hcl hxe
        go_wp2_with fail
        go_quiet (first
          | (go_at_call 54; exact quiet_of_eq (CH.out _)))
        go_wp2_with fail
        refine ⟨rfl, ?_, Hq.out _⟩
        rw [He.out]
        rfl
    · obtain rfl : k = ch.length := by omega
      have He : Hid (c = true) := hid (Hc.out.trans (chain_yes HK.out))
      go_wp2_with fail
      go_end0
      exact ⟨by rw [He.out]; rfl, HB.out⟩

end Go.Proofs.YtppnahgiekjbnaaDoor

/-! chainCode: a deferred recover turns the panic into a code. -/
namespace Go.Proofs.YtppnahgiekjbnaaDoor
open Go.RowKit

theorem assert_err (pv : Value) (w : World) : (Instr.typeAssert (.iface 138 pv) 20 101 true).run Tryd.prog w = .ok (.tuple #[.iface 138 pv, .bool true]) w := by kernel_rfl
theorem assert_nil (w : World) : (Instr.typeAssert .nilIface 20 101 true).run Tryd.prog w = .ok (.tuple #[.nilIface, .bool false]) w := by kernel_rfl

set_option maxHeartbeats 1000000 in
theorem catch_panic (p : Addr) (x : Int) (pv : Value) (older : List PanicEntry) (w : World) (hc : w.cell? p = some (.int .i64 x)) (hz : w.frozen? p = false) :
    CallsD Tryd.prog 76 #[.pointer (some p)] (.panicking ({ v := .iface 138 pv, recovered := false } :: older)) w fun e u' w' =>
      e = .returned (.tuple #[]) ∧ u' = .panicking ({ v := .iface 138 pv, recovered := true } :: older) ∧ w' = w.setCell p (.int .i64 2) := by
  have ha := assert_err
  refine callsD_of_wpS Tryd.func76 rfl fun c₀ cs hu => ?_
  apply wpS_seq
  apply wpS_region
  simp [wpOpsS, go_sem, recoverD, hu, ha, Tryd.ntmps76, Exit.thenS]
  apply wpS_seq
  apply wpS_region
  simp [wpOpsS, go_sem, Exit.thenS]
  refine wpS_cond (t := true) (by simp [Act.eval, Array.replicate]) ?_
  simp only [if_true]
  apply wpS_region
  simp [wpOpsS, go_sem, hc, hz, bodyPostS, results, Tryd.results76]

theorem catch_idle (p : Addr) (w : World) :
    CallsD Tryd.prog 76 #[.pointer (some p)] .returning w fun e u' w' => e = .returned (.tuple #[]) ∧ u' = .returning ∧ w' = w := by
  have ha := assert_nil
  refine callsD_of_wpS Tryd.func76 rfl fun c₀ cs hu => ?_
  apply wpS_seq
  apply wpS_region
  simp [wpOpsS, go_sem, recoverD, hu, ha, Tryd.ntmps76, Exit.thenS]
  apply wpS_seq
  apply wpS_region
  simp [wpOpsS, go_sem, Exit.thenS]
  refine wpS_cond (t := false) (by simp [Act.eval, Array.replicate]) ?_
  simp only [Bool.false_eq_true, if_false]
  refine wpS_of_wp (wp_skip ?_)
  cases c₀
  simp_all [bodyPostS, results, Tryd.results76]

/-- The code of a complex and some lists. -/
noncomputable def chnsR (V : Int) (fs : List Int) (chs : List (List Int)) : Int := if isCB V fs then (if chs.all (chainB fs) then 0 else 2) else 1
/-- Some lists that lie one behind the other, as slices, in block bl. -/
def Lists (w : World) (B bl : Nat) (ls : List (Option Addr × Nat × List Int)) : Prop :=
  ∀ i a cap ch, ls[i]? = some (a, cap, ch) → w.cell? ⟨bl, i, none⟩ = some (.slice a ch.length cap) ∧ SlI w B a ch ∧ ch.length ≤ 1048576

theorem all_take {α : Type} {p : α → Bool} {ls : List α} {k : Nat} (h : ∀ i x, i < k → ls[i]? = some x → p x = true) (hk : ls.length ≤ k) : ls.all p = true := by
  rw [List.all_eq_true]
  intro x hx
  obtain ⟨i, hi, rfl⟩ := List.getElem_of_mem hx
  exact h i _ (by omega) (List.getElem?_eq_getElem hi)
theorem all_not {α : Type} {p : α → Bool} {ls : List α} {k : Nat} {x : α} (hk : ls[k]? = some x) (h : p x = false) : ls.all p = false := by
  rw [List.all_eq_false]
  exact ⟨x, List.mem_of_getElem? hk, by simp [h]⟩

theorem set_one {W : World} {b : Nat} {v u : Value} (h : W.cell? ⟨b, 0, none⟩ = some v) : (W.setCell ⟨b, 0, none⟩ u).cell? ⟨b, 0, none⟩ = some u := by simp [go_sem, h]
theorem leave_code {tmps : Array Value} {R : Ending → World → Prop} {W : World} {b : Nat} {x : Int} (hp : tmps.getD 4 undef = .pointer (some ⟨b, 0, none⟩)) (hc : W.cell? ⟨b, 0, none⟩ = some (.int .i64 x)) (hR : R (.returned (.int .i64 x)) W) :
    Leaves Tryd.prog Tryd.f47 tmps R [] .returning W := by
  have hp' : tmps[4]?.getD undef = .pointer (some ⟨b, 0, none⟩) := by simpa using hp
  refine ⟨.int .i64 x, ?_, hR⟩
  simp [results, Tryd.results47, hp', asAddr, go_sem, hc]

set_option maxRecDepth 100000 in
set_option maxHeartbeats 4000000 in
theorem code_any (V : Int) (a0 : Option Addr) (cap : Nat) (fs : List Int) (bl cl : Nat) (ls : List (Option Addr × Nat × List Int)) (w : World) (pv : Value) (hx : SlI w w.heap.size a0 fs) (hl : fs.length ≤ 1048576)
    (hb : bl < w.heap.size) (hL : Lists w w.heap.size bl ls) (hn : ls.length ≤ 1048576) (hG : w.cell? ⟨1, 0, none⟩ = some (.iface 138 pv)) :
    Calls Tryd.prog 47 #[.agg #[.int .i64 V, .slice a0 fs.length cap], .slice (some ⟨bl, 0, none⟩) ls.length cl] w fun e w' => e = .returned (.int .i64 (chnsR V fs (ls.map (·.2.2)))) ∧ Below w.heap.size w w' := by
  have hmf : ∀ (fn : Fn) (first cap : Array Value) (w : World), (Instr.makeFunc fn first cap).run Tryd.prog w = .ok (.func fn first cap) w := fun _ _ _ _ => rfl
  obtain ⟨W0, hW0⟩ : ∃ W0, W0 = (w.alloc (.cells #[.int .i64 V, .slice a0 fs.length cap] 28)).alloc (.cells #[.int .i64 0] 2) := ⟨_, rfl⟩
  have hB0 : Below w.heap.size w W0 := by rw [hW0]; exact ((Below.refl _ w).alloc (Nat.le_refl _) _).alloc (by simp) _
  have Hk : Hid (W0.heap[w.heap.size]? = some (.cells #[.int .i64 V, .slice a0 fs.length cap] 28 (0, 0))) := hid (by rw [hW0]; exact (Below.heap_alloc _ _ _ (by simp)).trans (heap_alloc_new _ _))
  have Hr : Hid (W0.heap[w.heap.size + 1]? = some (.cells #[.int .i64 0] 2 (0, 0))) := hid (by rw [hW0]; exact new2 _ _ _)
  have Hx := hid hx
  have HB0 := hid hB0
  have HL := hid hL
  have HG := hid hG
  have HGl := hid (World.block_lt_of_cell? w _ hG)
  have HI := hid (implIsComplex V a0 cap fs W0 (hx.later hB0 hB0.size) hl)
  rw [hW0] at HI
  clear hx hB0 hL hG
  cases hc : isCB V fs
  · have HR : Hid (chnsR V fs (ls.map (·.2.2)) = 1) := hid (by unfold chnsR; rw [hc]; rfl)
    rw [hc] at HI
    clear hc
    go_enter_defers Tryd.func47, Tryd.ntmps47
    go_wp2_with fail
    refine HI.out.mono ?_
    rintro e w1 ⟨rfl, hB1⟩
    rw [← hW0] at hB1
    have hr1 := (hB1.block _ (lt_get Hr.out)).trans Hr.out
    obtain ⟨r0, g0⟩ := box_cell hr1
    have Hr1 := hid hr1
    have HB1 := hid (HB0.out.trans (hB1.mono HB0.out.size))
    clear hB1 hr1
    go_wp2_with fail
    simp only [bodyPostD]
    refine leave_code (b := w.heap.size + 1) rfl (set_one r0) ⟨by rw [HR.out], ?_⟩
    exact HB1.out.setCell (Nat.le_succ _) _
  · have hC := isCB_iff.1 hc
    have HC := hid hC
    have HY : Hid (ls.all (fun x => chainB fs x.2.2) = true → chnsR V fs (ls.map (·.2.2)) = 0) := hid (fun h => by unfold chnsR; rw [hc, if_pos rfl, List.all_map]; exact if_pos h)
    have HN : Hid (ls.all (fun x => chainB fs x.2.2) = false → chnsR V fs (ls.map (·.2.2)) = 2) := hid (fun h => by unfold chnsR; rw [hc, if_pos rfl, List.all_map]; exact if_neg (by simpa using h))
    rw [hc] at HI
    clear hc hC
    obtain ⟨R, hR⟩ : ∃ R, R = chnsR V fs (ls.map (·.2.2)) := ⟨_, rfl⟩
    rw [← hR] at HY HN ⊢
    clear hR
    go_enter_defers Tryd.func47, Tryd.ntmps47
    go_wp2_with fail
    refine HI.out.mono ?_
    rintro e w1 ⟨rfl, hB1⟩
    rw [← hW0] at hB1
    have Hk1 := hid ((hB1.block _ (lt_get Hk.out)).trans Hk.out)
    have Hr1 := hid ((hB1.block _ (lt_get Hr.out)).trans Hr.out)
    have HB1 := hid (HB0.out.trans (hB1.mono HB0.out.size))
    clear hB1
    go_wp2_with fail
    clear hmf
    go_loopw [13] (fun iv wx => ∃ k : Nat, k ≤ ls.length ∧ iv = .int .i64 k ∧ Hid (∀ i x, i < k → ls[i]? = some x → chainB fs x.2.2 = true) ∧ Hid (Below w1.heap.size w1 wx)) (fun iv _ => ls.length - (RowKit.intOf iv).toNat)
    case atStart => exact ⟨0, Nat.zero_le _, rfl, hid (by intro i x h; omega), hid (Below.refl _ _)⟩
    case round =>
      obtain ⟨k, hk, rfl, HK, HB⟩ := hrel
      have HBw := hid (HB1.out.trans (HB.out.mono HB1.out.size))
      have Hkr := hid ((HB.out.block _ (lt_get Hk1.out)).trans Hk1.out)
      have Hrr := hid ((HB.out.block _ (lt_get Hr1.out)).trans Hr1.out)
      by_cases hlt : k < ls.length
      · obtain ⟨⟨a, c2, ch⟩, hx⟩ : ∃ x, ls[k]? = some x := ⟨_, List.getElem?_eq_getElem hlt⟩
        obtain ⟨hcl, hsl, hcn⟩ := HL.out k a c2 ch hx
        have hck := (HBw.out.cell (p := ⟨bl, k, none⟩) hb).trans hcl
        obtain ⟨k0, k1, _, _⟩ := two_of Hkr.out
        have HM := hid (must_any V a0 cap fs a c2 ch wr 138 pv (Hx.out.later HBw.out HBw.out.size) (hsl.later HBw.out HBw.out.size) hl hcn HC.out ((HBw.out.cell (p := ⟨1, 0, none⟩) HGl.out).trans HG.out))
        have hi0 : (0 : Int) ≤ (k : Int) := by omega
        have hi1 : (k : Int) < (ls.length : Int) := by omega
        have Hxk := hid hx
        clear hcl hsl hcn hx
        obtain ⟨c, hcc⟩ : ∃ c, c = chainB fs ch := ⟨_, rfl⟩
        rw [← hcc] at HM
        have Hcc := hid hcc
        clear hcc
        go_wp2_with fail
        refine HM.out.mono ?_
        rintro e w2 ⟨rfl, hB2⟩
        have HB2 := hid hB2
        clear hB2 k0 k1
        cases c
        · have He := hid (HN.out (all_not Hxk.out Hcc.out.symm))
          have hr2 := (HB2.out.block _ (lt_get Hrr.out)).trans Hrr.out
          obtain ⟨r0, g0⟩ := box_cell hr2
          simp only [endOf]
          refine leaves_cons (f := 76) (args := #[.pointer (some ⟨w.heap.size + 1, 0, none⟩)]) (by simp) (by simp [go_sem]) ?_
          refine (catch_panic ⟨w.heap.size + 1, 0, none⟩ 0 pv [] _ r0 g0).mono ?_
          rintro e u' w3 ⟨rfl, rfl, rfl⟩
          refine leave_code (b := w.heap.size + 1) rfl (set_one r0) ⟨by rw [He.out], ?_⟩
          exact (HBw.out.trans (HB2.out.mono HBw.out.size)).setCell (Nat.le_succ _) _
        · have HS : Hid (∀ i x, i < k + 1 → ls[i]? = some x → chainB fs x.2.2 = true) := hid (fun i x hi h => by
            by_cases e : i = k
            · subst e
              rw [Hxk.out] at h
              cases h
              exact Hcc.out.symm
            · exact HK.out i x (by omega) h)
          simp only [endOf]
          go_wp2_with fail
          go_roundw
          case rel => exact ⟨k + 1, by omega, by go_num, HS, hid (HB.out.trans (HB2.out.mono HB.out.size))⟩
          case measure => simp [RowKit.intOf]; omega
      · obtain rfl : k = ls.length := by omega
        have He := hid (HY.out (all_take HK.out (Nat.le_refl _)))
        obtain ⟨r0, g0⟩ := box_cell Hrr.out
        go_wp2_with fail
        refine leaves_cons (f := 76) (args := #[.pointer (some ⟨w.heap.size + 1, 0, none⟩)]) (by simp) (by simp [go_sem]) ?_
        refine (catch_idle ⟨w.heap.size + 1, 0, none⟩ _).mono ?_
        rintro e u' w3 ⟨rfl, rfl, rfl⟩
        refine leave_code (b := w.heap.size + 1) rfl (set_one r0) ⟨by rw [He.out], ?_⟩
        exact HBw.out.setCell (Nat.le_succ _) _

end Go.Proofs.YtppnahgiekjbnaaDoor

/-! treeOf: a deferred recover turns the panic into a code. -/
namespace Go.Proofs.YtppnahgiekjbnaaDoor
open Go.RowKit

set_option maxHeartbeats 1000000 in
theorem catchT_panic (p : Addr) (x : Int) (pv : Value) (older : List PanicEntry) (w : World) (hc : w.cell? p = some (.int .i64 x)) (hz : w.frozen? p = false) :
    CallsD Tryd.prog 89 #[.pointer (some p)] (.panicking ({ v := .iface 138 pv, recovered := false } :: older)) w fun e u' w' =>
      e = .returned (.tuple #[]) ∧ u' = .panicking ({ v := .iface 138 pv, recovered := true } :: older) ∧ w' = w.setCell p (.int .i64 2) := by
  have ha := assert_err
  refine callsD_of_wpS Tryd.func89 rfl fun c₀ cs hu => ?_
  apply wpS_seq
  apply wpS_region
  simp [wpOpsS, go_sem, recoverD, hu, ha, Tryd.ntmps89, Exit.thenS]
  apply wpS_seq
  apply wpS_region
  simp [wpOpsS, go_sem, Exit.thenS]
  refine wpS_cond (t := true) (by simp [Act.eval, Array.replicate]) ?_
  simp only [if_true]
  apply wpS_region
  simp [wpOpsS, go_sem, hc, hz, bodyPostS, results, Tryd.results89]

theorem catchT_idle (p : Addr) (w : World) :
    CallsD Tryd.prog 89 #[.pointer (some p)] .returning w fun e u' w' => e = .returned (.tuple #[]) ∧ u' = .returning ∧ w' = w := by
  have ha := assert_nil
  refine callsD_of_wpS Tryd.func89 rfl fun c₀ cs hu => ?_
  apply wpS_seq
  apply wpS_region
  simp [wpOpsS, go_sem, recoverD, hu, ha, Tryd.ntmps89, Exit.thenS]
  apply wpS_seq
  apply wpS_region
  simp [wpOpsS, go_sem, Exit.thenS]
  refine wpS_cond (t := false) (by simp [Act.eval, Array.replicate]) ?_
  simp only [Bool.false_eq_true, if_false]
  refine wpS_of_wp (wp_skip ?_)
  cases c₀
  simp_all [bodyPostS, results, Tryd.results89]

theorem leave_tree {tmps : Array Value} {R : Ending → World → Prop} {W : World} {b : Nat} {A : Array Value} {x : Int} (hp : tmps.getD 4 undef = .pointer (some ⟨b, 0, none⟩)) (hp2 : tmps.getD 5 undef = .pointer (some ⟨b + 1, 0, none⟩))
    (hg : W.heap[b]? = some (.cells A 54 (0, 0))) (hi : (Tryd.prog.info? 54).map (·.size) = some A.size) (hc : W.cell? ⟨b + 1, 0, none⟩ = some (.int .i64 x)) (hR : R (.returned (.tuple #[.agg A, .int .i64 x])) W) :
    Leaves Tryd.prog Tryd.f59 tmps R [] .returning W := by
  have hp' : tmps[4]?.getD undef = .pointer (some ⟨b, 0, none⟩) := by simpa using hp
  have hp2' : tmps[5]?.getD undef = .pointer (some ⟨b + 1, 0, none⟩) := by simpa using hp2
  have hl := run_loadVar_row (P := Tryd.prog) W b 54 54 A (0, 0) _ hg Tryd.underlying54 rfl hi
  have hl2 : (loadVar 2 ⟨b + 1, 0, none⟩).run Tryd.prog W = .ok (.int .i64 x) W := by simp [go_sem, hc]
  refine ⟨.tuple #[.agg A, .int .i64 x], ?_, hR⟩
  simp [results, Tryd.results59, hp', hp2', asAddr, hl, hl2]

theorem heap_st1 {W : World} {b gb j : Nat} {k : Obj} (hne : gb ≠ b) (h : W.heap[b]? = some k) {u : Value} : (W.setCell ⟨gb, j, none⟩ u).heap[b]? = some k := by
  simp only [World.setCell, Array.getElem?_modify]
  rw [if_neg hne]
  exact h

set_option maxRecDepth 100000 in
set_option maxHeartbeats 4000000 in
theorem treeOf_any (n : Nat) (a : Option Addr) (cap : Nat) (T : List Int) (w : World) (pv : Value) (hx : SlI w w.heap.size a T) (hl : T.length ≤ 1048576) (h1 : 1 ≤ n) (h6 : n ≤ 6)
    (hG : w.cell? ⟨2, 0, none⟩ = some (.iface 138 pv)) :
    Calls Tryd.prog 59 #[.int .i64 (n : Int), .slice a T.length cap] w fun e w' => ∃ A, e = .returned (.tuple #[.agg A, .int .i64 (if isTB n T then 0 else 2)]) ∧ A.size = 65 ∧ A.all (·.oneCell') = true ∧ (isTB n T = true → A = (tcells n (padL T)).toArray) ∧ Below w.heap.size w w' := by
  have hmf : ∀ (fn : Fn) (first cap : Array Value) (w : World), (Instr.makeFunc fn first cap).run Tryd.prog w = .ok (.func fn first cap) w := fun _ _ _ _ => rfl
  obtain ⟨Z, hZs, hZ1, hz, hi⟩ := zero_tree
  have hZ0 : ¬ Z = #[] := by rintro rfl; simp at hZs
  obtain ⟨W0, hW0⟩ : ∃ W0, W0 = (w.alloc (.cells Z 54)).alloc (.cells #[.int .i64 0] 2) := ⟨_, rfl⟩
  have hB0 : Below w.heap.size w W0 := by rw [hW0]; exact ((Below.refl _ w).alloc (Nat.le_refl _) _).alloc (by simp) _
  have Hk : Hid (W0.heap[w.heap.size]? = some (.cells Z 54 (0, 0))) := hid (by rw [hW0]; exact (Below.heap_alloc _ _ _ (by simp)).trans (heap_alloc_new _ _))
  have Hr : Hid (W0.heap[w.heap.size + 1]? = some (.cells #[.int .i64 0] 2 (0, 0))) := hid (by rw [hW0]; exact new2 _ _ _)
  have hlt := World.block_lt_of_cell? w _ hG
  have HB0 := hid hB0
  have HM := hid (mustT_any n a cap T W0 138 pv (hx.later hB0 hB0.size) hl h1 h6 ((hB0.cell (p := ⟨2, 0, none⟩) hlt).trans hG))
  rw [hW0] at HM
  have hAs : (tcells (n : Int) (padL T)).toArray.size = 65 ∨ isTB n T = false := by
    cases h : isTB n T
    · exact .inr rfl
    · left
      have := (isTB_iff.1 h).len
      have h64 := pow_le64 h6
      simp [tcells, padL_len (show T.length ≤ 63 by omega)]
  have hA1 : (tcells (n : Int) (padL T)).toArray.all (·.oneCell') = true := tcells_one _ _
  obtain ⟨A, hA⟩ : ∃ A, A = (tcells (n : Int) (padL T)).toArray := ⟨_, rfl⟩
  rw [← hA] at HM hAs hA1
  have HA := hid hA
  obtain ⟨c, hcc⟩ : ∃ c, c = isTB n T := ⟨_, rfl⟩
  rw [← hcc] at HM hAs ⊢
  rw [← hA]
  clear hx hB0 hG hA hcc
  go_enter_defers Tryd.func59, Tryd.ntmps59
  go_wp2_with fail
  refine HM.out.mono ?_
  rintro e w2 ⟨rfl, hB2⟩
  rw [← hW0] at hB2
  have HB2 := hid (HB0.out.trans (hB2.mono HB0.out.size))
  have hk2 := (hB2.block _ (lt_get Hk.out)).trans Hk.out
  have hr2 := (hB2.block _ (lt_get Hr.out)).trans Hr.out
  clear hB2 hmf
  cases c
  · obtain ⟨r0, g0⟩ := box_cell hr2
    simp only [endT]
    refine leaves_cons (f := 89) (args := #[.pointer (some ⟨w.heap.size + 1, 0, none⟩)]) (by simp) (by simp [go_sem]) ?_
    refine (catchT_panic ⟨w.heap.size + 1, 0, none⟩ 0 pv [] _ r0 g0).mono ?_
    rintro e u' w3 ⟨rfl, rfl, rfl⟩
    refine leave_tree (b := w.heap.size) (A := Z) rfl rfl (heap_st1 (by omega) hk2) (by rw [hi, hZs]) (set_one r0) ⟨Z, rfl, hZs, hZ1, fun h => absurd h (by decide), ?_⟩
    exact HB2.out.setCell (Nat.le_succ _) _
  · have hAs2 : A.size = 65 := hAs.resolve_right (by decide)
    have hi66 : (Tryd.prog.info? 54).map (·.size) = some A.size := by rw [hi, hAs2]
    have hZA : Z.size = A.size := by rw [hZs, hAs2]
    have hrow := setRow_heap w2 w.heap.size Z A 54 (0, 0) hk2
    have hr3 := ((setRow_grown2 w2 w.heap.size A).block (w.heap.size + 1) (lt_get hr2) (by simp)).trans hr2
    have HB3 := hid (HB2.out.grown (setRow_grown2 w2 w.heap.size A) HB2.out.size (fun k e => by cases e; exact Nat.le_refl _))
    obtain ⟨r0, g0⟩ := box_cell hr3
    simp only [endT]
    clear hz hZ0
    go_wp2_with (first
      | (refine wpList_store_row rfl 54 _ _ rfl w.heap.size A rfl rfl 54 Z hk2 hi66 hZA hA1 ?_)
      | fail)
    refine leaves_cons (f := 89) (args := #[.pointer (some ⟨w.heap.size + 1, 0, none⟩)]) (by simp) (by simp [go_sem]) ?_
    refine (catchT_idle ⟨w.heap.size + 1, 0, none⟩ _).mono ?_
    rintro e u' w3 ⟨rfl, rfl, rfl⟩
    refine leave_tree (b := w.heap.size) (A := A) rfl rfl (heap_st1 (by omega) hrow) hi66 (set_one r0) ⟨A, rfl, hAs2, (by first | exact hA1 | simpa using hA1), (by first | exact rfl | exact fun _ => rfl), ?_⟩
    exact HB3.out.setCell (Nat.le_succ _) _

end Go.Proofs.YtppnahgiekjbnaaDoor

/-! Contracts of the laws' small helpers: sizes, copies, comparisons. -/
namespace Go.Proofs.YtppnahgiekjbnaaDoor
open Go.RowKit

theorem fill_step {xs : List Int} {k : Nat} (h : k < xs.length) :
    ((xs.take k ++ List.replicate (xs.length - k) (0 : Int)).map (Value.int .i64)).set k (.int .i64 (xs[k]?.getD 0)) = (xs.take (k + 1) ++ List.replicate (xs.length - (k + 1)) (0 : Int)).map (Value.int .i64) := by
  rw [take_snoc h, ← List.map_set]
  congr 1
  have e : xs.length - k = (xs.length - (k + 1)) + 1 := by omega
  rw [e, List.replicate_succ, List.set_append_right _ _ (by simp <;> omega)]
  simp [Nat.min_eq_left (Nat.le_of_lt h)]

set_option maxHeartbeats 400000 in
theorem toInts (a : Option Addr) (cap : Nat) (xs : List Int) (w : World) (hx : SlI w w.heap.size a xs) (hl : xs.length ≤ 1048576) :
    Calls Tryd.prog 11 #[.slice a xs.length cap] w fun e w' =>
      e = .returned (.slice (some ⟨w.heap.size, 0, none⟩) xs.length xs.length) ∧ w'.ownsRow w.heap.size 2 1 (.slice (some ⟨w.heap.size, 0, none⟩) xs.length xs.length) xs.length (xs.map (Value.int .i64)) ∧ Below w.heap.size w w' := by
  go_enter Tryd.func11, Tryd.ntmps11
  go_wp2_with (at_make; refine make_int rfl rfl rfl rfl (by omega) ?_; intro w1 hown hg hB)
  rcases hx with rfl | ⟨b, off, hb, rfl, hc⟩
  · refine wp_loop_rounds 1 ?_; rw [rounds_succ]
    go_wp2
    go_ret
    exact ⟨rfl, hown, hB⟩
  · go_loopw [4] (fun i wr => ∃ k : Nat, k ≤ xs.length ∧ i = .int .i64 k ∧ wr.ownsRow w.heap.size 2 1 (.slice (some ⟨w.heap.size, 0, none⟩) xs.length xs.length) xs.length ((xs.take k ++ List.replicate (xs.length - k) (0 : Int)).map (Value.int .i64)) ∧ Below w.heap.size w wr) (fun i _ => xs.length - (intOf i).toNat)
    case atStart => exact ⟨0, Nat.zero_le _, rfl, by simpa using hown, hB⟩
    case round =>
      obtain ⟨k, hk, rfl, hown, hB⟩ := hrel
      by_cases hlt : k < xs.length
      · obtain ⟨x, hx⟩ : ∃ x, x = xs[k]?.getD 0 := ⟨_, rfl⟩
        have hck : wr.cell? ⟨b, off + k, none⟩ = some (.int .i64 x) := by rw [hx]; exact (hB.cell (p := ⟨b, off + k, none⟩) hb).trans (hc k hlt)
        have hcg : wr.cell? ⟨w.heap.size, k, none⟩ = some (.int .i64 0) := by
          rw [hown.cellAt k (by omega)]
          rw [List.getElem?_map, List.getElem?_append_right (by simp <;> omega)]
          simp [List.getElem?_replicate, Nat.min_eq_left hk]
          omega
        have hfg := hown.frozenAt k
        have Hx := hid hx
        have Hc := hid hc
        clear hx hc
        have hst := hown.stored k (.int .i64 x)
        have Hst := hid hst.1
        clear hst
        go_wp2
        go_roundw
        case rel =>
          refine ⟨k + 1, by omega, by go_num, ?_, hB.setCell (p := ⟨w.heap.size, k, none⟩) (Nat.le_refl _) _⟩
          have h := Hst.out
          rw [Hx.out, fill_step hlt, ← Hx.out] at h
          exact h
        case measure => simp [intOf]; omega
      · go_wp2
        go_ret
        obtain rfl : k = xs.length := by omega
        exact ⟨rfl, by simpa using hown, hB⟩

/-- What is left of a size. -/
def szR (left : Int) (n : Nat) : Int := if left < n then -1 else left - n
theorem szR_big {left : Int} {n : Nat} (h : left < n) : szR left n = -1 := by unfold szR; rw [if_pos h]
theorem szR_fit {left : Int} {n : Nat} (h : ¬ left < n) : szR left n = left - n := by unfold szR; rw [if_neg h]

set_option maxHeartbeats 400000 in
theorem szInts (a : Option Addr) (n cap : Nat) (left : Int) (w : World) (h1 : 0 ≤ left) (h2 : left ≤ 1048576) (hn : n ≤ 9223372036854775807) :
    Calls Tryd.prog 29 #[.slice a n cap, .int .i64 left] w fun e w' => e = .returned (.int .i64 (szR left n)) ∧ w = w' := by
  by_cases h : left < n
  · have H := hid (szR_big h)
    go_enter Tryd.func29, Tryd.ntmps29
    go_wp2
    go_ret
    exact ⟨ret_int (by rw [H.out]), rfl⟩
  · have H := hid (szR_fit h)
    go_enter Tryd.func29, Tryd.ntmps29
    go_wp2
    go_ret
    exact ⟨ret_int (by rw [H.out]), rfl⟩

set_option maxHeartbeats 400000 in
theorem szCx (V : Int) (a : Option Addr) (n cap : Nat) (left : Int) (w : World) (h1 : 0 ≤ left) (h2 : left ≤ 1048576) (hn : n ≤ 9223372036854775807) :
    Calls Tryd.prog 8 #[.agg #[.int .i64 V, .slice a n cap], .int .i64 left] w fun e w' => e = .returned (.int .i64 (szR left n)) ∧ Below w.heap.size w w' := by
  have hr : szR left n = -1 ∨ 0 ≤ szR left n := by
    by_cases h : left < n
    · exact .inl (szR_big h)
    · rw [szR_fit h]; right; omega
  have hr' : szR left n < 0 ∨ 0 ≤ szR left n := by omega
  have hm : szR left n < 0 → szR left n = -1 := by omega
  have Hm := hid hm
  clear hr hm
  obtain ⟨r, hr0⟩ : ∃ r, r = szR left n := ⟨_, rfl⟩
  rw [← hr0] at hr'
  have hr := hr'
  have H := hid hr0
  clear hr0 hr'
  go_enter Tryd.func8, Tryd.ntmps8
  go_wp2_with fail
  refine (szInts a n cap left _ h1 h2 hn).mono ?_
  rintro e w' ⟨rfl, rfl⟩
  rw [← H.out]
  rcases hr with hr | hr
  · go_wp2
    go_ret
    exact ⟨ret_int (Hm.out (by rw [← H.out]; exact hr)).symm, (Below.refl _ w).alloc (Nat.le_refl _) _⟩
  · go_wp2
    go_ret
    exact ⟨ret_int H.out, (Below.refl _ w).alloc (Nat.le_refl _) _⟩

set_option maxHeartbeats 400000 in
theorem toCx (V : Int) (a : Option Addr) (cap : Nat) (xs : List Int) (w : World) (hx : SlI w w.heap.size a xs) (hl : xs.length ≤ 1048576) :
    Calls Tryd.prog 10 #[.agg #[.int .i64 V, .slice a xs.length cap]] w fun e w' =>
      ∃ g, e = .returned (.agg #[.int .i64 V, .slice (some ⟨g, 0, none⟩) xs.length xs.length]) ∧ w'.ownsRow w.heap.size 2 1 (.slice (some ⟨g, 0, none⟩) xs.length xs.length) xs.length (xs.map (Value.int .i64)) ∧ Below w.heap.size w w' := by
  go_enter Tryd.func10, Tryd.ntmps10
  go_wp2_with fail
  refine (toInts a cap xs _ (SlI.later hx (?hb : Below w.heap.size w _) ?hs) hl).mono ?_
  case hb => repeat (first | exact Below.refl _ _ | refine Below.alloc ?_ (by simp <;> omega) _ | refine Below.setCell ?_ (by simp <;> omega) _)
  case hs => simp <;> omega
  rintro e w1 ⟨rfl, hown, hB⟩
  have hB1 : Below w.heap.size w w1 := Below.trans (by repeat (first | exact Below.refl _ _ | refine Below.alloc ?_ (by simp <;> omega) _ | refine Below.setCell ?_ (by simp <;> omega) _)) (hB.mono (by simp <;> omega))
  have e0 : w1.cell? ⟨w.heap.size + 1 + 1, 0, none⟩ = some (.int .i64 V) := (hB.cell (p := ⟨w.heap.size + 1 + 1, 0, none⟩) (by simp)).trans (by simp [go_sem])
  have e1 : w1.cell? ⟨w.heap.size + 1 + 1, 1, none⟩ = some (.slice none 0 0) := (hB.cell (p := ⟨w.heap.size + 1 + 1, 1, none⟩) (by simp)).trans (by simp [go_sem])
  have e2 : w1.cell? ⟨w.heap.size + 1, 0, none⟩ = some (.int .i64 0) := (hB.cell (p := ⟨w.heap.size + 1, 0, none⟩) (by simp)).trans (by simp [go_sem])
  have e3 : w1.cell? ⟨w.heap.size + 1, 1, none⟩ = some (.slice none 0 0) := (hB.cell (p := ⟨w.heap.size + 1, 1, none⟩) (by simp)).trans (by simp [go_sem])
  have g1 : w1.frozen? ⟨w.heap.size + 1 + 1, 1, none⟩ = false := (hB.frozen (p := ⟨w.heap.size + 1 + 1, 1, none⟩) (by simp)).trans (by simp [go_sem])
  have g2 : w1.frozen? ⟨w.heap.size + 1, 0, none⟩ = false := (hB.frozen (p := ⟨w.heap.size + 1, 0, none⟩) (by simp)).trans (by simp [go_sem])
  have g3 : w1.frozen? ⟨w.heap.size + 1, 1, none⟩ = false := (hB.frozen (p := ⟨w.heap.size + 1, 1, none⟩) (by simp)).trans (by simp [go_sem])
  have hs1 := hB.size
  simp at hs1
  have Hown := hid (hown)
  clear hown
  go_wp2_with fail
  refine bodyPost_ret (v := .agg #[.int .i64 V, .slice (some ⟨w.heap.size + 1 + 1 + 1, 0, none⟩) xs.length xs.length]) (by simp [results, Tryd.results10, go_sem, e2, e3]) rfl ⟨w.heap.size + 1 + 1 + 1, rfl, ?_, ?_⟩
  · have h := Hown.out
    simp only [World.size_alloc] at h
    refine ownsRow_set (ownsRow_set (ownsRow_set (ownsRow_base h (by omega)) ?_ _) ?_ _) ?_ _ <;> (simp [Value.ownBlock] <;> omega)
  · exact ((hB1.setCell (by simp; omega) _).setCell (by simp) _).setCell (by simp) _

set_option maxHeartbeats 400000 in
theorem eqInts_any (a1 a2 : Option Addr) (c1 c2 : Nat) (xs ys : List Int) (w : World) (hx : SlI w w.heap.size a1 xs) (hy : SlI w w.heap.size a2 ys) (hl : xs.length ≤ 1048576) (hl2 : ys.length ≤ 1048576) :
    Calls Tryd.prog 13 #[.slice a1 xs.length c1, .slice a2 ys.length c2] w fun e w' => e = .returned (.bool (decide (xs = ys))) ∧ Below w.heap.size w w' := by
  by_cases hlen : xs.length = ys.length
  · rcases hx with rfl | ⟨b, off, hb, rfl, hc⟩
    · obtain rfl : ys = [] := List.eq_nil_of_length_eq_zero hlen.symm
      go_enter Tryd.func13, Tryd.ntmps13
      go_wp2
      refine wp_loop_rounds 1 ?_; rw [rounds_succ]
      go_wp2
      go_ret
      exact ⟨ret_bool (by simp), Below.refl _ _⟩
    · rcases hy with rfl | ⟨b2, off2, hb2, rfl, hc2⟩
      · obtain rfl : xs = [] := List.eq_nil_of_length_eq_zero hlen
        go_enter Tryd.func13, Tryd.ntmps13
        go_wp2
        refine wp_loop_rounds 1 ?_; rw [rounds_succ]
        go_wp2
        go_ret
        exact ⟨ret_bool (by simp), Below.refl _ _⟩
      · have Hc := hid hc
        have Hc2 := hid hc2
        have hne : ((xs.length : Int) != (ys.length : Int)) = false := by simp [hlen]
        have Hlen := hid hlen
        have hle : xs.length ≤ ys.length := by omega
        clear hc hc2 hlen
        go_enter Tryd.func13, Tryd.ntmps13
        go_wp2
        go_loopw [5] (fun i wr => ∃ k : Nat, k ≤ xs.length ∧ i = .int .i64 k ∧ Hid (∀ j, j < k → xs[j]?.getD 0 = ys[j]?.getD 0) ∧ Below w.heap.size w wr) (fun i _ => xs.length - (intOf i).toNat)
        case atStart => exact ⟨0, Nat.zero_le _, rfl, hid (by omega), Below.refl _ _⟩
        case round =>
          obtain ⟨k, hk, rfl, Hk, hB⟩ := hrel
          by_cases hlt : k < xs.length
          · obtain ⟨x, hx⟩ : ∃ x, x = xs[k]?.getD 0 := ⟨_, rfl⟩
            obtain ⟨y, hy⟩ : ∃ y, y = ys[k]?.getD 0 := ⟨_, rfl⟩
            have hck : wr.cell? ⟨b, off + k, none⟩ = some (.int .i64 x) := by rw [hx]; exact (hB.cell (p := ⟨b, off + k, none⟩) hb).trans (Hc.out k hlt)
            have hck2 : wr.cell? ⟨b2, off2 + k, none⟩ = some (.int .i64 y) := by rw [hy]; exact (hB.cell (p := ⟨b2, off2 + k, none⟩) hb2).trans (Hc2.out k (by omega))
            have Hx := hid hx
            have Hy := hid hy
            clear hx hy
            have hi0 : (0 : Int) ≤ (k : Int) := by omega
            have hi1 : (k : Int) < (xs.length : Int) := by omega
            have hi2 : (k : Int) < (ys.length : Int) := by omega
            by_cases hxy : x = y
            · have hd : (x != y) = false := by simp [hxy]
              have Hxy := hid hxy
              clear hxy
              go_wp2_with fail
              go_quiet (fail)
              go_wp2_with fail
              go_roundw
              case rel =>
                refine ⟨k + 1, by omega, by go_num, hid (fun j hj => ?_), hB.trans ⟨rfl, rfl, rfl, Nat.le_refl _, fun _ _ => rfl⟩⟩
                by_cases hjk : j < k
                · exact Hk.out j hjk
                · obtain rfl : j = k := by omega
                  rw [← Hx.out, ← Hy.out, Hxy.out]
              case measure => simp [intOf]; omega
            · have hd : (x != y) = true := by simp [hxy]
              go_wp2_with fail
              go_quiet (fail)
              go_wp2_with fail
              go_ret
              refine ⟨ret_bool ?_, hB.trans ⟨rfl, rfl, rfl, Nat.le_refl _, fun _ _ => rfl⟩⟩
              symm
              refine decide_eq_false (fun h => hxy ?_)
              rw [Hx.out, Hy.out, h]
          · obtain rfl : k = xs.length := by omega
            go_wp2
            go_ret
            refine ⟨ret_bool ?_, hB⟩
            symm
            refine decide_eq_true (List.ext_getElem Hlen.out (fun j h1 h2 => ?_))
            have := Hk.out j h1
            rw [List.getElem?_eq_getElem h1, List.getElem?_eq_getElem h2] at this
            simpa using this
  · have hne : ((xs.length : Int) != (ys.length : Int)) = true := by simp; omega
    have Hlen := hid hlen
    clear hlen
    go_enter Tryd.func13, Tryd.ntmps13
    go_wp2
    go_ret
    refine ⟨ret_bool ?_, Below.refl _ _⟩
    symm
    exact decide_eq_false (fun h => Hlen.out (by rw [h]))

theorem eqInts_yes (a1 a2 : Option Addr) (c1 c2 : Nat) (xs ys : List Int) (w : World) (hx : SlI w w.heap.size a1 xs) (hy : SlI w w.heap.size a2 ys) (hl : xs.length ≤ 1048576) (hl2 : ys.length ≤ 1048576) (h : xs = ys) :
    Calls Tryd.prog 13 #[.slice a1 xs.length c1, .slice a2 ys.length c2] w fun e w' => e = .returned (.bool true) ∧ Below w.heap.size w w' :=
  (eqInts_any a1 a2 c1 c2 xs ys w hx hy hl hl2).mono fun _ _ ⟨he, hw⟩ => ⟨by rw [he, decide_eq_true h], hw⟩

theorem eqInts_no (a1 a2 : Option Addr) (c1 c2 : Nat) (xs ys : List Int) (w : World) (hx : SlI w w.heap.size a1 xs) (hy : SlI w w.heap.size a2 ys) (hl : xs.length ≤ 1048576) (hl2 : ys.length ≤ 1048576) (h : ¬ xs = ys) :
    Calls Tryd.prog 13 #[.slice a1 xs.length c1, .slice a2 ys.length c2] w fun e w' => e = .returned (.bool false) ∧ Below w.heap.size w w' :=
  (eqInts_any a1 a2 c1 c2 xs ys w hx hy hl hl2).mono fun _ _ ⟨he, hw⟩ => ⟨by rw [he, decide_eq_false h], hw⟩

set_option maxHeartbeats 400000 in
theorem eqCx_yes (V : Int) (a1 a2 : Option Addr) (c1 c2 : Nat) (xs ys : List Int) (w : World) (hx : SlI w w.heap.size a1 xs) (hy : SlI w w.heap.size a2 ys) (hl : xs.length ≤ 1048576) (hl2 : ys.length ≤ 1048576) (h : xs = ys) :
    Calls Tryd.prog 14 #[.agg #[.int .i64 V, .slice a1 xs.length c1], .agg #[.int .i64 V, .slice a2 ys.length c2]] w fun e w' => e = .returned (.bool true) ∧ Below w.heap.size w w' := by
  have H := hid h
  clear h
  have hne : (V != V) = false := by simp
  go_enter Tryd.func14, Tryd.ntmps14
  go_wp2_with fail
  have hB : Below w.heap.size w ((w.alloc (.cells #[.int .i64 V, .slice a1 xs.length c1] 28)).alloc (.cells #[.int .i64 V, .slice a2 ys.length c2] 28)) := ((Below.refl _ w).alloc (Nat.le_refl _) _).alloc (by simp) _
  refine (eqInts_yes a1 a2 c1 c2 xs ys _ (SlI.later hx hB (by simp <;> omega)) (SlI.later hy hB (by simp <;> omega)) hl hl2 H.out).mono ?_
  rintro e w' ⟨rfl, hb⟩
  go_wp2_with fail
  go_ret
  exact ⟨rfl, hB.trans (hb.mono (by simp <;> omega))⟩

end Go.Proofs.YtppnahgiekjbnaaDoor

/-! Marks: what the laws write into results, and find again. -/
namespace Go.Proofs.YtppnahgiekjbnaaDoor
open Go.RowKit

/-- k, k + 1, .. -/
def count (k : Int) : Nat → List Int
  | 0 => []
  | n + 1 => count k n ++ [k + n]

theorem count_len (k : Int) : ∀ n, (count k n).length = n
  | 0 => rfl
  | n + 1 => by simp [count, count_len k n]

theorem count_get (k : Int) : ∀ n i, i < n → (count k n)[i]?.getD 0 = k + i
  | 0, i, h => by omega
  | n + 1, i, h => by
    unfold count
    by_cases hi : i < n
    · rw [List.getElem?_append_left (by rw [count_len]; exact hi)]
      exact count_get k n i hi
    · obtain rfl : i = n := by omega
      rw [List.getElem?_append_right (by rw [count_len]; omega), count_len]
      simp

theorem mark_step {k : Int} {xs : List Int} {j : Nat} (h : j < xs.length) :
    ((count k j ++ xs.drop j).map (Value.int .i64)).set j (.int .i64 (k + j)) = (count k (j + 1) ++ xs.drop (j + 1)).map (Value.int .i64) := by
  rw [← List.map_set]
  congr 1
  rw [List.set_append_right _ _ (by rw [count_len]; exact Nat.le_refl _), count_len, Nat.sub_self]
  rw [List.drop_eq_getElem_cons h, List.set_cons_zero]
  simp [count]

set_option maxHeartbeats 400000 in
theorem markInts (base : Nat) (a : Option Addr) (cap : Nat) (xs : List Int) (k : Int) (w : World) (hown : w.ownsRow base 2 1 (.slice a xs.length cap) xs.length (xs.map (Value.int .i64))) (hl : xs.length ≤ 1048576) (h0 : 0 ≤ k) (h1 : k ≤ 1099511627776) :
    Calls Tryd.prog 16 #[.slice a xs.length cap, .int .i64 k] w fun e w' => e = .returned (.int .i64 (k + xs.length)) ∧
      w'.ownsRow base 2 1 (.slice a xs.length cap) xs.length ((count k xs.length).map (Value.int .i64)) ∧ w.grownBy w' (Value.ownBlock (.slice a xs.length cap)) := by
  rcases hown.2 with ⟨hv, hn⟩ | ⟨g, cap', cur, hv, hb, hg, rest⟩
  · obtain rfl : xs = [] := List.eq_nil_of_length_eq_zero hn
    have Hown := hid hown
    clear hown hv hn
    go_enter Tryd.func16, Tryd.ntmps16
    go_wp2
    refine wp_loop_rounds 1 ?_; rw [rounds_succ]
    go_wp2
    go_ret
    exact ⟨ret_int (by simp), Hown.out, ⟨rfl, rfl, rfl, Nat.le_refl _, fun _ _ _ => rfl⟩⟩
  · cases hv
    have Hg := hid (And.intro hb hg)
    clear hb hg rest
    go_enter Tryd.func16, Tryd.ntmps16
    go_wp2
    go_loopw [1, 5] (fun m i wr => ∃ j : Nat, j ≤ xs.length ∧ i = .int .i64 j ∧ m = .int .i64 (k + j) ∧ wr.ownsRow base 2 1 (.slice (some ⟨g, 0, none⟩) xs.length cap) xs.length ((count k j ++ xs.drop j).map (Value.int .i64)) ∧ w.grownBy wr (some g)) (fun _ i _ => xs.length - (intOf i).toNat)
    case atStart => exact ⟨0, Nat.zero_le _, rfl, by simp, by simpa [count] using hown, ⟨rfl, rfl, rfl, Nat.le_refl _, fun _ _ _ => rfl⟩⟩
    case round =>
      obtain ⟨j, hj, rfl, rfl, hown, hgr⟩ := hrel
      by_cases hlt : j < xs.length
      · have hcg : ∃ u, wr.cell? ⟨g, j, none⟩ = some (.int .i64 u) := by
          rw [hown.cellAt j (by omega)]
          refine ⟨xs[j]?.getD 0, ?_⟩
          rw [List.getElem?_map, List.getElem?_append_right (by rw [count_len]; exact Nat.le_refl _), count_len, Nat.sub_self]
          simp [hlt]
        obtain ⟨u, hcu⟩ := hcg
        have hfg := hown.frozenAt j
        have hst := hown.stored j (.int .i64 (k + j))
        rw [mark_step hlt] at hst
        have Hst := hid hst
        have Hgr := hid hgr
        clear hst hown hgr
        go_wp2
        go_roundw
        case rel =>
          exact ⟨j + 1, by omega, by go_num, by go_num, Hst.out.1, Hgr.out.trans Hst.out.2⟩
        case measure => simp [intOf]; omega
      · go_wp2
        go_ret
        obtain rfl : j = xs.length := by omega
        exact ⟨rfl, by simpa using hown, hgr⟩

set_option maxHeartbeats 400000 in
theorem heldInts (a : Option Addr) (cap : Nat) (n : Nat) (xs : List Int) (k : Int) (w : World) (hxs : xs = count k n) (hx : SlI w w.heap.size a xs) (hl : n ≤ 1048576) (h0 : 0 ≤ k) (h1 : k ≤ 1099511627776) :
    Calls Tryd.prog 17 #[.slice a n cap, .int .i64 k] w fun e w' => e = .returned (.int .i64 (k + n)) ∧ Below w.heap.size w w' := by
  have hlen : xs.length = n := by rw [hxs, count_len]
  rcases hx with rfl | ⟨b, off, hb, rfl, hc⟩
  · obtain rfl : n = 0 := by simpa using hlen.symm
    clear hxs hlen
    go_enter Tryd.func17, Tryd.ntmps17
    go_wp2
    refine wp_loop_rounds 1 ?_; rw [rounds_succ]
    go_wp2
    go_ret
    exact ⟨ret_int (by simp), Below.refl _ _⟩
  · have Hc := hid hc
    have Hxs := hid hxs
    have Hlen := hid hlen
    clear hc hxs hlen
    go_enter Tryd.func17, Tryd.ntmps17
    go_wp2
    go_loop [1, 5] (fun m i => ∃ j : Nat, j ≤ n ∧ i = .int .i64 j ∧ m = .int .i64 (k + j)) (fun _ i => n - (intOf i).toNat)
    case atStart => exact ⟨0, Nat.zero_le _, rfl, by simp⟩
    case round =>
      obtain ⟨j, hj, rfl, rfl⟩ := hrel
      by_cases hlt : j < n
      · have hck : w.cell? ⟨b, off + j, none⟩ = some (.int .i64 (k + j)) := by
          have := Hc.out j (by rw [Hlen.out]; exact hlt)
          rw [Hxs.out, count_get _ _ _ hlt] at this
          exact this
        go_wp2
        go_round
        case rel => exact ⟨j + 1, by omega, by go_num, by go_num⟩
        case measure => simp [intOf]; omega
      · go_wp2
        go_ret
        obtain rfl : j = n := by omega
        exact ⟨rfl, Below.refl _ _⟩

/-! ### What a law keeps of the world: slices of its own, in the order in which they were made, and blocks -/

/-- A slice of int64 that lies in blocks from lo to hi. -/
structure Sl where
  lo : Nat
  hi : Nat
  v : Value
  xs : List Int

structure OwnI (w : World) (p : Sl) : Prop where
  own : w.ownsRow p.lo 2 1 p.v p.xs.length (p.xs.map (Value.int .i64))
  lt : ∀ g, p.v.ownBlock = some g → g < p.hi
  le : p.hi ≤ w.heap.size

structure Facts (w0 : World) (w : World) (A : List (Option Addr × List Int)) (bs : List (Nat × Obj)) (L : List Sl) : Prop where
  from0 : Below w0.heap.size w0 w
  args : ∀ q ∈ A, SlI w w0.heap.size q.1 q.2
  blocks : ∀ b ∈ bs, w.heap[b.1]? = some b.2
  slices : ∀ p ∈ L, OwnI w p

section
variable {w0 w w' : World} {A : List (Option Addr × List Int)} {bs : List (Nat × Obj)} {L : List Sl}

theorem Facts.ge (h : Facts w0 w A bs L) : w0.heap.size ≤ w.heap.size := h.from0.size

theorem Facts.below (h : Facts w0 w A bs L) (hb : Below w.heap.size w w') : Facts w0 w' A bs L where
  from0 := h.from0.trans (hb.mono h.ge)
  args := fun q hq => (h.args q hq).below (hb.mono h.ge)
  blocks := fun b hbm => (hb.block b.1 (Array.getElem?_eq_some_iff.1 (h.blocks b hbm)).1).trans (h.blocks b hbm)
  slices := fun p hp => ⟨ownsRow_below (h.slices p hp).own hb (fun g hg => Nat.lt_of_lt_of_le ((h.slices p hp).lt g hg) (h.slices p hp).le), (h.slices p hp).lt, Nat.le_trans (h.slices p hp).le hb.size⟩

theorem Facts.drew (h : Facts w0 w A bs L) : Facts w0 w.drew A bs L := h.below (Below.refl _ _).drew

theorem Facts.arg (h : Facts w0 w A bs L) {q : Option Addr × List Int} (hq : q ∈ A) : SlI w w.heap.size q.1 q.2 := (h.args q hq).mono h.ge

/-- A new block. -/
theorem Facts.alloc (h : Facts w0 w A bs L) (o : Obj) : Facts w0 (w.alloc o) A ((w.heap.size, o) :: bs) L where
  from0 := h.from0.alloc h.ge o
  args := fun q hq => (h.args q hq).below ((Below.refl _ w).alloc h.ge _)
  blocks := fun b hb => by
    rcases List.mem_cons.1 hb with rfl | hb
    · exact heap_alloc_new w o
    · exact (Below.heap_alloc w o _ (Array.getElem?_eq_some_iff.1 (h.blocks b hb)).1).trans (h.blocks b hb)
  slices := fun p hp => ⟨(h.slices p hp).own.alloc o, (h.slices p hp).lt, by have := (h.slices p hp).le; simp; omega⟩

/-- A new slice, out of a call. -/
theorem Facts.slice (h : Facts w0 w A bs L) {v : Value} {xs : List Int}
    (hown : w'.ownsRow w.heap.size 2 1 v xs.length (xs.map (Value.int .i64))) (hb : Below w.heap.size w w') : Facts w0 w' A bs (⟨w.heap.size, w'.heap.size, v, xs⟩ :: L) :=
  { h.below hb with
    slices := fun p hp => by
      rcases List.mem_cons.1 hp with rfl | hp
      · exact ⟨hown, fun g hg => (hown.lt g hg).2, Nat.le_refl _⟩
      · exact (h.below hb).slices p hp }

/-- A slice is marked: the others stay. -/
theorem Facts.mark {L' : List Sl} (h : Facts w0 w A bs L) {p : Sl} {ys : List Int} (hp : p ∈ L)
    (hown : w'.ownsRow p.lo 2 1 p.v ys.length (ys.map (Value.int .i64))) (hg : w.grownBy w' p.v.ownBlock)
    (hB : w0.heap.size ≤ p.lo) (hbs : ∀ b ∈ bs, b.1 < p.lo ∨ p.hi ≤ b.1) (hL : ∀ q ∈ L', q = { p with xs := ys } ∨ (q ∈ L ∧ (q.hi ≤ p.lo ∨ p.hi ≤ q.lo))) : Facts w0 w' A bs L' where
  from0 := h.from0.grown hg h.ge (fun k e => Nat.le_trans hB ((h.slices p hp).own.lt k e).1)
  args := fun q hq => (h.args q hq).below ((Below.refl _ w).grown hg h.ge (fun k e => Nat.le_trans hB ((h.slices p hp).own.lt k e).1))
  blocks := fun b hb => (hg.block b.1 (Array.getElem?_eq_some_iff.1 (h.blocks b hb)).1 (fun e => by
    have h1 := ((h.slices p hp).own.lt _ e.symm).1
    have h2 := (h.slices p hp).lt _ e.symm
    rcases hbs b hb with h3 | h3 <;> omega)).trans (h.blocks b hb)
  slices := fun q hq => by
    rcases hL q hq with rfl | ⟨hqm, hap⟩
    · exact ⟨hown, (h.slices p hp).lt, Nat.le_trans (h.slices p hp).le hg.size⟩
    · refine ⟨(h.slices q hqm).own.kept hg ?_, (h.slices q hqm).lt, Nat.le_trans (h.slices q hqm).le hg.size⟩
      cases hv : q.v.ownBlock with
      | none => exact .inl rfl
      | some g =>
        refine .inr (fun e => ?_)
        have h1 := ((h.slices p hp).own.lt _ e.symm).1
        have h2 := (h.slices p hp).lt _ e.symm
        have h3 := ((h.slices q hqm).own.lt _ hv).1
        have h4 := (h.slices q hqm).lt _ hv
        rcases hap with h5 | h5 <;> omega

theorem Facts.slI (h : Facts w0 w A bs L) {lo hi : Nat} {a : Option Addr} {m cap : Nat} {xs : List Int} (hp : (⟨lo, hi, .slice a m cap, xs⟩ : Sl) ∈ L) : SlI w w.heap.size a xs :=
  owned_slI (h.slices _ hp).own

theorem Facts.own (h : Facts w0 w A bs L) {lo hi : Nat} {v : Value} {xs : List Int} (hp : (⟨lo, hi, v, xs⟩ : Sl) ∈ L) : w.ownsRow lo 2 1 v xs.length (xs.map (Value.int .i64)) := (h.slices _ hp).own

theorem Facts.two (h : Facts w0 w A bs L) {b t : Nat} {u v : Value} (hb : (b, Obj.cells #[u, v] t (0, 0)) ∈ bs) : w.cell? ⟨b, 0, none⟩ = some u ∧ w.cell? ⟨b, 1, none⟩ = some v := by
  have := h.blocks _ hb
  constructor <;> simp [World.cell?, this]
end

set_option maxHeartbeats 400000 in
theorem markCx (V : Int) (base : Nat) (a : Option Addr) (cap : Nat) (xs : List Int) (k : Int) (w : World) (hown : w.ownsRow base 2 1 (.slice a xs.length cap) xs.length (xs.map (Value.int .i64))) (hl : xs.length ≤ 1048576) (h0 : 0 ≤ k) (h1 : k ≤ 1099511627776) :
    Calls Tryd.prog 15 #[.agg #[.int .i64 V, .slice a xs.length cap], .int .i64 k] w fun e w' => e = .returned (.int .i64 (k + xs.length)) ∧
      w'.ownsRow base 2 1 (.slice a xs.length cap) xs.length ((count k xs.length).map (Value.int .i64)) ∧ w.grownBy w' (Value.ownBlock (.slice a xs.length cap)) := by
  have Hown := hid (hown.alloc (.cells #[.int .i64 V, .slice a xs.length cap] 28))
  clear hown
  go_enter Tryd.func15, Tryd.ntmps15
  go_wp2_with fail
  refine (markInts base a cap xs k _ Hown.out hl h0 h1).mono ?_
  rintro e w1 ⟨rfl, hown1, hgr⟩
  go_wp2_with fail
  go_ret
  exact ⟨rfl, hown1, (World.grownBy_alloc w _ _).trans hgr⟩


end Go.Proofs.YtppnahgiekjbnaaDoor

/-! What a law keeps of the world, for rows of any type that are read as integers (a list of n pairs: 2 * n integers). -/
namespace Go.Proofs.YtppnahgiekjbnaaDoor
open Go.RowKit

/-- A row that lies in blocks from lo to hi: n elements of a type and size, read as integers. -/
structure Bk where
  lo : Nat
  hi : Nat
  ty : TypeId
  sz : Nat
  n : Nat
  v : Value
  xs : List Int

structure OwnB (w : World) (p : Bk) : Prop where
  own : w.ownsRow p.lo p.ty p.sz p.v p.n (p.xs.map (Value.int .i64))
  lt : ∀ g, p.v.ownBlock = some g → g < p.hi
  le : p.hi ≤ w.heap.size

/-- What is owned reads as integers. -/
theorem flat_slI {w : World} {base e sz : Nat} {a : Option Addr} {n m cap : Nat} {xs : List Int} (h : w.ownsRow base e sz (.slice a m cap) n (xs.map (Value.int .i64))) : SlI w w.heap.size a xs := by
  have hl := h.1
  rcases h.2 with ⟨hv, hn⟩ | ⟨g, cap', cur, hv, _, hg, _⟩
  · subst hn
    exact .inl (List.eq_nil_of_length_eq_zero (by simpa using hl))
  · cases hv
    refine .inr ⟨g, 0, (Array.getElem?_eq_some_iff.1 hg).1, rfl, fun i hi => ?_⟩
    have := h.cells (g := g) rfl i (.int .i64 (xs[i]?.getD 0)) (by simp [hi])
    have hadd : (⟨g, 0, none⟩ : Addr).add i = ⟨g, i, none⟩ := by unfold Addr.add; split <;> simp_all
    rw [hadd] at this
    simpa using this

structure Book (w0 : World) (w : World) (A : List (Option Addr × List Int)) (bs : List (Nat × Obj)) (L : List Bk) : Prop where
  from0 : Below w0.heap.size w0 w
  args : ∀ q ∈ A, SlI w w0.heap.size q.1 q.2
  blocks : ∀ b ∈ bs, w.heap[b.1]? = some b.2
  rows : ∀ p ∈ L, OwnB w p

section
variable {w0 w w' : World} {A : List (Option Addr × List Int)} {bs : List (Nat × Obj)} {L : List Bk}

theorem Book.ge (h : Book w0 w A bs L) : w0.heap.size ≤ w.heap.size := h.from0.size

theorem Book.below (h : Book w0 w A bs L) (hb : Below w.heap.size w w') : Book w0 w' A bs L where
  from0 := h.from0.trans (hb.mono h.ge)
  args := fun q hq => (h.args q hq).below (hb.mono h.ge)
  blocks := fun b hbm => (hb.block b.1 (Array.getElem?_eq_some_iff.1 (h.blocks b hbm)).1).trans (h.blocks b hbm)
  rows := fun p hp => ⟨ownsRow_below (h.rows p hp).own hb (fun g hg => Nat.lt_of_lt_of_le ((h.rows p hp).lt g hg) (h.rows p hp).le), (h.rows p hp).lt, Nat.le_trans (h.rows p hp).le hb.size⟩

theorem Book.drew (h : Book w0 w A bs L) : Book w0 w.drew A bs L := h.below (Below.refl _ _).drew
theorem Book.drewN (h : Book w0 w A bs L) (n : Nat) : Book w0 (w.drewN n) A bs L := h.below ⟨rfl, rfl, rfl, Nat.le_refl _, fun _ _ => rfl⟩

theorem Book.arg (h : Book w0 w A bs L) {q : Option Addr × List Int} (hq : q ∈ A) : SlI w w.heap.size q.1 q.2 := (h.args q hq).mono h.ge

theorem Book.alloc (h : Book w0 w A bs L) (o : Obj) : Book w0 (w.alloc o) A ((w.heap.size, o) :: bs) L where
  from0 := h.from0.alloc h.ge o
  args := fun q hq => (h.args q hq).below ((Below.refl _ w).alloc h.ge _)
  blocks := fun b hb => by
    rcases List.mem_cons.1 hb with rfl | hb
    · exact heap_alloc_new w o
    · exact (Below.heap_alloc w o _ (Array.getElem?_eq_some_iff.1 (h.blocks b hb)).1).trans (h.blocks b hb)
  rows := fun p hp => ⟨(h.rows p hp).own.alloc o, (h.rows p hp).lt, by have := (h.rows p hp).le; simp; omega⟩

/-- A new row, out of a call. -/
theorem Book.row (h : Book w0 w A bs L) {ty : TypeId} {sz n : Nat} {v : Value} {xs : List Int}
    (hown : w'.ownsRow w.heap.size ty sz v n (xs.map (Value.int .i64))) (hb : Below w.heap.size w w') : Book w0 w' A bs (⟨w.heap.size, w'.heap.size, ty, sz, n, v, xs⟩ :: L) :=
  { h.below hb with
    rows := fun p hp => by
      rcases List.mem_cons.1 hp with rfl | hp
      · exact ⟨hown, fun g hg => (hown.lt g hg).2, Nat.le_refl _⟩
      · exact (h.below hb).rows p hp }

/-- A row is marked: the others stay. -/
theorem Book.mark {L' : List Bk} (h : Book w0 w A bs L) {p : Bk} {ys : List Int} (hp : p ∈ L)
    (hown : w'.ownsRow p.lo p.ty p.sz p.v p.n (ys.map (Value.int .i64))) (hg : w.grownBy w' p.v.ownBlock)
    (hB : w0.heap.size ≤ p.lo) (hbs : ∀ b ∈ bs, b.1 < p.lo ∨ p.hi ≤ b.1) (hL : ∀ q ∈ L', q = { p with xs := ys } ∨ (q ∈ L ∧ (q.hi ≤ p.lo ∨ p.hi ≤ q.lo))) : Book w0 w' A bs L' where
  from0 := h.from0.grown hg h.ge (fun k e => Nat.le_trans hB ((h.rows p hp).own.lt k e).1)
  args := fun q hq => (h.args q hq).below ((Below.refl _ w).grown hg h.ge (fun k e => Nat.le_trans hB ((h.rows p hp).own.lt k e).1))
  blocks := fun b hb => (hg.block b.1 (Array.getElem?_eq_some_iff.1 (h.blocks b hb)).1 (fun e => by
    have h1 := ((h.rows p hp).own.lt _ e.symm).1
    have h2 := (h.rows p hp).lt _ e.symm
    rcases hbs b hb with h3 | h3 <;> omega)).trans (h.blocks b hb)
  rows := fun q hq => by
    rcases hL q hq with rfl | ⟨hqm, hap⟩
    · exact ⟨hown, (h.rows p hp).lt, Nat.le_trans (h.rows p hp).le hg.size⟩
    · refine ⟨(h.rows q hqm).own.kept hg ?_, (h.rows q hqm).lt, Nat.le_trans (h.rows q hqm).le hg.size⟩
      cases hv : q.v.ownBlock with
      | none => exact .inl rfl
      | some g =>
        refine .inr (fun e => ?_)
        have h1 := ((h.rows p hp).own.lt _ e.symm).1
        have h2 := (h.rows p hp).lt _ e.symm
        have h3 := ((h.rows q hqm).own.lt _ hv).1
        have h4 := (h.rows q hqm).lt _ hv
        rcases hap with h5 | h5 <;> omega

/-- Some of it. -/
theorem Book.only {bs' : List (Nat × Obj)} {L' : List Bk} (h : Book w0 w A bs L) (hb : ∀ b ∈ bs', b ∈ bs) (hL : ∀ p ∈ L', p ∈ L) : Book w0 w A bs' L' :=
  ⟨h.from0, h.args, fun b hbm => h.blocks b (hb b hbm), fun p hp => h.rows p (hL p hp)⟩

/-- A block of another type is written. -/
theorem Book.set2 {b t : Nat} {x y u v : Value} (h : Book w0 w A ((b, .cells #[x, y] t (0, 0)) :: bs) L) (hw : w0.heap.size ≤ b) (hb : ∀ q ∈ bs, q.1 ≠ b) (hty : ∀ p ∈ L, p.ty ≠ t) :
    Book w0 ((w.setCell ⟨b, 0, none⟩ u).setCell ⟨b, 1, none⟩ v) A ((b, .cells #[u, v] t (0, 0)) :: bs) L where
  from0 := (h.from0.setCell (p := ⟨b, 0, none⟩) hw _).setCell (p := ⟨b, 1, none⟩) hw _
  args := fun q hq => (h.args q hq).below (((Below.refl _ w).setCell (p := ⟨b, 0, none⟩) hw _).setCell (p := ⟨b, 1, none⟩) hw _)
  blocks := fun q hq => by
    rcases List.mem_cons.1 hq with rfl | hq
    · have hbk := h.blocks _ (List.mem_cons_self ..)
      simp only at hbk
      simp only [World.setCell, Array.getElem?_modify, hbk]
      simp
    · exact (Below.heap_setCell _ _ _ _ (hb q hq)).trans ((Below.heap_setCell _ _ _ _ (hb q hq)).trans (h.blocks q (List.mem_cons_of_mem _ hq)))
  rows := fun p hp => by
    have hbk := h.blocks _ (List.mem_cons_self ..)
    have hn : p.v.ownBlock ≠ some b := by
      intro e
      have ho := (h.rows p hp).own
      rcases ho.2 with ⟨hv, _⟩ | ⟨g, cap, cur, hv, _, hg, _⟩
      · rw [hv] at e; simp [Value.ownBlock] at e
      · rw [hv] at e
        simp [Value.ownBlock] at e
        subst e
        rw [hg] at hbk
        simp at hbk
        exact hty p hp hbk.2
    exact ⟨ownsRow_set (ownsRow_set (h.rows p hp).own hn _) hn _, (h.rows p hp).lt, by have := (h.rows p hp).le; simpa [World.setCell] using this⟩

theorem Book.slI (h : Book w0 w A bs L) {lo hi : Nat} {ty : TypeId} {sz n : Nat} {a : Option Addr} {m cap : Nat} {xs : List Int} (hp : (⟨lo, hi, ty, sz, n, .slice a m cap, xs⟩ : Bk) ∈ L) : SlI w w.heap.size a xs :=
  flat_slI (h.rows _ hp).own

theorem Book.own (h : Book w0 w A bs L) {lo hi : Nat} {ty : TypeId} {sz n : Nat} {v : Value} {xs : List Int} (hp : (⟨lo, hi, ty, sz, n, v, xs⟩ : Bk) ∈ L) : w.ownsRow lo ty sz v n (xs.map (Value.int .i64)) := (h.rows _ hp).own

theorem Book.two (h : Book w0 w A bs L) {b t : Nat} {u v : Value} (hb : (b, Obj.cells #[u, v] t (0, 0)) ∈ bs) : w.cell? ⟨b, 0, none⟩ = some u ∧ w.cell? ⟨b, 1, none⟩ = some v := by
  have := h.blocks _ hb
  constructor <;> simp [World.cell?, this]

end

end Go.Proofs.YtppnahgiekjbnaaDoor

/-! IsTree, on both sides. -/
namespace Go.Proofs.YtppnahgiekjbnaaDoor
open Go.RowKit

/-- What IsTree answers. -/
noncomputable def isTrR (n : Int) (T : List Int) : Bool × Int := if 1 ≤ n ∧ n ≤ 6 then (isTB n.toNat T, 0) else (false, 2)



end Go.Proofs.YtppnahgiekjbnaaDoor

/-! treeFor and l10Code: a complex and a tree. -/
namespace Go.Proofs.YtppnahgiekjbnaaDoor
open Go.RowKit

/-- The code of a complex and a list. -/
noncomputable def codeT (V : Int) (fs T : List Int) : Int := if isCB V fs then (if isTB V.toNat T then 0 else 2) else 1

set_option maxRecDepth 100000 in
set_option maxHeartbeats 2000000 in
theorem codeS_any (V : Int) (a0 : Option Addr) (cap : Nat) (fs : List Int) (a : Option Addr) (cap1 : Nat) (T : List Int) (w : World) (hx : SlI w w.heap.size a0 fs) (hl : fs.length ≤ 1048576) (hx1 : SlI w w.heap.size a T) (hl1 : T.length ≤ 1048576) :
    Calls Tryd.prog 30 #[.agg #[.int .i64 V, .slice a0 fs.length cap], .slice a T.length cap1] w fun e w' => e = .returned (.int .i64 (codeT V fs T)) ∧ Below w.heap.size w w' := by
  obtain ⟨W0, hW0⟩ : ∃ W0, W0 = w.alloc (.cells #[.int .i64 V, .slice a0 fs.length cap] 28) := ⟨_, rfl⟩
  have hB0 : Below w.heap.size w W0 := by rw [hW0]; exact (Below.refl _ w).alloc (Nat.le_refl _) _
  have Hk : Hid (W0.heap[w.heap.size]? = some (.cells #[.int .i64 V, .slice a0 fs.length cap] 28 (0, 0))) := hid (by rw [hW0]; exact heap_alloc_new _ _)
  have Hx1 := hid hx1
  have HB0 := hid hB0
  have HI := hid (is_all V a0 cap fs W0 (hx.later hB0 hB0.size) hl)
  rw [hW0] at HI
  clear hx hB0 hx1
  cases hc : isCB V fs
  · have HR : Hid (codeT V fs T = 1) := hid (by unfold codeT; rw [hc]; rfl)
    rw [hc] at HI
    clear hc
    go_enter Tryd.func30, Tryd.ntmps30
    go_wp2_with fail
    refine HI.out.mono ?_
    rintro e w1 ⟨rfl, hB1⟩
    rw [← hW0] at hB1
    have HB1 := hid (HB0.out.trans (hB1.mono HB0.out.size))
    clear hB1
    go_wp2_with fail
    go_ret
    exact ⟨ret_int (by rw [HR.out]), HB1.out⟩
  · have hC := isCB_iff.1 hc
    have hlo := hC.lo
    have hhi := hC.hi
    have HR : Hid (codeT V fs T = if isTB V.toNat T then 0 else 2) := hid (by unfold codeT; rw [hc]; rfl)
    rw [hc] at HI
    obtain ⟨n, rfl⟩ : ∃ n : Nat, V = (n : Int) := ⟨V.toNat, by omega⟩
    rw [Int.toNat_natCast] at HR
    have HT := hid (fun W (h : Below w.heap.size w W) => treeT_any n a cap1 T W (Hx1.out.later h h.size) hl1 (by omega))
    cases hb : isTB n T
    · rw [hb] at HR HT
      clear hc hC hb
      go_enter Tryd.func30, Tryd.ntmps30
      go_wp2_with fail
      refine HI.out.mono ?_
      rintro e w1 ⟨rfl, hB1⟩
      rw [← hW0] at hB1
      have HB1 := hid (HB0.out.trans (hB1.mono HB0.out.size))
      obtain ⟨k0, k1, _, _⟩ := two_of ((hB1.block _ (lt_get Hk.out)).trans Hk.out)
      clear hB1
      go_wp2_with fail
      refine (HT.out _ HB1.out).mono ?_
      rintro e w2 ⟨rfl, hB2⟩
      have HB2 := hid (HB1.out.trans (hB2.mono HB1.out.size))
      clear hB2 k0 k1
      go_wp2_with fail
      go_ret
      exact ⟨ret_int (by rw [HR.out]; rfl), HB2.out⟩
    · rw [hb] at HR HT
      clear hc hC hb
      go_enter Tryd.func30, Tryd.ntmps30
      go_wp2_with fail
      refine HI.out.mono ?_
      rintro e w1 ⟨rfl, hB1⟩
      rw [← hW0] at hB1
      have HB1 := hid (HB0.out.trans (hB1.mono HB0.out.size))
      obtain ⟨k0, k1, _, _⟩ := two_of ((hB1.block _ (lt_get Hk.out)).trans Hk.out)
      clear hB1
      go_wp2_with fail
      refine (HT.out _ HB1.out).mono ?_
      rintro e w2 ⟨rfl, hB2⟩
      have HB2 := hid (HB1.out.trans (hB2.mono HB1.out.size))
      clear hB2 k0 k1
      go_wp2_with fail
      go_ret
      exact ⟨ret_int (by rw [HR.out]; rfl), HB2.out⟩

theorem done_tree {R : Ending → World → Prop} {a : Act} {W : World} {b : Nat} {A : Array Value} {x : Int} (hd : a.defers = []) (hp : a.tmps.getD 4 undef = .pointer (some ⟨b, 0, none⟩)) (hp2 : a.tmps.getD 5 undef = .int .i64 x)
    (hg : W.heap[b]? = some (.cells A 54 (0, 0))) (hi : (Tryd.prog.info? 54).map (·.size) = some A.size) (hR : R (.returned (.tuple #[.agg A, .int .i64 x])) W) :
    bodyPost Tryd.prog Tryd.f35 R .ret a W := by
  have hp' : a.tmps[4]?.getD undef = .pointer (some ⟨b, 0, none⟩) := by simpa using hp
  have hp2' : a.tmps[5]?.getD undef = .int .i64 x := by simpa using hp2
  have hl := run_loadVar_row (P := Tryd.prog) W b 54 54 A (0, 0) _ hg Tryd.underlying54 rfl hi
  refine bodyPost_ret (v := .tuple #[.agg A, .int .i64 x]) ?_ hd hR
  simp [results, Tryd.results35, hp', hp2', asAddr, hl]

set_option maxRecDepth 100000 in
set_option maxHeartbeats 2000000 in
theorem treeFor_any (V : Int) (a0 : Option Addr) (cap : Nat) (fs : List Int) (a : Option Addr) (cap1 : Nat) (T : List Int) (w : World) (pv : Value) (hx : SlI w w.heap.size a0 fs) (hl : fs.length ≤ 1048576) (hx1 : SlI w w.heap.size a T) (hl1 : T.length ≤ 1048576)
    (hG : w.cell? ⟨2, 0, none⟩ = some (.iface 138 pv)) :
    Calls Tryd.prog 35 #[.agg #[.int .i64 V, .slice a0 fs.length cap], .slice a T.length cap1] w fun e w' => ∃ A, e = .returned (.tuple #[.agg A, .int .i64 (codeT V fs T)]) ∧ A.size = 65 ∧ A.all (·.oneCell') = true ∧ (codeT V fs T = 0 → A = (tcells V (padL T)).toArray) ∧ Below w.heap.size w w' := by
  obtain ⟨Z, hZs, hZ1, hz, hi⟩ := zero_tree
  have hZ0 : ¬ Z = #[] := by rintro rfl; simp at hZs
  obtain ⟨W0, hW0⟩ : ∃ W0, W0 = (w.alloc (.cells #[.int .i64 V, .slice a0 fs.length cap] 28)).alloc (.cells Z 54) := ⟨_, rfl⟩
  have hB0 : Below w.heap.size w W0 := by rw [hW0]; exact ((Below.refl _ w).alloc (Nat.le_refl _) _).alloc (by simp) _
  have Hk : Hid (W0.heap[w.heap.size]? = some (.cells #[.int .i64 V, .slice a0 fs.length cap] 28 (0, 0))) := hid (by rw [hW0]; exact (Below.heap_alloc _ _ _ (by simp)).trans (heap_alloc_new _ _))
  have Hr : Hid (W0.heap[w.heap.size + 1]? = some (.cells Z 54 (0, 0))) := hid (by rw [hW0]; exact new2 _ _ _)
  have hlt := World.block_lt_of_cell? w _ hG
  have Hx1 := hid hx1
  have HG := hid hG
  have HB0 := hid hB0
  have HI := hid (implIsComplex V a0 cap fs W0 (hx.later hB0 hB0.size) hl)
  rw [hW0] at HI
  clear hx hB0 hx1 hG
  cases hc : isCB V fs
  · have HR : Hid (codeT V fs T = 1) := hid (by unfold codeT; rw [hc]; rfl)
    rw [hc] at HI
    clear hc
    go_enter Tryd.func35, Tryd.ntmps35
    go_wp2_with fail
    refine HI.out.mono ?_
    rintro e w1 ⟨rfl, hB1⟩
    rw [← hW0] at hB1
    have HB1 := hid (HB0.out.trans (hB1.mono HB0.out.size))
    have hrz := (hB1.block _ (lt_get Hr.out)).trans Hr.out
    have hi66 : (Tryd.prog.info? 54).map (·.size) = some Z.size := by rw [hi, hZs]
    clear hB1
    go_wp2_with (first
      | (refine wpList_store_row rfl 54 _ _ rfl (w.heap.size + 1) Z rfl rfl 54 Z hrz hi66 rfl hZ1 ?_)
      | fail)
    refine done_tree (b := w.heap.size + 1) (A := Z) rfl rfl rfl (setRow_heap w1 (w.heap.size + 1) Z Z 54 (0, 0) hrz) hi66 ⟨Z, by rw [HR.out], hZs, hZ1, fun h => absurd (HR.out.symm.trans h) (by decide), HB1.out.grown (setRow_grown2 w1 (w.heap.size + 1) Z) HB1.out.size (fun k e => by cases e; omega)⟩
  · have hC := isCB_iff.1 hc
    have hlo := hC.lo
    have hhi := hC.hi
    have HR : Hid (codeT V fs T = if isTB V.toNat T then 0 else 2) := hid (by unfold codeT; rw [hc]; rfl)
    rw [hc] at HI
    obtain ⟨n, rfl⟩ : ∃ n : Nat, V = (n : Int) := ⟨V.toNat, by omega⟩
    rw [Int.toNat_natCast] at HR
    have HT := hid (fun W (h : Below w.heap.size w W) => treeOf_any n a cap1 T W pv (Hx1.out.later h h.size) hl1 (by omega) (by omega) ((h.cell (p := ⟨2, 0, none⟩) hlt).trans HG.out))
    obtain ⟨R, hRe⟩ : ∃ R : Int, R = if isTB n T then 0 else 2 := ⟨_, rfl⟩
    have HT0 : Hid (R = 0 → isTB n T = true) := hid (fun h => by
      cases hb : isTB n T
      · rw [hb] at hRe; rw [hRe] at h; exact absurd h (by decide)
      · rfl)
    rw [← hRe] at HR HT
    clear hc hC hRe
    go_enter Tryd.func35, Tryd.ntmps35
    go_wp2_with fail
    refine HI.out.mono ?_
    rintro e w1 ⟨rfl, hB1⟩
    rw [← hW0] at hB1
    have HB1 := hid (HB0.out.trans (hB1.mono HB0.out.size))
    obtain ⟨k0, k1, _, _⟩ := two_of ((hB1.block _ (lt_get Hk.out)).trans Hk.out)
    have Hrz := hid ((hB1.block _ (lt_get Hr.out)).trans Hr.out)
    clear hB1
    go_wp2_with fail
    refine (HT.out _ HB1.out).mono ?_
    rintro e w2 ⟨A, rfl, hAs, hA1, hq, hB2⟩
    have HB2 := hid (HB1.out.trans (hB2.mono HB1.out.size))
    have hrz := (hB2.block _ (lt_get Hrz.out)).trans Hrz.out
    have hi66 : (Tryd.prog.info? 54).map (·.size) = some A.size := by rw [hi, hAs]
    have hZA : Z.size = A.size := by rw [hZs, hAs]
    have Hq := hid hq
    clear hB2 k0 k1 hq
    go_wp2_with (first
      | (refine wpList_store_row rfl 54 _ _ rfl (w.heap.size + 1) A rfl rfl 54 Z hrz hi66 hZA hA1 ?_)
      | fail)
    refine done_tree (b := w.heap.size + 1) (A := A) rfl rfl rfl (setRow_heap w2 (w.heap.size + 1) Z A 54 (0, 0) hrz) hi66 ⟨A, by rw [HR.out], hAs, hA1, fun h => Hq.out (HT0.out (HR.out.symm.trans h)), HB2.out.grown (setRow_grown2 w2 (w.heap.size + 1) A) HB2.out.size (fun k e => by cases e; omega)⟩

end Go.Proofs.YtppnahgiekjbnaaDoor

/-! The sides of a face, one after the other: an iterator. -/
namespace Go.Proofs.YtppnahgiekjbnaaDoor
open Go.RowKit Go.Shelf

attribute [local go_sem] Oper.semAt_some

/-- A face without a vertex (the face itself if the vertex is not in it). -/
def sideN (f v : Nat) : Nat := f - (f &&& 2 ^ v)
def sideO (f v : Nat) : Option (Fin 64) := if h : sideN f v < 64 then (if sideN f v ≠ f ∧ sideN f v ≠ 0 then some ⟨sideN f v, h⟩ else none) else none
/-- The sides that lack one of the first k vertices. -/
def sidesTo (f k : Nat) : List (Fin 64) := (List.range k).filterMap (sideO f)
def sidesF (f : Nat) : List (Fin 64) := sidesTo f 6

theorem side_lt {f : Nat} (hf : f < 64) (v : Nat) : sideN f v < 64 := by unfold sideN; omega
theorem side_bits : ∀ f : Fin 64, ∀ v : Fin 6, bits BinOp.andNot IntKind.i64 (f.val : Int) (wrap64 (2 ^ v.val)) = (sideN f.val v.val : Int) := by decide +kernel
theorem sidesTo_some {f k : Nat} (hf : f < 64) (h1 : sideN f k ≠ f) (h0 : sideN f k ≠ 0) : sidesTo f (k + 1) = sidesTo f k ++ [⟨sideN f k, side_lt hf k⟩] := by
  unfold sidesTo
  rw [List.range_succ, List.filterMap_append]
  have : sideO f k = some ⟨sideN f k, side_lt hf k⟩ := by unfold sideO; rw [dif_pos (side_lt hf k), if_pos ⟨h1, h0⟩]
  simp [this]
theorem sidesTo_none {f k : Nat} (h : ¬ (sideN f k ≠ f ∧ sideN f k ≠ 0)) : sidesTo f (k + 1) = sidesTo f k := by
  unfold sidesTo
  rw [List.range_succ, List.filterMap_append]
  have : sideO f k = none := by
    unfold sideO
    by_cases hh : sideN f k < 64
    · rw [dif_pos hh, if_neg h]
    · rw [dif_neg hh]
  simp [this]
theorem sidesTo_prefix (f : Nat) : ∀ m k, sidesTo f k <+: sidesTo f (k + m)
  | 0, k => List.prefix_refl _
  | m + 1, k => by
    refine (sidesTo_prefix f m k).trans ?_
    unfold sidesTo
    rw [← Nat.add_assoc, List.range_succ, List.filterMap_append]
    exact List.prefix_append _ _
theorem sides_len (f k : Nat) : (sidesTo f k).length ≤ k := by
  unfold sidesTo
  exact Nat.le_trans (List.length_filterMap_le _ _) (by simp)

set_option maxRecDepth 100000 in
set_option maxHeartbeats 2000000 in
/-- The iterator over the sides of f: whatever the loop's body, as long as it keeps the block of f. -/
theorem sides1_in (n : Nat) (hn : 1 ≤ n) (l B0 f : Nat) (hf : f < 64) (J Jx : List (Fin 64) → World → Prop)
    (hY : ∀ pre x W, J pre W → pre ++ [x] <+: sidesF f → YieldAt Fence.wide (n - 1) Tryd.prog l #[.int .i64 (x.val : Int)] W fun e W' =>
      (e = .returned (.bool true) ∧ J (pre ++ [x]) W' ∧ KeepB B0 W W') ∨ (e = .returned (.bool false) ∧ Jx (pre ++ [x]) W'))
    (hJd : ∀ pre W m, J pre W → J pre (W.drewN m))
    (W : World) (hB0 : W.heap[B0]? = some (.cells #[.int .i64 (f : Int)] 2 (0, 0))) (h0 : J [] W) :
    CallsIn Fence.wide n Tryd.prog 118 #[.func (.yield l) #[] #[], .pointer (some ⟨B0, 0, none⟩)] W fun e W' => (∃ v, e = .returned v) ∧
      ((∃ ys, ys = sidesF f ∧ J ys W') ∨ (∃ pre, pre <+: sidesF f ∧ Jx pre W')) := by
  have c0 := (box_cell hB0).1
  refine callsIn_of_wp Tryd.func118 rfl trivial ?_ rfl
  simp only [Tryd.ntmps118, List.size_toArray, List.length_cons, List.length_nil, Nat.reduceAdd, Nat.reduceSub, Array.replicate_succ, Array.replicate_zero, List.push_toArray, List.append_toArray, List.nil_append, List.cons_append]
  gi_wp2
  gi_loopw [5] (fun p wr => ∃ (k : Nat), p = .int .i64 (k : Int) ∧ k ≤ 6 ∧ J (sidesTo f k) wr ∧ wr.heap[B0]? = some (.cells #[.int .i64 (f : Int)] 2 (0, 0)))
    (fun p _ => 6 - (intOf p).toNat)
  case atStart =>
    exact ⟨0, rfl, by omega, h0, hB0⟩
  case round =>
    obtain ⟨k, rfl, hk, hJs, hBr⟩ := hrel
    by_cases hk6 : k < 6
    · have hki : (k : Int) < 6 := by omega
      have hk0 : (0 : Int) ≤ (k : Int) := by omega
      have c0r := (box_cell hBr).1
      have hb : bits BinOp.andNot IntKind.i64 (f : Int) (wrap64 (2 ^ k)) = (sideN f k : Int) := side_bits ⟨f, hf⟩ ⟨k, hk6⟩
      obtain ⟨s, hs⟩ : ∃ s, s = sideN f k := ⟨_, rfl⟩
      rw [← hs] at hb
      have hs64 : s < 64 := by rw [hs]; exact side_lt hf k
      have HJ := hid hJs
      have HB := hid hBr
      clear hJs hBr
      by_cases h1 : s = f
      · have hd : ((s : Int) != (f : Int)) = false := by simp [h1]
        have Hst := hid (sidesTo_none (f := f) (k := k) (fun h => h.1 (by rw [← hs]; exact h1)))
        clear h1 hs
        gi_wp2
        gi_quiet (fail)
        gi_wp2
        refine ⟨fun _ h => (by cases h), ?_⟩
        gi_wp2
        go_roundw
        case rel => exact ⟨k + 1, by go_num, by omega, by rw [Hst.out]; exact hJd _ _ _ HJ.out, HB.out⟩
        case measure => simp [intOf]; omega
      · have hd : ((s : Int) != (f : Int)) = true := by simp; omega
        by_cases h2 : s = 0
        · have hd2 : ((s : Int) != 0) = false := by simp [h2]
          have Hst := hid (sidesTo_none (f := f) (k := k) (fun h => h.2 (by rw [← hs]; exact h2)))
          clear h1 h2 hs
          gi_wp2
          gi_quiet (fail)
          gi_wp2
          refine ⟨fun _ h => (by cases h), ?_⟩
          gi_wp2
          go_roundw
          case rel => exact ⟨k + 1, by go_num, by omega, by rw [Hst.out]; exact hJd _ _ _ HJ.out, HB.out⟩
          case measure => simp [intOf]; omega
        · have hd2 : ((s : Int) != 0) = true := by simp; omega
          have Hst := hid (sidesTo_some hf (k := k) (by rw [← hs]; exact h1) (by rw [← hs]; exact h2))
          have Hpre : Hid (sidesTo f k ++ [⟨s, hs64⟩] <+: sidesF f) := hid (by
            have e : sidesTo f (k + 1) = sidesTo f k ++ [⟨s, hs64⟩] := by rw [Hst.out]; simp [hs]
            rw [← e]
            have := sidesTo_prefix f (6 - (k + 1)) (k + 1)
            rwa [show k + 1 + (6 - (k + 1)) = 6 by omega] at this)
          have Hst' : Hid (sidesTo f (k + 1) = sidesTo f k ++ [⟨s, hs64⟩]) := hid (by rw [Hst.out]; simp [hs])
          have HY : Hid (∀ W', J (sidesTo f k) W' → YieldAt Fence.wide (n - 1) Tryd.prog l #[.int .i64 (s : Int)] W' fun e W'' =>
              (e = .returned (.bool true) ∧ J (sidesTo f k ++ [⟨s, hs64⟩]) W'' ∧ KeepB B0 W' W'') ∨ (e = .returned (.bool false) ∧ Jx (sidesTo f k ++ [⟨s, hs64⟩]) W'')) := hid (fun W' hj => hY _ ⟨s, hs64⟩ W' hj Hpre.out)
          clear h1 h2 hs Hst
          gi_wp2
          gi_quiet (fail)
          obtain ⟨fn, tmps, assign, body, hy, hR⟩ := HY.out _ (hJd _ _ nq HJ.out)
          gi_wp2
          refine hR.mono ?_
          rintro e W3 (⟨rfl, hJ3, hk3⟩ | ⟨rfl, hJx3⟩)
          · have hBr3 : W3.heap[B0]? = some (.cells #[.int .i64 (f : Int)] 2 (0, 0)) := Eq.trans hk3 HB.out
            have c03 := (box_cell hBr3).1
            gi_wp2
            go_roundw
            case rel => exact ⟨k + 1, by go_num, by omega, by rw [Hst'.out]; exact hJ3, hBr3⟩
            case measure => simp [intOf]; omega
          · gi_wp2
            refine bodyPost_ret (results_none rfl _ _ _) rfl ?_
            exact ⟨⟨_, rfl⟩, .inr ⟨_, Hpre.out, hJx3⟩⟩
    · obtain rfl : k = 6 := by omega
      gi_wp2
      go_end0
      exact ⟨⟨_, rfl⟩, .inl ⟨_, rfl, hJs⟩⟩

set_option maxHeartbeats 1000000 in
/-- sidesOf: its argument is boxed; the function value captures the box. -/
theorem sides_in (n : Nat) (x : Int) (w : World) :
    CallsIn Fence.wide n Tryd.prog 116 #[.int .i64 x] w fun e w' => e = .returned (.func (.func 118) #[] #[.pointer (some ⟨w.heap.size, 0, none⟩)]) ∧ w' = w.alloc (.cells #[.int .i64 x] 2) := by
  refine callsIn_of_wp Tryd.func116 rfl trivial ?_ rfl
  simp only [Tryd.ntmps116, List.size_toArray, List.length_cons, List.length_nil, Nat.reduceAdd, Nat.reduceSub, Array.replicate_succ, Array.replicate_zero, List.push_toArray, List.append_toArray, List.nil_append, List.cons_append]
  gi_wp2
  go_ret
  exact ⟨rfl, rfl⟩

theorem grown_drewN (W : World) (m : Nat) : W.grownBy (W.drewN m) none := ⟨rfl, rfl, rfl, Nat.le_refl _, fun _ _ _ => rfl⟩

theorem sides_stops (n : Nat) (hn : 1 ≤ n) (B0 f : Nat) (hf : f < 64) (w : World) (hB : B0 < w.heap.size)
    (hc : w.heap[B0]? = some (.cells #[.int .i64 (f : Int)] 2 (0, 0))) :
    SeqStopsK Fence.wide n Tryd.prog 118 #[.pointer (some ⟨B0, 0, none⟩)] (fun x : Fin 64 => #[Value.int .i64 (x.val : Int)]) (KeepB B0) (fun ys => ys = sidesF f) (fun pre => pre <+: sidesF f) 64 w :=
  fun l J Jx W hW hA _ hY h0 => sides1_in n hn l B0 f hf J Jx (fun pre x W1 hj hp => hY pre x W1 hj (by have h1 := hp.length_le; have h2 := sides_len f 6; unfold sidesF at h1; simp only [List.length_append, List.length_cons, List.length_nil] at h1; omega)) (fun pre W m h => hA pre W _ none h (grown_drewN W m) (fun r e => by cases e)) W ((hW.block B0 hB).trans hc) h0

end Go.Proofs.YtppnahgiekjbnaaDoor
