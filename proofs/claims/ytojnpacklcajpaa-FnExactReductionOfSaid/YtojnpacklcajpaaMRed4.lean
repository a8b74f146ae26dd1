/- THE STATEMENT on ReductionOf: for every argument that comes in (a complex-like value: any number, any slice of int64) the law returns true and leaves its argument as it was. No conditions. -/
import Derived.Deep.CutRange
import Derived.Test.YtojnpacklcajpaaMRed1
import Derived.Test.YtojnpacklcajpaaMRed2
import Derived.Test.YtojnpacklcajpaaMRed3
/-! ReductionOf, the model's. -/
namespace Go.Proofs.Ytojnpacklcajpaa
open Go.RowKit

theorem MidW.putR {w W : World} {B NL NR : Nat} {V : Int} {s : Value} {ys : List Int} {av : Option Addr} {cv : Nat} {P : List (Int × Int)} {q : Value} {C : List Int} {r : Value} (h : MidW w W B NL NR V s ys av cv P q C r) :
    MidW w ((W.setCell ⟨NL, 0, none⟩ (.int .i64 V)).setCell ⟨NL, 1, none⟩ (.slice av ys.length cv)) B NL NL V (.slice av ys.length cv) ys av cv P q C r := by
  have hp := h.put h.rrow
  have hx := row_ne_any h.rrow h.left (by decide)
  exact ⟨hp.left, hp.left, ownsRow_set (ownsRow_set h.rrow (fun e => hx e.symm) _) (fun e => hx e.symm) _, hp.prs, hp.cri, hp.below, hp.nl⟩

set_option maxRecDepth 100000 in
set_option maxHeartbeats 16000000 in
theorem specReductionOf (V : Int) (a0 : Option Addr) (cap : Nat) (fs : List Int) (w : World) (hx : SlI w w.heap.size a0 fs) (hl : fs.length ≤ 1048576) :
    Calls Try.prog 42 #[.agg #[.int .i64 V, .slice a0 fs.length cap]] w fun e w' => ∃ v q, e = .returned (.tuple #[v, q, .int .i64 (redR V fs).2.2]) ∧ ResP w w' v (redR V fs).1 ∧ Res w w' q (redR V fs).2.1 ∧ Apart v q := by
  have hB0 : Below w.heap.size w (w.alloc (.cells #[.int .i64 V, .slice a0 fs.length cap] 29)) := (Below.refl _ w).alloc (Nat.le_refl _) _
  have Hx := hid (hx.later hB0 hB0.size)
  by_cases hC : IsC V fs
  · refine rd_mono (show redR V fs = ((redE fs).2.1, (redE fs).2.2, 0) by unfold redR; rw [isCB_true hC, if_pos rfl]) ?_
    have HC := hid hC
    clear hC
    go_enter Try.func42, Try.ntmps42
    go_wp2_with fail
    refine (is_yes V a0 cap fs _ Hx.out hl HC.out).mono ?_
    rintro e w1 ⟨rfl, hB1⟩
    have k0 : w1.cell? ⟨w.heap.size, 0, none⟩ = some (.int .i64 V) := (hB1.cell (p := ⟨w.heap.size, 0, none⟩) (by simp <;> omega)).trans (by simp [go_sem])
    have k1 : w1.cell? ⟨w.heap.size, 1, none⟩ = some (.slice a0 fs.length cap) := (hB1.cell (p := ⟨w.heap.size, 1, none⟩) (by simp <;> omega)).trans (by simp [go_sem])
    have HB01 := hid (hB0.trans (hB1.mono (by simp <;> omega)))
    have HCP := hid (fun w' (h : Below w.heap.size w w') => copy_any V a0 cap fs w' (hx.later h h.size) hl)
    obtain ⟨w2, hw2⟩ : ∃ w2, w2 = (w1.alloc (.cells #[] 63)).alloc (.cells #[] 2) := ⟨_, rfl⟩
    have HW2 := hid hw2
    have hb2 : Below w1.heap.size w1 w2 := by rw [hw2]; exact ((Below.refl _ w1).alloc (Nat.le_refl _) _).alloc (by simp) _
    have HB02 := hid (HB01.out.trans (hb2.mono HB01.out.size))
    have hp0 : w2.ownsRow w1.heap.size 63 2 (.slice (some ⟨w1.heap.size, 0, none⟩) 0 0) 0 [] := by rw [hw2]; exact (World.ownsRow_made (base := w1.heap.size) (e := 63) (size := 2) w1 #[] 0 (by simp) (by simp [maxLen]) rfl).alloc _
    have hc0 : w2.ownsRow w1.heap.size 2 1 (.slice (some ⟨w1.heap.size + 1, 0, none⟩) 0 0) 0 [] := by
      have h := World.ownsRow_made (base := w1.heap.size) (e := 2) (size := 1) (w1.alloc (.cells #[] 63)) #[] 0 (by simp) (by simp [maxLen]) rfl
      rw [World.size_alloc] at h
      rw [hw2]; exact h
    have HP0 := hid hp0
    have HC0 := hid hc0
    have k02 := (hb2.cell (p := ⟨w.heap.size, 0, none⟩) (by have := hB1.size; simp at this; show w.heap.size < _; omega)).trans k0
    have k12 := (hb2.cell (p := ⟨w.heap.size, 1, none⟩) (by have := hB1.size; simp at this; show w.heap.size < _; omega)).trans k1
    rw [hw2] at k02 k12
    clear hB1 hb2 hp0 hc0 hw2 k0 k1
    go_wp2_with fail
    rw [← HW2.out]
    refine (HCP.out _ HB02.out).mono ?_
    rintro e w3 ⟨v3, rfl, hr3⟩
    obtain ⟨_, av3, cv3, rfl, _⟩ := ownsRow_slI hr3.1
    obtain ⟨NL, hNL⟩ : ∃ NL, NL = w3.heap.size := ⟨_, rfl⟩
    have H0 : Hid (RedW w (w3.alloc (.cells #[.int .i64 V, .slice av3 fs.length cv3] 29)) NL V fs av3 cv3 [] (.slice (some ⟨w1.heap.size, 0, none⟩) 0 0) [] (.slice (some ⟨w1.heap.size + 1, 0, none⟩) 0 0)) := hid (by
      have hB := HB02.out.trans (hr3.2.mono HB02.out.size)
      have hbs := HB01.out.size
      refine ⟨by rw [hNL]; exact heap_alloc_new _ _, owned_slI (hr3.1.alloc _), ?_, ?_, hB.alloc hB.size _, by rw [hNL]; exact hB.size⟩
      · exact (ownsRow_base (ownsRow_below HP0.out hr3.2 (fun g hg => (HP0.out.lt g hg).2)) hbs).alloc _
      · exact (ownsRow_base (ownsRow_below HC0.out hr3.2 (fun g hg => (HC0.out.lt g hg).2)) hbs).alloc _)
    clear hr3 k02 k12 HCP HP0 HC0
    go_wp2_with fail
    rw [← hNL]
    clear hNL
    go_loopg [5, 6] fs.length (fun g p c wr => ∃ (n : Nat) (cur : List Int) (P : List (Int × Int)) (C : List Int) (al : Option Addr) (cl : Nat), Hid (cur.length ≤ g) ∧ Hid (RedAt V fs n cur P C) ∧ Hid (RedW w wr NL V cur al cl P p C c))
    case atStart => exact ⟨0, fs, [], [], av3, cv3, hid (Nat.le_refl _), hid (RedAt.start HC.out), H0⟩
    case round =>
      clear H0
      obtain ⟨n, cur, P, C, al, cl, Hg, HA, HR⟩ := hrel
      obtain ⟨k0, k1, _, _⟩ := two_of HR.out.left
      have hcl : cur.length ≤ 1048576 := by have := HA.out.len; omega
      have hPl : P.length ≤ 1048576 := by have := HA.out.plen; omega
      have hCl : C.length ≤ 1048576 := by have := HA.out.clen; have := HA.out.len; omega
      by_cases hne : cur = []
      · subst hne
        have HE := hid HA.out.stop
        simp only [List.length_nil] at k1
        have hd : ¬ ((0 : Int) < 0) := by omega
        go_wp2_with fail
        go_ret3
        rw [HE.out]
        exact ⟨_, _, rfl, ⟨HR.out.prs, HR.out.below⟩, ⟨HR.out.cri, HR.out.below⟩, apart_ty HR.out.prs HR.out.cri (by decide)⟩
      · have hpos : (0 : Int) < (cur.length : Int) := by have := List.length_pos_iff.2 hne; omega
        obtain ⟨hA2, hlt⟩ := HA.out.step hne
        have hcE := colE_isC (ls := []) HA.out.isC hne
        have Hcf := hid HA.out.isC.range63
        have hel := colE_len [] cur
        have HCI := hid (colS_any V al cl cur 0 none 0 [] wr HR.out.sl (.inl rfl) hcl (by simp) Hcf.out (fun c _ => lowIn_nil c))
        obtain ⟨E, hE⟩ : ∃ E, E = colE [] cur := ⟨_, rfl⟩
        rw [← hE] at hA2 hlt hcE hel HCI
        obtain ⟨ys, L⟩ := E
        simp only at hA2 hlt hcE hel HCI
        have Hyr := hid hcE.1.range63
        have Htn := hid (topL_ne hcE.2 Hyr.out)
        have Hasc := hid (ascTop hcE.1 (top ys))
        have HT := hid (take_top Hyr.out (lastI_mem Htn.out))
        have htl : (topL ys).length ≤ 1048576 := by
          have : (topL ys).length ≤ ys.length := by unfold topL ofDim; exact List.length_filter_le _ _
          omega
        obtain ⟨f, hf⟩ : ∃ f, f = lastI (topL ys) := ⟨_, rfl⟩
        rw [← hf] at hA2 hlt HT
        have Hf := hid hf
        obtain ⟨zs, hzs⟩ : ∃ zs, zs = takeL ys f := ⟨_, rfl⟩
        rw [← hzs] at hA2 hlt HT
        have Hzs := hid hzs
        have HA2 := hid hA2
        have Hlt := hid hlt
        have hyl : ys.length ≤ 1048576 := by omega
        have hLl : L.length ≤ 1048576 := by omega
        clear hA2 hlt hcE hE hf hzs hne hel
        go_wp2_with fail
        refine HCI.out.mono ?_
        rintro e w2 ⟨v, q, rfl, hr⟩
        obtain ⟨_, av, cv, rfl, _⟩ := ownsRow_slI hr.1.1
        obtain ⟨_, aq, cq, rfl, _⟩ := pairs_form hr.2.1.1
        obtain ⟨NR, hNR⟩ : ∃ NR, NR = w2.heap.size := ⟨_, rfl⟩
        obtain ⟨w3, hw3⟩ : ∃ w3, w3 = w2.alloc (.cells #[.int .i64 V, .slice av ys.length cv] 29) := ⟨_, rfl⟩
        have HW3 := hid hw3
        have hb3 : Below wr.heap.size wr w3 := by rw [hw3]; exact hr.1.2.alloc hr.1.2.size _
        have HR3 := hid (HR.out.keep hb3)
        have Q3 := hid (show w3.heap[NR]? = some (.cells #[.int .i64 V, .slice av ys.length cv] 29 (0, 0)) by rw [hw3, hNR]; exact heap_alloc_new _ _)
        have Rr3 := hid (show w3.ownsRow wr.heap.size 2 1 (.slice av ys.length cv) ys.length (ys.map (Value.int .i64)) by rw [hw3]; exact hr.1.1.alloc _)
        have Mr3 := hid (show w3.ownsRow wr.heap.size 63 2 (.slice aq L.length cq) L.length ((flatP L).map (Value.int .i64)) by rw [hw3]; exact hr.2.1.1.alloc _)
        have HcL := hid (fun g hg => (HR.out.cri.lt g hg).2)
        have HpL := hid (fun g hg => (HR.out.prs.lt g hg).2)
        obtain ⟨b0, b1, _, _⟩ := two_of Q3.out
        clear k0 k1 hr hb3 hw3
        have M3 : Hid (MidW w w3 wr.heap.size NL NR V (.slice al cur.length cl) ys av cv P _ C _) := hid ⟨HR3.out.left, Q3.out, Rr3.out, HR3.out.prs, HR3.out.cri, HR3.out.below, HR3.out.nl⟩
        clear b0 b1
        dsimp only
        iterate 23 (first | go_values | go_skip | go_guarded | go_step | go_upon)
        rw [← HW3.out, ← hNR]
        clear hNR
        have hdp : decide (0 < cur.length) = true := decide_eq_true (by omega)
        simp only [hdp]
        clear hdp
        go_cut [5] from 29 to 31 (fun p wx => Hid (MidW w wx wr.heap.size NL NR V (.slice al cur.length cl) ys av cv (P ++ L) p C u6))
        case first =>
          have hs5 := M3.out.below.size
          rcases Mr3.out.2 with ⟨hv, hn⟩ | ⟨g, cp, cu, hv, _⟩
          · have hL : L = [] := List.eq_nil_of_length_eq_zero hn
            subst hL
            injection hv with h1 h2 h3
            subst h1 h3
            obtain ⟨_, ap, cp', rfl, _⟩ := pairs_form M3.out.prs
            have hcp : P.length ≤ cp' := by
              rcases M3.out.prs.2 with ⟨_, hn⟩ | ⟨_, _, _, h, _, _, hle, _⟩
              · omega
              · injection h with _ _ h; omega
            clear hn h2
            go_wp2_with (at_builtin; refine append_pairs_nil rfl rfl hcp rfl rfl ?_)
            go_meet
            case rel => rw [List.append_nil]; exact M3
          · injection hv with h1 h2 h3
            subst h1 h3
            clear h2
            have hmr := Mr3.out
            have hprs := M3.out.prs
            go_wp2_with (at_builtin; refine append_pairs rfl rfl hprs hs5 hPl hLl rfl rfl hmr ?_; intro v' w7 hown7 hgrow7 hB7)
            go_meet
            case rel => exact hid (M3.out.pushP hgrow7 hown7)
        case rest =>
          have M6 := hcut
          clear hcut M3 Mr3 HR3 Q3 Rr3
          obtain ⟨d0, d1, _, _⟩ := two_of M6.out.rbox
          obtain ⟨l0, l1, g0, g1⟩ := two_of M6.out.left
          have M7 := hid (M6.out.putR)
          obtain ⟨w7, hw7⟩ : ∃ w7, w7 = (wc.setCell ⟨NL, 0, none⟩ (.int .i64 V)).setCell ⟨NL, 1, none⟩ (.slice av ys.length cv) := ⟨_, rfl⟩
          have HW7 := hid hw7
          rw [← hw7] at M7
          clear hw7
          go_wp2_with fail
          rw [← HW7.out]
          have htp : top ys ≤ 5 := top_hi ys
          have ht0 : 0 ≤ top ys := by
            obtain ⟨x, hx⟩ := List.exists_mem_of_ne_nil _ Htn.out
            have h1 := topL_mem hx
            have h2 := Hyr.out x h1.1
            have h3 := ones_pos ⟨x.toNat, by omega⟩ (by show x.toNat ≠ 0; omega)
            simp only at h3
            omega
          obtain ⟨b0, b1, _, _⟩ := two_of M7.out.left
          have HS7 := hid (owned_slI M7.out.rrow)
          go_cut [10] from 33 to 36 (fun p wx => ∃ a5 c5, p = .slice a5 (topL ys).length c5 ∧ Hid (SlI wx wx.heap.size a5 (topL ys)) ∧ Below w7.heap.size w7 wx)
          case first =>
            go_region_with (first
              | (go_at_call 73; refine (dimS_any V av cv ys w7.drew HS7.out hyl Hyr.out).mono ?_; rintro e w8 ⟨rfl, hB8⟩; have hb8 : Below w7.heap.size w7 w8 := ⟨hB8.os, hB8.tape, hB8.output, hB8.size, hB8.block⟩; have b08 := (hb8.cell (p := ⟨NL, 0, none⟩) (lt_get M7.out.left)).trans b0; have b18 := (hb8.cell (p := ⟨NL, 1, none⟩) (lt_get M7.out.left)).trans b1; have HS8 := hid (HS7.out.later hb8 hb8.size); have HB8 := hid hb8; clear hB8 hb8)
              | (go_at_call 72; refine (of_any V av cv ys (top ys) w8 HS8.out hyl Hyr.out ht0 htp).mono ?_; rintro e w9 ⟨v9, rfl, hr9⟩; obtain ⟨_, a9, c9, rfl, _⟩ := ownsRow_slI hr9.1; have HB9 := hid (HB8.out.trans (hr9.2.mono HB8.out.size)); have HS9 := hid (owned_slI hr9.1); clear hr9))
            all_goals
              go_wp2_with fail
              go_meet
              case rel => exact ⟨a9, c9, rfl, HS9, HB9.out⟩
          case rest =>
            obtain ⟨a5, c5, rfl, HS5, hb5⟩ := hcut
            have M8 := hid (M7.out.keep hb5)
            obtain ⟨m, hm⟩ : ∃ m, (topL ys).length = m + 1 := ⟨(topL ys).length - 1, by have := List.length_pos_iff.2 Htn.out; omega⟩
            obtain ⟨bt, off, hbt, rfl, hct⟩ : ∃ b off, b < wc.heap.size ∧ a5 = some ⟨b, off, none⟩ ∧ ∀ i, i < (topL ys).length → wc.cell? ⟨b, off + i, none⟩ = some (.int .i64 ((topL ys)[i]?.getD 0)) := by
              rcases HS5.out with h | h
              · rw [h] at hm; simp at hm
              · exact h
            have hcf : wc.cell? ⟨bt, off + m, none⟩ = some (.int .i64 f) := by
              rw [hct m (by omega), Hf.out]
              unfold lastI
              rw [hm]
              rfl
            obtain ⟨e0, e1, _, _⟩ := two_of M8.out.left
            rw [hm]
            have hfm := topL_mem (lastI_mem Htn.out)
            rw [← Hf.out] at hfm
            have hfr := Hyr.out f hfm.1
            obtain ⟨fn, rfl⟩ : ∃ fn : Nat, f = fn := ⟨f.toNat, by omega⟩
            have hf64 : fn < 64 := by omega
            have hm0 : (0 : Int) ≤ (m : Int) := by omega
            have hm1 : (m : Int) < (m : Int) + 1 := by omega
            have hml : m ≤ 1048576 := by omega
            have hw1 : IntKind.i64.wrap (m : Int) = m := by rw [IntKind.wrap_i64]; omega
            have hw2 : IntKind.i64.wrap ((m : Int) + 1 - 1) = m := by rw [show (m : Int) + 1 - 1 = m by omega]; exact hw1
            have hw3 : wrap64 (m : Int) = m := IntWalk.wrap64_in _ ⟨by omega, by omega⟩
            have hw4 : wrap64 ((m : Int) + 1 - 1) = m := by rw [show (m : Int) + 1 - 1 = m by omega]; exact hw3
            have hcri := M8.out.cri
            have hs8 := M8.out.below.size
            clear hct hfm b0 b1 hb5 hm
            go_wp2_with (first
              | (at_builtin; refine append_int_at rfl rfl hcri hs8 (by omega) rfl rfl ?_; intro v' w9 hown9 hgrow9 hat9 hB9; have M9 := hid (M8.out.pushC hgrow9 HcL.out hown9); obtain ⟨d0, d1, g0, g1⟩ := two_of M9.out.left; clear hown9 hgrow9 hat9 hB9)
              | (go_at_call 60; refine (take_any V av cv ys fn _ (owned_slI M9.out.rrow) hyl Hyr.out hf64).mono ?_; rintro e w10 ⟨v, rfl, hr10⟩; rw [← Hzs.out] at hr10; obtain ⟨_, a10, c10, rfl, _⟩ := ownsRow_slI hr10.1; have M10 := hid (M9.out.keep hr10.2); obtain ⟨i0, i1, o0, o1⟩ := two_of M10.out.left; have HR11 := hid (M10.out.put hr10.1); clear hr10))
            go_roundg zs.length
            case measure => have h1 := Hg.out; have h2 := Hlt.out; omega
            case rel => exact ⟨n + 1, zs, P ++ L, C ++ [(fn : Int)], a10, c10, hid (Nat.le_refl _), HA2, HR11⟩
  · refine rd_mono (show redR V fs = ([], [], 1) by unfold redR; rw [isCB_false hC, if_neg (by simp)]) ?_
    go_enter Try.func42, Try.ntmps42
    go_wp2_with fail
    refine (is_no V a0 cap fs _ Hx.out hl hC).mono ?_
    rintro e w1 ⟨rfl, hB1⟩
    have HB01 := hid (hB0.trans (hB1.mono (by simp <;> omega)))
    go_wp2_with fail
    go_ret3
    exact ⟨_, _, rfl, resP_nil _ _ HB01.out, res_nil _ _ HB01.out, fun g hg => by simp [Value.ownBlock] at hg⟩

end Go.Proofs.Ytojnpacklcajpaa

/-! The law on ReductionOf, walked. -/
namespace Go.Proofs.Ytojnpacklcajpaa
open Go.RowKit

set_option maxRecDepth 100000 in
set_option maxHeartbeats 8000000 in
theorem law_ReductionOf (V : Int) (a : Option Addr) (cap : Nat) (xs : List Int) (w : World) (hx : SlI w w.heap.size a xs) (hn : xs.length ≤ 9223372036854775807) :
    Calls Try.prog 11 #[.agg #[.int .i64 V, .slice a xs.length cap]] w fun e w' => e = .returned (.bool true) ∧ Below w.heap.size w w' := by
  have F0 : Book w w [(a, xs)] [] [] := ⟨Below.refl _ _, by simp; exact hx, by simp, by simp⟩
  have F0 := F0.alloc (.cells #[.int .i64 V, .slice a xs.length cap] 24)
  (try simp only [World.size_alloc] at F0)
  have B0 := hid F0
  clear F0 hx
  obtain ⟨r, hr⟩ : ∃ r, r = szR 1048576 xs.length := ⟨_, rfl⟩
  have Hr := hid hr
  by_cases hl : 1048576 < xs.length
  · have hr1 : r = -1 := by rw [hr]; exact szR_big (by omega)
    clear hr
    go_enter Try.func11, Try.ntmps11
    go_wp2_with fail
    refine (szCx V a xs.length cap 1048576 _ (by omega) (by omega) hn).mono ?_
    rintro e s0 ⟨rfl, hB⟩
    have B0 := hid (B0.out.below hB)
    rw [← Hr.out]
    go_wp2_with fail
    go_ret
    exact ⟨rfl, B0.out.from0⟩
  · have hr1 : 0 ≤ r := by rw [hr, szR_fit (by omega)]; omega
    have hl' : xs.length ≤ 1048576 := by omega
    clear hr hl
    obtain ⟨R, hR⟩ : ∃ R, R = redR V xs := ⟨_, rfl⟩
    have hRl : R.1.length ≤ 1048576 ∧ R.2.1.length ≤ 1048576 := by rw [hR]; exact redR_len V xs hl'
    obtain ⟨hRl0, hRl1⟩ := hRl
    obtain ⟨y0, y1, c⟩ := R
    simp only at hRl0 hRl1
    have HS : Hid (∀ a cap w', SlI w' w'.heap.size a xs → Calls Try.prog 42 #[.agg #[.int .i64 V, .slice a xs.length cap]] w' fun e w'' => ∃ v0 l0 h0 v1 l1 h1, e = .returned (.tuple #[v0, v1, .int .i64 c]) ∧ PartB w' w'' ⟨l0, h0, 63, 2, y0.length, v0, (flatP y0)⟩ ∧ PartB w' w'' ⟨l1, h1, 2, 1, y1.length, v1, y1⟩ ∧ (h0 ≤ l1 ∨ h1 ≤ l0) ∧ Below w'.heap.size w' w'') :=
      hid (fun a cap w' h => by have := specReductionOf V a cap xs w' h hl'; rw [← hR] at this; refine this.mono ?_; rintro e w'' ⟨v, q, rfl, h1, h2, h3⟩; obtain ⟨l1, r1, l2, r2, p1, p2, hd⟩ := two_parts h1.1 h2.1 h3 h1.2; exact ⟨v, l1, r1, q, l2, r2, rfl, p1, p2, hd, h1.2⟩)
    have HI : Hid (∀ a cap w', SlI w' w'.heap.size a xs → Calls Try.prog 43 #[.agg #[.int .i64 V, .slice a xs.length cap]] w' fun e w'' => ∃ v0 l0 h0 v1 l1 h1, e = .returned (.tuple #[v0, v1, .int .i64 c]) ∧ PartB w' w'' ⟨l0, h0, 63, 2, y0.length, v0, (flatP y0)⟩ ∧ PartB w' w'' ⟨l1, h1, 2, 1, y1.length, v1, y1⟩ ∧ (h0 ≤ l1 ∨ h1 ≤ l0) ∧ Below w'.heap.size w' w'') :=
      hid (fun a cap w' h => by have := implReductionOf V a cap xs w' h hl'; rw [← hR] at this; refine this.mono ?_; rintro e w'' ⟨v, q, rfl, h1, h2, h3⟩; obtain ⟨l1, r1, l2, r2, p1, p2, hd⟩ := two_parts h1.1 h2.1 h3 h1.2; exact ⟨v, l1, r1, q, l2, r2, rfl, p1, p2, hd, h1.2⟩)
    have hcc : (c != c) = false := by simp
    clear hR
    have Hq0 := hid (flatP_len y0)
    go_enter Try.func11, Try.ntmps11
    go_wp2_with fail
    refine (szCx V a xs.length cap 1048576 _ (by omega) (by omega) hn).mono ?_
    rintro e s0 ⟨rfl, hB⟩
    have zs0 := hB.size
    (try simp only [World.size_alloc] at zs0)
    have B0 := hid (B0.out.below hB)
    clear hB
    rw [← Hr.out]
    obtain ⟨q0, q1⟩ := B0.out.two (.head _)
    go_wp2_with fail
    clear q0 q1
    refine (toCx V a cap xs _ (B0.out.arg (.head _)) hl').mono ?_
    rintro e u0 ⟨gu0, rfl, hown, hB⟩
    have zu0 := hB.size
    (try simp only [World.size_alloc] at zu0)
    have B0 := hid (B0.out.row hown hB)
    clear hown hB
    (try simp only [World.size_alloc] at B0)
    go_wp2_with fail
    refine (HS.out _ _ _ (B0.out.slI (.head _))).mono ?_
    rintro e u9 ⟨vw0, lw0, hw0, vw1, lw1, hw1, rfl, p0, p1, hdw, hB⟩
    have zu9 := hB.size
    (try simp only [World.size_alloc] at zu9)
    have B0 := hid (B0.out.below hB)
    clear hB
    have o0 := p0.own
    dsimp only at o0
    obtain ⟨_, aw0, cw0, rfl, _⟩ := pairs_form o0
    clear o0
    have lew0 : hw0 ≤ _ := p0.le
    have gew0 : _ ≤ lw0 := p0.ge
    (try simp only [World.size_alloc] at gew0)
    have B0 := hid (B0.out.add p0)
    clear p0
    have o1 := p1.own
    dsimp only at o1
    obtain ⟨_, aw1, cw1, rfl, _⟩ := ownsRow_slI o1
    clear o1
    have lew1 : hw1 ≤ _ := p1.le
    have gew1 : _ ≤ lw1 := p1.ge
    (try simp only [World.size_alloc] at gew1)
    have B0 := hid (B0.out.add p1)
    clear p1
    (try simp only [World.size_alloc] at B0)
    obtain ⟨q0, q1⟩ := B0.out.two (.head _)
    go_wp2_with fail
    clear q0 q1
    refine (toCx V a cap xs _ (B0.out.arg (.head _)) hl').mono ?_
    rintro e x0 ⟨gx0, rfl, hown, hB⟩
    have zx0 := hB.size
    (try simp only [World.size_alloc] at zx0)
    have B0 := hid (B0.out.row hown hB)
    clear hown hB
    (try simp only [World.size_alloc] at B0)
    have B0 := hid (B0.out.alloc (.cells #[.int .i64 V, .slice (some ⟨gx0, 0, none⟩) xs.length xs.length] 29))
    (try simp only [World.size_alloc] at B0)
    obtain ⟨lxb0, lxb1⟩ := B0.out.two (.head _)
    go_wp2_with fail
    clear lxb0 lxb1
    refine (HI.out _ _ _ (B0.out.slI (.head _))).mono ?_
    rintro e v9 ⟨vg0, lg0, hg0, vg1, lg1, hg1, rfl, p0, p1, hdg, hB⟩
    have zv9 := hB.size
    (try simp only [World.size_alloc] at zv9)
    have B0 := hid (B0.out.below hB)
    clear hB
    have o0 := p0.own
    dsimp only at o0
    obtain ⟨_, ag0, cg0, rfl, _⟩ := pairs_form o0
    clear o0
    have leg0 : hg0 ≤ _ := p0.le
    have geg0 : _ ≤ lg0 := p0.ge
    (try simp only [World.size_alloc] at geg0)
    have B0 := hid (B0.out.add p0)
    clear p0
    have o1 := p1.own
    dsimp only at o1
    obtain ⟨_, ag1, cg1, rfl, _⟩ := ownsRow_slI o1
    clear o1
    have leg1 : hg1 ≤ _ := p1.le
    have geg1 : _ ≤ lg1 := p1.ge
    (try simp only [World.size_alloc] at geg1)
    have B0 := hid (B0.out.add p1)
    clear p1
    (try simp only [World.size_alloc] at B0)
    go_wp2_with fail
    refine (eqPairs_yes _ _ y0.length _ _ (flatP y0) _ (B0.out.slI (.tail _ (.head _))) (B0.out.slI (.tail _ (.tail _ (.tail _ (.tail _ (.head _)))))) Hq0.out hRl0).mono ?_
    rintro e e1 ⟨rfl, hB⟩
    have ze1 := hB.size
    (try simp only [World.size_alloc] at ze1)
    have B0 := hid (B0.out.below hB)
    clear hB
    go_wp2_with fail
    refine (eqInts_yes _ _ _ _ y1 y1 _ (B0.out.slI (.head _)) (B0.out.slI (.tail _ (.tail _ (.tail _ (.head _))))) hRl1 hRl1 rfl).mono ?_
    rintro e e2 ⟨rfl, hB⟩
    have ze2 := hB.size
    (try simp only [World.size_alloc] at ze2)
    have B0 := hid (B0.out.below hB)
    clear hB
    obtain ⟨lxb0, lxb1⟩ := B0.out.two (.head _)
    obtain ⟨lk0, lk1⟩ := B0.out.two (.tail _ (.head _))
    go_wp2_with fail
    go_cut [56] from 52 to 56 (fun p wx => p = .bool false ∧ e2.heap.size ≤ wx.heap.size ∧ Book w wx [(a, xs)] [(x0.heap.size, .cells #[.int .i64 V, .slice (some ⟨gx0, 0, none⟩) xs.length xs.length] 29), (w.heap.size, .cells #[.int .i64 V, .slice a xs.length cap] 24)] [⟨u9.heap.size, x0.heap.size, 2, 1, xs.length, .slice (some ⟨gx0, 0, none⟩) xs.length xs.length, xs⟩, ⟨lg0, hg0, 63, 2, y0.length, .slice ag0 y0.length cg0, (flatP y0)⟩, ⟨lg1, hg1, 2, 1, y1.length, .slice ag1 y1.length cg1, y1⟩, ⟨lw0, hw0, 63, 2, y0.length, .slice aw0 y0.length cw0, (flatP y0)⟩, ⟨lw1, hw1, 2, 1, y1.length, .slice aw1 y1.length cw1, y1⟩])
    case first =>
      go_region_with (first
        | (go_at_call 17; refine (toCx V a cap xs _ (B0.out.drew.arg (.head _)) hl').mono ?_; rintro e f0 ⟨gf0, rfl, hown, hB⟩; have zf0 : e2.heap.size ≤ f0.heap.size := hB.size; have C0 := hid (B0.out.drew.row hown hB); clear hown hB; obtain ⟨m00, m01⟩ := C0.out.two (.head _))
        | (go_at_call 20; refine (eqCx_yes V _ _ _ _ xs xs _ (C0.out.slI (.tail _ (.tail _ (.tail _ (.head _))))) (C0.out.slI (.head _)) hl' hl' rfl).mono ?_; rintro e h0 ⟨rfl, hB⟩))
      all_goals
        have zh0 := hB.size
        have D0 := hid (C0.out.below hB)
        clear hB
        go_wp2_with fail
        go_meet
        case rel => exact ⟨rfl, by omega, D0.out.only (by simp) (by simp)⟩
    case rest =>
      obtain ⟨rfl, zc0, hbk⟩ := hcut
      have B0 := hid hbk
      clear hbk
      clear lxb0 lxb1
      clear lk0 lk1
      obtain ⟨wd0, hwd0⟩ : ∃ x, x = wc := ⟨_, rfl⟩
      rw [← hwd0] at B0 zc0 ⊢
      clear hwd0
      obtain ⟨lxb0, lxb1⟩ := B0.out.two (.head _)
      go_wp2_with fail
      clear lxb0 lxb1
      refine (markCx V _ _ _ xs (1) _ (B0.out.own (.head _)) hl' (by omega) (by omega)).mono ?_
      rintro e mX ⟨rfl, hown, hg⟩
      have zmX := hg.size
      (try simp only [World.size_alloc] at zmX)
      have B0 := hid (B0.out.mark (ys := count (1) xs.length) (L' := [⟨lg0, hg0, 63, 2, y0.length, .slice ag0 y0.length cg0, (flatP y0)⟩, ⟨lg1, hg1, 2, 1, y1.length, .slice ag1 y1.length cg1, y1⟩, ⟨lw0, hw0, 63, 2, y0.length, .slice aw0 y0.length cw0, (flatP y0)⟩, ⟨lw1, hw1, 2, 1, y1.length, .slice aw1 y1.length cw1, y1⟩]) (.head _) hown hg (by simp only; omega) (by simp <;> omega) (by simp <;> omega))
      clear hown hg
      go_wp2_with fail
      refine (eqPairs_yes _ _ y0.length _ _ (flatP y0) _ (B0.out.slI (.head _)) (B0.out.slI (.tail _ (.tail _ (.head _)))) Hq0.out hRl0).mono ?_
      rintro e e3 ⟨rfl, hB⟩
      have ze3 := hB.size
      (try simp only [World.size_alloc] at ze3)
      have B0 := hid (B0.out.below hB)
      clear hB
      go_wp2_with fail
      refine (eqInts_yes _ _ _ _ y1 y1 _ (B0.out.slI (.tail _ (.head _))) (B0.out.slI (.tail _ (.tail _ (.tail _ (.head _))))) hRl1 hRl1 rfl).mono ?_
      rintro e e4 ⟨rfl, hB⟩
      have ze4 := hB.size
      (try simp only [World.size_alloc] at ze4)
      have B0 := hid (B0.out.below hB)
      clear hB
      go_wp2_with fail
      refine (markPairs _ _ _ _ (flatP y0) (1) _ (B0.out.own (.head _)) hRl0 (by omega) (by omega)).mono ?_
      rintro e mg0 ⟨rfl, hown, hg⟩
      have zmg0 := hg.size
      (try simp only [World.size_alloc] at zmg0)
      have B0 := hid (B0.out.mark (ys := count (1) (y0.length * 2)) (L' := [⟨lg0, hg0, 63, 2, y0.length, .slice ag0 y0.length cg0, count (1) (y0.length * 2)⟩, ⟨lg1, hg1, 2, 1, y1.length, .slice ag1 y1.length cg1, y1⟩, ⟨lw0, hw0, 63, 2, y0.length, .slice aw0 y0.length cw0, (flatP y0)⟩, ⟨lw1, hw1, 2, 1, y1.length, .slice aw1 y1.length cw1, y1⟩]) (.head _) hown hg (by simp only; omega) (by simp <;> omega) (by simp <;> omega))
      clear hown hg
      go_wp2_with fail
      refine (markInts _ _ _ y1 (1 + 2 * y0.length) _ (B0.out.own (.tail _ (.head _))) hRl1 (by omega) (by omega)).mono ?_
      rintro e mg1 ⟨rfl, hown, hg⟩
      have zmg1 := hg.size
      (try simp only [World.size_alloc] at zmg1)
      have B0 := hid (B0.out.mark (ys := count (1 + 2 * y0.length) y1.length) (L' := [⟨lg0, hg0, 63, 2, y0.length, .slice ag0 y0.length cg0, count (1) (y0.length * 2)⟩, ⟨lg1, hg1, 2, 1, y1.length, .slice ag1 y1.length cg1, count (1 + 2 * y0.length) y1.length⟩, ⟨lw0, hw0, 63, 2, y0.length, .slice aw0 y0.length cw0, (flatP y0)⟩, ⟨lw1, hw1, 2, 1, y1.length, .slice aw1 y1.length cw1, y1⟩]) (.tail _ (.head _)) hown hg (by simp only; omega) (by simp <;> omega) (by simp <;> omega))
      clear hown hg
      go_wp2_with fail
      refine (heldPairs _ _ y0.length _ (1) _ rfl (B0.out.slI (.head _)) hRl0 (by omega) (by omega)).mono ?_
      rintro e t1 ⟨rfl, hB⟩
      have zt1 := hB.size
      (try simp only [World.size_alloc] at zt1)
      have B0 := hid (B0.out.below hB)
      clear hB
      go_wp2_with fail
      refine (heldInts _ _ y1.length _ (1 + 2 * y0.length) _ rfl (B0.out.slI (.tail _ (.head _))) hRl1 (by omega) (by omega)).mono ?_
      rintro e t2 ⟨rfl, hB⟩
      have zt2 := hB.size
      (try simp only [World.size_alloc] at zt2)
      have B0 := hid (B0.out.below hB)
      clear hB
      have hnn : ((1 : Int) + 2 * y0.length + y1.length != 1 + 2 * y0.length + y1.length) = false := by simp
      obtain ⟨q0, q1⟩ := B0.out.two (.tail _ (.head _))
      go_wp2_with fail
      clear q0 q1
      refine (toCx V a cap xs _ (B0.out.arg (.head _)) hl').mono ?_
      rintro e zc ⟨gzc, rfl, hown, hB⟩
      have zzc := hB.size
      (try simp only [World.size_alloc] at zzc)
      have B0 := hid (B0.out.row hown hB)
      clear hown hB
      (try simp only [World.size_alloc] at B0)
      go_wp2_with fail
      refine (HI.out _ _ _ (B0.out.slI (.head _))).mono ?_
      rintro e t9 ⟨vh0, lh0, hh0, vh1, lh1, hh1, rfl, p0, p1, hdh, hB⟩
      have zt9 := hB.size
      (try simp only [World.size_alloc] at zt9)
      have B0 := hid (B0.out.below hB)
      clear hB
      have o0 := p0.own
      dsimp only at o0
      obtain ⟨_, ah0, ch0, rfl, _⟩ := pairs_form o0
      clear o0
      have leh0 : hh0 ≤ _ := p0.le
      have geh0 : _ ≤ lh0 := p0.ge
      (try simp only [World.size_alloc] at geh0)
      have B0 := hid (B0.out.add p0)
      clear p0
      have o1 := p1.own
      dsimp only at o1
      obtain ⟨_, ah1, ch1, rfl, _⟩ := ownsRow_slI o1
      clear o1
      have leh1 : hh1 ≤ _ := p1.le
      have geh1 : _ ≤ lh1 := p1.ge
      (try simp only [World.size_alloc] at geh1)
      have B0 := hid (B0.out.add p1)
      clear p1
      (try simp only [World.size_alloc] at B0)
      go_wp2_with fail
      refine (eqPairs_yes _ _ y0.length _ _ (flatP y0) _ (B0.out.slI (.tail _ (.head _))) (B0.out.slI (.tail _ (.tail _ (.tail _ (.tail _ (.tail _ (.head _))))))) Hq0.out hRl0).mono ?_
      rintro e e5 ⟨rfl, hB⟩
      have ze5 := hB.size
      (try simp only [World.size_alloc] at ze5)
      have B0 := hid (B0.out.below hB)
      clear hB
      go_wp2_with fail
      refine (eqInts_yes _ _ _ _ y1 y1 _ (B0.out.slI (.head _)) (B0.out.slI (.tail _ (.tail _ (.tail _ (.tail _ (.tail _ (.tail _ (.head _)))))))) hRl1 hRl1 rfl).mono ?_
      rintro e e6 ⟨rfl, hB⟩
      have ze6 := hB.size
      (try simp only [World.size_alloc] at ze6)
      have B0 := hid (B0.out.below hB)
      clear hB
      go_wp2_with fail
      refine (heldPairs _ _ y0.length _ (1) _ rfl (B0.out.slI (.tail _ (.tail _ (.tail _ (.head _))))) hRl0 (by omega) (by omega)).mono ?_
      rintro e t3 ⟨rfl, hB⟩
      have zt3 := hB.size
      (try simp only [World.size_alloc] at zt3)
      have B0 := hid (B0.out.below hB)
      clear hB
      go_wp2_with fail
      refine (heldInts _ _ y1.length _ (1 + 2 * y0.length) _ rfl (B0.out.slI (.tail _ (.tail _ (.tail _ (.tail _ (.head _)))))) hRl1 (by omega) (by omega)).mono ?_
      rintro e t4 ⟨rfl, hB⟩
      have zt4 := hB.size
      (try simp only [World.size_alloc] at zt4)
      have B0 := hid (B0.out.below hB)
      clear hB
      go_wp2_with fail
      go_ret
      exact ⟨rfl, B0.out.from0⟩

end Go.Proofs.Ytojnpacklcajpaa

namespace Go.Proofs.Ytojnpacklcajpaa.lawReductionOf
open Go.ChangeShapes Go.WideShapes Go.ChangeAt Go.RowKit Go.Joins

set_option maxRecDepth 100000 in
theorem lifted (os : Os) (started : os.Started) (H : Type) (enc : TypeId × Value → H) :
    ReturnsInHanded {} Try.checked os 11 .any (Rows.fnExactReductionOfSpec.pre6 enc Try.prog Try.f11 Rows.fnExactReductionOfRow.domain false) (Rows.fnExactReductionOfSpec.post enc Try.prog Try.f11 false true false false) := by
  refine returnsInHanded_of_change (C := Try.checked) own started (by kernel_rfl) Try.func11
    (ChangeSpec.witness6 (enc := enc) (C := Try.checked) false ⟨#[], #[.agg #[.int .i64 0, .slice none 0 0]], []⟩ 8 (by kernel_rfl) (by kernel_rfl) (by kernel_rfl) (by kernel_rfl)) ?_
  intro W base args ds gs before hval0 hW hcnd _
  have hval : ∀ (j : Nat) t v, Try.f11.params[j]? = some t → args[j]? = some v → Value.okWide Try.prog W .any base t v := hval0
  have hW' := hW
  obtain ⟨p, q, hA0, hV, rfl, hfz, hnd⟩ := hW
  have hA : DataW.TrodAll enc Try.prog W 0 (fun _ => true) true Try.f11.params.toList args.toList ds p := hA0
  rw [Try.params11] at hA hval
  obtain ⟨v0, vs0, d0, ds0, p0, q0, hargs, rfl, rfl, h0, r0⟩ := trodAll_cons hA
  obtain ⟨rfl, rfl, rfl⟩ := trodAll_nil r0
  obtain rfl : args = #[v0] := by cases args; simp_all
  obtain ⟨rfl, rfl⟩ := trodVars_none hV
  have k0 := h0
  have lt0 : ∀ x ∈ p0, x.block < W.heap.size := by obtain ⟨m, hm⟩ := k0; exact DataW.trod_lt m _ _ _ hm
  obtain ⟨c0, c0', y0, y0', m0, rfl, _, _, hy0, hy0'⟩ := open_agg2 Try.underlying24 (by kernel_rfl) (by kernel_rfl) (hval 0 24 v0 rfl rfl) h0
  obtain ⟨V0, e0, _, _⟩ := DataW.trod_int Try.underlying2 hy0
  obtain ⟨a0, len0, cap0, xs0, rfl, rfl, hn0, hx0, _⟩ := slI_of_trod hy0'
  simp at e0
  subst e0
  clear hA0 hval0
  refine (law_ReductionOf V0 a0 cap0 xs0 W hx0 hn0).mono fun e W' ⟨he, bel⟩ => ?_
  subst he
  exact ⟨_, rfl, _, _, _, [], _, [], hW', trodAll_mk1 (shut_bool Try.underlying4 _), (trodAll_cons_mk (Below.trod laidOut (by kernel_rfl) (of_decide_eq_true (by kernel_rfl)) k0 bel lt0) trodAll_mk0), rfl, bel.frame _, fun h => by cases h⟩

theorem over : Rows.fnExactReductionOfRow.holds Try.pinned (OpenSpec.ofChange Rows.fnExactReductionOfSpec) :=
  OpenClaim.holds_of_wide 11 Try.f11 rfl rfl rfl rfl rfl rfl rfl ⟨rfl, rfl, rfl, rfl, rfl⟩ rfl rfl rfl rfl rfl (by kernel_rfl) Try.func11 (by kernel_rfl)
    (of_decide_eq_true (by kernel_rfl)) (by unfold Func.isWrapper; first | (rw [if_pos (by decide +kernel)]; kernel_rfl) | (rw [if_neg (by decide +kernel)]; exact ⟨rfl, rfl⟩))
    (fun os started H enc _ => lifted os started H enc)

theorem proved : Rows.FnExactReductionOfSaid := over
end Go.Proofs.Ytojnpacklcajpaa.lawReductionOf
