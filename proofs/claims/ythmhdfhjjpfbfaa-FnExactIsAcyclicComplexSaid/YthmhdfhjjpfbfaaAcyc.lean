import Derived.Test.YthmhdfhjjpfbfaaBettiI
/-! IsAcyclicComplex. -/
namespace Go.Proofs.Ythmhdfhjjpfbfaa
open Go.RowKit

def goodB (L : List Int) (k : Nat) : Bool := decide (L[0]?.getD 0 = 1) && ((L.take k).drop 1).all fun x => x == 0
theorem goodB_one (L : List Int) : goodB L 1 = decide (L[0]?.getD 0 = 1) := by
  have : (L.take 1).drop 1 = [] := by simp
  simp [goodB, this]
theorem goodB_succ {L : List Int} {k : Nat} (h1 : 1 ≤ k) (hk : k < L.length) : goodB L (k + 1) = (goodB L k && (L[k]?.getD 0 == 0)) := by
  unfold goodB
  rw [take_snoc hk, List.drop_append_of_le_length (by simp; omega), List.all_append, Bool.and_assoc]
  simp
def acycB (L : List Int) : Bool := decide (0 < L.length) && goodB L L.length
theorem acycB_nil : acycB [] = false := rfl
theorem acycB_pos {L : List Int} (h : 0 < L.length) : acycB L = goodB L L.length := by simp [acycB, h]
theorem goodB_full (L : List Int) : goodB L L.length = (decide (L[0]?.getD 0 = 1) && !decide (∃ x ∈ L.drop 1, x ≠ 0)) := by
  unfold goodB
  rw [List.take_length]
  congr 1
  by_cases h : ∃ x ∈ L.drop 1, x ≠ 0
  · rw [decide_eq_true h]
    obtain ⟨x, hx, hne⟩ := h
    simp only [Bool.not_true]
    rw [Bool.eq_false_iff]
    intro hall
    rw [List.all_eq_true] at hall
    exact hne (by simpa using hall x hx)
  · rw [decide_eq_false h]
    simp only [Bool.not_false]
    rw [List.all_eq_true]
    intro x hx
    simp
    exact Classical.byContradiction fun hne => h ⟨x, hx, hne⟩
noncomputable def acycR (V : Int) (fs : List Int) (p : Int) : Bool × Int := if isCB V fs then (if p = 2 ∨ p = 3 then (acycB (bettiL fs p (top fs + 1).toNat), 0) else (false, 2)) else (false, 1)
theorem bool_mono {fn : FuncId} {args : Array Value} {w : World} {B : Nat} {P : Program} {R : Bool × Int} {b : Bool} {c : Int} (hR : R = (b, c))
    (h : Calls P fn args w fun e w' => e = .returned (.tuple #[.bool b, .int .i64 c]) ∧ Below B w w') :
    Calls P fn args w fun e w' => e = .returned (.tuple #[.bool R.1, .int .i64 R.2]) ∧ Below B w w' := by
  subst hR
  exact h

set_option maxHeartbeats 400000 in
theorem hole_any (x : Int) (w : World) :
    Calls Try.prog 93 #[.int .i64 x] w fun e w' => e = .returned (.bool (x != 0)) ∧ w = w' := by
  go_enter Try.func93, Try.ntmps93
  go_wp2
  go_ret
  exact ⟨ret_bool rfl, rfl⟩

set_option maxRecDepth 100000 in
set_option maxHeartbeats 1000000 in
theorem idxf_any (a : Option Addr) (cap : Nat) (xs : List Int) (w : World) (hx : SlI w w.heap.size a xs) (hl : xs.length ≤ 1048576) :
    Calls Try.prog 130 #[.slice a xs.length cap, .func (.func 93) #[] #[]] w fun e w' => ∃ i : Int, e = .returned (.int .i64 i) ∧ -1 ≤ i ∧ (0 ≤ i ↔ ∃ x ∈ xs, x ≠ 0) ∧ w = w' := by
  have hent : ∀ args w, (callFunc 93 args).run Try.prog w = .ok (.enter 93 args) w := enters_of Try.func93 (by kernel_rfl) rfl
  rcases hx with rfl | ⟨b, off, hb, rfl, hc⟩
  · go_enter Try.func130, Try.ntmps130
    go_wp2
    refine wp_loop_rounds 1 ?_; rw [rounds_succ]
    go_wp2
    go_ret
    exact ⟨-1, rfl, by decide, by simp, rfl⟩
  · have Hc := hid hc
    clear hc
    go_enter Try.func130, Try.ntmps130
    go_wp2
    go_loop [8] (fun i => ∃ k : Nat, k ≤ xs.length ∧ i = .int .i64 k ∧ Hid (∀ x ∈ xs.take k, x = 0)) (fun i => xs.length - (intOf i).toNat)
    case atStart => exact ⟨0, Nat.zero_le _, rfl, hid (by simp)⟩
    case round =>
      obtain ⟨k, hk, rfl, Hk⟩ := hrel
      by_cases hlt : k < xs.length
      · obtain ⟨y, hy⟩ : ∃ y, y = xs[k]?.getD 0 := ⟨_, rfl⟩
        have hck : w.cell? ⟨b, off + k, none⟩ = some (.int .i64 y) := by rw [hy]; exact Hc.out k hlt
        have Hy := hid hy
        have hi0 : (0 : Int) ≤ (k : Int) := by omega
        have hi1 : (k : Int) < (xs.length : Int) := by omega
        clear hy
        by_cases hxy : y = 0
        · have hd : (y != 0) = false := by simp [hxy]
          have He : Hid (∀ x ∈ xs.take (k + 1), x = 0) := hid (by
            rw [take_snoc hlt, ← Hy.out]
            intro x h
            rcases List.mem_append.1 h with h | h
            · exact Hk.out x h
            · simp at h; rw [h]; exact hxy)
          clear hxy
          go_wp2_with (go_at_call 93; refine (hole_any y _).mono ?_; rintro e w' ⟨rfl, rfl⟩; rw [hd])
          go_round
          case rel => exact ⟨k + 1, by omega, by go_num, He.out⟩
          case measure => simp [intOf]; omega
        · have hd : (y != 0) = true := by simp [hxy]
          have He : Hid (∃ x ∈ xs, x ≠ 0) := hid ⟨y, by rw [Hy.out]; exact getD_mem hlt, hxy⟩
          clear hxy
          go_wp2_with (go_at_call 93; refine (hole_any y _).mono ?_; rintro e w' ⟨rfl, rfl⟩; rw [hd])
          go_ret
          exact ⟨k, rfl, by omega, ⟨fun _ => He.out, fun _ => by omega⟩, rfl⟩
      · have He : Hid (¬ ∃ x ∈ xs, x ≠ 0) := hid (by
          have := Hk.out
          rw [List.take_of_length_le (by omega)] at this
          rintro ⟨x, hx, hne⟩
          exact hne (this x hx))
        go_wp2
        go_ret
        exact ⟨-1, rfl, by decide, ⟨fun h => absurd h (by decide), fun h => absurd h He.out⟩, rfl⟩

set_option maxRecDepth 100000 in
set_option maxHeartbeats 1000000 in
theorem containsf_any (a : Option Addr) (cap : Nat) (xs : List Int) (w : World) (hx : SlI w w.heap.size a xs) (hl : xs.length ≤ 1048576) :
    Calls Try.prog 92 #[.slice a xs.length cap, .func (.func 93) #[] #[]] w fun e w' => e = .returned (.bool (decide (∃ x ∈ xs, x ≠ 0))) ∧ w = w' := by
  have HI := hid (idxf_any a cap xs w hx hl)
  obtain ⟨c, hc⟩ : ∃ c, c = decide (∃ x ∈ xs, x ≠ 0) := ⟨_, rfl⟩
  have Hc := hid hc
  rw [← hc]
  clear hc hx
  go_enter Try.func92, Try.ntmps92
  go_wp2_with fail
  refine HI.out.mono ?_
  rintro e w' ⟨i, rfl, h1, h2, rfl⟩
  have Hi := hid h2
  have H1 := hid h1
  clear h1 h2
  by_cases h0 : 0 ≤ i
  · have He : Hid (c = true) := hid (by rw [Hc.out]; exact decide_eq_true (Hi.out.1 h0))
    go_wp2_with fail
    go_ret
    exact ⟨ret_bool (by rw [He.out]), rfl⟩
  · have He : Hid (c = false) := hid (by rw [Hc.out]; exact decide_eq_false (fun h => h0 (Hi.out.2 h)))
    have hlt : i < 0 := by omega
    go_wp2_with fail
    go_ret
    exact ⟨ret_bool (by rw [He.out]; simp [hlt]), rfl⟩

set_option maxRecDepth 1000000 in
set_option maxHeartbeats 2000000 in
theorem specIsAcyclicComplex (V : Int) (a0 : Option Addr) (cap : Nat) (fs : List Int) (p : Int) (w : World) (hx : SlI w w.heap.size a0 fs) (hl : fs.length ≤ 1048576) (_wp : (Lit.int .i64 p).wf = true) :
    Calls Try.prog 48 #[.agg #[.int .i64 V, .slice a0 fs.length cap], .int .i64 p] w fun e w' => e = .returned (.tuple #[.bool (acycR V fs p).1, .int .i64 (acycR V fs p).2]) ∧ Below w.heap.size w w' := by
  have hB0 : Below w.heap.size w (w.alloc (.cells #[.int .i64 V, .slice a0 fs.length cap] 28)) := (Below.refl _ w).alloc (Nat.le_refl _) _
  have hx1 := hx.later hB0 hB0.size
  by_cases hC : IsC V fs
  · by_cases hp : p = 2 ∨ p = 3
    · refine bool_mono (show acycR V fs p = (acycB (bettiL fs p (top fs + 1).toNat), 0) by rw [acycR, isCB_true hC, if_pos rfl, if_pos hp]) ?_
      have HK := hid (code_eq (V := V) (a0 := a0) (cap := cap) (p := p) 0 hx1 hl (by rw [codeR, isCB_true hC, if_pos rfl, if_pos hp]))
      have HBt := hid (fun w1 h => bettiS_any V a0 cap fs p w1 h hl hC hp)
      have HX := hid hx
      have hL6 : (bettiL fs p (top fs + 1).toNat).length ≤ 6 := by rw [bettiL_len]; have := top_hi fs; omega
      clear hx hx1 hC hp
      obtain ⟨L, hL⟩ : ∃ L, L = bettiL fs p (top fs + 1).toNat := ⟨_, rfl⟩
      rw [← hL] at HBt hL6 ⊢
      clear hL
      go_enter Try.func48, Try.ntmps48
      go_wp2_with fail
      refine HK.out.mono ?_
      rintro e w1 ⟨rfl, hB1⟩
      have k0 : w1.cell? ⟨w.heap.size, 0, none⟩ = some (.int .i64 V) := (hB1.cell (p := ⟨w.heap.size, 0, none⟩) (by simp)).trans (by simp [go_sem])
      have k1 : w1.cell? ⟨w.heap.size, 1, none⟩ = some (.slice a0 fs.length cap) := (hB1.cell (p := ⟨w.heap.size, 1, none⟩) (by simp)).trans (by simp [go_sem])
      have HB1 := hid (hB0.trans (hB1.mono (by simp)))
      clear hB0 hB1
      go_wp2_with fail
      refine (HBt.out w1 (HX.out.later HB1.out HB1.out.size)).mono ?_
      rintro e w2 ⟨v, rfl, hr⟩
      obtain ⟨_, av, cv, rfl, hs⟩ := ownsRow_slI hr.1
      have HB2 := hid (HB1.out.trans (hr.2.mono HB1.out.size))
      clear hr
      by_cases h0 : L.length = 0
      · have He : Hid (acycB L = false) := hid (by rw [List.eq_nil_of_length_eq_zero h0]; rfl)
        rw [h0]
        go_wp2_with fail
        refine wp_loop_rounds 1 ?_; rw [rounds_succ]
        go_wp2_with fail
        go_ret2
        exact ⟨by rw [He.out]; rfl, HB2.out⟩
      · obtain ⟨b, off, hb, rfl, hc⟩ : ∃ b off, b < w2.heap.size ∧ av = some ⟨b, off, none⟩ ∧ ∀ i, i < L.length → w2.cell? ⟨b, off + i, none⟩ = some (.int .i64 (L[i]?.getD 0)) := by
          rcases hs with h | h
          · rw [h] at h0; simp at h0
          · exact h
        have hpos : (0 : Int) < (L.length : Int) := by omega
        have He : Hid (acycB L = goodB L L.length) := hid (acycB_pos (by omega))
        have hc0 : w2.cell? ⟨b, off, none⟩ = some (.int .i64 (L[0]?.getD 0)) := hc 0 (by omega)
        have Hc := hid hc
        have Hs : Hid (Value.bool ((L[0]?.getD 0) == 1) = Value.bool (goodB L 1)) := hid (by rw [goodB_one]; rfl)
        obtain ⟨y0, hy0⟩ : ∃ y, y = L[0]?.getD 0 := ⟨_, rfl⟩
        rw [← hy0] at hc0 Hs
        clear hc h0 hy0
        go_wp2_with fail
        go_loop [8, 9] (fun g i => ∃ k : Nat, 1 ≤ k ∧ k ≤ L.length ∧ i = .int .i64 k ∧ g = .bool (goodB L k)) (fun _ i => L.length - (intOf i).toNat)
        case atStart => exact ⟨1, by omega, by omega, rfl, Hs.out⟩
        case round =>
          obtain ⟨k, hk1, hk, rfl, rfl⟩ := hrel
          by_cases hlt : k < L.length
          · obtain ⟨y, hy⟩ : ∃ y, y = L[k]?.getD 0 := ⟨_, rfl⟩
            have hck : w2.cell? ⟨b, off + k, none⟩ = some (.int .i64 y) := by rw [hy]; exact Hc.out k hlt
            have Hsn : Hid (goodB L (k + 1) = (goodB L k && (y == 0))) := hid (by rw [goodB_succ hk1 hlt, ← hy])
            have hi0 : (0 : Int) ≤ (k : Int) := by omega
            have hi1 : (k : Int) < (L.length : Int) := by omega
            clear hy
            obtain ⟨gk, hgk⟩ : ∃ g, g = goodB L k := ⟨_, rfl⟩
            rw [← hgk] at Hsn ⊢
            clear hgk
            cases gk
            · go_wp2_with fail
              go_round
              case rel => exact ⟨k + 1, by omega, by omega, by go_num, by rw [Hsn.out]; rfl⟩
              case measure => simp [intOf]; omega
            · go_wp2_with fail
              go_round
              case rel => exact ⟨k + 1, by omega, by omega, by go_num, by rw [Hsn.out, Bool.true_and]⟩
              case measure => simp [intOf]; omega
          · obtain rfl : k = L.length := by omega
            go_wp2_with fail
            go_ret2
            exact ⟨by rw [He.out]; rfl, HB2.out⟩
    · refine bool_mono (show acycR V fs p = (false, 2) by rw [acycR, isCB_true hC, if_pos rfl, if_neg hp]) ?_
      have HK := hid (code_eq (V := V) (a0 := a0) (cap := cap) (p := p) 2 hx1 hl (by rw [codeR, isCB_true hC, if_pos rfl, if_neg hp]))
      clear hx hx1 hC hp
      go_enter Try.func48, Try.ntmps48
      go_wp2_with fail
      refine HK.out.mono ?_
      rintro e w1 ⟨rfl, hB1⟩
      go_wp2_with fail
      go_ret2
      exact ⟨rfl, hB0.trans (hB1.mono (by simp))⟩
  · refine bool_mono (show acycR V fs p = (false, 1) by rw [acycR, isCB_false hC, if_neg (by simp)]) ?_
    have HK := hid (code_eq (V := V) (a0 := a0) (cap := cap) (p := p) 1 hx1 hl (by rw [codeR, isCB_false hC, if_neg (by simp)]))
    clear hx hx1 hC
    go_enter Try.func48, Try.ntmps48
    go_wp2_with fail
    refine HK.out.mono ?_
    rintro e w1 ⟨rfl, hB1⟩
    go_wp2_with fail
    go_ret2
    exact ⟨rfl, hB0.trans (hB1.mono (by simp))⟩

set_option maxRecDepth 1000000 in
set_option maxHeartbeats 2000000 in
theorem implIsAcyclicComplex (V : Int) (a0 : Option Addr) (cap : Nat) (fs : List Int) (p : Int) (w : World) (hx : SlI w w.heap.size a0 fs) (hl : fs.length ≤ 1048576) (_wp : (Lit.int .i64 p).wf = true) :
    Calls Try.prog 49 #[.agg #[.int .i64 V, .slice a0 fs.length cap], .int .i64 p] w fun e w' => e = .returned (.tuple #[.bool (acycR V fs p).1, .int .i64 (acycR V fs p).2]) ∧ Below w.heap.size w w' := by
  have hB0 : Below w.heap.size w (w.alloc (.cells #[.int .i64 V, .slice a0 fs.length cap] 28)) := (Below.refl _ w).alloc (Nat.le_refl _) _
  have hx1 := hx.later hB0 hB0.size
  have HK := hid (implBettiNumbers V a0 cap fs p _ hx1 hl)
  by_cases hC : IsC V fs
  · by_cases hp : p = 2 ∨ p = 3
    · refine bool_mono (show acycR V fs p = (acycB (bettiL fs p (top fs + 1).toNat), 0) by rw [acycR, isCB_true hC, if_pos rfl, if_pos hp]) ?_
      have hR : bettiR V fs p = (bettiL fs p (top fs + 1).toNat, 0) := by rw [bettiR, isCB_true hC, if_pos rfl, if_pos hp]
      rw [hR] at HK
      simp only at HK
      have hL6 : (bettiL fs p (top fs + 1).toNat).length ≤ 6 := by rw [bettiL_len]; have := top_hi fs; omega
      clear hx hx1 hC hp hR
      obtain ⟨L, hL⟩ : ∃ L, L = bettiL fs p (top fs + 1).toNat := ⟨_, rfl⟩
      rw [← hL] at HK hL6 ⊢
      clear hL
      go_enter Try.func49, Try.ntmps49
      go_wp2_with fail
      refine HK.out.mono ?_
      rintro e w2 ⟨v, rfl, hr⟩
      have hcap : ∀ a n c, v = .slice a n c → n ≤ c := by
        intro a n c hv
        rcases hr.1.2 with ⟨h0, hn⟩ | ⟨g, cap', cur, h0, _, _, h1, _⟩
        · rw [h0] at hv; injection hv with _ e1 e2; omega
        · rw [h0] at hv; injection hv with _ e1 e2; omega
      obtain ⟨_, av, cv, rfl, hs⟩ := ownsRow_slI hr.1
      have hcv := hcap _ _ _ rfl
      have HB2 := hid (hB0.trans (hr.2.mono (by simp)))
      clear hr hcap
      by_cases h0 : L.length = 0
      · have He : Hid (acycB L = false) := hid (by rw [List.eq_nil_of_length_eq_zero h0]; rfl)
        rw [h0]
        go_wp2_with fail
        go_ret2
        exact ⟨by rw [He.out]; rfl, HB2.out⟩
      · obtain ⟨b, off, hb, rfl, hc⟩ : ∃ b off, b < w2.heap.size ∧ av = some ⟨b, off, none⟩ ∧ ∀ i, i < L.length → w2.cell? ⟨b, off + i, none⟩ = some (.int .i64 (L[i]?.getD 0)) := by
          rcases hs with h | h
          · rw [h] at h0; simp at h0
          · exact h
        have hpos : (0 : Int) < (L.length : Int) := by omega
        have h1 : (1 : Int) ≤ (L.length : Int) := by omega
        have hne : ((L.length : Int) == 0) = false := eq_false (by omega)
        have hc0 : w2.cell? ⟨b, off, none⟩ = some (.int .i64 (L[0]?.getD 0)) := hc 0 (by omega)
        have hsl : SlI w2 w2.heap.size (some ⟨b, off + 1, none⟩) (L.drop 1) := .inr ⟨b, off + 1, hb, rfl, fun i hi => by
          have := hc (1 + i) (by simp at hi; omega)
          rw [List.getElem?_drop]
          rw [Nat.add_assoc]
          exact this⟩
        have HQ := hid (containsf_any (some ⟨b, off + 1, none⟩) (cv - 1) (L.drop 1) w2 hsl (by simp; omega))
        rw [List.length_drop] at HQ
        have HQ2 : Hid (cv = 1 → Calls Try.prog 92 #[.slice (some ⟨b, off, none⟩) (L.length - 1) 0, .func (.func 93) #[] #[]] w2 fun e w' => e = .returned (.bool (decide (∃ x ∈ L.drop 1, x ≠ 0))) ∧ w2 = w') := hid (fun h => by
          have := containsf_any (some ⟨b, off, none⟩) 0 (L.drop 1) w2 (.inl (List.eq_nil_of_length_eq_zero (by simp; omega))) (by simp; omega)
          rwa [List.length_drop] at this)
        obtain ⟨q, hq⟩ : ∃ q, q = decide (∃ x ∈ L.drop 1, x ≠ 0) := ⟨_, rfl⟩
        have He : Hid (acycB L = ((L[0]?.getD 0 == 1) && !q)) := hid (by rw [acycB_pos (by omega), goodB_full, hq]; rfl)
        rw [← hq] at HQ HQ2
        obtain ⟨y0, hy0⟩ : ∃ y, y = L[0]?.getD 0 := ⟨_, rfl⟩
        rw [← hy0] at hc0 He
        clear hc h0 hy0 hsl hq
        go_wp2_with fail
        all_goals
          first
          | refine HQ.out.mono ?_
          | refine (HQ2.out (by first | assumption | omega)).mono ?_
          rintro e w3 ⟨rfl, rfl⟩
          clear HQ HQ2
          cases q
          all_goals
            by_cases hy1 : y0 = 1
            · subst hy1
              go_wp2_with fail
              go_ret2
              first
              | exact ⟨by rw [show acycB L = true from He.out]; rfl, HB2.out⟩
              | exact ⟨by rw [show acycB L = false from He.out]; rfl, HB2.out⟩
            · have g1 : (y0 == 1) = false := eq_false hy1
              have He1 : Hid (acycB L = false) := hid (by rw [He.out, g1]; rfl)
              go_wp2_with fail
              go_ret2
              exact ⟨by rw [He1.out]; rfl, HB2.out⟩
    · refine bool_mono (show acycR V fs p = (false, 2) by rw [acycR, isCB_true hC, if_pos rfl, if_neg hp]) ?_
      have hR : bettiR V fs p = ([], 2) := by rw [bettiR, isCB_true hC, if_pos rfl, if_neg hp]
      rw [hR] at HK
      simp only at HK
      clear hx hx1 hC hp hR
      go_enter Try.func49, Try.ntmps49
      go_wp2_with fail
      refine HK.out.mono ?_
      rintro e w1 ⟨v, rfl, hr⟩
      go_wp2_with fail
      go_ret2
      exact ⟨rfl, hB0.trans (hr.2.mono (by simp))⟩
  · refine bool_mono (show acycR V fs p = (false, 1) by rw [acycR, isCB_false hC, if_neg (by simp)]) ?_
    have hR : bettiR V fs p = ([], 1) := by rw [bettiR, isCB_false hC, if_neg (by simp)]
    rw [hR] at HK
    simp only at HK
    clear hx hx1 hC hR
    go_enter Try.func49, Try.ntmps49
    go_wp2_with fail
    refine HK.out.mono ?_
    rintro e w1 ⟨v, rfl, hr⟩
    go_wp2_with fail
    go_ret2
    exact ⟨rfl, hB0.trans (hr.2.mono (by simp))⟩

end Go.Proofs.Ythmhdfhjjpfbfaa
