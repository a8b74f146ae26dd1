import Derived.Test.YtilncaagpcgakaaFundS
import Derived.Test.YtilncaagpcgakaaMathL
/-! FundamentalChain, the model's. -/
namespace Go.Proofs.Ytilncaagpcgakaa
open Go.RowKit

theorem par_mem {p : Int} {L : List Int} (h : par p L = true) : p ∈ L := by
  unfold par at h
  have := of_decide_eq_true h
  exact List.count_pos_iff.1 (by omega)

theorem sidesAll_range {ch : List Int} (h : ∀ x ∈ ch, 1 ≤ x ∧ x ≤ 63) {p : Int} (hp : p ∈ sidesAll ch) : 1 ≤ p ∧ p ≤ 63 := by
  unfold sidesAll at hp
  obtain ⟨x, hx, hm⟩ := List.mem_flatMap.1 hp
  have hxr := h x hx
  obtain ⟨q, hq, rfl⟩ := List.mem_map.1 hm
  have := (sides_sub ⟨x.toNat, by omega⟩ q hq).1
  have := q.isLt
  omega

theorem bdS_len {ch : List Int} (h : ∀ x ∈ ch, 1 ≤ x ∧ x ≤ 63) : (bdS ch).length ≤ 63 := by
  obtain ⟨h1, h2⟩ := bdS_spec ch h
  have := asc_len (bdS ch) 1 h2 (fun x hx => sidesAll_range h (par_mem ((h1 x).1 hx)))
  omega

set_option maxRecDepth 100000 in
set_option maxHeartbeats 2000000 in
theorem bdS_any (a1 : Option Addr) (c2 : Nat) (ch : List Int) (w : World) (hx : SlI w w.heap.size a1 ch) (hch : ∀ x ∈ ch, 1 ≤ x ∧ x ≤ 63) (hcl : ch.length ≤ 1048576) :
    Calls Try.prog 67 #[.slice a1 ch.length c2] w fun e w' => ∃ v, e = .returned v ∧ Res w w' v (bdS ch) := by
  have hown0 := World.ownsRow_made (base := w.heap.size) (e := 2) (size := 1) w #[] 0 (by simp) (by simp [maxLen]) rfl
  have Hown0 := hid hown0
  have HX := hid hx
  have Hch := hid hch
  clear hown0 hx hch
  go_enter Try.func67, Try.ntmps67
  go_wp2
  go_loopw [3, 4] (fun v i wr => ∃ k : Nat, k ≤ ch.length ∧ i = .int .i64 k ∧ wr.ownsRow w.heap.size 2 1 v (bdS (ch.take k)).length ((bdS (ch.take k)).map (Value.int .i64)) ∧ Below w.heap.size w wr) (fun _ i _ => ch.length - (intOf i).toNat)
  case atStart => exact ⟨0, Nat.zero_le _, rfl, by simpa [bdS] using Hown0.out, (Below.refl _ w).alloc (Nat.le_refl _) _⟩
  case round =>
    obtain ⟨k, hk, rfl, hown, hB⟩ := hrel
    clear Hown0
    by_cases hlt : k < ch.length
    · obtain ⟨b, off, hb, rfl, hc⟩ : ∃ b off, b < w.heap.size ∧ a1 = some ⟨b, off, none⟩ ∧ ∀ i, i < ch.length → w.cell? ⟨b, off + i, none⟩ = some (.int .i64 (ch[i]?.getD 0)) := by
        rcases HX.out with h | h
        · rw [h] at hlt; simp at hlt
        · exact h
      obtain ⟨x, hx⟩ : ∃ x, x = ch[k]?.getD 0 := ⟨_, rfl⟩
      have hck : wr.cell? ⟨b, off + k, none⟩ = some (.int .i64 x) := by rw [hx]; exact (hB.cell (p := ⟨b, off + k, none⟩) hb).trans (hc k hlt)
      have hxr := Hch.out _ (getD_mem hlt)
      rw [← hx] at hxr
      have Hsn : Hid (bdS (ch.take (k + 1)) = sumL (bdS (ch.take k)) (belowR x.toNat 63)) := hid (by rw [take_snoc hlt, ← hx, bdS_snoc])
      have hol := bdS_len (ch := ch.take k) (fun y hy => Hch.out y (List.mem_of_mem_take hy))
      have hyl := belowR_len x.toNat 63
      obtain ⟨ys, hys⟩ : ∃ ys, ys = belowR x.toNat 63 := ⟨_, rfl⟩
      rw [← hys] at Hsn hyl
      have Hys := hid hys
      obtain ⟨O, hO⟩ : ∃ O, O = bdS (ch.take k) := ⟨_, rfl⟩
      rw [← hO] at Hsn hol hown
      have hi0 : (0 : Int) ≤ (k : Int) := by omega
      have hi1 : (k : Int) < (ch.length : Int) := by omega
      have HB := hid hB
      have Hol : Hid (O.length ≤ 1048576) := hid (by omega)
      have Hyl : Hid (ys.length ≤ 1048576) := hid (by omega)
      have Hown := hid hown
      obtain ⟨_, av, cv, rfl, hs⟩ := ownsRow_slI hown
      have Hs := hid hs
      have HBel := hid (below_as x ys wr (by omega) (by omega) hys)
      have Hle := hid hB.size
      clear hx hc hys hO hB hown hs hol hyl
      go_wp2_with (first
        | (go_at_call 86; refine HBel.out.mono ?_; rintro e w1 ⟨ab, cb, rfl, hsb, hB1⟩; have HS1 := hid (sum_any av cv O ab cb ys w1 (Hs.out.later hB1 hB1.size) hsb Hol.out Hyl.out); have HB1 := hid hB1; clear hsb hB1)
        | (go_at_call 99; refine HS1.out.mono ?_; rintro e w2 ⟨v2, rfl, hr⟩; have HR := hid hr; clear hr))
      go_roundw
      case rel =>
        have hb1 := HB.out.trans (HB1.out.mono Hle.out)
        have hb2 : Below w1.heap.size w1 w2 := HR.out.2
        exact ⟨k + 1, by omega, by go_num, by rw [Hsn.out]; exact ownsRow_base HR.out.1 hb1.size, hb1.trans (hb2.mono hb1.size)⟩
      case measure => simp [intOf]; omega
    · obtain rfl : k = ch.length := by omega
      rw [List.take_of_length_le (Nat.le_refl _)] at hown
      go_wp2
      go_ret
      exact ⟨_, rfl, hown, hB⟩

set_option maxRecDepth 100000 in
set_option maxHeartbeats 1000000 in
theorem of_empty (V : Int) (a : Option Addr) (cap : Nat) (d : Int) (w : World) :
    Calls Try.prog 65 #[.agg #[.int .i64 V, .slice a 0 cap], .int .i64 d] w fun e w' => ∃ v, e = .returned v ∧ Res w w' v (ofDim [] d) := by
  have hB0 : Below w.heap.size w (w.alloc (.cells #[.int .i64 V, .slice a 0 cap] 30)) := (Below.refl _ w).alloc (Nat.le_refl _) _
  have hB00 := (hB0.alloc (by simp) (.cells #[] 2))
  have hown0 := World.ownsRow_made (base := w.heap.size + 1) (e := 2) (size := 1) (w.alloc (.cells #[.int .i64 V, .slice a 0 cap] 30)) #[] 0 (by simp) (by simp [maxLen]) rfl
  rw [World.size_alloc] at hown0
  have Hown0 := hid hown0
  clear hown0
  go_enter Try.func65, Try.ntmps65
  go_wp2
  refine wp_loop_rounds 1 ?_; rw [rounds_succ]
  go_wp2
  go_ret
  exact ⟨_, rfl, ownsRow_base (by simpa [ofDim] using Hown0.out) (Nat.le_succ _), hB00⟩

theorem of_top (V : Int) (a : Option Addr) (cap : Nat) (fs : List Int) (w : World) (hx : SlI w w.heap.size a fs) (hl : fs.length ≤ 1048576) (hf : ∀ x ∈ fs, 1 ≤ x ∧ x ≤ 63) :
    Calls Try.prog 65 #[.agg #[.int .i64 V, .slice a fs.length cap], .int .i64 (top fs)] w fun e w' => ∃ v, e = .returned v ∧ Res w w' v (ofDim fs (top fs)) := by
  cases fs with
  | nil => exact of_empty V a cap (top []) w
  | cons x fs =>
    have hxr := hf x (by simp)
    have h1 := top_ge (x :: fs) (x := x) (by simp)
    have h2 : 0 < ones x.toNat := ones_pos ⟨x.toNat, by omega⟩ (by show x.toNat ≠ 0; omega)
    exact of_any V a cap (x :: fs) (top (x :: fs)) w hx hl hf (by omega) (top_hi _)

set_option maxRecDepth 100000 in
set_option maxHeartbeats 4000000 in
theorem specFundamentalChain (V : Int) (a0 : Option Addr) (cap : Nat) (fs : List Int) (w : World) (hx : SlI w w.heap.size a0 fs) (hl : fs.length ≤ 1048576) :
    Calls Try.prog 31 #[.agg #[.int .i64 V, .slice a0 fs.length cap]] w fun e w' => ∃ v, e = .returned (.tuple #[v, .int .i64 (fundR V fs).2]) ∧ Res w w' v (fundR V fs).1 := by
  have hB0 : Below w.heap.size w (w.alloc (.cells #[.int .i64 V, .slice a0 fs.length cap] 30)) := (Below.refl _ w).alloc (Nat.le_refl _) _
  have Hx := hid (hx.later hB0 hB0.size)
  have Hx0 := hid hx
  clear hx
  by_cases hC : IsC V fs
  · have Hf := hid hC.range63
    have HC := hid hC
    obtain ⟨d, hd⟩ : ∃ d, d = top fs := ⟨_, rfl⟩
    have hR : fundR V fs = if (ofDim fs d).length = 0 ∨ (bdL fs (ofDim fs d)).length ≠ 0 then ([], 5) else (ofDim fs d, 0) := by unfold fundR; rw [isCB_true hC, if_pos rfl, hd]
    rw [← bdS_bdL hC (fun x hx => ofDim_sub hx)] at hR
    have HD := hid hd
    have HLr : Hid (∀ x ∈ ofDim fs d, 1 ≤ x ∧ x ≤ 63) := hid (fun x hx => hC.range63 x (ofDim_sub hx))
    have HLl : Hid ((ofDim fs d).length ≤ 1048576) := hid (Nat.le_trans (List.length_filter_le _ _) hl)
    obtain ⟨L, hL⟩ : ∃ L, L = ofDim fs d := ⟨_, rfl⟩
    rw [← hL] at hR HLr HLl
    have HL := hid hL
    obtain ⟨B, hB⟩ : ∃ B, B = bdS L := ⟨_, rfl⟩
    rw [← hB] at hR
    have HB := hid hB
    rw [hR]
    clear hR hd hL hB hC
    have key : ∀ (xs : List Int) (c : Int), (if L.length = 0 ∨ B.length ≠ 0 then (([], 5) : List Int × Int) else (L, 0)) = (xs, c) →
        Calls Try.prog 31 #[.agg #[.int .i64 V, .slice a0 fs.length cap]] w fun e w' => ∃ v, e = .returned (.tuple #[v, .int .i64 c]) ∧ Res w w' v xs := by
      intro xs c hxc
      have Hxc := hid hxc
      clear hxc
      go_enter Try.func31, Try.ntmps31
      go_wp2_with fail
      refine (is_yes V a0 cap fs _ Hx.out hl HC.out).mono ?_
      rintro e w1 ⟨rfl, hB1⟩
      have k0 : w1.cell? ⟨w.heap.size, 0, none⟩ = some (.int .i64 V) := (hB1.cell (p := ⟨w.heap.size, 0, none⟩) (by simp)).trans (by simp [go_sem])
      have k1 : w1.cell? ⟨w.heap.size, 1, none⟩ = some (.slice a0 fs.length cap) := (hB1.cell (p := ⟨w.heap.size, 1, none⟩) (by simp)).trans (by simp [go_sem])
      have HB1 := hid (hB0.trans (hB1.mono (by simp)))
      have hs1 : w.heap.size < w1.heap.size := by have := hB1.size; simp at this; omega
      have Hs1 := hid hs1
      have HBd : Hid (Below w.heap.size w w1.drew) := hid (HB1.out.trans ⟨rfl, rfl, rfl, Nat.le_refl _, fun _ _ => rfl⟩)
      have HT := hid (dimS_any V a0 cap fs w1.drew (Hx0.out.later HBd.out HBd.out.size) hl Hf.out)
      rw [← HD.out] at HT
      clear hB1 hs1
      go_wp2_with fail
      go_region_held3 (fun w' => w'.cell? ⟨w.heap.size, 0, none⟩ = some (.int .i64 V) ∧ w'.cell? ⟨w.heap.size, 1, none⟩ = some (.slice a0 fs.length cap)) (go_keep) (first
        | (go_at_call 66; (with_reducible_and_instances refine HT.out.mono ?_); rintro e w2 ⟨rfl, hB2⟩; have n0 := (hB2.cell (p := ⟨w.heap.size, 0, none⟩) Hs1.out).trans k0; have n1 := (hB2.cell (p := ⟨w.heap.size, 1, none⟩) Hs1.out).trans k1; have HB2 := hid (HBd.out.trans (hB2.mono HBd.out.size)); have Hs2 : Hid (w.heap.size < w2.heap.size) := hid (Nat.lt_of_lt_of_le Hs1.out hB2.size); have HO := hid (of_top V a0 cap fs w2 (Hx0.out.later HB2.out HB2.out.size) hl Hf.out); rw [← HD.out] at HO; clear hB2)
        | (go_at_call 65; (with_reducible_and_instances refine HO.out.mono ?_); rintro e w3 ⟨v, rfl, hr⟩; have hb3 : Below w2.heap.size w2 w3 := hr.2; have o0 := (hb3.cell (p := ⟨w.heap.size, 0, none⟩) Hs2.out).trans n0; have o1 := (hb3.cell (p := ⟨w.heap.size, 1, none⟩) Hs2.out).trans n1; have HR := hid hr; clear hr hb3))
      all_goals
        have hb3 : Below w2.heap.size w2 w3 := HR.out.2
        have HB3 := hid (HB2.out.trans (hb3.mono HB2.out.size))
        have hr1 := HR.out.1
        rw [← HL.out] at hr1
        have HR1 := hid (ownsRow_base hr1 HB2.out.size)
        obtain ⟨_, av, cv, rfl, hs⟩ := ownsRow_slI hr1
        have Hs := hid hs
        clear hr1 hs hb3 HR
        by_cases hl0 : L.length = 0
        · have hd0 : ((L.length : Int) == 0) = true := by simp [hl0]
          have Hx2 := hid ((if_pos (Or.inl hl0)).symm.trans Hxc.out)
          clear hl0
          go_wp2_with fail
          go_ret2
          have := Hx2.out
          simp only [Prod.mk.injEq] at this
          obtain ⟨rfl, rfl⟩ := this
          exact ⟨_, rfl, res_nil _ _ HB3.out⟩
        · have hd0 : ((L.length : Int) == 0) = false := beq_eq_false_iff_ne.2 (by omega)
          have HBD := hid (bdS_any av cv L w3 Hs.out HLr.out HLl.out)
          rw [← HB.out] at HBD
          by_cases hb0 : B.length = 0
          · have Hx2 := hid ((if_neg (fun h => h.elim hl0 (fun h => h hb0))).symm.trans Hxc.out)
            have hle : ¬ (0 : Int) < (B.length : Int) := by omega
            clear hl0 hb0
            go_wp2_with (go_at_call 67; refine HBD.out.mono ?_; rintro e w4 ⟨vb, rfl, hr4⟩; obtain ⟨_, ab, cb, rfl, _⟩ := ownsRow_slI hr4.1; have HR4 := hid hr4; clear hr4)
            go_ret2
            have := Hx2.out
            simp only [Prod.mk.injEq] at this
            obtain ⟨rfl, rfl⟩ := this
            have hb4 : Below w3.heap.size w3 w4 := HR4.out.2
            exact ⟨_, rfl, ownsRow_below HR1.out hb4 (fun g hg => (HR1.out.lt g hg).2), HB3.out.trans (hb4.mono HB3.out.size)⟩
          · have Hx2 := hid ((if_pos (Or.inr hb0)).symm.trans Hxc.out)
            have hlt : (0 : Int) < (B.length : Int) := by omega
            clear hl0 hb0
            go_wp2_with (go_at_call 67; refine HBD.out.mono ?_; rintro e w4 ⟨vb, rfl, hr4⟩; obtain ⟨_, ab, cb, rfl, _⟩ := ownsRow_slI hr4.1; have HR4 := hid hr4; clear hr4)
            go_ret2
            have := Hx2.out
            simp only [Prod.mk.injEq] at this
            obtain ⟨rfl, rfl⟩ := this
            have hb4 : Below w3.heap.size w3 w4 := HR4.out.2
            exact ⟨_, rfl, res_nil _ _ (HB3.out.trans (hb4.mono HB3.out.size))⟩
    exact key _ _ rfl
  · refine res_monoF (show fundR V fs = ([], 1) by unfold fundR; rw [isCB_false hC, if_neg (by simp)]) ?_
    go_enter Try.func31, Try.ntmps31
    go_wp2_with fail
    refine (is_no V a0 cap fs _ Hx.out hl hC).mono ?_
    rintro e w1 ⟨rfl, hB1⟩
    go_wp2_with fail
    go_ret2
    exact ⟨_, rfl, res_nil _ _ (hB0.trans (hB1.mono (by simp)))⟩

end Go.Proofs.Ytilncaagpcgakaa
