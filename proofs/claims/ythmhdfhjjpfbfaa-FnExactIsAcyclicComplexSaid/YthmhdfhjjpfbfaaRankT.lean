import Derived.Test.YthmhdfhjjpfbfaaRowsS
import Derived.Test.YthmhdfhjjpfbfaaBRank
/-! RankOf, the model's and the program's. -/
namespace Go.Proofs.Ythmhdfhjjpfbfaa
open Go.RowKit

theorem ofDim_low {V : Int} {fs : List Int} (hC : IsC V fs) {d : Int} (hd : d < 0) : ofDim fs d = [] := by
  rw [List.eq_nil_iff_forall_not_mem]
  intro x hx
  obtain ⟨hm, ho⟩ := ofDim_mem.1 hx
  have hr := hC.range63 x hm
  have := ones_pos ⟨x.toNat, by omega⟩ (by simp only; omega)
  simp only at this
  omega
theorem ofDim_high {V : Int} {fs : List Int} (_hC : IsC V fs) {d : Int} (hd : top fs < d) : ofDim fs d = [] := by
  rw [List.eq_nil_iff_forall_not_mem]
  intro x hx
  obtain ⟨hm, ho⟩ := ofDim_mem.1 hx
  have := top_ge fs hm
  omega

set_option maxRecDepth 1000000 in
set_option maxHeartbeats 1000000 in
theorem rankS_nil (R cap : Nat) (p : Int) (W : World) :
    Calls Try.prog 123 #[.slice (some ⟨R, 0, none⟩) 0 cap, .int .i64 p] W fun e W' => e = .returned (.int .i64 0) ∧ W = W' := by
  go_enter Try.func123, Try.ntmps123
  go_wp2
  refine wp_loop_rounds 1 ?_; rw [rounds_succ]
  go_wp2
  go_ret
  exact ⟨rfl, rfl⟩

set_option maxRecDepth 1000000 in
set_option maxHeartbeats 2000000 in
theorem rkS_any (V : Int) (a0 : Option Addr) (cap : Nat) (fs : List Int) (d p : Int) (w : World) (hx : SlI w w.heap.size a0 fs) (hl : fs.length ≤ 1048576) (hC : IsC V fs) (hp : p = 2 ∨ p = 3) (hd0 : 0 ≤ d) (hd1 : d ≤ 100) :
    Calls Try.prog 87 #[.agg #[.int .i64 V, .slice a0 fs.length cap], .int .i64 d, .int .i64 p] w fun e w' => e = .returned (.int .i64 (rankN fs d p : Int)) ∧ Below w.heap.size w w' := by
  have hB0 : Below w.heap.size w (w.alloc (.cells #[.int .i64 V, .slice a0 fs.length cap] 28)) := (Below.refl _ w).alloc (Nat.le_refl _) _
  have h63 := hC.len63
  obtain ⟨E, hE⟩ : ∃ E, E = rankN fs d p := ⟨_, rfl⟩
  rw [← hE]
  by_cases h1 : d < 1
  · have He : Hid (E = 0) := hid (by rw [hE]; exact rankN_low (ofDim_low hC (by omega)))
    clear hE
    go_enter Try.func87, Try.ntmps87
    go_wp2
    go_ret
    exact ⟨ret_int (by rw [He.out]; rfl), hB0⟩
  · have h1' : 1 ≤ d := by omega
    have HD := hid (dimS_any V a0 cap fs _ (hx.later hB0 hB0.size) hl hC.range63)
    have htl := top_lo fs
    have hth := top_hi fs
    by_cases h2 : top fs < d
    · have He : Hid (E = 0) := hid (by rw [hE]; exact rankN_none (ofDim_high hC h2))
      clear hE hx hC
      go_enter Try.func87, Try.ntmps87
      go_wp2_with fail
      refine HD.out.mono ?_
      rintro e w1 ⟨rfl, hB1⟩
      have HB1 := hid (hB0.trans (hB1.mono hB0.size))
      clear hB0 hB1
      go_wp2_with fail
      go_ret
      exact ⟨ret_int (by rw [He.out]; rfl), HB1.out⟩
    · have h2' : d ≤ top fs := by omega
      have HX := hid hx
      have HC := hid hC
      have HE := hid hE
      clear hE hx hC h1 h2
      go_enter Try.func87, Try.ntmps87
      go_wp2_with fail
      refine HD.out.mono ?_
      rintro e w1 ⟨rfl, hB1⟩
      have k0 : w1.cell? ⟨w.heap.size, 0, none⟩ = some (.int .i64 V) := (hB1.cell (p := ⟨w.heap.size, 0, none⟩) (by simp)).trans (by simp [go_sem])
      have k1 : w1.cell? ⟨w.heap.size, 1, none⟩ = some (.slice a0 fs.length cap) := (hB1.cell (p := ⟨w.heap.size, 1, none⟩) (by simp)).trans (by simp [go_sem])
      have HB1 := hid (hB0.trans (hB1.mono hB0.size))
      clear hB0 hB1
      go_wp2_with fail
      refine (rowsS_any V a0 cap fs d p w1 (HX.out.later HB1.out HB1.out.size) hl HC.out hp h1' (by omega)).mono ?_
      rintro e w2 ⟨R, ad, cp, rfl, hM, hB2⟩
      have HM := hid hM
      have HB2 := hid (HB1.out.trans (hB2.mono HB1.out.size))
      have hs12 := hB2.size
      have hs1 := HB1.out.size
      have HN := hid (ofDim_len fs d)
      have HN1 := hid (ofDim_len fs (d - 1))
      clear hM hB2 k0 k1
      by_cases hn : (ofDim fs d).length = 0
      · have He : Hid (E = 0) := hid (by rw [HE.out]; exact rankN_none (List.eq_nil_of_length_eq_zero hn))
        rw [hn]
        clear hn
        go_wp2_with fail
        refine (rankS_nil R cp p w2).mono ?_
        rintro e w3 ⟨rfl, rfl⟩
        go_wp2_with fail
        go_ret
        exact ⟨ret_int (by rw [He.out]; rfl), HB2.out⟩
      · have HR := hid (rankS_any w1.heap.size R (ofDim fs d).length (ofDim fs (d - 1)).length cp ad p _ w2 HM.out (bndM_good d hp) hp (by omega) (by have := HN.out; omega) (by have := HN1.out; omega))
        clear hn
        go_wp2_with fail
        refine HR.out.mono ?_
        rintro e w3 ⟨rfl, hB3⟩
        have HB3 := hid (HB2.out.trans (hB3.mono hs1))
        clear hB3
        go_wp2_with fail
        go_ret
        exact ⟨ret_int (by rw [HE.out]; rfl), HB3.out⟩

end Go.Proofs.Ythmhdfhjjpfbfaa
