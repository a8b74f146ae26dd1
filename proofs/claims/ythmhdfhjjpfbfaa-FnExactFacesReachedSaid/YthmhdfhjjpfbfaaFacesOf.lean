import Derived.Test.YthmhdfhjjpfbfaaFw
import Derived.Test.YthmhdfhjjpfbfaaOnes
/-! FacesOf, the model's and the program's. -/
namespace Go.Proofs.Ythmhdfhjjpfbfaa
open Go.RowKit

/-- The faces of a dimension. -/
def ofDim (fs : List Int) (d : Int) : List Int := fs.filter fun x => decide ((ones x.toNat : Int) = d + 1)

set_option maxHeartbeats 1000000 in
theorem of_any (V : Int) (a : Option Addr) (cap : Nat) (fs : List Int) (d : Int) (w : World) (hx : SlI w w.heap.size a fs) (hl : fs.length ≤ 1048576) (hf : ∀ x ∈ fs, 1 ≤ x ∧ x ≤ 63) (hd0 : 0 ≤ d) (hd1 : d ≤ 5) :
    Calls Try.prog 94 #[.agg #[.int .i64 V, .slice a fs.length cap], .int .i64 d] w fun e w' => ∃ v, e = .returned v ∧ Res w w' v (ofDim fs d) := by
  have hB0 : Below w.heap.size w (w.alloc (.cells #[.int .i64 V, .slice a fs.length cap] 28)) := (Below.refl _ w).alloc (Nat.le_refl _) _
  have hB00 := (hB0.alloc (by simp) (.cells #[] 2))
  have hown0 := World.ownsRow_made (base := w.heap.size + 1) (e := 2) (size := 1) (w.alloc (.cells #[.int .i64 V, .slice a fs.length cap] 28)) #[] 0 (by simp) (by simp [maxLen]) rfl
  rw [World.size_alloc] at hown0
  rcases hx with rfl | ⟨b, off, hb, rfl, hc⟩
  · have Hown0 := hid hown0
    clear hown0
    go_enter Try.func94, Try.ntmps94
    go_wp2
    refine wp_loop_rounds 1 ?_; rw [rounds_succ]
    go_wp2
    go_ret
    exact ⟨_, rfl, ownsRow_base (by simpa [ofDim] using Hown0.out) (Nat.le_succ _), hB00⟩
  · have Hc := hid hc
    have Hf := hid hf
    have Hown0 := hid hown0
    clear hc hf hown0
    go_enter Try.func94, Try.ntmps94
    go_wp2
    go_loopw [5, 6] (fun v i wr => ∃ k : Nat, k ≤ fs.length ∧ i = .int .i64 k ∧ wr.ownsRow (w.heap.size + 1) 2 1 v (ofDim (fs.take k) d).length ((ofDim (fs.take k) d).map (Value.int .i64)) ∧
        Below (w.heap.size + 1) (w.alloc (.cells #[.int .i64 V, .slice (some ⟨b, off, none⟩) fs.length cap] 28)) wr) (fun _ i _ => fs.length - (intOf i).toNat)
    case atStart => exact ⟨0, Nat.zero_le _, rfl, Hown0.out, (Below.refl _ _).alloc (by simp) _⟩
    case round =>
      obtain ⟨k, hk, rfl, hown, hB⟩ := hrel
      have c0 : wr.cell? ⟨w.heap.size, 0, none⟩ = some (.int .i64 V) := (hB.cell (p := ⟨w.heap.size, 0, none⟩) (by simp)).trans (by simp [go_sem])
      have c1 : wr.cell? ⟨w.heap.size, 1, none⟩ = some (.slice (some ⟨b, off, none⟩) fs.length cap) := (hB.cell (p := ⟨w.heap.size, 1, none⟩) (by simp)).trans (by simp [go_sem])
      have hBW := hB0.trans (hB.mono (by simp))
      have hsz := hB.size
      simp only [World.size_alloc] at hsz
      by_cases hlt : k < fs.length
      · obtain ⟨x, hx⟩ : ∃ x : Nat, (x : Int) = fs[k]?.getD 0 := ⟨(fs[k]?.getD 0).toNat, by have := Hf.out _ (getD_mem hlt); omega⟩
        have hx64 : x < 64 := by have := Hf.out _ (getD_mem hlt); omega
        have hck : wr.cell? ⟨b, off + k, none⟩ = some (.int .i64 (x : Int)) := by rw [hx]; exact (hBW.cell (p := ⟨b, off + k, none⟩) hb).trans (Hc.out k hlt)
        have hi0 : (0 : Int) ≤ (k : Int) := by omega
        have hi1 : (k : Int) < (fs.length : Int) := by omega
        have hfl : (ofDim (fs.take k) d).length ≤ 1048576 := Nat.le_trans (List.length_filter_le _ _) (by simp; omega)
        have Hp : Hid (∀ c, decide ((ones x : Int) = d + 1) = c → ofDim (fs.take (k + 1)) d = ofDim (fs.take k) d ++ (if c then [(x : Int)] else [])) := hid (fun c hc => by
          unfold ofDim
          rw [take_snoc hlt, List.filter_append, ← hx]
          cases c <;> simp [hc])
        clear hx hB0 hB00
        have ho := ones_le x
        by_cases hpx : (ones x : Int) = d + 1
        · have hd : ((ones x : Int) == d + 1) = true := by simpa using hpx
          have HP := hid (Hp.out true (decide_eq_true hpx))
          clear hpx Hp
          go_wp2_with (first
            | (go_at_call 70; refine (ones_any x _ hx64).mono ?_; rintro e w' ⟨rfl, rfl⟩)
            | (at_builtin; refine append_int rfl rfl hown hsz (by omega) rfl rfl ?_; intro v' w2 hown2 hgrow2 hB2))
          go_roundw
          case rel => exact ⟨k + 1, by omega, by go_num, by rw [HP.out]; exact hown2, hB.trans hB2⟩
          case measure => simp [intOf]; omega
        · have hd : ((ones x : Int) == d + 1) = false := by simpa using hpx
          have HP := hid (Hp.out false (decide_eq_false hpx))
          clear hpx Hp
          go_wp2_with (first
            | (go_at_call 70; refine (ones_any x _ hx64).mono ?_; rintro e w' ⟨rfl, rfl⟩))
          go_roundw
          case rel => exact ⟨k + 1, by omega, by go_num, by rw [HP.out]; simpa using hown, hB⟩
          case measure => simp [intOf]; omega
      · go_wp2
        go_ret
        obtain rfl : k = fs.length := by omega
        rw [List.take_of_length_le (Nat.le_refl _)] at hown
        exact ⟨_, rfl, ownsRow_base hown (by omega), hBW⟩

/-- What FacesOf hands back. -/
noncomputable def facesOfR (V : Int) (fs : List Int) (d : Int) : List Int × Int := if isCB V fs then (if 0 ≤ d ∧ d ≤ 5 then (ofDim fs d, 0) else ([], 2)) else ([], 1)

theorem facesOfR_len (V : Int) (fs : List Int) (d : Int) (h : fs.length ≤ 1048576) : (facesOfR V fs d).1.length ≤ 1048576 := by
  unfold facesOfR
  split
  · split
    · exact Nat.le_trans (List.length_filter_le _ _) h
    · simp
  · simp

theorem pair_mono {P : Program} {f : FuncId} {args : Array Value} {w : World} {r : List Int × Int} {xs : List Int} {c : Int} (hr : r = (xs, c))
    (h : Calls P f args w fun e w' => ∃ v, e = .returned (.tuple #[v, .int .i64 c]) ∧ Res w w' v xs) : Calls P f args w fun e w' => ∃ v, e = .returned (.tuple #[v, .int .i64 r.2]) ∧ Res w w' v r.1 := by
  subst hr; exact h


theorem dimWanted (d : Int) (bd : Nat) (x : Int) (w : World) (hx0 : 1 ≤ x) (hx1 : x ≤ 63) (hd : w.cell? ⟨bd, 0, none⟩ = some (.int .i64 d)) :
    Calls Try.prog 131 #[.int .i64 x, .pointer (some ⟨bd, 0, none⟩)] w fun e w' => e = .returned (.bool (decide ((ones x.toNat : Int) = d + 1))) ∧ Below w.heap.size w w' := by
  obtain ⟨f, rfl⟩ : ∃ f : Nat, x = f := ⟨x.toNat, by omega⟩
  have hf : f < 64 := by omega
  rw [Int.toNat_natCast]
  have ho := ones_le f
  have He : Hid (((ones f : Int) - 1 == d) = decide ((ones f : Int) = d + 1)) := hid (by rw [Bool.eq_iff_iff]; simp; omega)
  go_enter Try.func131, Try.ntmps131
  go_wp2_with fail
  go_quiet ((go_at_call 56; exact quiet_of_eq (dim_any f _ hf)))
  go_wp2_with fail
  go_ret
  exact ⟨ret_bool He.out, ⟨rfl, rfl, rfl, Nat.le_refl _, fun _ _ => rfl⟩⟩

set_option maxHeartbeats 1000000 in
theorem implFacesOf (V : Int) (a : Option Addr) (cap : Nat) (fs : List Int) (d : Int) (w : World) (hx : SlI w w.heap.size a fs) (hl : fs.length ≤ 1048576) :
    Calls Try.prog 95 #[.agg #[.int .i64 V, .slice a fs.length cap], .int .i64 d] w fun e w' => ∃ v, e = .returned (.tuple #[v, .int .i64 (facesOfR V fs d).2]) ∧ Res w w' v (facesOfR V fs d).1 := by
  have hB0 : Below w.heap.size w ((w.alloc (.cells #[.int .i64 V, .slice a fs.length cap] 28)).alloc (.cells #[.int .i64 d] 2)) := ((Below.refl _ w).alloc (Nat.le_refl _) _).alloc (by simp) _
  have Hx := hid (hx.later hB0 (by simp <;> omega))
  by_cases hC : IsC V fs
  · have HC := hid hC
    have Hf := hid hC.range63
    clear hC
    by_cases hd : 0 ≤ d ∧ d ≤ 5
    · refine pair_mono (show facesOfR V fs d = (ofDim fs d, 0) by unfold facesOfR; rw [isCB_true HC.out, if_pos rfl, if_pos hd]) ?_
      obtain ⟨hd0, hd1⟩ := hd
      go_enter Try.func95, Try.ntmps95
      go_wp2_with fail
      refine (isc_yes V a cap fs _ Hx.out hl HC.out).mono ?_
      rintro e w1 ⟨rfl, hB1⟩
      have c0 : w1.cell? ⟨w.heap.size, 0, none⟩ = some (.int .i64 V) := (hB1.cell (p := ⟨w.heap.size, 0, none⟩) (by simp <;> omega)).trans (by simp [go_sem])
      have c1 : w1.cell? ⟨w.heap.size, 1, none⟩ = some (.slice a fs.length cap) := (hB1.cell (p := ⟨w.heap.size, 1, none⟩) (by simp <;> omega)).trans (by simp [go_sem])
      have c2 : w1.cell? ⟨w.heap.size + 1, 0, none⟩ = some (.int .i64 d) := (hB1.cell (p := ⟨w.heap.size + 1, 0, none⟩) (by simp <;> omega)).trans (by simp [go_sem])
      have hB01 := hB0.trans (hB1.mono (by simp <;> omega))
      have hx1 := hid (hx.later hB01 hB01.size)
      have hs1 := hB1.size
      simp only [World.size_alloc] at hs1
      go_wp2_with fail
      refine (fw_any V a cap fs _ 131 _ (fun x => decide ((ones x.toNat : Int) = d + 1)) hx1.out hl (enters_of Try.func131 (by kernel_rfl) rfl) ?_).mono ?_
      · intro W' x hW' hxm
        have := Hf.out x hxm
        exact dimWanted d _ x W' this.1 this.2 ((hW'.cell (p := ⟨w.heap.size + 1, 0, none⟩) (by simp; omega)).trans c2)
      rintro e w2 ⟨v, rfl, hr⟩
      go_wp2_with fail
      go_ret2
      exact ⟨v, rfl, hr.later hB01⟩
    · refine pair_mono (show facesOfR V fs d = ([], 2) by unfold facesOfR; rw [isCB_true HC.out, if_pos rfl, if_neg hd]) ?_
      go_enter Try.func95, Try.ntmps95
      go_wp2_with fail
      refine (isc_yes V a cap fs _ Hx.out hl HC.out).mono ?_
      rintro e w1 ⟨rfl, hB1⟩
      have c2 : w1.cell? ⟨w.heap.size + 1, 0, none⟩ = some (.int .i64 d) := (hB1.cell (p := ⟨w.heap.size + 1, 0, none⟩) (by simp <;> omega)).trans (by simp [go_sem])
      have hB01 := hB0.trans (hB1.mono (by simp <;> omega))
      by_cases hd0 : d < 0
      · go_wp2_with fail
        go_ret2
        exact ⟨_, rfl, res_nil _ _ hB01⟩
      · have hd5 : 5 < d := by omega
        go_wp2_with fail
        go_ret2
        exact ⟨_, rfl, res_nil _ _ hB01⟩
  · refine pair_mono (show facesOfR V fs d = ([], 1) by unfold facesOfR; rw [isCB_false hC, if_neg (by simp)]) ?_
    go_enter Try.func95, Try.ntmps95
    go_wp2_with fail
    refine (isc_no V a cap fs _ Hx.out hl hC).mono ?_
    rintro e w1 ⟨rfl, hB1⟩
    have hB01 := hB0.trans (hB1.mono (by simp <;> omega))
    go_wp2_with fail
    go_ret2
    exact ⟨_, rfl, res_nil _ _ hB01⟩

end Go.Proofs.Ythmhdfhjjpfbfaa
