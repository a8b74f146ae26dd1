import Derived.Test.YtmkknfdjoajpcaaFw
import Derived.Test.YtmkknfdjoajpcaaOnes
/-! FacetsOf, the model's. -/
namespace Go.Proofs.Ytmkknfdjoajpcaa
open Go.RowKit

/-- The faces with one vertex more than a face that have all of it. -/
def aboveL (fs : List Int) (f : Nat) : List Int := fs.filter fun x => decide (x.toNat &&& f = f ∧ ones x.toNat = ones f + 1)
/-- The facets. -/
def facetsL (fs : List Int) : List Int := fs.filter fun x => decide ((aboveL fs x.toNat).length = 0)

theorem pair_mono' {P : Program} {f : FuncId} {args : Array Value} {w : World} {r : List Int × Int} {xs : List Int} {c : Int} (hr : r = (xs, c))
    (h : Calls P f args w fun e w' => ∃ v, e = .returned (.tuple #[v, .int .i64 c]) ∧ Res w w' v xs) : Calls P f args w fun e w' => ∃ v, e = .returned (.tuple #[v, .int .i64 r.2]) ∧ Res w w' v r.1 := by
  subst hr; exact h

set_option maxHeartbeats 2000000 in
theorem above_any (V : Int) (a : Option Addr) (cap : Nat) (fs : List Int) (f : Nat) (w : World) (hx : SlI w w.heap.size a fs) (hl : fs.length ≤ 1048576) (hf : ∀ x ∈ fs, 1 ≤ x ∧ x ≤ 63) (hf64 : f < 64) :
    Calls Try.prog 62 #[.agg #[.int .i64 V, .slice a fs.length cap], .int .i64 (f : Int)] w fun e w' => ∃ v, e = .returned v ∧ Res w w' v (aboveL fs f) := by
  have hB0 : Below w.heap.size w (w.alloc (.cells #[.int .i64 V, .slice a fs.length cap] 26)) := (Below.refl _ w).alloc (Nat.le_refl _) _
  have hB00 := (hB0.alloc (by simp) (.cells #[] 2))
  have hown0 := World.ownsRow_made (base := w.heap.size + 1) (e := 2) (size := 1) (w.alloc (.cells #[.int .i64 V, .slice a fs.length cap] 26)) #[] 0 (by simp) (by simp [maxLen]) rfl
  rw [World.size_alloc] at hown0
  rcases hx with rfl | ⟨b, off, hb, rfl, hc⟩
  · have Hown0 := hid hown0
    clear hown0
    go_enter Try.func62, Try.ntmps62
    go_wp2
    refine wp_loop_rounds 1 ?_; rw [rounds_succ]
    go_wp2
    go_ret
    exact ⟨_, rfl, ownsRow_base (by simpa [aboveL] using Hown0.out) (Nat.le_succ _), hB00⟩
  · have Hc := hid hc
    have Hf := hid hf
    have Hown0 := hid hown0
    clear hc hf hown0
    go_enter Try.func62, Try.ntmps62
    go_wp2
    go_loopw [5, 6] (fun v i wr => ∃ k : Nat, k ≤ fs.length ∧ i = .int .i64 k ∧ wr.ownsRow (w.heap.size + 1) 2 1 v (aboveL (fs.take k) f).length ((aboveL (fs.take k) f).map (Value.int .i64)) ∧
        Below (w.heap.size + 1) (w.alloc (.cells #[.int .i64 V, .slice (some ⟨b, off, none⟩) fs.length cap] 26)) wr) (fun _ i _ => fs.length - (intOf i).toNat)
    case atStart => exact ⟨0, Nat.zero_le _, rfl, Hown0.out, (Below.refl _ _).alloc (by simp) _⟩
    case round =>
      obtain ⟨k, hk, rfl, hown, hB⟩ := hrel
      have c0 : wr.cell? ⟨w.heap.size, 0, none⟩ = some (.int .i64 V) := (hB.cell (p := ⟨w.heap.size, 0, none⟩) (by simp)).trans (by simp [go_sem])
      have c1 : wr.cell? ⟨w.heap.size, 1, none⟩ = some (.slice (some ⟨b, off, none⟩) fs.length cap) := (hB.cell (p := ⟨w.heap.size, 1, none⟩) (by simp)).trans (by simp [go_sem])
      have hBW := hB0.trans (hB.mono (by simp))
      have hsz := hB.size
      simp only [World.size_alloc] at hsz
      by_cases hlt : k < fs.length
      · obtain ⟨x, hx⟩ : ∃ x : Nat, (x : Int) = fs[k]?.getD 0 := ⟨(fs[k]?.getD 0).toNat, by have := Hf.out _ (getD_mem hlt); omega⟩
        have hx64 : x < 64 := by have := Hf.out _ (getD_mem hlt); omega
        have hck : wr.cell? ⟨b, off + k, none⟩ = some (.int .i64 (x : Int)) := by rw [hx]; exact (hBW.cell (p := ⟨b, off + k, none⟩) hb).trans (Hc.out k hlt)
        have hi0 : (0 : Int) ≤ (k : Int) := by omega
        have hi1 : (k : Int) < (fs.length : Int) := by omega
        have hfl : (aboveL (fs.take k) f).length ≤ 1048576 := Nat.le_trans (List.length_filter_le _ _) (by simp; omega)
        have Hp : Hid (∀ c, decide (x &&& f = f ∧ ones x = ones f + 1) = c → aboveL (fs.take (k + 1)) f = aboveL (fs.take k) f ++ (if c then [(x : Int)] else [])) := hid (fun c hc => by
          unfold aboveL
          rw [take_snoc hlt, List.filter_append, ← hx]
          cases c <;> simpa using hc)
        have hbits : bits BinOp.and IntKind.i64 (x : Int) (f : Int) = ((x &&& f : Nat) : Int) := (bits_nat .i64 6 (by decide) (fun n h0 h1 => by rw [IntKind.wrap_i64]; omega) x f (by omega) (by omega)).1
        clear hx hB0 hB00
        have ho := ones_le x
        have ho' := ones_le f
        by_cases hpx : x &&& f = f
        · have hd : (((x &&& f : Nat) : Int) == (f : Int)) = true := by simp; omega
          by_cases hox : ones x = ones f + 1
          · have hd2 : ((ones x : Int) == (ones f : Int) + 1) = true := by simp; omega
            have HP := hid (Hp.out true (decide_eq_true ⟨hpx, hox⟩))
            clear hpx hox Hp
            go_wp2_with (first
              | (go_at_call 94; refine (ones_any _ _ (by assumption)).mono ?_; rintro e w' ⟨rfl, rfl⟩)
              | (at_builtin; refine append_int rfl rfl hown hsz (by omega) rfl rfl ?_; intro v' w2 hown2 hgrow2 hB2))
            go_roundw
            case rel => exact ⟨k + 1, by omega, by go_num, by rw [HP.out]; exact hown2, hB.trans hB2⟩
            case measure => simp [intOf]; omega
          · have hd2 : ((ones x : Int) == (ones f : Int) + 1) = false := by simp; omega
            have HP := hid (Hp.out false (decide_eq_false (fun h => hox h.2)))
            clear hpx hox Hp
            go_wp2_with (first
              | (go_at_call 94; refine (ones_any _ _ (by assumption)).mono ?_; rintro e w' ⟨rfl, rfl⟩))
            go_roundw
            case rel => exact ⟨k + 1, by omega, by go_num, by rw [HP.out]; simpa using hown, hB⟩
            case measure => simp [intOf]; omega
        · have hd : (((x &&& f : Nat) : Int) == (f : Int)) = false := by simp; omega
          have HP := hid (Hp.out false (decide_eq_false (fun h => hpx h.1)))
          clear hpx Hp
          go_wp2_with fail
          go_roundw
          case rel => exact ⟨k + 1, by omega, by go_num, by rw [HP.out]; simpa using hown, hB⟩
          case measure => simp [intOf]; omega
      · go_wp2
        go_ret
        obtain rfl : k = fs.length := by omega
        rw [List.take_of_length_le (Nat.le_refl _)] at hown
        exact ⟨_, rfl, ownsRow_base hown (by omega), hBW⟩

set_option maxHeartbeats 2000000 in
theorem facets_any (V : Int) (a : Option Addr) (cap : Nat) (fs : List Int) (w : World) (hx : SlI w w.heap.size a fs) (hl : fs.length ≤ 1048576) (hf : ∀ x ∈ fs, 1 ≤ x ∧ x ≤ 63) :
    Calls Try.prog 79 #[.agg #[.int .i64 V, .slice a fs.length cap]] w fun e w' => ∃ v, e = .returned v ∧ Res w w' v (facetsL fs) := by
  have hB0 : Below w.heap.size w (w.alloc (.cells #[.int .i64 V, .slice a fs.length cap] 26)) := (Below.refl _ w).alloc (Nat.le_refl _) _
  have hB00 := (hB0.alloc (by simp) (.cells #[] 2))
  have hown0 := World.ownsRow_made (base := w.heap.size + 1) (e := 2) (size := 1) (w.alloc (.cells #[.int .i64 V, .slice a fs.length cap] 26)) #[] 0 (by simp) (by simp [maxLen]) rfl
  rw [World.size_alloc] at hown0
  have Hx0 := hid hx
  rcases hx with rfl | ⟨b, off, hb, rfl, hc⟩
  · have Hown0 := hid hown0
    clear hown0
    go_enter Try.func79, Try.ntmps79
    go_wp2
    refine wp_loop_rounds 1 ?_; rw [rounds_succ]
    go_wp2
    go_ret
    exact ⟨_, rfl, ownsRow_base (by simpa [facetsL] using Hown0.out) (Nat.le_succ _), hB00⟩
  · have Hc := hid hc
    have Hf := hid hf
    have Hown0 := hid hown0
    clear hc hf hown0
    go_enter Try.func79, Try.ntmps79
    go_wp2
    go_loopw [3, 4] (fun v i wr => ∃ k : Nat, k ≤ fs.length ∧ i = .int .i64 k ∧ wr.ownsRow (w.heap.size + 1) 2 1 v ((fs.take k).filter fun x => decide ((aboveL fs x.toNat).length = 0)).length (((fs.take k).filter fun x => decide ((aboveL fs x.toNat).length = 0)).map (Value.int .i64)) ∧
        Below (w.heap.size + 1) (w.alloc (.cells #[.int .i64 V, .slice (some ⟨b, off, none⟩) fs.length cap] 26)) wr) (fun _ i _ => fs.length - (intOf i).toNat)
    case atStart => exact ⟨0, Nat.zero_le _, rfl, Hown0.out, (Below.refl _ _).alloc (by simp) _⟩
    case round =>
      obtain ⟨k, hk, rfl, hown, hB⟩ := hrel
      have c0 : wr.cell? ⟨w.heap.size, 0, none⟩ = some (.int .i64 V) := (hB.cell (p := ⟨w.heap.size, 0, none⟩) (by simp)).trans (by simp [go_sem])
      have c1 : wr.cell? ⟨w.heap.size, 1, none⟩ = some (.slice (some ⟨b, off, none⟩) fs.length cap) := (hB.cell (p := ⟨w.heap.size, 1, none⟩) (by simp)).trans (by simp [go_sem])
      have hBW := hB0.trans (hB.mono (by simp))
      have hsz := hB.size
      simp only [World.size_alloc] at hsz
      by_cases hlt : k < fs.length
      · obtain ⟨x, hx⟩ : ∃ x : Nat, (x : Int) = fs[k]?.getD 0 := ⟨(fs[k]?.getD 0).toNat, by have := Hf.out _ (getD_mem hlt); omega⟩
        have hx64 : x < 64 := by have := Hf.out _ (getD_mem hlt); omega
        have hck : wr.cell? ⟨b, off + k, none⟩ = some (.int .i64 (x : Int)) := by rw [hx]; exact (hBW.cell (p := ⟨b, off + k, none⟩) hb).trans (Hc.out k hlt)
        have hi0 : (0 : Int) ≤ (k : Int) := by omega
        have hi1 : (k : Int) < (fs.length : Int) := by omega
        have hfl : ((fs.take k).filter fun x => decide ((aboveL fs x.toNat).length = 0)).length ≤ 1048576 := Nat.le_trans (List.length_filter_le _ _) (by simp; omega)
        have Hp : Hid (∀ c, decide ((aboveL fs x).length = 0) = c → ((fs.take (k + 1)).filter fun x => decide ((aboveL fs x.toNat).length = 0)) = ((fs.take k).filter fun x => decide ((aboveL fs x.toNat).length = 0)) ++ (if c then [(x : Int)] else [])) := hid (fun c hc => by
          rw [take_snoc hlt, List.filter_append, ← hx]
          cases c <;> simpa using hc)
        have Hxr := hid (Hx0.out.later hBW (by omega))
        have hal : (aboveL fs x).length ≤ 1048576 := Nat.le_trans (List.length_filter_le _ _) hl
        have Hown := hid hown
        have HB := hid hB
        obtain ⟨us, hus⟩ : ∃ us, us = ((fs.take k).filter fun x => decide ((aboveL fs x.toNat).length = 0)) := ⟨_, rfl⟩
        obtain ⟨bs, hbs⟩ : ∃ bs, bs = aboveL fs x := ⟨_, rfl⟩
        have Hbs := hid hbs
        rw [← hus] at hfl Hown Hp
        rw [← hbs] at Hp hal
        clear hx hB0 hB00 hown hB hBW hus hbs
        go_wp2_with fail
        go_region_with (go_at_call 62; refine (above_any V _ cap fs x wr.drew Hxr.out hl Hf.out hx64).mono ?_; rintro e w2 ⟨v2, rfl, hr2⟩; rw [← Hbs.out] at hr2; obtain ⟨_, a2, cp2, rfl, _⟩ := ownsRow_slI hr2.1)
        all_goals
          have hs2 : wr.heap.size ≤ w2.heap.size := hr2.2.size
          have hB2 : Below wr.heap.size wr w2 := ⟨hr2.2.os, hr2.2.tape, hr2.2.output, hr2.2.size, hr2.2.block⟩
          have hBt := HB.out.trans (hB2.mono hsz)
          have c02 := (hBt.cell (p := ⟨w.heap.size, 0, none⟩) (by simp)).trans (show (w.alloc (.cells #[.int .i64 V, .slice (some ⟨b, off, none⟩) fs.length cap] 26)).cell? ⟨w.heap.size, 0, none⟩ = some (.int .i64 V) by simp [go_sem])
          have c12 := (hBt.cell (p := ⟨w.heap.size, 1, none⟩) (by simp)).trans (show (w.alloc (.cells #[.int .i64 V, .slice (some ⟨b, off, none⟩) fs.length cap] 26)).cell? ⟨w.heap.size, 1, none⟩ = some (.slice (some ⟨b, off, none⟩) fs.length cap) by simp [go_sem])
          have hck2 := (hB2.cell (p := ⟨b, off + k, none⟩) (by show b < wr.heap.size; omega)).trans hck
          have hown2 := ownsRow_below Hown.out hB2 (fun g hg => (Hown.out.lt g hg).2)
          have hsz2 : w.heap.size + 1 ≤ w2.heap.size := by omega
          have HBt := hid hBt
          have hbl : (bs.length : Int) ≤ 1048576 := by omega
          clear hr2 hB2 hBt c0 c1 hck
          by_cases hpx : bs.length = 0
          · have hd : ((bs.length : Int) == 0) = true := by simp [hpx]
            have HP := hid (Hp.out true (decide_eq_true hpx))
            clear hpx Hp
            go_wp2_with (at_builtin; refine append_int rfl rfl hown2 hsz2 (by omega) rfl rfl ?_; intro v' w3 hown3 hgrow3 hB3)
            go_roundw
            case rel => exact ⟨k + 1, by omega, by go_num, by rw [HP.out]; exact hown3, HBt.out.trans hB3⟩
            case measure => simp [intOf]; omega
          · have hd : ((bs.length : Int) == 0) = false := by simp; intro h; exact hpx (by rw [h]; rfl)
            have HP := hid (Hp.out false (decide_eq_false hpx))
            clear hpx Hp
            go_wp2_with fail
            go_roundw
            case rel => exact ⟨k + 1, by omega, by go_num, by rw [HP.out]; simpa using hown2, HBt.out⟩
            case measure => simp [intOf]; omega
      · go_wp2
        go_ret
        obtain rfl : k = fs.length := by omega
        rw [List.take_of_length_le (Nat.le_refl _)] at hown
        exact ⟨_, rfl, ownsRow_base hown (by omega), hBW⟩

/-- What FacetsOf hands back. -/
noncomputable def facetsOfR (V : Int) (fs : List Int) : List Int × Int := if isCB V fs then (facetsL fs, 0) else ([], 1)

theorem facetsOfR_len (V : Int) (fs : List Int) (h : fs.length ≤ 1048576) : (facetsOfR V fs).1.length ≤ 1048576 := by
  unfold facetsOfR
  split
  · exact Nat.le_trans (List.length_filter_le _ _) h
  · simp

end Go.Proofs.Ytmkknfdjoajpcaa
