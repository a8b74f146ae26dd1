import Derived.Test.YtmkknfdjoajpcaaValues
/-! l07Goes, the model's. -/
namespace Go.Proofs.Ytmkknfdjoajpcaa
open Go.RowKit Go.Shelf

/-- The faces ahead, for one vertex: do they put it into the restriction? -/
def shF (f bit : Int) (os : List Int) (r : Int) : Int := os.foldl (fun r o => if (bits BinOp.and IntKind.i64 o (wrap64 (f - bit)) == wrap64 (f - bit)) = true then bits BinOp.or IntKind.i64 r bit else r) r
/-- The restriction after k vertices. -/
def shR (f : Int) (os : List Int) : Nat → Int
  | 0 => 0
  | v + 1 => if (bits BinOp.and IntKind.i64 f (wrap64 (2 ^ v)) == 0) = true then shR f os v else shF f (wrap64 (2 ^ v)) os (shR f os v)
/-- Does f go on with os? -/
def shG (f : Int) (os : List Int) : Bool := os.all fun o => !(bits BinOp.and IntKind.i64 o (shR f os 6) == shR f os 6)

theorem shF_snoc (f bit : Int) (os : List Int) (r : Int) {m : Nat} (hm : m < os.length) : shF f bit (os.take (m + 1)) r = if (bits BinOp.and IntKind.i64 (os[m]?.getD 0) (wrap64 (f - bit)) == wrap64 (f - bit)) = true then bits BinOp.or IntKind.i64 (shF f bit (os.take m) r) bit else shF f bit (os.take m) r := by
  unfold shF
  rw [take_snoc hm, List.foldl_append]
  rfl

set_option maxRecDepth 100000 in
set_option maxHeartbeats 2000000 in
theorem goes_any (a : Option Addr) (cap : Nat) (os : List Int) (f : Int) (w : World) (hx : SlI w w.heap.size a os) (hl : os.length ≤ 1048576) :
    Calls Try.prog 110 #[.slice a os.length cap, .int .i64 f] w fun e w' => e = .returned (.tuple #[.bool (shG f os), .int .i64 (shR f os 6)]) ∧ w = w' := by
  have Hx := hid hx
  obtain ⟨E, hE⟩ : ∃ E, E = shG f os := ⟨_, rfl⟩
  obtain ⟨R6, hR6⟩ : ∃ E, E = shR f os 6 := ⟨_, rfl⟩
  have HE0 := hid hE
  have HR0 := hid hR6
  rw [← hE, ← hR6]
  clear hx hE hR6
  go_enter Try.func110, Try.ntmps110
  go_wp2_with fail
  go_loop [6, 7] (fun r v => ∃ k : Nat, k ≤ 6 ∧ v = .int .i64 k ∧ r = .int .i64 (shR f os k)) (fun _ v => 6 - (intOf v).toNat)
  case atStart => exact ⟨0, by omega, rfl, rfl⟩
  case round =>
    obtain ⟨k, hk, rfl, rfl⟩ := hrel
    obtain ⟨r, hr⟩ : ∃ r, r = shR f os k := ⟨_, rfl⟩
    rw [← hr]
    by_cases hlt : k < 6
    · have hki : (k : Int) < 6 := by omega
      have hk0 : (0 : Int) ≤ (k : Int) := by omega
      obtain ⟨bt, hbt⟩ : ∃ b, b = wrap64 (2 ^ k) := ⟨_, rfl⟩
      have Hs : Hid (shR f os (k + 1) = if (bits BinOp.and IntKind.i64 f bt == 0) = true then r else shF f bt os r) := hid (by rw [hbt, hr]; rfl)
      obtain ⟨z, hz⟩ : ∃ z, (bits BinOp.and IntKind.i64 f bt == 0) = z := ⟨_, rfl⟩
      rw [hz] at Hs
      have hbw := hbt.symm
      clear hbt hr
      cases z
      · go_wp2_with fail
        go_loop [6, 9] (fun q j => ∃ m : Nat, m ≤ os.length ∧ j = .int .i64 m ∧ q = .int .i64 (shF f bt (os.take m) r)) (fun _ j => os.length - (intOf j).toNat)
        case atStart => exact ⟨0, Nat.zero_le _, rfl, rfl⟩
        case round =>
          obtain ⟨m, hm, rfl, rfl⟩ := hrel
          by_cases hlm : m < os.length
          · obtain ⟨b, off, hb, rfl, hc⟩ : ∃ b off, b < w.heap.size ∧ a = some ⟨b, off, none⟩ ∧ ∀ i, i < os.length → w.cell? ⟨b, off + i, none⟩ = some (.int .i64 (os[i]?.getD 0)) := by
              rcases Hx.out with h | h
              · rw [h] at hlm; simp at hlm
              · exact h
            have Hm := hid (shF_snoc f bt os r hlm)
            have c0 := hc m hlm
            obtain ⟨o, ho⟩ : ∃ o, o = os[m]?.getD 0 := ⟨_, rfl⟩
            obtain ⟨q, hq⟩ : ∃ q, q = shF f bt (os.take m) r := ⟨_, rfl⟩
            rw [← ho, ← hq] at Hm
            rw [← ho] at c0
            rw [← hq]
            obtain ⟨g, hg⟩ : ∃ g, (bits BinOp.and IntKind.i64 o (wrap64 (f - bt)) == wrap64 (f - bt)) = g := ⟨_, rfl⟩
            rw [hg] at Hm
            have hi0 : (0 : Int) ≤ (m : Int) := by omega
            have hi1 : (m : Int) < (os.length : Int) := by omega
            clear hc ho hq
            cases g
            · go_wp2_with fail
              go_round
              case rel => exact ⟨m + 1, by omega, by go_num, by rw [Hm.out]; rfl⟩
              case measure => simp [intOf]; omega
            · go_wp2_with fail
              go_round
              case rel => exact ⟨m + 1, by omega, by go_num, by rw [Hm.out]; rfl⟩
              case measure => simp [intOf]; omega
          · have Hm := hid (show shF f bt (os.take m) r = shF f bt os r by rw [List.take_of_length_le (by omega)])
            go_wp2_with fail
            go_round
            case rel => exact ⟨k + 1, by omega, by go_num, by rw [Hs.out, Hm.out]; rfl⟩
            case measure => simp [intOf]; omega
      · go_wp2_with fail
        go_round
        case rel => exact ⟨k + 1, by omega, by go_num, by rw [Hs.out]; rfl⟩
        case measure => simp [intOf]; omega
    · have hk6 : k = 6 := by omega
      have HE : Hid (E = os.all fun o => !(bits BinOp.and IntKind.i64 o r == r)) := hid (by rw [HE0.out, hr, hk6]; rfl)
      have HR : Hid (R6 = r) := hid (by rw [HR0.out, hr, hk6])
      clear hr
      go_wp2_with fail
      go_loop [10] (fun j => ∃ m : Nat, m ≤ os.length ∧ j = .int .i64 m ∧ Hid ((os.take m).all (fun o => !(bits BinOp.and IntKind.i64 o r == r)) = true)) (fun j => os.length - (intOf j).toNat)
      case atStart => exact ⟨0, Nat.zero_le _, rfl, hid rfl⟩
      case round =>
        obtain ⟨m, hm, rfl, Hm⟩ := hrel
        by_cases hlm : m < os.length
        · obtain ⟨b, off, hb, rfl, hc⟩ : ∃ b off, b < w.heap.size ∧ a = some ⟨b, off, none⟩ ∧ ∀ i, i < os.length → w.cell? ⟨b, off + i, none⟩ = some (.int .i64 (os[i]?.getD 0)) := by
            rcases Hx.out with h | h
            · rw [h] at hlm; simp at hlm
            · exact h
          have c0 := hc m hlm
          obtain ⟨o, ho⟩ : ∃ o, o = os[m]?.getD 0 := ⟨_, rfl⟩
          obtain ⟨g, hg⟩ : ∃ g, (bits BinOp.and IntKind.i64 o r == r) = g := ⟨_, rfl⟩
          have Hn : Hid ((os.take (m + 1)).all (fun o => !(bits BinOp.and IntKind.i64 o r == r)) = !g) := hid (by
            rw [take_snoc hlm, List.all_append, Hm.out, ← ho]
            simp [hg])
          have Hb : Hid (g = true → E = false) := hid (fun e => by
            rw [HE.out, List.all_eq_false]
            exact ⟨o, by rw [ho]; exact getD_mem hlm, by rw [hg, e]; simp⟩)
          rw [← ho] at c0
          have hi0 : (0 : Int) ≤ (m : Int) := by omega
          have hi1 : (m : Int) < (os.length : Int) := by omega
          clear hc ho
          cases g
          · go_wp2_with fail
            go_round
            case rel => exact ⟨m + 1, by omega, by go_num, Hn⟩
            case measure => simp [intOf]; omega
          · have He := hid (Hb.out rfl)
            go_wp2_with fail
            go_ret2
            rw [He.out, HR.out]
            exact ⟨rfl, rfl⟩
        · have He := hid (show E = true by rw [HE.out]; have h := Hm.out; rwa [List.take_of_length_le (by omega)] at h)
          go_wp2_with fail
          go_ret2
          rw [He.out, HR.out]
          exact ⟨rfl, rfl⟩

end Go.Proofs.Ytmkknfdjoajpcaa
