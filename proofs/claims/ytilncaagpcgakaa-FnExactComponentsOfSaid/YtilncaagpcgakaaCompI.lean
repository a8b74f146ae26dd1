import Derived.Test.YtilncaagpcgakaaCompM
import Derived.Test.YtilncaagpcgakaaDim
import Derived.Test.YtilncaagpcgakaaCx
/-! The component of a vertex, the program's. -/
namespace Go.Proofs.Ytilncaagpcgakaa
open Go.RowKit

theorem sub_le {a b : Nat} (h : a &&& b = a) : a ≤ b := by rw [← h]; exact Nat.and_le_right
theorem and_int {x y : Nat} (hx : x < 64) (hy : y < 64) : bits BinOp.and IntKind.i64 (x : Int) (y : Int) = ((x &&& y : Nat) : Int) := (bits_nat .i64 6 (by decide) (fun n h0 h1 => by rw [IntKind.wrap_i64]; omega) x y (by omega) (by omega)).1
theorem or_int {x y : Nat} (hx : x < 64) (hy : y < 64) : bits BinOp.or IntKind.i64 (x : Int) (y : Int) = ((x ||| y : Nat) : Int) := (bits_nat .i64 6 (by decide) (fun n h0 h1 => by rw [IntKind.wrap_i64]; omega) x y (by omega) (by omega)).2

/-- The edges among the first k faces are not halfway in c. -/
def EdTo (fs : List Int) (k c : Nat) : Prop := ∀ j, j < k → ones (fs[j]?.getD 0).toNat = 2 → (fs[j]?.getD 0).toNat &&& c ≠ 0 → (fs[j]?.getD 0).toNat &&& c = (fs[j]?.getD 0).toNat
theorem edTo_all {fs : List Int} {c : Nat} (h : EdTo fs fs.length c) : ClE fs c := by
  intro x hx h1 h2
  obtain ⟨j, hj, rfl⟩ := List.getElem_of_mem hx
  have := h j hj
  rw [List.getElem?_eq_getElem hj] at this
  exact this h1 h2

set_option maxRecDepth 100000 in
set_option maxHeartbeats 4000000 in
theorem cwi_any (V : Int) (a0 : Option Addr) (cap : Nat) (fs : List Int) (s : Nat) (w : World) (hx : SlI w w.heap.size a0 fs) (hl : fs.length ≤ 1048576) (hC : IsC V fs) (hs : s < 64) (hs0 : s ≠ 0) :
    Calls Try.prog 71 #[.agg #[.int .i64 V, .slice a0 fs.length cap], .int .i64 (s : Int)] w fun e w' => e = .returned (.int .i64 (cloN fs s : Int)) ∧ Below w.heap.size w w' := by
  obtain ⟨W, hW⟩ : ∃ W, W = w.alloc (.cells #[.int .i64 V, .slice a0 fs.length cap] 30) := ⟨_, rfl⟩
  have hB0 : Below w.heap.size w W := by rw [hW]; exact (Below.refl _ w).alloc (Nat.le_refl _) _
  have q0 : W.heap[w.heap.size]? = some (.cells #[.int .i64 V, .slice a0 fs.length cap] 30 (0, 0)) := by rw [hW]; exact heap_alloc_new _ _
  obtain ⟨k0, k1, _, _⟩ := two_of q0
  have HW := hid hW
  have HB0 := hid hB0
  have Hx0 := hid hx
  have HC := hid hC
  have Hf := hid hC.range63
  clear hW hB0 q0 hx hC
  go_enter Try.func71, Try.ntmps71
  go_wp2_with fail
  rw [← HW.out]
  go_loopw [5, 6] (fun p q wr => ∃ c b : Nat, p = .int .i64 c ∧ q = .int .i64 b ∧ Mid fs s c ∧ Hid (b = c → ClE fs c) ∧ wr = W) (fun p q _ => 2 * (64 - (intOf p).toNat) + (if intOf q = intOf p then 0 else 1))
  case atStart => exact ⟨s, 0, rfl, rfl, Mid.start hs, hid (fun e => absurd e.symm hs0), rfl⟩
  case round =>
    obtain ⟨c, b, rfl, rfl, hm, Hcl, rfl⟩ := hrel
    have HM := hid hm
    have hc64 := hm.lt
    clear hm
    by_cases hbc : b = c
    · have hd : ((b : Int) != (c : Int)) = false := by simp [hbc]
      have He := hid (cloN_eq (HM.out.done (clE_clF HC.out hc64 (Hcl.out hbc))))
      clear hbc
      go_wp2
      go_ret
      exact ⟨ret_int (by rw [He.out]), HB0.out⟩
    · have hd : ((b : Int) != (c : Int)) = true := by simp; omega
      have Hbc := hid hbc
      clear hbc Hcl
      go_wp2
      go_loopw [5, 17] (fun p i wx => ∃ c' k : Nat, p = .int .i64 c' ∧ i = .int .i64 k ∧ k ≤ fs.length ∧ Mid fs s c' ∧ Hid (c &&& c' = c) ∧ Hid (c' = c → EdTo fs k c') ∧ wx = wr) (fun _ i _ => fs.length - (intOf i).toNat)
      case atStart => exact ⟨c, 0, rfl, rfl, Nat.zero_le _, HM.out, hid (Nat.and_self c), hid (fun _ j hj => by omega), rfl⟩
      case round =>
        obtain ⟨c', k, rfl, rfl, hk, hm', Hcc, Hed, rfl⟩ := hrel
        have HM' := hid hm'
        have hc'64 := hm'.lt
        clear hm' HM
        by_cases hlt : k < fs.length
        · obtain ⟨b1, off, hb, rfl, hcell⟩ : ∃ b off, b < w.heap.size ∧ a0 = some ⟨b, off, none⟩ ∧ ∀ i, i < fs.length → w.cell? ⟨b, off + i, none⟩ = some (.int .i64 (fs[i]?.getD 0)) := by
            rcases Hx0.out with h | h
            · rw [h] at hlt; simp at hlt
            · exact h
          have hxm := getD_mem hlt
          obtain ⟨x, hx⟩ : ∃ x : Nat, (x : Int) = fs[k]?.getD 0 := ⟨(fs[k]?.getD 0).toNat, by have := Hf.out _ hxm; omega⟩
          rw [← hx] at hxm
          have hxr := Hf.out _ hxm
          have hx64 : x < 64 := by omega
          have hck : wr.cell? ⟨b1, off + k, none⟩ = some (.int .i64 (x : Int)) := (HB0.out.cell (p := ⟨b1, off + k, none⟩) hb).trans (by rw [hx]; exact hcell k hlt)
          have hi0 : (0 : Int) ≤ (k : Int) := by omega
          have hi1 : (k : Int) < (fs.length : Int) := by omega
          have ho := ones_le x
          have Hn : Hid (∀ c'', (∀ j, j < k → ones (fs[j]?.getD 0).toNat = 2 → (fs[j]?.getD 0).toNat &&& c'' ≠ 0 → (fs[j]?.getD 0).toNat &&& c'' = (fs[j]?.getD 0).toNat) → (ones x = 2 → x &&& c'' ≠ 0 → x &&& c'' = x) → EdTo fs (k + 1) c'') := hid (fun c'' h1 h2 j hj => by
            by_cases hjk : j < k
            · exact h1 j hjk
            · obtain rfl : j = k := by omega
              rw [← hx, Int.toNat_natCast]; exact h2)
          have hand := and_int hx64 hc'64
          have hor := or_int hc'64 hx64
          have Hxm := hid hxm
          clear hx hcell hxm hxr
          by_cases h2 : ones x = 2
          · have hd2 : ((ones x : Int) - 1 == 1) = true := by simp; omega
            by_cases hmt : x &&& c' = 0
            · have hd3 : (((x &&& c' : Nat) : Int) != 0) = false := by simp [hmt]
              have He := hid (fun e : c' = c => Hn.out c' (Hed.out e) (fun _ h => absurd hmt h))
              clear h2 hmt
              go_wp2_with (go_at_call 59; refine (dim_any x _ hx64).mono ?_; rintro e w' ⟨rfl, rfl⟩)
              go_roundw
              case rel => exact ⟨c', k + 1, by go_num, by go_num, by omega, HM'.out, Hcc.out, He.out, trivial⟩
              case measure => simp [intOf]; omega
            · have hd3 : (((x &&& c' : Nat) : Int) != 0) = true := by simp; omega
              have HM2 := hid (HM'.out.step Hxm.out (by rw [Int.toNat_natCast]; exact hx64) (by rw [Int.toNat_natCast]; exact hmt))
              rw [Int.toNat_natCast] at HM2
              have He : Hid (c' ||| x = c → EdTo fs (k + 1) (c' ||| x)) := hid (fun e => by
                by_cases hsub : x &&& c' = x
                · have hsame := or_same ⟨c', hc'64⟩ ⟨x, hx64⟩ hsub
                  simp only at hsame
                  rw [hsame] at e ⊢
                  exact Hn.out c' (Hed.out e) (fun _ _ => hsub)
                · have hg := or_gt ⟨c', hc'64⟩ ⟨x, hx64⟩ hsub
                  simp only at hg
                  have := sub_le Hcc.out
                  omega)
              have Hcc2 := hid (sub_or (b := x) Hcc.out)
              clear h2 hmt
              go_wp2_with (go_at_call 59; refine (dim_any x _ hx64).mono ?_; rintro e w' ⟨rfl, rfl⟩)
              go_roundw
              case rel => exact ⟨c' ||| x, k + 1, by go_num, by go_num, by omega, HM2.out, Hcc2.out, He.out, trivial⟩
              case measure => simp [intOf]; omega
          · have hd2 : ((ones x : Int) - 1 == 1) = false := by simp; omega
            have He := hid (fun e : c' = c => Hn.out c' (Hed.out e) (fun h => absurd h h2))
            clear h2
            go_wp2_with (go_at_call 59; refine (dim_any x _ hx64).mono ?_; rintro e w' ⟨rfl, rfl⟩)
            go_roundw
            case rel => exact ⟨c', k + 1, by go_num, by go_num, by omega, HM'.out, Hcc.out, He.out, trivial⟩
            case measure => simp [intOf]; omega
        · obtain rfl : k = fs.length := by omega
          have He : Hid (c = c' → ClE fs c') := hid (fun e => edTo_all (Hed.out e.symm))
          have hle := sub_le Hcc.out
          have hbc := Hbc.out
          go_wp2
          go_roundw
          case rel => exact ⟨c', c, by go_num, by go_num, HM'.out, He.out, trivial⟩
          case measure =>
            have hcc := HM'.out.lt
            show 2 * (64 - (c' : Int).toNat) + (if (c : Int) = (c' : Int) then 0 else 1) < 2 * (64 - (c : Int).toNat) + (if (b : Int) = (c : Int) then 0 else 1)
            rw [if_neg (show ¬ (b : Int) = (c : Int) by omega)]
            by_cases e2 : (c : Int) = (c' : Int)
            · rw [if_pos e2]; omega
            · rw [if_neg e2]; omega

end Go.Proofs.Ytilncaagpcgakaa
