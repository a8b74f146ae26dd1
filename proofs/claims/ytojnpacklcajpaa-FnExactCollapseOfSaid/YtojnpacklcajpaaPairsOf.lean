import Derived.Test.YtojnpacklcajpaaPairMath
import Derived.Test.YtojnpacklcajpaaLawsP
/-! The program's list of all pairs. -/
namespace Go.Proofs.Ytojnpacklcajpaa
open Go.RowKit

/-- 'out = append(out, p)' on a list of pairs that the call itself has made. -/
theorem append_pair {w : World} {ops : Array Oper} {rest : List Oper} {o : Oper} {a : Act} {Q : Exit → Act → World → Prop} (hgd : o.guard = none) {s y : Operand}
    (ho : o.op = .call { callee := .builtin .append, args := #[s, y], argTypes := #[26, 26] })
    {base : Nat} {v : Value} {L : List (Int × Int)} {x x' : Int} (hown : w.ownsRow base 63 2 v L.length ((flatP L).map (Value.int .i64))) (hbase : base ≤ w.heap.size) (hl : L.length ≤ 1099511627776)
    (hs : a.eval s = v) (hy : a.eval y = .slice (some ⟨w.heap.size, 0, none⟩) 1 1)
    (hK : ∀ v' w', w'.ownsRow base 63 2 v' (L ++ [(x, x')]).length ((flatP (L ++ [(x, x')])).map (Value.int .i64)) → w.grownBy w' v.ownBlock → Below base w w' → wpList Try.prog ops Q rest (a.put o.dst v') w') :
    wpList Try.prog ops Q (o :: rest) a (w.alloc (.cells #[.int .i64 x, .int .i64 x'] 63)) := by
  obtain ⟨i0, hi, hz0, hz1, hz2⟩ := info_parts info_pair
  refine wpList_append_own _ hgd s y 26 ho base 63 i0 (.agg #[.int .i64 0, .int .i64 0]) 2 16 Try.underlying26 hi hz0 hz1 hz2 rfl (by decide) v _ _ hs (hown.alloc _) ⟨w.heap.size, 0, none⟩ 1 1 [.int .i64 x, .int .i64 x'] hy rfl ?_ (by simp [Value.oneCell']) (by unfold maxLen; omega) (by omega) (by simp; omega) ?_
  · intro j u hj
    match j, hj with
    | 0, hj => simp at hj; subst hj; simp [go_sem, Addr.add]
    | 1, hj => simp at hj; subst hj; simp [go_sem, Addr.add]
    | j + 2, hj => simp at hj
  · intro v' w1 hown1 hgrow1 _
    have hg : w.grownBy w1 v.ownBlock := (World.grownBy_alloc w _ _).trans hgrow1
    refine hK v' w1 (by rw [flatP_snoc]; simpa using hown1) hg ((Below.refl base w).grown hg hbase (fun k hk => (hown.lt k hk).1))

set_option maxRecDepth 100000 in
set_option maxHeartbeats 4000000 in
theorem pairsOf_any (vn : Nat) (a0 : Option Addr) (cap : Nat) (fs : List Int) (w : World) (hx : SlI w w.heap.size a0 fs) (hl : fs.length ≤ 1048576) (hC : IsC (vn : Int) fs) :
    Calls Try.prog 129 #[.agg #[.int .i64 vn, .slice a0 fs.length cap]] w fun e w' => ∃ v, e = .returned v ∧ w'.ownsRow (w.heap.size + 1) 63 2 v (pairsL fs vn fs.length).length ((flatP (pairsL fs vn fs.length)).map (Value.int .i64)) ∧ Below w.heap.size w w' := by
  have hB0 : Hid (Below w.heap.size w (w.alloc (.cells #[.int .i64 vn, .slice a0 fs.length cap] 29))) := hid ((Below.refl _ w).alloc (Nat.le_refl _) _)
  have hvn : vn ≤ 6 := by have := hC.hi; omega
  have Hf := hid hC.range63
  clear hC
  rcases hx with rfl | ⟨b, off, hb, rfl, hc⟩
  · go_enter Try.func129, Try.ntmps129
    go_wp2
    refine wp_loop_rounds 1 ?_; rw [rounds_succ]
    go_wp2
    go_ret
    exact ⟨_, rfl, World.ownsRow_nil _ _ _ _, hB0.out⟩
  · have Hc := hid hc
    clear hc
    go_enter Try.func129, Try.ntmps129
    go_wp2
    go_loopw [3, 11] (fun v i wr => ∃ k : Nat, k ≤ fs.length ∧ i = .int .i64 k ∧ wr.ownsRow (w.heap.size + 1) 63 2 v (pairsL fs vn k).length ((flatP (pairsL fs vn k)).map (Value.int .i64)) ∧
        Below (w.heap.size + 1) (w.alloc (.cells #[.int .i64 vn, .slice (some ⟨b, off, none⟩) fs.length cap] 29)) wr) (fun _ i _ => fs.length - (intOf i).toNat)
    case atStart => exact ⟨0, Nat.zero_le _, rfl, World.ownsRow_nil _ _ _ _, Below.refl _ _⟩
    case round =>
      obtain ⟨k, hk, rfl, hown, hB⟩ := hrel
      by_cases hlt : k < fs.length
      · have hfk := Hf.out _ (getD_mem hlt)
        obtain ⟨x, hx⟩ : ∃ x : Nat, (x : Int) = fs[k]?.getD 0 := ⟨(fs[k]?.getD 0).toNat, by omega⟩
        have hx64 : x < 64 := by omega
        have hck : wr.cell? ⟨b, off + k, none⟩ = some (.int .i64 (x : Int)) := by rw [hx]; exact ((hB0.out.trans (hB.mono (Nat.le_succ _))).cell (p := ⟨b, off + k, none⟩) hb).trans (Hc.out k hlt)
        have c0 : wr.cell? ⟨w.heap.size, 0, none⟩ = some (.int .i64 vn) := (hB.cell (p := ⟨w.heap.size, 0, none⟩) (by simp)).trans (by simp [go_sem])
        have Hsn : Hid (pairsL fs vn (k + 1) = pairsL fs vn k ++ upS fs x vn) := hid (by rw [pairsL_succ hlt, ← hx]; rfl)
        have hi0 : (0 : Int) ≤ (k : Int) := by omega
        have hi1 : (k : Int) < (fs.length : Int) := by omega
        have Hpl := hid (pairsL_len fs vn k hk)
        have HB := hid hB
        have Hown := hid hown
        clear hx hfk hB hown
        go_wp2
        clear hck c0 hi0 hi1
        go_loopw [3, 17] (fun v j wr => ∃ m : Nat, m ≤ vn ∧ j = .int .i64 m ∧ wr.ownsRow (w.heap.size + 1) 63 2 v (pairsL fs vn k ++ upS fs x m).length ((flatP (pairsL fs vn k ++ upS fs x m)).map (Value.int .i64)) ∧
            Below (w.heap.size + 1) (w.alloc (.cells #[.int .i64 vn, .slice (some ⟨b, off, none⟩) fs.length cap] 29)) wr) (fun _ j _ => vn - (intOf j).toNat)
        case atStart => exact ⟨0, Nat.zero_le _, rfl, by simpa [upS] using Hown.out, HB.out⟩
        case round =>
          clear HB Hown
          obtain ⟨m, hm, rfl, hown, hB⟩ := hrel
          by_cases hltm : m < vn
          · have c0 : wr.cell? ⟨w.heap.size, 0, none⟩ = some (.int .i64 vn) := (hB.cell (p := ⟨w.heap.size, 0, none⟩) (by simp)).trans (by simp [go_sem])
            have c1 : wr.cell? ⟨w.heap.size, 1, none⟩ = some (.slice (some ⟨b, off, none⟩) fs.length cap) := (hB.cell (p := ⟨w.heap.size, 1, none⟩) (by simp)).trans (by simp [go_sem])
            have hp2 : (2 : Nat) ^ m ≤ 32 := by have := Nat.pow_le_pow_right (n := 2) (by decide) (show m ≤ 5 by omega); omega
            have hor : bits BinOp.or IntKind.i64 (x : Int) (wrap64 (2 ^ m)) = ((x ||| 2 ^ m : Nat) : Int) := by rw [pow_wrap (show m ≤ 62 by omega)]; exact (bits_nat .i64 6 (by decide) (fun n h0 h1 => by rw [IntKind.wrap_i64]; omega) x (2 ^ m) (by omega) (by omega)).2
            have Hup := hid (upS_succ fs x m)
            have Hln : Hid ((pairsL fs vn k ++ upS fs x m).length ≤ 1099511627776) := hid (by
              have := Hpl.out
              have h1 := upS_len fs x m
              have h2 := Nat.mul_le_mul hk hvn
              rw [List.length_append]
              omega)
            obtain ⟨y, hy⟩ : ∃ y, y = x ||| 2 ^ m := ⟨_, rfl⟩
            rw [← hy] at hor Hup
            have hy64 : y < 64 := by rw [hy]; exact Nat.or_lt_two_pow (n := 6) (by omega) (by omega)
            have hm0 : (0 : Int) ≤ (m : Int) := by omega
            have hm1 : (m : Int) < (vn : Int) := by omega
            have hsz := hB.size
            simp only [World.size_alloc] at hsz
            have Hx1 : Hid (SlI wr wr.heap.size (some ⟨b, off, none⟩) fs) := hid (SlI.later (w := w) (Or.inr ⟨b, off, hb, rfl, Hc.out⟩) (hB0.out.trans (hB.mono (Nat.le_succ _))) (hB0.out.trans (hB.mono (Nat.le_succ _))).size)
            have Hown := hid hown
            have HB := hid hB
            clear hy hown hB hp2
            by_cases hyx : y = x
            · have hd : ((y : Int) != (x : Int)) = false := by simp [hyx]
              have He := hid (Hup.out false (by simp [hyx]))
              clear hyx Hup
              go_wp2_with fail
              go_roundw
              case rel => exact ⟨m + 1, by omega, by go_num, by rw [He.out]; simpa using Hown.out, HB.out⟩
              case measure => simp [intOf]; omega
            · have hd : ((y : Int) != (x : Int)) = true := by simp; omega
              by_cases hym : (y : Int) ∈ fs
              · have He := hid (Hup.out true (by simp [hyx, hym]))
                have CC := hid (contains_any (some ⟨b, off, none⟩) cap fs (y : Int) wr Hx1.out hl)
                rw [decide_eq_true hym] at CC
                clear hyx hym Hup Hx1
                go_wp2_with (first
                  | (go_at_call 94; refine CC.out.mono ?_; rintro e w' ⟨rfl, rfl⟩)
                  | (at_builtin; refine append_pair rfl rfl Hown.out hsz Hln.out rfl rfl ?_; intro v' w2 hown2 hgrow2 hB2))
                go_roundw
                case rel => exact ⟨m + 1, by omega, by go_num, by rw [He.out, if_pos trivial, ← List.append_assoc]; exact hown2, HB.out.trans hB2⟩
                case measure => simp [intOf]; omega
              · have He := hid (Hup.out false (by simp [hym]))
                have CC := hid (contains_any (some ⟨b, off, none⟩) cap fs (y : Int) wr Hx1.out hl)
                rw [decide_eq_false hym] at CC
                clear hyx hym Hup Hx1
                go_wp2_with (go_at_call 94; refine CC.out.mono ?_; rintro e w' ⟨rfl, rfl⟩)
                go_roundw
                case rel => exact ⟨m + 1, by omega, by go_num, by rw [He.out]; simpa using Hown.out, HB.out⟩
                case measure => simp [intOf]; omega
          · obtain rfl : m = vn := by omega
            have Hown := hid hown
            have HB := hid hB
            clear hown hB
            go_wp2
            go_roundw
            case rel => exact ⟨k + 1, by omega, by go_num, by rw [Hsn.out]; exact Hown.out, HB.out⟩
            case measure => simp [intOf]; omega
      · obtain rfl : k = fs.length := by omega
        go_wp2
        go_ret
        exact ⟨_, rfl, hown, hB0.out.trans (hB.mono (Nat.le_succ _))⟩

end Go.Proofs.Ytojnpacklcajpaa
