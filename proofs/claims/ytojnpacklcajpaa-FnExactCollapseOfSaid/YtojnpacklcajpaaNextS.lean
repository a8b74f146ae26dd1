import Derived.Test.YtojnpacklcajpaaSortedF
import Derived.Test.YtojnpacklcajpaaSpecB
import Derived.Test.YtojnpacklcajpaaFw
import Derived.Test.YtojnpacklcajpaaMathL
/-! l02High, l02Next: the steps from a face. -/
namespace Go.Proofs.Ytojnpacklcajpaa
open Go.RowKit

/-- The high face of the first pair with a low face; 0: there is none. -/
def highOf (ps : List Int) (n : Nat) (a : Int) : Int := match (List.range n).find? (fun i => decide (at0 ps (i * 2) = a)) with
  | some i => at0 ps (i * 2 + 1)
  | none => 0
theorem highOf_some {ps : List Int} {n i : Nat} {a : Int} (hi : i < n) (ha : at0 ps (i * 2) = a) (h : ∀ j, j < i → at0 ps (j * 2) ≠ a) : highOf ps n a = at0 ps (i * 2 + 1) := by
  have : (List.range n).find? (fun i => decide (at0 ps (i * 2) = a)) = some i := by
    rw [List.find?_range_eq_some]
    exact ⟨by simp [ha], by simpa using hi, fun j hj => by simpa using h j hj⟩
  unfold highOf
  rw [this]
theorem highOf_none {ps : List Int} {n : Nat} {a : Int} (h : ∀ j, j < n → at0 ps (j * 2) ≠ a) : highOf ps n a = 0 := by
  have : (List.range n).find? (fun i => decide (at0 ps (i * 2) = a)) = none := by
    rw [List.find?_eq_none]
    intro i hi
    simpa using h i (by simpa using hi)
  unfold highOf
  rw [this]
/-- The faces to which steps lead. -/
def nextL (ps : List Int) (n : Nat) (a : Int) : List Int := if highOf ps n a = 0 then [] else (belowR (highOf ps n a).toNat 63).filter fun y => decide (y ≠ a)
theorem nextL_len (ps : List Int) (n : Nat) (a : Int) : (nextL ps n a).length ≤ 63 := by
  unfold nextL
  split
  · simp
  · exact Nat.le_trans (List.length_filter_le _ _) (belowR_len _ _)

/-- 'append' of a number; where the row lies afterwards. -/
theorem append_int_at {w : World} {ops : Array Oper} {rest : List Oper} {o : Oper} {a : Act} {Q : Exit → Act → World → Prop} (hgd : o.guard = none) {s y : Operand}
    (ho : o.op = .call { callee := .builtin .append, args := #[s, y], argTypes := #[22, 22] })
    {base : Nat} {v : Value} {xs : List Int} {x : Int} (hown : w.ownsRow base 2 1 v xs.length (xs.map (Value.int .i64))) (hbase : base ≤ w.heap.size) (hl : xs.length ≤ 1099511627776)
    (hs : a.eval s = v) (hy : a.eval y = .slice (some ⟨w.heap.size, 0, none⟩) 1 1)
    (hK : ∀ v' w', w'.ownsRow base 2 1 v' (xs ++ [x]).length ((xs ++ [x]).map (Value.int .i64)) → w.grownBy w' v.ownBlock → (v'.ownBlock = v.ownBlock ∨ v'.ownBlock = some (w.heap.size + 1)) → Below base w w' → wpList Try.prog ops Q rest (a.put o.dst v') w') :
    wpList Try.prog ops Q (o :: rest) a (w.alloc (.cells #[.int .i64 x] 2)) := by
  obtain ⟨i0, hi, hz0, hz1, hz2⟩ := info_parts info_i64
  refine wpList_append_own_at _ hgd s y 22 ho base 2 i0 (.int .i64 0) 1 8 Try.underlying22 hi hz0 hz1 hz2 rfl (by decide) v _ _ hs (hown.alloc _) ⟨w.heap.size, 0, none⟩ 1 1 [.int .i64 x] hy rfl (cell_one_new _ _ _) (by simp [Value.oneCell']) (by unfold maxLen; omega) (by omega) (by simp; omega) ?_
  intro v' w1 hown1 hgrow1 _ hat
  have hg : w.grownBy w1 v.ownBlock := (World.grownBy_alloc w _ _).trans hgrow1
  exact hK v' w1 (by simpa using hown1) hg (by simpa using hat) ((Below.refl base w).grown hg hbase (fun k hk => (hown.lt k hk).1))

set_option maxRecDepth 100000 in
set_option maxHeartbeats 2000000 in
theorem high_any (a1 : Option Addr) (n cap : Nat) (ps : List Int) (a : Int) (w : World) (hx : SlI w w.heap.size a1 ps) (hp : ps.length = 2 * n) (hl : n ≤ 1048576) :
    Calls Try.prog 125 #[.slice a1 n cap, .int .i64 a] w fun e w' => e = .returned (.int .i64 (highOf ps n a)) ∧ w = w' := by
  obtain ⟨E, hE⟩ : ∃ E, E = highOf ps n a := ⟨_, rfl⟩
  have HE := hid hE
  rw [← hE]
  clear hE
  have Hx := hid hx
  have Hp := hid hp
  clear hx hp
  go_enter Try.func125, Try.ntmps125
  go_wp2
  go_loop [5] (fun i => ∃ k : Nat, k ≤ n ∧ i = .int .i64 k ∧ Hid (∀ j, j < k → at0 ps (j * 2) ≠ a)) (fun i => n - (intOf i).toNat)
  case atStart => exact ⟨0, Nat.zero_le _, rfl, hid (fun j hj => absurd hj (Nat.not_lt_zero _))⟩
  case round =>
    obtain ⟨k, hk, rfl, Hk⟩ := hrel
    by_cases hlt : k < n
    · obtain ⟨b, off, hb, rfl, hc⟩ : ∃ b off, b < w.heap.size ∧ a1 = some ⟨b, off, none⟩ ∧ ∀ i, i < ps.length → w.cell? ⟨b, off + i, none⟩ = some (.int .i64 (ps[i]?.getD 0)) := by
        rcases Hx.out with h | h
        · have := Hp.out; rw [h] at this; simp at this; omega
        · exact h
      have c0 : w.cell? ⟨b, off + k * 2, none⟩ = some (.int .i64 (at0 ps (k * 2))) := hc _ (by have := Hp.out; omega)
      have c1 : w.cell? ⟨b, off + k * 2 + 1, none⟩ = some (.int .i64 (at0 ps (k * 2 + 1))) := hc (k * 2 + 1) (by have := Hp.out; omega)
      obtain ⟨x, hx⟩ : ∃ x, x = at0 ps (k * 2) := ⟨_, rfl⟩
      obtain ⟨y, hy⟩ : ∃ y, y = at0 ps (k * 2 + 1) := ⟨_, rfl⟩
      rw [← hx] at c0
      rw [← hy] at c1
      have hi0 : (0 : Int) ≤ (k : Int) := by omega
      have hi1 : (k : Int) < (n : Int) := by omega
      clear hc
      by_cases hxa : x = a
      · have hd : (x == a) = true := by simp [hxa]
        have He : Hid (E = y) := hid (by rw [HE.out, hy]; exact highOf_some hlt (by rw [← hx, hxa]) Hk.out)
        clear hxa hx hy
        go_wp2
        go_ret
        exact ⟨ret_int (by rw [He.out]), rfl⟩
      · have hd : (x == a) = false := by simp [hxa]
        have He : Hid (∀ j, j < k + 1 → at0 ps (j * 2) ≠ a) := hid (fun j hj => by
          by_cases h : j = k
          · rw [h, ← hx]; exact hxa
          · exact Hk.out j (by omega))
        clear hxa hx hy
        go_wp2
        go_round
        case rel => exact ⟨k + 1, by omega, by go_num, He.out⟩
        case measure => simp [intOf]; omega
    · have He : Hid (E = 0) := hid (by rw [HE.out]; exact highOf_none (fun j hj => Hk.out j (by omega)))
      go_wp2
      go_ret
      exact ⟨ret_int (by rw [He.out]), rfl⟩

theorem owned_some {w : World} {base e size n : Nat} {v : Value} {xs : List Value} (h : w.ownsRow base e size v n xs) (hn : v.ownBlock ≠ none) : ∃ g cap, v = .slice (some ⟨g, 0, none⟩) n cap ∧ n ≤ cap := by
  rcases h.2 with ⟨rfl, _⟩ | ⟨g, cap, cur, rfl, _, _, h1, _⟩
  · exact absurd rfl hn
  · exact ⟨g, cap, rfl, h1⟩

set_option maxRecDepth 100000 in
set_option maxHeartbeats 2000000 in
theorem next_any (a1 : Option Addr) (n cap : Nat) (ps : List Int) (a : Int) (w : World) (hx : SlI w w.heap.size a1 ps) (hp : ps.length = 2 * n) (hl : n ≤ 1048576) (hh : 0 ≤ highOf ps n a ∧ highOf ps n a < 64) :
    Calls Try.prog 111 #[.slice a1 n cap, .int .i64 a] w fun e w' => ∃ g c, e = .returned (.slice (some ⟨g, 0, none⟩) (nextL ps n a).length c) ∧ Res w w' (.slice (some ⟨g, 0, none⟩) (nextL ps n a).length c) (nextL ps n a) := by
  have HI := hid (high_any a1 n cap ps a w hx hp hl)
  obtain ⟨f, hf⟩ : ∃ f : Nat, highOf ps n a = f := ⟨(highOf ps n a).toNat, by omega⟩
  have hN : nextL ps n a = if f = 0 then [] else (belowR f 63).filter fun y => decide (y ≠ a) := by
    unfold nextL
    rw [hf, Int.toNat_natCast]
    by_cases h : f = 0
    · rw [if_pos h, if_pos (by omega)]
    · rw [if_neg h, if_neg (by omega)]
  have hf64 : f < 64 := by omega
  rw [hf] at HI
  rw [hN]
  clear hx hp hh hN hf
  have Hown0 := hid (World.ownsRow_made (base := w.heap.size) (e := 2) (size := 1) w #[] 0 (Nat.le_refl _) (by simp [maxLen]) rfl)
  by_cases h0 : f = 0
  · subst h0
    rw [if_pos rfl]
    go_enter Try.func111, Try.ntmps111
    go_wp2_with (go_at_call 125; refine HI.out.mono ?_; rintro e w' ⟨rfl, rfl⟩)
    go_ret
    exact ⟨w.heap.size, 0, rfl, Hown0.out, (Below.refl _ w).alloc (Nat.le_refl _) _⟩
  · rw [if_neg h0]
    have hne : ((f : Int) == 0) = false := by simp; omega
    obtain ⟨ys, hys⟩ : ∃ ys, ys = belowR f 63 := ⟨_, rfl⟩
    have HB := hid (fun w => below_any f w hf64)
    have hyl : ys.length ≤ 63 := by rw [hys]; exact belowR_len _ _
    rw [← hys] at HB ⊢
    clear hys h0
    go_enter Try.func111, Try.ntmps111
    go_wp2_with (go_at_call 125; refine HI.out.mono ?_; rintro e w' ⟨rfl, rfl⟩)
    refine (HB.out _).mono ?_
    rintro e w2 ⟨v, rfl, hown2, hB2⟩
    obtain ⟨_, av, cv, rfl, hs⟩ := ownsRow_slI hown2
    have hown1 := ownsRow_below Hown0.out hB2 (fun g hg => (Hown0.out.lt g hg).2)
    have hB12 : Below w.heap.size w w2 := ((Below.refl _ w).alloc (Nat.le_refl _) _).trans (hB2.mono (by simp))
    have hb0 : ∀ b off, av = some ⟨b, off, none⟩ → w.heap.size + 1 ≤ b := fun b off h => by
      have := (hown2.lt b (by rw [h]; rfl)).1
      simpa using this
    have Hown1 := hid hown1
    have HB12 := hid hB12
    clear hown1 hB12 hown2 hB2
    rcases hs with rfl | ⟨b, off, hb, rfl, hc⟩
    · go_wp2_with fail
      refine wp_loop_rounds 1 ?_; rw [rounds_succ]
      go_wp2
      go_ret
      exact ⟨w.heap.size, 0, rfl, Hown1.out, HB12.out⟩
    · have hbw := hb0 b off rfl
      have Hc := hid hc
      clear hc hb0
      go_wp2_with fail
      go_loopw [6, 8] (fun v i wr => ∃ k : Nat, k ≤ ys.length ∧ i = .int .i64 k ∧ wr.ownsRow w.heap.size 2 1 v ((ys.take k).filter fun y => decide (y ≠ a)).length (((ys.take k).filter fun y => decide (y ≠ a)).map (Value.int .i64)) ∧ v.ownBlock ≠ none ∧ v.ownBlock ≠ some b ∧ Hid (b < wr.heap.size ∧ ∀ i, i < ys.length → wr.cell? ⟨b, off + i, none⟩ = some (.int .i64 (ys[i]?.getD 0))) ∧ Below w.heap.size w wr) (fun _ i _ => ys.length - (intOf i).toNat)
      case atStart => exact ⟨0, Nat.zero_le _, rfl, Hown1.out, by simp [Value.ownBlock], by simp [Value.ownBlock]; omega, hid ⟨hb, Hc.out⟩, HB12.out⟩
      case round =>
        obtain ⟨k, hk, rfl, hown, hnn, hne', HC, hB⟩ := hrel
        by_cases hlt : k < ys.length
        · obtain ⟨y, hy⟩ : ∃ y, y = ys[k]?.getD 0 := ⟨_, rfl⟩
          have hck : wr.cell? ⟨b, off + k, none⟩ = some (.int .i64 y) := by rw [hy]; exact HC.out.2 k hlt
          have Htk : Hid (ys.take (k + 1) = ys.take k ++ [y]) := hid (by rw [take_snoc hlt, hy])
          have hi0 : (0 : Int) ≤ (k : Int) := by omega
          have hi1 : (k : Int) < (ys.length : Int) := by omega
          have hfl : ((ys.take k).filter fun y => decide (y ≠ a)).length ≤ 1048576 := Nat.le_trans (List.length_filter_le _ _) (by simp; omega)
          have hsz := hB.size
          have HB' := hid hB
          have Hown := hid hown
          clear hy hown hB
          by_cases hya : y = a
          · have hd : (y != a) = false := by simp [hya]
            have He : Hid ((ys.take (k + 1)).filter (fun y => decide (y ≠ a)) = (ys.take k).filter (fun y => decide (y ≠ a))) := hid (by rw [Htk.out, List.filter_append]; simp [hya])
            clear hya
            go_wp2_with fail
            go_roundw
            case rel => exact ⟨k + 1, by omega, by go_num, by rw [He.out]; exact Hown.out, hnn, hne', HC, HB'.out⟩
            case measure => simp [intOf]; omega
          · have hd : (y != a) = true := by simp [hya]
            have He : Hid ((ys.take (k + 1)).filter (fun y => decide (y ≠ a)) = (ys.take k).filter (fun y => decide (y ≠ a)) ++ [y]) := hid (by rw [Htk.out, List.filter_append]; simp [hya])
            clear hya
            go_wp2_with (at_builtin; refine append_int_at rfl rfl Hown.out hsz (by omega) rfl rfl ?_; intro v' w4 hown4 hgrow4 hat4 hB4)
            go_roundw
            case rel =>
              have hbn := HC.out.1
              refine ⟨k + 1, by omega, by go_num, by rw [He.out]; exact hown4, ?_, ?_, hid ⟨Nat.lt_of_lt_of_le hbn hB4.size, fun i hi => ?_⟩, HB'.out.trans hB4⟩
              · rcases hat4 with h | h
                · rw [h]; exact hnn
                · rw [h]; intro e; cases e
              · rcases hat4 with h | h
                · rw [h]; exact hne'
                · rw [h]; intro e; injection e with e; omega
              · rw [hgrow4.cell_far _ hbn (fun e => hne' e.symm)]; exact HC.out.2 i hi
            case measure => simp [intOf]; omega
        · obtain rfl : k = ys.length := by omega
          rw [List.take_length] at hown
          have HB' := hid hB
          have Hown := hid hown
          clear hB hown
          go_wp2_with fail
          obtain ⟨g, c, rfl, _⟩ := owned_some Hown.out hnn
          go_ret
          exact ⟨g, c, rfl, Hown.out, HB'.out⟩

end Go.Proofs.Ytojnpacklcajpaa
