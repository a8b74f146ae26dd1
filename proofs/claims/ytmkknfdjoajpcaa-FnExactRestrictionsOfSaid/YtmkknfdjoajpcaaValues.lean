import Derived.Test.YtmkknfdjoajpcaaSortP
/-! slices.Values and partsOf as iterators that read cells; slices.Equal at integers. -/
namespace Go.Proofs.Ytmkknfdjoajpcaa
open Go.RowKit Go.Shelf

attribute [local go_sem] Oper.semAt_some

/-- The block that a list's numbers lie in. -/
def rowBs (a : Option Addr) (xs : List Int) : List Nat := if xs.length = 0 then [] else a.toList.map (·.block)

set_option maxRecDepth 100000 in
set_option maxHeartbeats 2000000 in
theorem values_P (n : Nat) (hn : 1 ≤ n) (B0 : Nat) (a : Option Addr) (cap : Nat) (xs : List Int) (w : World) (hB : w.heap[B0]? = some (.cells #[.slice a xs.length cap] 22 (0, 0))) (hx : SlI w w.heap.size a xs) (hl : xs.length ≤ 1048576) :
    SeqStopsP Fence.wide n Try.prog 128 #[.pointer (some ⟨B0, 0, none⟩)] (fun x : Int => #[Value.int .i64 x]) (B0 :: rowBs a xs) 0 xs w := by
  intro l J Jx W hW hJ _ hY h0
  have hB' := (hW.block B0 (lt_of_get hB)).trans hB
  have hx' := hx.later hW hW.size
  have Hx := hid hx'
  have HY := hid hY
  have HB := hid hB'
  clear hx hx' hY hB hW
  have c0 := (box_cell HB.out).1
  refine callsIn_of_wp Try.func128 rfl trivial ?_ rfl
  simp only [Try.ntmps128, List.size_toArray, List.length_cons, List.length_nil, Nat.reduceAdd, Nat.reduceSub, Array.replicate_succ, Array.replicate_zero, List.push_toArray, List.append_toArray, List.nil_append, List.cons_append]
  gi_wp2
  clear c0
  gi_loopw [7] (fun i wr => ∃ k : Nat, k ≤ xs.length ∧ i = .int .i64 k ∧ J (xs.take k) wr ∧ W.heap.size ≤ wr.heap.size ∧ Hid (∀ r, r ∈ (B0 :: rowBs a xs) → wr.heap[r]? = W.heap[r]?)) (fun i _ => xs.length - (intOf i).toNat)
  case atStart => exact ⟨0, Nat.zero_le _, rfl, by simpa using h0, Nat.le_refl _, hid (fun _ _ => rfl)⟩
  case round =>
    obtain ⟨k, hk, rfl, hJk, hsz, Hk⟩ := hrel
    by_cases hlt : k < xs.length
    · obtain ⟨b, off, hb, rfl, hc⟩ : ∃ b off, b < W.heap.size ∧ a = some ⟨b, off, none⟩ ∧ ∀ i, i < xs.length → W.cell? ⟨b, off + i, none⟩ = some (.int .i64 (xs[i]?.getD 0)) := by
        rcases Hx.out with h | h
        · rw [h] at hlt; simp at hlt
        · exact h
      obtain ⟨x, hxk⟩ : ∃ x, x = xs[k]?.getD 0 := ⟨_, rfl⟩
      have d0 : wr.cell? ⟨b, off + k, none⟩ = some (.int .i64 x) := by
        rw [World.cell?_of_block (Hk.out b (by unfold rowBs; rw [if_neg (by omega)]; simp))]
        rw [hxk]
        exact hc k hlt
      have htk : xs.take (k + 1) = xs.take k ++ [x] := by rw [take_snoc hlt, hxk]
      have hpre : xs.take k ++ [x] <+: xs := by rw [← htk]; exact List.take_prefix _ _
      obtain ⟨fn, tmps, assign, body, hy, hR⟩ := HY.out (xs.take k) x wr hpre (by omega) hJk
      have Htk := hid htk
      have Hpre := hid hpre
      have hi0 : (0 : Int) ≤ (k : Int) := by omega
      have hi1 : (k : Int) < (xs.length : Int) := by omega
      have Hsz := hid hsz
      clear hxk htk hpre hc hsz
      gi_wp2
      refine hR.mono ?_
      rintro e W3 ⟨hkp, ⟨rfl, hJ3⟩ | ⟨rfl, hJ3⟩⟩
      · have HJ3 := hid hJ3
        have Hkp := hid hkp
        clear hJ3 hkp
        gi_wp2
        go_roundw
        case rel => exact ⟨k + 1, by omega, by go_num, by rw [Htk.out]; exact HJ3.out, Nat.le_trans Hsz.out Hkp.out.size, hid (fun r hr => (Hkp.out.same r (.inl hr)).trans (Hk.out r hr))⟩
        case measure => simp [intOf]; omega
      · have HJ3 := hid hJ3
        clear hJ3 hkp
        gi_wp2
        refine bodyPost_ret (results_none rfl _ _ _) rfl ?_
        exact ⟨⟨_, rfl⟩, .inr ⟨_, Hpre.out, HJ3.out⟩⟩
    · have HJ := hid (show J xs wr by rw [show k = xs.length by omega, List.take_length] at hJk; exact hJk)
      gi_wp2
      go_end0
      exact ⟨⟨_, rfl⟩, .inl HJ.out⟩

set_option maxRecDepth 100000 in
set_option maxHeartbeats 1000000 in
theorem values_in (n : Nat) (a : Option Addr) (cap : Nat) (xs : List Int) (w : World) :
    CallsIn Fence.wide n Try.prog 112 #[.slice a xs.length cap] w fun e w' => e = .returned (.func (.func 128) #[] #[.pointer (some ⟨w.heap.size, 0, none⟩)]) ∧ w' = w.alloc (.cells #[.slice a xs.length cap] 22) := by
  refine callsIn_of_wp Try.func112 rfl trivial ?_ rfl
  simp only [Try.ntmps112, List.size_toArray, List.length_cons, List.length_nil, Nat.reduceAdd, Nat.reduceSub, Array.replicate_succ, Array.replicate_zero, List.push_toArray, List.append_toArray, List.nil_append, List.cons_append]
  gi_wp2
  go_ret
  exact ⟨rfl, rfl⟩

/-- slices.Sorted over slices.Values, from the world in which the iterator lies. -/
theorem sortedV_any (a : Option Addr) (cap : Nat) (xs : List Int) (w : World) (hx : SlI w w.heap.size a xs) (hl : xs.length ≤ 1048576) :
    Calls Try.prog 100 #[.func (.func 128) #[] #[.pointer (some ⟨w.heap.size, 0, none⟩)]] (w.alloc (.cells #[.slice a xs.length cap] 22)) fun e w' => ∃ v, e = .returned v ∧ Res (w.alloc (.cells #[.slice a xs.length cap] 22)) w' v (xs.mergeSort fun x y => decide (x ≤ y)) := by
  have hB : Below w.heap.size w (w.alloc (.cells #[.slice a xs.length cap] 22)) := (Below.refl _ w).alloc (Nat.le_refl _) _
  have h := sortedP_in (α := Int) 20 (by decide) 128 #[.pointer (some ⟨w.heap.size, 0, none⟩)] (enters_of Try.func128 (by kernel_rfl) rfl) (fun x => x) (w.heap.size :: rowBs a xs) xs (w.alloc (.cells #[.slice a xs.length cap] 22)) (fun b hb => by
    rcases List.mem_cons.1 hb with rfl | hb
    · simp
    · unfold rowBs at hb
      split at hb
      · simp at hb
      · rcases hx with h | ⟨b', off, hb', rfl, _⟩
        · subst h; simp at *
        · simp at hb; subst hb; simp; omega) hl (values_P 17 (by decide) w.heap.size a cap xs _ (heap_alloc_new _ _) (hx.later hB hB.size) hl)
  rw [List.map_id'] at h
  exact callsIn_wide.1 h

theorem ext_takeI {L M : List Int} (hl : L.length = M.length) (h : ∀ k, k < L.length → L[k]?.getD 0 = M[k]?.getD 0) : L = M := by
  apply List.ext_getElem hl
  intro i h1 h2
  have := h i h1
  rw [List.getElem?_eq_getElem h1, List.getElem?_eq_getElem h2] at this
  simpa using this

set_option maxRecDepth 100000 in
set_option maxHeartbeats 2000000 in
theorem eqIs_any (a : Option Addr) (c : Nat) (L : List Int) (b : Option Addr) (d : Nat) (M : List Int) (w : World) (ha : SlI w w.heap.size a L) (hb : SlI w w.heap.size b M) (hl : L.length ≤ 1048576) :
    Calls Try.prog 69 #[.slice a L.length c, .slice b M.length d] w fun e w' => e = .returned (.bool (decide (L = M))) ∧ Below w.heap.size w w' := by
  have Ha := hid ha
  have Hb := hid hb
  obtain ⟨R, hR⟩ : ∃ R, R = decide (L = M) := ⟨_, rfl⟩
  have HR := hid hR
  rw [← hR]
  clear ha hb hR
  by_cases hlm : L.length = M.length
  · have hd : ((L.length : Int) != (M.length : Int)) = false := by simp; omega
    have Hlm := hid hlm
    clear hlm
    go_enter Try.func69, Try.ntmps69
    go_wp2_with fail
    go_loopw [13] (fun i wr => ∃ k : Nat, k ≤ L.length ∧ i = .int .i64 k ∧ Hid (∀ j, j < k → L[j]?.getD 0 = M[j]?.getD 0) ∧ Hid (Below w.heap.size w wr)) (fun i _ => L.length - (intOf i).toNat)
    case atStart => exact ⟨0, Nat.zero_le _, rfl, hid (by intro j h; omega), hid (Below.refl _ _)⟩
    case round =>
      obtain ⟨k, hk, rfl, Hk, HB⟩ := hrel
      by_cases hlt : k < L.length
      · have hlt2 : k < M.length := by have := Hlm.out; omega
        obtain ⟨ba, oa, hba, rfl, hca⟩ : ∃ b off, b < wr.heap.size ∧ a = some ⟨b, off, none⟩ ∧ ∀ i, i < L.length → wr.cell? ⟨b, off + i, none⟩ = some (.int .i64 (L[i]?.getD 0)) := by
          rcases Ha.out.later HB.out HB.out.size with h | h
          · rw [h] at hlt; simp at hlt
          · exact h
        obtain ⟨bb, ob, hbb, rfl, hcb⟩ : ∃ b' off, b' < wr.heap.size ∧ b = some ⟨b', off, none⟩ ∧ ∀ i, i < M.length → wr.cell? ⟨b', off + i, none⟩ = some (.int .i64 (M[i]?.getD 0)) := by
          rcases Hb.out.later HB.out HB.out.size with h | h
          · rw [h] at hlt2; simp at hlt2
          · exact h
        have c1 := hca k hlt
        have c2 := hcb k hlt2
        obtain ⟨p, hp⟩ : ∃ p, p = L[k]?.getD 0 := ⟨_, rfl⟩
        obtain ⟨q, hq⟩ : ∃ q, q = M[k]?.getD 0 := ⟨_, rfl⟩
        rw [← hp] at c1
        rw [← hq] at c2
        have hi0 : (0 : Int) ≤ (k : Int) := by omega
        have hi1 : (k : Int) < (L.length : Int) := by omega
        have hi2 : (k : Int) < (M.length : Int) := by omega
        have Hp := hid hp
        have Hq := hid hq
        clear hp hq hca hcb
        by_cases he : p = q
        · have hd2 : (p != q) = false := by simp [he]
          have Hn : Hid (∀ j, j < k + 1 → L[j]?.getD 0 = M[j]?.getD 0) := hid (by
            intro j hj
            by_cases e : j < k
            · exact Hk.out j e
            · obtain rfl : j = k := by omega
              rw [← Hp.out, ← Hq.out, he])
          clear he
          go_wp2_with fail
          go_quiet (fail)
          go_wp2_with fail
          go_roundw
          case rel => exact ⟨k + 1, by omega, by go_num, Hn, hid ⟨HB.out.os, HB.out.tape, HB.out.output, HB.out.size, HB.out.block⟩⟩
          case measure => simp [intOf]; omega
        · have hd2 : (p != q) = true := by simpa using he
          have Hn : Hid (R = false) := hid (by
            rw [HR.out]
            exact decide_eq_false fun h => he (by rw [Hp.out, Hq.out, h]))
          clear he
          go_wp2_with fail
          go_quiet (fail)
          go_wp2_with fail
          go_ret
          exact ⟨ret_bool (by rw [Hn.out]), HB.out.os, HB.out.tape, HB.out.output, HB.out.size, HB.out.block⟩
      · have Hn : Hid (R = true) := hid (by
          rw [HR.out]
          exact decide_eq_true (ext_takeI Hlm.out (fun j hj => Hk.out j (by omega))))
        go_wp2_with fail
        go_ret
        exact ⟨ret_bool (by rw [Hn.out]), HB.out⟩
  · have hd : ((L.length : Int) != (M.length : Int)) = true := by simp; omega
    have Hn : Hid (R = false) := hid (by
      rw [HR.out]
      exact decide_eq_false (fun h => hlm (by rw [h])))
    clear hlm
    go_enter Try.func69, Try.ntmps69
    go_wp2_with fail
    go_ret
    exact ⟨ret_bool (by rw [Hn.out]), Below.refl _ _⟩

end Go.Proofs.Ytmkknfdjoajpcaa
