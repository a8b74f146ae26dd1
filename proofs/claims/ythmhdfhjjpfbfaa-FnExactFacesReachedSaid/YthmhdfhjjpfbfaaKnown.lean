import Derived.Test.YthmhdfhjjpfbfaaPairsOf
import Derived.Test.YthmhdfhjjpfbfaaHaving
/-! All pairs as keys of a map. -/
namespace Go.Proofs.Ythmhdfhjjpfbfaa
open Go.RowKit

theorem row_pair {w : World} {base g cap : Nat} {L : List (Int × Int)} (h : w.ownsRow base 79 2 (.slice (some ⟨g, 0, none⟩) L.length cap) L.length ((flatP L).map (Value.int .i64))) {k : Nat} (hk : k < L.length) {x y : Int} (hx : L[k]?.getD (0, 0) = (x, y)) :
    w.cell? ⟨g, k * 2, none⟩ = some (.int .i64 x) ∧ w.cell? ⟨g, k * 2 + 1, none⟩ = some (.int .i64 y) := by
  have hlen := flatP_len L
  have ha := flatP_at L k hk
  rw [hx] at ha
  unfold at0 at ha
  simp only at ha
  have h0 : k * 2 < (flatP L).length := by omega
  have h1 : k * 2 + 1 < (flatP L).length := by omega
  constructor
  · rw [h.cellAt (k * 2) (by omega), List.getElem?_map, List.getElem?_eq_getElem h0, ← ha.1, List.getElem?_eq_getElem h0]; rfl
  · rw [h.cellAt (k * 2 + 1) (by omega), List.getElem?_map, List.getElem?_eq_getElem h1, ← ha.2, List.getElem?_eq_getElem h1]; rfl

set_option maxRecDepth 100000 in
set_option maxHeartbeats 4000000 in
theorem known_any (vn : Nat) (a0 : Option Addr) (cap : Nat) (fs : List Int) (w : World) (hx : SlI w w.heap.size a0 fs) (hl : fs.length ≤ 1048576) (hC : IsC (vn : Int) fs) :
    Calls Try.prog 141 #[.agg #[.int .i64 vn, .slice a0 fs.length cap]] w fun e w' => ∃ b n, e = .returned (.map (some b)) ∧ MapP w' b n (pairsL fs vn fs.length) ∧ w.heap.size ≤ b ∧ Below w.heap.size w w' := by
  have hB0 : Hid (Below w.heap.size w ((w.alloc (.cells #[.int .i64 vn, .slice a0 fs.length cap] 28)).alloc (.map #[] 0))) := hid (((Below.refl _ w).alloc (Nat.le_refl _) _).alloc (by simp) _)
  have Hx := hid (hx.later hB0.out hB0.out.size)
  have hvn : vn ≤ 6 := by have := hC.hi; omega
  have Hf := hid hC.range63
  have HC := hid hC
  have Hpl := hid (pairsL_len fs vn fs.length (Nat.le_refl _))
  have Hwf : Hid (∀ q ∈ pairsL fs vn fs.length, wfP q) := hid (fun q hq => by
    obtain ⟨x, y⟩ := q
    have h := (mem_pairsL HC.out x y).1 (by simpa using hq)
    unfold pairB at h
    simp only [Bool.and_eq_true, decide_eq_true_eq] at h
    have h0 := Hf.out x h.1.1.1
    have h1 := Hf.out y h.1.1.2
    exact ⟨wf_face h0.1 h0.2, wf_face h1.1 h1.2⟩)
  have hw0 := World.ownsMap_made (H := Unit) (w.alloc (.cells #[.int .i64 vn, .slice a0 fs.length cap] 28)) Try.prog 79 (plainElem (H := Unit) Try.prog 4)
  have Hw0 := hid hw0
  obtain ⟨L, hL⟩ : ∃ L, L = pairsL fs vn fs.length := ⟨_, rfl⟩
  rw [← hL] at Hwf Hpl ⊢
  have HL := hid hL
  clear hL
  have hmm := @run_makeMap Try.prog
  clear hx hC hw0
  go_enter Try.func141, Try.ntmps141
  go_wp2_with fail
  refine (pairsOf_any vn a0 cap fs _ Hx.out hl HC.out).mono ?_
  rintro e w1 ⟨v, rfl, hrow, hB1⟩
  rw [← HL.out] at hrow
  have hB01 := hid (hB0.out.trans (hB1.mono (by simp <;> omega)))
  have hm1 : w1.ownsMap Try.prog 79 (plainElem (H := Unit) Try.prog 4) (w.heap.size + 1) 0 (.map []) := by
    have := World.ownsMap.kept Hw0.out (row := none) ⟨hB1.os, hB1.tape, hB1.output, hB1.size, fun k hk _ => hB1.block k hk⟩ (by simp)
    simpa using this
  have Hm1 := hid hm1
  have hrow1 := ownsRow_base hrow (show w.heap.size + 1 + 1 ≤ _ by simp)
  have Hrow := hid hrow1
  clear hB1 hrow hm1 hmm hrow1 Hw0 Hx hB0
  rcases Hrow.out.2 with ⟨rfl, hn⟩ | ⟨g, cp, _, rfl, _⟩
  · have hLn : L = [] := List.length_eq_zero_iff.1 hn
    subst hLn
    clear hn
    go_wp2
    refine wp_loop_rounds 1 ?_; rw [rounds_succ]
    go_wp2
    go_ret
    exact ⟨_, _, rfl, Hm1.out, by omega, hB01.out⟩
  · go_wp2
    go_loopw [10] (fun i wr => ∃ k : Nat, k ≤ L.length ∧ i = .int .i64 k ∧ MapP wr (w.heap.size + 1) k (L.take k) ∧ wr.ownsRow (w.heap.size + 1 + 1) 79 2 (.slice (some ⟨g, 0, none⟩) L.length cp) L.length ((flatP L).map (Value.int .i64)) ∧ Below w.heap.size w wr) (fun i _ => L.length - (intOf i).toNat)
    case atStart => exact ⟨0, Nat.zero_le _, rfl, Hm1.out, Hrow.out, hB01.out⟩
    case round =>
      obtain ⟨k, hk, rfl, hm, hr, hB⟩ := hrel
      clear Hrow hB01 Hm1
      by_cases hlt : k < L.length
      · obtain ⟨x, y, hxy⟩ : ∃ x y, L[k]?.getD (0, 0) = (x, y) := ⟨_, _, rfl⟩
        obtain ⟨hc0, hc1⟩ := row_pair hr hlt hxy
        have hmem : (x, y) ∈ L := by rw [← hxy, List.getElem?_eq_getElem hlt]; simp
        have Hsn : Hid (L.take (k + 1) = L.take k ++ [(x, y)]) := hid (by rw [List.take_add_one, ← hxy, List.getElem?_eq_getElem hlt]; rfl)
        have Hwk := hid (Hwf.out _ hmem)
        have hi0 : (0 : Int) ≤ (k : Int) := by omega
        have hi1 : (k : Int) < (L.length : Int) := by omega
        have hLl : L.length ≤ 6291456 := Nat.le_trans Hpl.out (Nat.le_trans (Nat.mul_le_mul hl hvn) (by decide))
        have hkm : k < maxLen := by unfold maxLen; omega
        have Hm := hid hm
        have Hr := hid hr
        have HB := hid hB
        clear hm hr hB hmem hxy
        have HmA := hid (World.ownsMap.alloc Hm.out (.cells #[.int .i64 x, .int .i64 y] 79))
        go_wp2_with (first | (at_mapUpdate; refine wpList_mapUpdate_own _ rfl _ _ _ 134 rfl 79 4 keyedP Try.underlying134 _ (w.heap.size + 1) _ _ rfl HmA.out hkm _ _ _ rfl rfl (keyOfP Hwk.out) _ [] (plainElem_bool Try.underlying4 true) ?_; intro w2 hown2 hgrow2) | go_in)
        go_roundw
        case rel =>
          have hgg : ∀ q, (some g : Option Nat) = some q → w.heap.size + 1 + 1 ≤ q ∧ q < wr.heap.size := fun q hq => Hr.out.lt q hq
          refine ⟨k + 1, by omega, by go_num, ?_, ?_, (HB.out.alloc HB.out.size _).grown hgrow2 (by have := HB.out.size; simp; omega) (fun r e => by cases e; omega)⟩
          · rw [Hsn.out]
            unfold MapP
            rw [pknD_snoc]
            exact hown2
          · exact (Hr.out.alloc _).kept hgrow2 (Or.inr (fun e => by have := hgg g rfl; simp [Value.ownBlock] at e; omega))
        case measure => simp [intOf]; omega
      · obtain rfl : k = L.length := by omega
        rw [List.take_of_length_le (Nat.le_refl _)] at hm
        go_wp2
        go_ret
        exact ⟨_, _, rfl, hm, by omega, hB⟩

end Go.Proofs.Ythmhdfhjjpfbfaa
