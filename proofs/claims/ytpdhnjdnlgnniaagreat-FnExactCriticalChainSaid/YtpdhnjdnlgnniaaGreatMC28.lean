import Derived.Deep.LoopGhost
import Derived.ScopeJumps
import Derived.BigQuiet
import Derived.Test.YtpdhnjdnlgnniaaGreatRows
import Derived.ProofKit
import Derived.OpenShut
import Derived.ShutString
import Derived.ChangeOld
import Derived.Below
import Derived.Lib.SmallJoins
import Derived.Test.YtpdhnjdnlgnniaaGreatMC21
import Derived.Test.YtpdhnjdnlgnniaaGreatMC22
import Derived.Test.YtpdhnjdnlgnniaaGreatMC23
import Derived.Test.YtpdhnjdnlgnniaaGreatMC24
import Derived.Test.YtpdhnjdnlgnniaaGreatMC25
import Derived.Test.YtpdhnjdnlgnniaaGreatMC26
import Derived.Test.YtpdhnjdnlgnniaaGreatMC27
/-! The flow of an acyclic pairing comes to an end: the mathematics. -/
namespace Go.Proofs.YtpdhnjdnlgnniaaGreat
open Go.RowKit

/-- The number of pairs to whose low faces ways lead. -/
noncomputable def rkW (ps : List Int) (n : Nat) (x : Int) : Nat := (List.range n).countP fun j => wayB ps n x (at0 ps (j * 2))
theorem rkW_le (ps : List Int) (n : Nat) (x : Int) : rkW ps n x ≤ n := by
  have := List.countP_le_length (p := fun j => wayB ps n x (at0 ps (j * 2))) (l := List.range n)
  simpa [rkW] using this
theorem rkW_lt {ps : List Int} {n : Nat} (hc : NoCycle ps n) {x : Int} {j : Nat} (hj : j < n) (hw : Way ps n x (at0 ps (j * 2))) : rkW ps n (at0 ps (j * 2)) < rkW ps n x := by
  refine countP_lt (y := j) (fun k _ hk => ?_) (by simpa using hj) (wayB_true hw) (wayB_false (hc j hj))
  by_cases hw2 : Way ps n (at0 ps (j * 2)) (at0 ps (k * 2))
  · exact wayB_true (way_trans hw hw2)
  · rw [wayB_false hw2] at hk; cases hk

/-- The sides of a face, as integers. -/
def sdI (x : Int) : List Int := sidesI x.toNat (sidesF x.toNat)
theorem sdI_nodup {x : Int} (h : 1 ≤ x ∧ x ≤ 63) : (sdI x).Nodup := by
  have := sides_nodup ⟨x.toNat, by omega⟩
  exact this
theorem sidesAll_app (p q : List Int) : sidesAll (p ++ q) = sidesAll p ++ sidesAll q := by simp [sidesAll]
theorem sidesAll_one (x : Int) : sidesAll [x] = sdI x := by simp [sidesAll, sdI]
/-- If all pushes over a side but that of its own pair come from elsewhere: the sides' parity. -/
theorem push_par {fs ps B : List Int} {n : Nat} {x : Int} (hr : ∀ y ∈ fs, 1 ≤ y ∧ y ≤ 63) (hO : OkTo fs ps n) (hno : ∀ i, i < n → at0 ps (i * 2) ∈ B → x ∈ sdI (at0 ps (i * 2 + 1)) → at0 ps (i * 2) = x) (hs : ∀ i, i < n → at0 ps (i * 2) = x → x ∈ sdI (at0 ps (i * 2 + 1))) :
    ∀ k, k ≤ n → par x (sidesAll (pushTo ps B k)) = decide (∃ i, i < k ∧ at0 ps (i * 2) ∈ B ∧ at0 ps (i * 2) = x)
  | 0, _ => by simp [pushTo, sidesAll, par]
  | k + 1, hk => by
    have ih := push_par hr hO hno hs k (by omega)
    rw [pushTo, sidesAll_app, par_app, ih]
    by_cases hB : at0 ps (k * 2) ∈ B
    · rw [if_pos hB, sidesAll_one, par_nodup (sdI_nodup (hr _ (okTo_mem hO (show k < n by omega)).2))]
      by_cases hx : at0 ps (k * 2) = x
      · have h1 := hs k (by omega) hx
        have h2 : ¬ ∃ i, i < k ∧ at0 ps (i * 2) ∈ B ∧ at0 ps (i * 2) = x := by
          rintro ⟨i, hi, _, hxi⟩
          exact okTo_apart hO i k hi (by omega) (by rw [hxi, hx])
        have h3 : ∃ i, i < k + 1 ∧ at0 ps (i * 2) ∈ B ∧ at0 ps (i * 2) = x := ⟨k, by omega, hB, hx⟩
        rw [decide_eq_true h1, decide_eq_false h2, decide_eq_true h3]
        rfl
      · have h1 : ¬ x ∈ sdI (at0 ps (k * 2 + 1)) := fun h => hx (hno k (by omega) hB h)
        rw [decide_eq_false h1, Bool.bne_false, Bool.eq_iff_iff, decide_eq_true_eq, decide_eq_true_eq]
        constructor
        · rintro ⟨i, h2, h3, h4⟩; exact ⟨i, by omega, h3, h4⟩
        · rintro ⟨i, h2, h3, h4⟩
          by_cases e : i = k
          · subst e; exact absurd h4 hx
          · exact ⟨i, by omega, h3, h4⟩
    · rw [if_neg hB]
      have : par x (sidesAll []) = false := by simp [sidesAll, par]
      rw [this, Bool.bne_false, Bool.eq_iff_iff, decide_eq_true_eq, decide_eq_true_eq]
      constructor
      · rintro ⟨i, h2, h3, h4⟩; exact ⟨i, by omega, h3, h4⟩
      · rintro ⟨i, h2, h3, h4⟩
        by_cases e : i = k
        · subst e; exact absurd h3 hB
        · exact ⟨i, by omega, h3, h4⟩

/-- Sides of a sum. -/
theorem par_xor {S A B : List Int} (hS : S.Nodup) (hA : A.Nodup) (hB : B.Nodup) (h : ∀ y, y ∈ S ↔ (decide (y ∈ A) != decide (y ∈ B)) = true) (x : Int) : par x (sidesAll S) = (par x (sidesAll A) != par x (sidesAll B)) := by
  obtain ⟨I, hI⟩ : ∃ I, I = A.filter fun y => decide (y ∈ B) := ⟨_, rfl⟩
  have hIn : I.Nodup := by rw [hI]; exact hA.filter _
  have hIm : ∀ y, y ∈ I ↔ y ∈ A ∧ y ∈ B := fun y => by rw [hI, List.mem_filter]; simp
  have hp : (S ++ (I ++ I)).Perm (A ++ B) := by
    rw [List.perm_iff_count]
    intro y
    rw [List.count_append, List.count_append, List.count_append, hS.count, hA.count, hB.count, hIn.count]
    have h1 := h y
    have h2 := hIm y
    by_cases a : y ∈ A <;> by_cases b : y ∈ B <;> simp [a, b] at h1 h2 <;> simp [a, b, h1, h2]
  have := par_perm (sidesAll_perm hp) x
  rw [sidesAll_app, sidesAll_app, sidesAll_app, par_app, par_app, par_app] at this
  rw [← this]
  cases par x (sidesAll S) <;> cases par x (sidesAll I) <;> rfl

theorem side_pair : ∀ f g : Fin 64, g.val ≠ 0 → g.val &&& f.val = g.val → ones f.val = ones g.val + 1 → g ∈ sidesF f.val := by decide +kernel
theorem okTo_side {V : Int} {fs ps : List Int} {n i : Nat} (hC : IsC V fs) (h : OkTo fs ps n) (hi : i < n) : at0 ps (i * 2) ∈ sdI (at0 ps (i * 2 + 1)) := by
  have hm := okTo_mem h hi
  have r1 := hC.range63 _ hm.1
  have r2 := hC.range63 _ hm.2
  have hb := (h i hi).1
  unfold pairB at hb
  simp only [Bool.and_eq_true, decide_eq_true_eq] at hb
  have := side_pair ⟨(at0 ps (i * 2 + 1)).toNat, by omega⟩ ⟨(at0 ps (i * 2)).toNat, by omega⟩ (by simp only; omega) hb.1.2 hb.2
  unfold sdI sidesI
  rw [List.mem_map]
  exact ⟨_, this, by simp only; omega⟩
theorem low_not_highF {fs ps : List Int} {n i j : Nat} (h : OkTo fs ps n) (hi : i < n) (hj : j < n) : at0 ps (i * 2) ≠ at0 ps (j * 2 + 1) := by
  intro e
  by_cases hij : i = j
  · subst hij
    have hb := (h i hi).1
    unfold pairB at hb
    simp only [Bool.and_eq_true, decide_eq_true_eq] at hb
    have := hb.2
    rw [← e] at this
    omega
  · rcases Nat.lt_or_gt_of_ne hij with h1 | h1
    · have := (h j hj).2.2 i h1
      unfold clashB at this
      simp [e] at this
    · have := (h i hi).2.2 j h1
      unfold clashB at this
      simp [e] at this
/-- A side of a pair's high face that is not its low face: a step. -/
theorem step_of {V : Int} {fs ps : List Int} {n j : Nat} (hC : IsC V fs) (h : OkTo fs ps n) (hj : j < n) {x : Int} (hx : x ∈ sdI (at0 ps (j * 2 + 1))) (hne : at0 ps (j * 2) ≠ x) : x ∈ nextL ps n (at0 ps (j * 2)) := by
  have r2 := hC.range63 _ (okTo_mem h hj).2
  unfold nextL
  rw [high_of h hj, if_neg (by omega), List.mem_filter]
  refine ⟨?_, by simpa using fun e : x = _ => hne e.symm⟩
  have hb := below_sides ⟨(at0 ps (j * 2 + 1)).toNat, by omega⟩
  simp only at hb
  rw [hb, List.mem_reverse]
  exact hx

/-- The greatest rank of the low faces of a list. -/
noncomputable def lowM (ps : List Int) (n : Nat) (B : List Int) : Nat → Nat
  | 0 => 0
  | k + 1 => if at0 ps (k * 2) ∈ B then max (rkW ps n (at0 ps (k * 2)) + 1) (lowM ps n B k) else lowM ps n B k
theorem lowM_le (ps : List Int) (n : Nat) (B : List Int) : ∀ k, lowM ps n B k ≤ n + 1
  | 0 => by simp [lowM]
  | k + 1 => by
    have h1 := lowM_le ps n B k
    have h2 := rkW_le ps n (at0 ps (k * 2))
    rw [lowM]
    split
    · omega
    · exact h1
theorem lowM_ge {ps : List Int} {n : Nat} {B : List Int} : ∀ {k i : Nat}, i < k → at0 ps (i * 2) ∈ B → rkW ps n (at0 ps (i * 2)) + 1 ≤ lowM ps n B k
  | 0, _, h, _ => by omega
  | k + 1, i, h, hm => by
    rw [lowM]
    by_cases e : i = k
    · subst e; rw [if_pos hm]; omega
    · have := lowM_ge (n := n) (k := k) (i := i) (by omega) hm
      split <;> omega
theorem lowM_get {ps : List Int} {n : Nat} {B : List Int} : ∀ {k : Nat}, lowM ps n B k ≠ 0 → ∃ i, i < k ∧ at0 ps (i * 2) ∈ B ∧ lowM ps n B k = rkW ps n (at0 ps (i * 2)) + 1
  | 0, h => by simp [lowM] at h
  | k + 1, h => by
    rw [lowM] at h ⊢
    by_cases hm : at0 ps (k * 2) ∈ B
    · rw [if_pos hm] at h ⊢
      by_cases hle : lowM ps n B k ≤ rkW ps n (at0 ps (k * 2)) + 1
      · exact ⟨k, by omega, hm, by omega⟩
      · obtain ⟨i, h1, h2, h3⟩ := lowM_get (ps := ps) (n := n) (B := B) (k := k) (by omega)
        exact ⟨i, by omega, h2, by omega⟩
    · rw [if_neg hm] at h ⊢
      obtain ⟨i, h1, h2, h3⟩ := lowM_get h
      exact ⟨i, by omega, h2, h3⟩
theorem lowM_lt {ps : List Int} {n : Nat} (hc : NoCycle ps n) {B B' : List Int} (h : ∀ i, i < n → at0 ps (i * 2) ∈ B' → ∃ j, j < n ∧ at0 ps (j * 2) ∈ B ∧ at0 ps (i * 2) ∈ nextL ps n (at0 ps (j * 2))) : lowM ps n B' n = 0 ∨ lowM ps n B' n < lowM ps n B n := by
  by_cases h0 : lowM ps n B' n = 0
  · exact .inl h0
  · obtain ⟨i, h1, h2, h3⟩ := lowM_get h0
    obtain ⟨j, h4, h5, h6⟩ := h i h1 h2
    have := rkW_lt hc h1 (Way.one h6)
    have := lowM_ge (n := n) h4 h5
    exact .inr (by omega)

/-- Low faces in the flow: steps lead to them. -/
theorem flow_low {V : Int} {fs ps ch : List Int} {n : Nat} (hC : IsC V fs) (hO : OkTo fs ps n) (hch : ∀ x ∈ ch, x ∈ fs) {i : Nat} (hi : i < n) (hm : at0 ps (i * 2) ∈ flowL fs ps n ch) :
    ∃ j, j < n ∧ at0 ps (j * 2) ∈ ch ∧ at0 ps (i * 2) ∈ nextL ps n (at0 ps (j * 2)) := by
  refine Classical.byContradiction fun hno => ?_
  have hp := push_par (B := ch) (x := at0 ps (i * 2)) hC.range63 hO (fun j hj hB hx => Classical.byContradiction fun hne => hno ⟨j, hj, hB, step_of hC hO hj hx hne⟩) (fun j hj e => by rw [← e]; exact okTo_side hC hO hj) n (Nat.le_refl _)
  have h1 : par (at0 ps (i * 2)) (sidesAll (pushTo ps ch n)) = decide (at0 ps (i * 2) ∈ ch) := by
    rw [hp, Bool.eq_iff_iff, decide_eq_true_eq, decide_eq_true_eq]
    constructor
    · rintro ⟨j, _, h2, h3⟩; rw [← h3]; exact h2
    · intro h; exact ⟨i, hi, h, rfl⟩
  have h2 : at0 ps (i * 2) ∉ pushTo ps (bdL fs ch) n := fun h => by
    obtain ⟨j, hj, _, e⟩ := pushTo_mem.1 h
    exact low_not_highF hO hi hj e.symm
  have h3 : decide (at0 ps (i * 2) ∈ bdL fs (pushTo ps ch n)) = decide (at0 ps (i * 2) ∈ ch) := by
    rw [← h1, Bool.eq_iff_iff, decide_eq_true_eq]
    unfold bdL
    rw [List.mem_filter]
    exact ⟨fun h => h.2, fun h => ⟨(okTo_mem hO hi).1, h⟩⟩
  rw [mem_flowL hO hch, h3, decide_eq_false h2] at hm
  cases hd : decide (at0 ps (i * 2) ∈ ch) <;> rw [hd] at hm <;> simp at hm
theorem push_none {ps ch : List Int} {n : Nat} (h : ∀ i, i < n → at0 ps (i * 2) ∉ ch) : pushTo ps ch n = [] := by
  rw [List.eq_nil_iff_forall_not_mem]
  intro y hy
  obtain ⟨i, hi, hm, _⟩ := pushTo_mem.1 hy
  exact h i hi hm
theorem bdL_none (fs : List Int) : bdL fs [] = [] := by
  unfold bdL
  rw [List.filter_eq_nil_iff]
  intro x _
  simp [sidesAll, par]
/-- .. where no low face is left. -/
theorem flow_bd {V : Int} {fs ps ch : List Int} {n : Nat} (hC : IsC V fs) (hO : OkTo fs ps n) (ha : ch.Pairwise (· < ·)) (hch : ∀ x ∈ ch, x ∈ fs) (h0 : ∀ i, i < n → at0 ps (i * 2) ∉ ch) {i : Nat} (hi : i < n) (hm : at0 ps (i * 2) ∈ bdL fs (flowL fs ps n ch)) :
    ∃ j, j < n ∧ at0 ps (j * 2) ∈ bdL fs ch ∧ at0 ps (i * 2) ∈ nextL ps n (at0 ps (j * 2)) := by
  refine Classical.byContradiction fun hno => ?_
  have hp := push_par (B := bdL fs ch) (x := at0 ps (i * 2)) hC.range63 hO (fun j hj hB hx => Classical.byContradiction fun hne => hno ⟨j, hj, hB, step_of hC hO hj hx hne⟩) (fun j hj e => by rw [← e]; exact okTo_side hC hO hj) n (Nat.le_refl _)
  have h1 : par (at0 ps (i * 2)) (sidesAll (pushTo ps (bdL fs ch) n)) = par (at0 ps (i * 2)) (sidesAll ch) := by
    rw [hp, Bool.eq_iff_iff, decide_eq_true_eq]
    constructor
    · rintro ⟨j, _, h2, h3⟩
      rw [h3] at h2
      exact (List.mem_filter.1 h2).2
    · intro h
      exact ⟨i, hi, List.mem_filter.2 ⟨(okTo_mem hO hi).1, h⟩, rfl⟩
  have hx := par_xor (S := flowL fs ps n ch) (asc_nodup (flowL_asc hC ps n ch)) (asc_nodup ha) (pushTo_nodup (ch := bdL fs ch) hO n (Nat.le_refl _)) (fun y => by
    rw [mem_flowL hO hch, push_none h0, bdL_none]
    simp) (at0 ps (i * 2))
  rw [h1] at hx
  have := (List.mem_filter.1 hm).2
  rw [hx] at this
  simp at this
/-- The measure that falls. -/
noncomputable def muF (fs ps : List Int) (n : Nat) (ch : List Int) : Nat := if lowM ps n ch n = 0 then lowM ps n (bdL fs ch) n else n + 1 + lowM ps n ch n
theorem lowM_zero {ps : List Int} {n : Nat} {B : List Int} (h : lowM ps n B n = 0) : ∀ i, i < n → at0 ps (i * 2) ∉ B := fun i hi hm => by
  have := lowM_ge (n := n) hi hm
  omega
theorem flow_falls {V : Int} {fs ps ch : List Int} {n : Nat} (hC : IsC V fs) (hO : OkTo fs ps n) (hc : NoCycle ps n) (ha : ch.Pairwise (· < ·)) (hch : ∀ x ∈ ch, x ∈ fs) (hne : flowL fs ps n ch ≠ ch) : muF fs ps n (flowL fs ps n ch) < muF fs ps n ch := by
  have hA := lowM_lt hc (B := ch) (B' := flowL fs ps n ch) (fun i hi hm => flow_low hC hO hch hi hm)
  have hle := lowM_le ps n (bdL fs (flowL fs ps n ch)) n
  unfold muF
  by_cases h0 : lowM ps n ch n = 0
  · have h1 : lowM ps n (flowL fs ps n ch) n = 0 := by omega
    rw [if_pos h0, if_pos h1]
    have hz := lowM_zero h0
    rcases lowM_lt hc (B := bdL fs ch) (B' := bdL fs (flowL fs ps n ch)) (fun i hi hm => flow_bd hC hO ha hch hz hi hm) with h2 | h2
    · by_cases h3 : lowM ps n (bdL fs ch) n = 0
      · refine absurd ?_ hne
        have hp := push_none (lowM_zero h3)
        refine asc_ext (flowL_asc hC ps n ch) ha (fun y => ?_)
        rw [mem_flowL hO hch, push_none hz, bdL_none, hp]
        simp
      · omega
    · exact h2
  · rw [if_neg h0]
    split
    · omega
    · omega
/-- The end of the flow. -/
noncomputable def endL (fs ps : List Int) (n : Nat) (ch : List Int) : List Int := if flowL fs ps n ch = ch then ch else
  if muF fs ps n (flowL fs ps n ch) < muF fs ps n ch then endL fs ps n (flowL fs ps n ch) else []
termination_by muF fs ps n ch
theorem endL_done {fs ps ch : List Int} {n : Nat} (h : flowL fs ps n ch = ch) : endL fs ps n ch = ch := by rw [endL, if_pos h]
theorem endL_step {V : Int} {fs ps ch : List Int} {n : Nat} (hC : IsC V fs) (hO : OkTo fs ps n) (hc : NoCycle ps n) (ha : ch.Pairwise (· < ·)) (hch : ∀ x ∈ ch, x ∈ fs) (hne : flowL fs ps n ch ≠ ch) : endL fs ps n ch = endL fs ps n (flowL fs ps n ch) := by
  rw [endL, if_neg hne, if_pos (flow_falls hC hO hc ha hch hne)]

end Go.Proofs.YtpdhnjdnlgnniaaGreat

/-! slices.Equal at integers; l06Same. -/
namespace Go.Proofs.YtpdhnjdnlgnniaaGreat
open Go.RowKit

attribute [local go_sem] Oper.semAt_some

theorem ext_takeJ {L M : List Int} (hl : L.length = M.length) (h : ∀ k, k < L.length → L[k]?.getD 0 = M[k]?.getD 0) : L = M := by
  apply List.ext_getElem hl
  intro i h1 h2
  have := h i h1
  rw [List.getElem?_eq_getElem h1, List.getElem?_eq_getElem h2] at this
  simpa using this

set_option maxRecDepth 100000 in
set_option maxHeartbeats 2000000 in
theorem eqIn_any (a : Option Addr) (c : Nat) (L : List Int) (b : Option Addr) (d : Nat) (M : List Int) (w : World) (ha : SlI w w.heap.size a L) (hb : SlI w w.heap.size b M) (hl : L.length ≤ 1048576) :
    Calls Tryz.prog 41 #[.slice a L.length c, .slice b M.length d] w fun e w' => e = .returned (.bool (decide (L = M))) ∧ Below w.heap.size w w' := by
  have Ha := hid ha
  have Hb := hid hb
  obtain ⟨R, hR⟩ : ∃ R, R = decide (L = M) := ⟨_, rfl⟩
  have HR := hid hR
  rw [← hR]
  clear ha hb hR
  by_cases hlm : L.length = M.length
  · have hd : ((L.length : Int) != (M.length : Int)) = false := by simp; omega
    have Hlm := hid hlm
    clear hlm
    go_enter Tryz.func41, Tryz.ntmps41
    go_wp2_with fail
    go_loopw [13] (fun i wr => ∃ k : Nat, k ≤ L.length ∧ i = .int .i64 k ∧ Hid (∀ j, j < k → L[j]?.getD 0 = M[j]?.getD 0) ∧ Hid (Below w.heap.size w wr)) (fun i _ => L.length - (intOf i).toNat)
    case atStart => exact ⟨0, Nat.zero_le _, rfl, hid (by intro j h; omega), hid (Below.refl _ _)⟩
    case round =>
      obtain ⟨k, hk, rfl, Hk, HB⟩ := hrel
      by_cases hlt : k < L.length
      · have hlt2 : k < M.length := by have := Hlm.out; omega
        obtain ⟨ba, oa, hba, rfl, hca⟩ : ∃ b off, b < wr.heap.size ∧ a = some ⟨b, off, none⟩ ∧ ∀ i, i < L.length → wr.cell? ⟨b, off + i, none⟩ = some (.int .i64 (L[i]?.getD 0)) := by
          rcases Ha.out.later HB.out HB.out.size with h | h
          · rw [h] at hlt; simp at hlt
          · exact h
        obtain ⟨bb, ob, hbb, rfl, hcb⟩ : ∃ b' off, b' < wr.heap.size ∧ b = some ⟨b', off, none⟩ ∧ ∀ i, i < M.length → wr.cell? ⟨b', off + i, none⟩ = some (.int .i64 (M[i]?.getD 0)) := by
          rcases Hb.out.later HB.out HB.out.size with h | h
          · rw [h] at hlt2; simp at hlt2
          · exact h
        have c1 := hca k hlt
        have c2 := hcb k hlt2
        obtain ⟨p, hp⟩ : ∃ p, p = L[k]?.getD 0 := ⟨_, rfl⟩
        obtain ⟨q, hq⟩ : ∃ q, q = M[k]?.getD 0 := ⟨_, rfl⟩
        rw [← hp] at c1
        rw [← hq] at c2
        have hi0 : (0 : Int) ≤ (k : Int) := by omega
        have hi1 : (k : Int) < (L.length : Int) := by omega
        have hi2 : (k : Int) < (M.length : Int) := by omega
        have Hp := hid hp
        have Hq := hid hq
        clear hp hq hca hcb
        by_cases he : p = q
        · have hd2 : (p != q) = false := by simp [he]
          have Hn : Hid (∀ j, j < k + 1 → L[j]?.getD 0 = M[j]?.getD 0) := hid (by
            intro j hj
            by_cases e : j < k
            · exact Hk.out j e
            · obtain rfl : j = k := by omega
              rw [← Hp.out, ← Hq.out, he])
          clear he
          go_wp2_with fail
          go_quiet (fail)
          go_wp2_with fail
          go_roundw
          case rel => exact ⟨k + 1, by omega, by go_num, Hn, hid ⟨HB.out.os, HB.out.tape, HB.out.output, HB.out.size, HB.out.block⟩⟩
          case measure => simp [intOf]; omega
        · have hd2 : (p != q) = true := by simpa using he
          have Hn : Hid (R = false) := hid (by
            rw [HR.out]
            exact decide_eq_false fun h => he (by rw [Hp.out, Hq.out, h]))
          clear he
          go_wp2_with fail
          go_quiet (fail)
          go_wp2_with fail
          go_ret
          exact ⟨ret_bool (by rw [Hn.out]), HB.out.os, HB.out.tape, HB.out.output, HB.out.size, HB.out.block⟩
      · have Hn : Hid (R = true) := hid (by
          rw [HR.out]
          exact decide_eq_true (ext_takeJ Hlm.out (fun j hj => Hk.out j (by omega))))
        go_wp2_with fail
        go_ret
        exact ⟨ret_bool (by rw [Hn.out]), HB.out⟩
  · have hd : ((L.length : Int) != (M.length : Int)) = true := by simp; omega
    have Hn : Hid (R = false) := hid (by
      rw [HR.out]
      exact decide_eq_false (fun h => hlm (by rw [h])))
    clear hlm
    go_enter Tryz.func41, Tryz.ntmps41
    go_wp2_with fail
    go_ret
    exact ⟨ret_bool (by rw [Hn.out]), Below.refl _ _⟩

set_option maxRecDepth 100000 in
set_option maxHeartbeats 2000000 in
theorem same_any (a : Option Addr) (c : Nat) (L : List Int) (b : Option Addr) (d : Nat) (M : List Int) (w : World) (ha : SlI w w.heap.size a L) (hb : SlI w w.heap.size b M) (hl : L.length ≤ 1048576) :
    Calls Tryz.prog 34 #[.slice a L.length c, .slice b M.length d] w fun e w' => e = .returned (.bool (decide (L = M))) ∧ Below w.heap.size w w' := by
  have Ha := hid ha
  have Hb := hid hb
  obtain ⟨R, hR⟩ : ∃ R, R = decide (L = M) := ⟨_, rfl⟩
  have HR := hid hR
  rw [← hR]
  clear ha hb hR
  by_cases hlm : L.length = M.length
  · have hd : ((L.length : Int) != (M.length : Int)) = false := by simp; omega
    have Hlm := hid hlm
    clear hlm
    go_enter Tryz.func34, Tryz.ntmps34
    go_wp2_with fail
    go_loopw [5] (fun i wr => ∃ k : Nat, k ≤ L.length ∧ i = .int .i64 k ∧ Hid (∀ j, j < k → L[j]?.getD 0 = M[j]?.getD 0) ∧ Hid (Below w.heap.size w wr)) (fun i _ => L.length - (intOf i).toNat)
    case atStart => exact ⟨0, Nat.zero_le _, rfl, hid (by intro j h; omega), hid (Below.refl _ _)⟩
    case round =>
      obtain ⟨k, hk, rfl, Hk, HB⟩ := hrel
      by_cases hlt : k < L.length
      · have hlt2 : k < M.length := by have := Hlm.out; omega
        obtain ⟨ba, oa, hba, rfl, hca⟩ : ∃ b off, b < wr.heap.size ∧ a = some ⟨b, off, none⟩ ∧ ∀ i, i < L.length → wr.cell? ⟨b, off + i, none⟩ = some (.int .i64 (L[i]?.getD 0)) := by
          rcases Ha.out.later HB.out HB.out.size with h | h
          · rw [h] at hlt; simp at hlt
          · exact h
        obtain ⟨bb, ob, hbb, rfl, hcb⟩ : ∃ b' off, b' < wr.heap.size ∧ b = some ⟨b', off, none⟩ ∧ ∀ i, i < M.length → wr.cell? ⟨b', off + i, none⟩ = some (.int .i64 (M[i]?.getD 0)) := by
          rcases Hb.out.later HB.out HB.out.size with h | h
          · rw [h] at hlt2; simp at hlt2
          · exact h
        have c1 := hca k hlt
        have c2 := hcb k hlt2
        obtain ⟨p, hp⟩ : ∃ p, p = L[k]?.getD 0 := ⟨_, rfl⟩
        obtain ⟨q, hq⟩ : ∃ q, q = M[k]?.getD 0 := ⟨_, rfl⟩
        rw [← hp] at c1
        rw [← hq] at c2
        have hi0 : (0 : Int) ≤ (k : Int) := by omega
        have hi1 : (k : Int) < (L.length : Int) := by omega
        have hi2 : (k : Int) < (M.length : Int) := by omega
        have Hp := hid hp
        have Hq := hid hq
        clear hp hq hca hcb
        by_cases he : p = q
        · have hd2 : (p != q) = false := by simp [he]
          have Hn : Hid (∀ j, j < k + 1 → L[j]?.getD 0 = M[j]?.getD 0) := hid (by
            intro j hj
            by_cases e : j < k
            · exact Hk.out j e
            · obtain rfl : j = k := by omega
              rw [← Hp.out, ← Hq.out, he])
          clear he
          go_wp2_with fail
          go_quiet (fail)
          go_wp2_with fail
          go_roundw
          case rel => exact ⟨k + 1, by omega, by go_num, Hn, hid ⟨HB.out.os, HB.out.tape, HB.out.output, HB.out.size, HB.out.block⟩⟩
          case measure => simp [intOf]; omega
        · have hd2 : (p != q) = true := by simpa using he
          have Hn : Hid (R = false) := hid (by
            rw [HR.out]
            exact decide_eq_false fun h => he (by rw [Hp.out, Hq.out, h]))
          clear he
          go_wp2_with fail
          go_quiet (fail)
          go_wp2_with fail
          go_ret
          exact ⟨ret_bool (by rw [Hn.out]), HB.out.os, HB.out.tape, HB.out.output, HB.out.size, HB.out.block⟩
      · have Hn : Hid (R = true) := hid (by
          rw [HR.out]
          exact decide_eq_true (ext_takeJ Hlm.out (fun j hj => Hk.out j (by omega))))
        go_wp2_with fail
        go_ret
        exact ⟨ret_bool (by rw [Hn.out]), HB.out⟩
  · have hd : ((L.length : Int) != (M.length : Int)) = true := by simp; omega
    have Hn : Hid (R = false) := hid (by
      rw [HR.out]
      exact decide_eq_false (fun h => hlm (by rw [h])))
    clear hlm
    go_enter Tryz.func34, Tryz.ntmps34
    go_wp2_with fail
    go_ret
    exact ⟨ret_bool (by rw [Hn.out]), Below.refl _ _⟩

end Go.Proofs.YtpdhnjdnlgnniaaGreat

/-! l06End and endOfFlow. -/
namespace Go.Proofs.YtpdhnjdnlgnniaaGreat
open Go.RowKit

theorem wp_scope_one {P : Program} {Q : Exit → Act → World → Prop} {a : Act} {w : World} {c X : Code} (l : Nat) (R : Nat → Act → World → Prop) (hc : c = (Code.label l).seq X) (h0 : findLabel c l = some (Code.skip.seq X))
    (first : ∃ k, R k a w)
    (pass : ∀ k a w, R k a w → X.wp P (Exit.jump l (fun a' w' => ∃ k', k' < k ∧ R k' a' w') Q) a w) : (Code.scope c).wp P Q a w := by
  refine wp_scope_jumps l (fun a w => ∃ k, R k a w) (fun a w => Go.leastOf (fun k => R k a w)) h0 ?_ ?_
  · rw [hc]
    obtain ⟨k, hR⟩ := first
    refine wp_seq (wp_label (wp_mono (pass k a w hR) ?_))
    intro e a' w' h
    cases e with
    | goto l' => obtain ⟨rfl, k', _, hR'⟩ := h; exact ⟨rfl, k', hR'⟩
    | normal => exact h
    | exit id => exact h
    | ret => exact h
    | panic ch => exact h
    | outgrown => exact h
  · rintro a w ⟨k0, h0⟩
    obtain ⟨h1, _⟩ := Go.leastOf_spec (p := fun k => R k a w) ⟨k0, h0⟩
    refine wp_seq (wp_skip (wp_mono (pass _ a w h1) ?_))
    intro e a' w' h
    cases e with
    | goto l' => obtain ⟨rfl, k', hk, hR'⟩ := h; exact ⟨rfl, ⟨k', hR'⟩, Nat.lt_of_le_of_lt ((Go.leastOf_spec (p := fun k => R k a' w') ⟨k', hR'⟩).2 k' hR') hk⟩
    | normal => exact h
    | exit id => exact h
    | ret => exact h
    | panic ch => exact h
    | outgrown => exact h

/-- A chain of the complex. -/
structure ChnF (fs ch : List Int) : Prop where
  asc : ch.Pairwise (· < ·)
  sub : ∀ x ∈ ch, x ∈ fs
theorem ChnF.flow {V : Int} {fs ps : List Int} (hC : IsC V fs) (n : Nat) (ch : List Int) : ChnF fs (flowL fs ps n ch) := ⟨flowL_asc hC ps n ch, fun _ hx => flowL_fs hx⟩
theorem ChnF.len {V : Int} {fs ch : List Int} (h : ChnF fs ch) (hC : IsC V fs) : ch.length ≤ 63 := by
  have := sub_lenI _ _ (asc_nodup h.asc) h.sub
  have := hC.len63
  omega

set_option maxRecDepth 100000 in
set_option maxHeartbeats 4000000 in
theorem end6_any {V : Int} (fs : List Int) (a1 : Option Addr) (n c1 : Nat) (ps : List Int) (a2 : Option Addr) (c2 : Nat) (ch : List Int) (w : World) (hx : SlI w w.heap.size a1 ps) (hy : SlI w w.heap.size a2 ch) (hp : ps.length = 2 * n) (hn : n ≤ 1048576)
    (hC : IsC V fs) (hO : OkTo fs ps n) (hc : NoCycle ps n) (hch : ChnF fs ch) :
    Calls Tryz.prog 21 #[.slice a1 n c1, .slice a2 ch.length c2] w fun e w' => ∃ v, e = .returned v ∧ Res w w' v (endL fs ps n ch) := by
  have HF := hid (fun (cur : List Int) (h : ChnF fs cur) W (hb : Below w.heap.size w W) a c (hs : SlI W W.heap.size a cur) => flow6_any fs a1 n c1 ps a c cur W (hx.later hb hb.size) hs hp hn hC hO h.asc h.sub)
  have HSt := hid (fun (cur : List Int) (h : ChnF fs cur) (hne : flowL fs ps n cur ≠ cur) => And.intro (endL_step hC hO hc h.asc h.sub hne) (flow_falls hC hO hc h.asc h.sub hne))
  have HFl := hid (fun cur => ChnF.flow (ps := ps) hC n cur)
  have HLn := hid (fun (cur : List Int) (h : ChnF fs cur) => h.len hC)
  obtain ⟨E, hE⟩ : ∃ E, E = endL fs ps n ch := ⟨_, rfl⟩
  have HE := hid hE.symm
  rw [← hE]
  have Hy := hid hy
  have Hch := hid hch
  clear hx hy hp hn hC hO hc hch hE
  go_enter Tryz.func21, Tryz.ntmps21
  go_wp2_with fail
  go_loopg [1] (muF fs ps n ch + 1) (fun g s1 wr => ∃ (cur : List Int) (a : Option Addr) (c : Nat), s1 = .slice a cur.length c ∧ Hid (SlI wr wr.heap.size a cur) ∧ Hid (ChnF fs cur) ∧ Hid (endL fs ps n cur = E) ∧ Hid (muF fs ps n cur < g) ∧ Hid (Below w.heap.size w wr))
  case atStart => exact ⟨ch, a2, c2, rfl, Hy, Hch, HE, hid (Nat.lt_succ_self _), hid (Below.refl _ _)⟩
  case round =>
    clear Hy Hch HE
    obtain ⟨cur, a, c, rfl, Hs, Hc, HE, Hg, HB⟩ := hrel
    have HFc := hid (HF.out cur Hc.out wr HB.out a c Hs.out)
    have HFn := hid (HFl.out cur)
    have HS := hid (HSt.out cur Hc.out)
    have HD : Hid (flowL fs ps n cur = cur → E = flowL fs ps n cur) := hid (fun h => by rw [← HE.out, endL_done h, h])
    have HL2 := hid (HLn.out _ HFn.out)
    obtain ⟨F, hF⟩ : ∃ F, F = flowL fs ps n cur := ⟨_, rfl⟩
    rw [← hF] at HFc HFn HS HD HL2
    clear hF HF HFl HLn
    go_wp2_with (go_at_call 33; refine HFc.out.mono ?_; rintro e w1 ⟨v1, rfl, hr1⟩; obtain ⟨_, aF, cF, rfl, hsF⟩ := ownsRow_slI hr1.1; have HR1 := hid hr1; have HsF := hid hsF; have HSm := hid (same_any aF cF F a c cur w1 hsF (Hs.out.later hr1.2 hr1.2.size) (by have := HL2.out; omega)); clear hr1 hsF)
    have HB1 := hid (HB.out.trans (HR1.out.2.mono HB.out.size))
    by_cases heq : F = cur
    · have hd : decide (F = cur) = true := decide_eq_true heq
      rw [hd] at HSm
      have HEq := hid (HD.out heq)
      clear hd heq
      go_wp2_with (go_at_call 34; refine HSm.out.mono ?_; rintro e w2 ⟨rfl, hb2⟩; have HB2 := hid hb2; clear hb2)
      go_ret
      have hr : Res wr w2 (.slice aF F.length cF) F := HR1.out.after HB2.out
      exact ⟨_, rfl, by rw [HEq.out]; exact hr.later HB.out⟩
    · have hd : decide (F = cur) = false := decide_eq_false heq
      rw [hd] at HSm
      have HSn := hid (HS.out heq)
      clear hd heq
      go_wp2_with (go_at_call 34; refine HSm.out.mono ?_; rintro e w2 ⟨rfl, hb2⟩; have HB2 := hid hb2; clear hb2)
      go_roundg (muF fs ps n F + 1)
      case rel => exact ⟨F, aF, cF, rfl, hid (HsF.out.later HB2.out HB2.out.size), HFn, hid (by rw [← HSn.out.1]; exact HE.out), hid (Nat.lt_succ_self _), hid (HB1.out.trans (HB2.out.mono HB1.out.size))⟩
      case measure => have h1 := HSn.out.2; have h2 := Hg.out; omega

/-- What holds at the label. -/
def EofI (_w W0 : World) (_V : Int) (_a0 : Option Addr) (_cap : Nat) (fs : List Int) (_a1 : Option Addr) (n _c1 : Nat) (ps E : List Int) (k : Nat) (wr : World) (a : Option Addr) (_c : Nat) (cur : List Int) : Prop :=
  SlI wr wr.heap.size a cur ∧ ChnF fs cur ∧ endL fs ps n cur = E ∧ muF fs ps n cur < k ∧ Below W0.heap.size W0 wr
def AtEof (w W0 : World) (V : Int) (a0 : Option Addr) (cap : Nat) (fs : List Int) (a1 : Option Addr) (n c1 : Nat) (ps E : List Int) (k : Nat) (a' : Act) (w' : World) : Prop :=
  ∃ (a : Option Addr) (c : Nat) (cur : List Int) (s0 : Value) (us : Nat → Value), a' = { tmps := #[s0, .slice a1 n c1, .slice a cur.length c, .pointer (some ⟨w.heap.size, 0, none⟩), undef, undef, .slice none 0 0, us 7, us 8, us 9, us 10, us 11, us 12, us 13, us 14, us 15, us 16, us 17], defers := [] } ∧ Hid (EofI w W0 V a0 cap fs a1 n c1 ps E k w' a c cur)
theorem atEof_of {w W0 : World} {V : Int} {a0 : Option Addr} {cap : Nat} {fs : List Int} {a1 : Option Addr} {n c1 : Nat} {ps E : List Int} {k : Nat} {w' : World} (a : Option Addr) (c : Nat) (cur : List Int) (tm : Array Value) (h : tm = #[tm.getD 0 undef, .slice a1 n c1, .slice a cur.length c, .pointer (some ⟨w.heap.size, 0, none⟩), undef, undef, .slice none 0 0, tm.getD 7 undef, tm.getD 8 undef, tm.getD 9 undef, tm.getD 10 undef, tm.getD 11 undef, tm.getD 12 undef, tm.getD 13 undef, tm.getD 14 undef, tm.getD 15 undef, tm.getD 16 undef, tm.getD 17 undef]) (H : Hid (EofI w W0 V a0 cap fs a1 n c1 ps E k w' a c cur)) : AtEof w W0 V a0 cap fs a1 n c1 ps E k { tmps := tm, defers := [] } w' :=
  ⟨a, c, cur, _, fun i => tm.getD i undef, congrArg (fun t => ({ tmps := t, defers := [] } : Act)) h, H⟩

section
variable {R : Act → World → Prop} {Q : Exit → Act → World → Prop} {l : Nat} {a : Act} {w : World}
@[go_sem] theorem jumpE_normal : Exit.jump l R Q .normal a w = Q .normal a w := rfl
@[go_sem] theorem jumpE_exit (id : Nat) : Exit.jump l R Q (.exit id) a w = Q (.exit id) a w := rfl
@[go_sem] theorem jumpE_ret : Exit.jump l R Q .ret a w = Q .ret a w := rfl
end

set_option maxRecDepth 100000 in
set_option maxHeartbeats 4000000 in
theorem eof_any (V : Int) (a0 : Option Addr) (cap : Nat) (fs : List Int) (a1 : Option Addr) (n c1 : Nat) (ps : List Int) (a2 : Option Addr) (c2 : Nat) (ch : List Int) (w : World) (hx : SlI w w.heap.size a0 fs) (hx1 : SlI w w.heap.size a1 ps) (hy : SlI w w.heap.size a2 ch) (hl : fs.length ≤ 1048576) (hp : ps.length = 2 * n) (hn : n ≤ 1048576)
    (hC : IsC V fs) (hO : OkTo fs ps n) (hc : NoCycle ps n) (hch : ChnF fs ch) (hn63 : n ≤ 63) :
    Calls Tryz.prog 26 #[.agg #[.int .i64 V, .slice a0 fs.length cap], .slice a1 n c1, .slice a2 ch.length c2] w fun e w' => ∃ v, e = .returned v ∧ Res w w' v (endL fs ps n ch) := by
  obtain ⟨W0, hW0⟩ : ∃ W0, W0 = w.alloc (.cells #[.int .i64 V, .slice a0 fs.length cap] 30) := ⟨_, rfl⟩
  have hB0 : Below w.heap.size w W0 := by rw [hW0]; exact (Below.refl _ w).alloc (Nat.le_refl _) _
  have hk0 : W0.heap[w.heap.size]? = some (.cells #[.int .i64 V, .slice a0 fs.length cap] 30 (0, 0)) := by rw [hW0]; exact heap_alloc_new _ _
  have HF := hid (fun (cur : List Int) (h : ChnF fs cur) W (hb : Below w.heap.size w W) a c (hs : SlI W W.heap.size a cur) => flow_any V a0 cap fs a1 n c1 ps a c cur W (hx.later hb hb.size) (hx1.later hb hb.size) hs hl hp hn (by have := h.len hC; omega) (by
      rcases hs with e | ⟨b, off, hb, e, hc⟩
      · exact .inl e
      · exact .inr ⟨b, off, hb, e, hc⟩) hC hO h.asc h.sub hn63)
  have HSt := hid (fun (cur : List Int) (h : ChnF fs cur) (hne : flowL fs ps n cur ≠ cur) => And.intro (endL_step hC hO hc h.asc h.sub hne) (flow_falls hC hO hc h.asc h.sub hne))
  have HFl := hid (fun cur => ChnF.flow (ps := ps) hC n cur)
  have HLn := hid (fun (cur : List Int) (h : ChnF fs cur) => h.len hC)
  obtain ⟨E, hE⟩ : ∃ E, E = endL fs ps n ch := ⟨_, rfl⟩
  rw [← hE]
  have HI0 : Hid (EofI w W0 V a0 cap fs a1 n c1 ps E (muF fs ps n ch + 1) W0 a2 c2 ch) := hid ⟨hy.later hB0 hB0.size, hch, hE.symm, Nat.lt_succ_self _, Below.refl _ _⟩
  have HB0 := hid hB0
  have Hk0 := hid hk0
  clear hx hx1 hy hp hn hC hO hc hch hE hB0 hk0 hl
  go_enter Tryz.func26, Tryz.ntmps26
  go_wp2
  rw [← hW0]
  refine wp_scope_one 0 (AtEof w W0 V a0 cap fs a1 n c1 ps E) rfl (by kernel_rfl) ?_ ?_
  · exact ⟨_, atEof_of a2 c2 ch _ rfl HI0⟩
  · rintro k a' wr ⟨a, c, cur, s0, us, rfl, HK⟩
    clear HI0
    obtain ⟨hs, hcur, hE, hg, hB⟩ := HK.out
    have HB := hid (HB0.out.trans (hB.mono HB0.out.size))
    have HBW := hid hB
    have HFc := hid (HF.out cur hcur wr HB.out a c hs)
    obtain ⟨k0, k1, _, _⟩ := two_of ((hB.block _ (lt_get Hk0.out)).trans Hk0.out)
    have HFn := hid (HFl.out cur)
    have HS := hid (HSt.out cur hcur)
    have HD : Hid (flowL fs ps n cur = cur → E = flowL fs ps n cur) := hid (fun h => by rw [← hE, endL_done h, h])
    have HL2 := hid (HLn.out _ HFn.out)
    have Hs := hid hs
    have HE := hid hE
    have Hg := hid hg
    obtain ⟨F, hF⟩ : ∃ F, F = flowL fs ps n cur := ⟨_, rfl⟩
    rw [← hF] at HFc HFn HS HD HL2
    clear hF HF HFl HLn hs hcur hE hg hB HK
    go_wp2_with fail
    refine HFc.out.mono ?_
    rintro e w1 ⟨v1, rfl, hr1⟩
    obtain ⟨_, aF, cF, rfl, hsF⟩ := ownsRow_slI hr1.1
    have HR1 := hid hr1
    have HsF := hid hsF
    have HSm := hid (eqIn_any aF cF F a c cur w1 hsF (Hs.out.later hr1.2 hr1.2.size) (by have := HL2.out; omega))
    have HB1 := hid (HBW.out.trans (hr1.2.mono HBW.out.size))
    clear hr1 hsF HFc
    by_cases heq : F = cur
    · have hd : decide (F = cur) = true := decide_eq_true heq
      rw [hd] at HSm
      have HEq := hid (HD.out heq)
      clear hd heq
      go_wp2_with fail
      refine HSm.out.mono ?_
      rintro e w2 ⟨rfl, hb2⟩
      have HB2 := hid hb2
      clear hb2
      go_wp2_with fail
      rw [jumpE_ret]
      go_ret
      have hr : Res wr w2 (.slice aF F.length cF) F := HR1.out.after HB2.out
      exact ⟨_, rfl, by rw [HEq.out]; exact hr.later HB.out⟩
    · have hd : decide (F = cur) = false := decide_eq_false heq
      rw [hd] at HSm
      have HSn := hid (HS.out heq)
      clear hd heq
      go_wp2_with fail
      refine HSm.out.mono ?_
      rintro e w2 ⟨rfl, hb2⟩
      have HB2 := hid hb2
      clear hb2
      go_wp2_with fail
      refine wp_goto ?_
      exact ⟨rfl, muF fs ps n F + 1, by have h1 := HSn.out.2; have h2 := Hg.out; omega, atEof_of aF cF F _ rfl (hid ⟨HsF.out.later HB2.out HB2.out.size, HFn.out, by rw [← HSn.out.1]; exact HE.out, Nat.lt_succ_self _, HB1.out.trans (HB2.out.mono HB1.out.size)⟩)⟩

end Go.Proofs.YtpdhnjdnlgnniaaGreat

/-! isCritical, the program's. -/
namespace Go.Proofs.YtpdhnjdnlgnniaaGreat
open Go.RowKit Go.Shelf

attribute [local go_sem] Oper.semAt_some

set_option maxRecDepth 100000 in
set_option maxHeartbeats 1000000 in
/-- The condition: the number is one of the pair's. -/
theorem isCr1_any (x y f : Int) (bf : Nat) (w : World) (hc : w.heap[bf]? = some (.cells #[.int .i64 f] 2 (0, 0))) :
    Calls Tryz.prog 38 #[.agg #[.int .i64 x, .int .i64 y], .pointer (some ⟨bf, 0, none⟩)] w fun e w' => e = .returned (.bool (decide (f ∈ [x, y]))) ∧ Below w.heap.size w w' := by
  have cf : ∀ o : Obj, (w.alloc o).cell? ⟨bf, 0, none⟩ = some (.int .i64 f) := fun o => cell_alloc0 (box_cell hc).1 o
  have hB0 : Below w.heap.size w (w.alloc (.cells #[.int .i64 x, .int .i64 y] 47)) := (Below.refl _ w).alloc (Nat.le_refl _) _
  have hS : SlI (w.alloc (.cells #[.int .i64 x, .int .i64 y] 47)).drew (w.alloc (.cells #[.int .i64 x, .int .i64 y] 47)).drew.heap.size (some ⟨w.heap.size, 0, none⟩) [x, y] := by
    refine .inr ⟨w.heap.size, 0, by show w.heap.size < (w.alloc _).heap.size; simp, rfl, fun i hi => ?_⟩
    have h2 := two_of (heap_alloc_new w (.cells #[.int .i64 x, .int .i64 y] 47))
    match i, hi with
    | 0, _ => exact h2.1
    | 1, _ => exact h2.2.1
  have HC := hid (contains_any (some ⟨w.heap.size, 0, none⟩) 2 [x, y] f _ hS (by simp))
  have HB := hid (hB0.trans (below_drewN (Below.refl _ _) 1))
  clear hc hS hB0
  go_enter Tryz.func38, Tryz.ntmps38
  go_wp2_with fail
  go_region_with (go_at_call 39; refine HC.out.mono ?_; rintro e w' ⟨rfl, rfl⟩)
  all_goals
    go_wp2_with fail
    go_ret
    exact ⟨ret_bool (by simp), HB.out⟩

/-- The pairs ahead of pair k that hold f. -/
def holdsTo (ps : List Int) (f : Int) (k : Nat) : Prop := ∃ i, i < k ∧ (f = at0 ps (i * 2) ∨ f = at0 ps (i * 2 + 1))
theorem holds_mem {ps : List Int} {n : Nat} (hp : ps.length = 2 * n) (f : Int) : holdsTo ps f n ↔ f ∈ ps := by
  constructor
  · rintro ⟨i, hi, h | h⟩
    · rw [h]; exact getD_mem (by omega)
    · rw [h]; exact getD_mem (by omega)
  · intro h
    obtain ⟨j, hj, e⟩ := List.getElem_of_mem h
    have hat : at0 ps j = f := by
      show ps[j]?.getD 0 = f
      rw [List.getElem?_eq_getElem hj]
      exact e
    rcases Nat.mod_two_eq_zero_or_one j with h2 | h2
    · exact ⟨j / 2, by omega, .inl (by rw [show j / 2 * 2 = j by omega, hat])⟩
    · exact ⟨j / 2, by omega, .inr (by rw [show j / 2 * 2 + 1 = j by omega, hat])⟩

set_option maxRecDepth 100000 in
set_option maxHeartbeats 2000000 in
theorem idxP_any (a1 : Option Addr) (n cap1 : Nat) (ps : List Int) (f : Int) (bf : Nat) (w : World) (hx : SlI w w.heap.size a1 ps) (hp : ps.length = 2 * n) (hn : n ≤ 1048576) (hc : w.heap[bf]? = some (.cells #[.int .i64 f] 2 (0, 0))) :
    Calls Tryz.prog 53 #[.slice a1 n cap1, .func (.func 38) #[] #[.pointer (some ⟨bf, 0, none⟩)]] w fun e w' => ∃ i : Int, e = .returned (.int .i64 i) ∧ -1 ≤ i ∧ (0 ≤ i ↔ f ∈ ps) ∧ Below w.heap.size w w' := by
  have hent : ∀ args w, (callFunc 38 args).run Tryz.prog w = .ok (.enter 38 args) w := enters_of Tryz.func38 (by kernel_rfl) rfl
  have HC := hid (fun x y w1 (h : Below w.heap.size w w1) => isCr1_any x y f bf w1 ((h.block bf (lt_of_get hc)).trans hc))
  have Hx := hid hx
  have Hp := hid hp
  have Hm := hid (holds_mem hp f)
  clear hx hp hc
  go_enter Tryz.func53, Tryz.ntmps53
  go_wp2
  go_loopw [8] (fun i wr => ∃ k : Nat, k ≤ n ∧ i = .int .i64 k ∧ Hid (¬ holdsTo ps f k) ∧ Below w.heap.size w wr) (fun i _ => n - (intOf i).toNat)
  case atStart => exact ⟨0, Nat.zero_le _, rfl, hid (fun ⟨i, hi, _⟩ => absurd hi (Nat.not_lt_zero _)), Below.refl _ _⟩
  case round =>
    obtain ⟨k, hk, rfl, Hk, hB⟩ := hrel
    by_cases hlt : k < n
    · obtain ⟨b, off, hb, rfl, hcl⟩ : ∃ b off, b < w.heap.size ∧ a1 = some ⟨b, off, none⟩ ∧ ∀ i, i < ps.length → w.cell? ⟨b, off + i, none⟩ = some (.int .i64 (ps[i]?.getD 0)) := by
        rcases Hx.out with h | h
        · have := Hp.out; rw [h] at this; simp at this; omega
        · exact h
      have hc2 : wr.cell? ⟨b, off + k * 2, none⟩ = some (.int .i64 (at0 ps (k * 2))) := (hB.cell (p := ⟨b, off + k * 2, none⟩) hb).trans (hcl _ (by have := Hp.out; omega))
      have hc3 : wr.cell? ⟨b, off + k * 2 + 1, none⟩ = some (.int .i64 (at0 ps (k * 2 + 1))) := (hB.cell (p := ⟨b, off + (k * 2 + 1), none⟩) hb).trans (hcl _ (by have := Hp.out; omega))
      obtain ⟨x, hx⟩ : ∃ x, x = at0 ps (k * 2) := ⟨_, rfl⟩
      obtain ⟨y, hy⟩ : ∃ y, y = at0 ps (k * 2 + 1) := ⟨_, rfl⟩
      rw [← hx] at hc2
      rw [← hy] at hc3
      have HC2 := hid (HC.out x y wr hB)
      have hi0 : (0 : Int) ≤ (k : Int) := by omega
      have hi1 : (k : Int) < (n : Int) := by omega
      have HB := hid hB
      have Hxy : Hid (f ∈ [x, y] ↔ (f = at0 ps (k * 2) ∨ f = at0 ps (k * 2 + 1))) := hid (by rw [hx, hy]; simp)
      clear hcl hx hy hB
      by_cases hf : f ∈ [x, y]
      · rw [decide_eq_true hf] at HC2
        have He : Hid (f ∈ ps) := hid (Hm.out.1 ⟨k, hlt, Hxy.out.1 hf⟩)
        clear hf
        go_wp2_with fail
        refine HC2.out.mono ?_
        rintro e w2 ⟨rfl, hB2⟩
        have HB2 := hid (HB.out.trans (hB2.mono HB.out.size))
        clear hB2
        go_wp2_with fail
        go_ret
        exact ⟨k, rfl, by omega, ⟨fun _ => He.out, fun _ => by omega⟩, HB2.out⟩
      · rw [decide_eq_false hf] at HC2
        have He : Hid (¬ holdsTo ps f (k + 1)) := hid (by
          rintro ⟨i, hi, h⟩
          by_cases e : i = k
          · subst e
            exact hf (Hxy.out.2 h)
          · exact Hk.out ⟨i, by omega, h⟩)
        clear hf
        go_wp2_with fail
        refine HC2.out.mono ?_
        rintro e w2 ⟨rfl, hB2⟩
        have HB2 := hid (HB.out.trans (hB2.mono HB.out.size))
        clear hB2
        go_wp2_with fail
        go_roundw
        case rel => exact ⟨k + 1, by omega, by go_num, He, HB2.out⟩
        case measure => simp [intOf]; omega
    · obtain rfl : k = n := by omega
      have He : Hid (f ∉ ps) := hid (fun h => Hk.out (Hm.out.2 h))
      go_wp2_with fail
      go_ret
      exact ⟨-1, rfl, by decide, ⟨fun h => absurd h (by decide), fun h => absurd h He.out⟩, hB⟩

set_option maxRecDepth 100000 in
set_option maxHeartbeats 1000000 in
theorem containsP_any (a1 : Option Addr) (n cap1 : Nat) (ps : List Int) (f : Int) (bf : Nat) (w : World) (hx : SlI w w.heap.size a1 ps) (hp : ps.length = 2 * n) (hn : n ≤ 1048576) (hc : w.heap[bf]? = some (.cells #[.int .i64 f] 2 (0, 0))) :
    Calls Tryz.prog 37 #[.slice a1 n cap1, .func (.func 38) #[] #[.pointer (some ⟨bf, 0, none⟩)]] w fun e w' => e = .returned (.bool (decide (f ∈ ps))) ∧ Below w.heap.size w w' := by
  have HI := hid (idxP_any a1 n cap1 ps f bf w hx hp hn hc)
  obtain ⟨c, hcc⟩ : ∃ c, c = decide (f ∈ ps) := ⟨_, rfl⟩
  have Hc := hid hcc
  rw [← hcc]
  clear hc hx hcc
  go_enter Tryz.func37, Tryz.ntmps37
  go_wp2_with fail
  refine HI.out.mono ?_
  rintro e w' ⟨i, rfl, h1, h2, hB⟩
  have Hi := hid h2
  have HB := hid hB
  clear h2 hB
  by_cases h0 : 0 ≤ i
  · have He : Hid (c = true) := hid (by rw [Hc.out]; exact decide_eq_true (Hi.out.1 h0))
    go_wp2_with fail
    go_ret
    exact ⟨ret_bool (by rw [He.out]), HB.out⟩
  · have He : Hid (c = false) := hid (by rw [Hc.out]; exact decide_eq_false (fun h => h0 (Hi.out.2 h)))
    have hlt : i < 0 := by omega
    go_wp2_with fail
    go_ret
    exact ⟨ret_bool (by rw [He.out]; simp [hlt]), HB.out⟩

/-- In the complex, and in no pair. -/
def critB (fs ps : List Int) (f : Int) : Bool := decide (f ∈ fs) && !decide (f ∈ ps)
set_option maxRecDepth 100000 in
set_option maxHeartbeats 2000000 in
theorem isCr_any (V : Int) (a0 : Option Addr) (cap : Nat) (fs : List Int) (a1 : Option Addr) (n cap1 : Nat) (ps : List Int) (f : Int) (w : World) (hx : SlI w w.heap.size a0 fs) (hx1 : SlI w w.heap.size a1 ps) (hl : fs.length ≤ 1048576) (hp : ps.length = 2 * n) (hn : n ≤ 1048576) :
    Calls Tryz.prog 25 #[.agg #[.int .i64 V, .slice a0 fs.length cap], .slice a1 n cap1, .int .i64 f] w fun e w' => e = .returned (.bool (critB fs ps f)) ∧ Below w.heap.size w w' := by
  obtain ⟨W0, hW0⟩ : ∃ W0, W0 = (w.alloc (.cells #[.int .i64 V, .slice a0 fs.length cap] 30)).alloc (.cells #[.int .i64 f] 2) := ⟨_, rfl⟩
  have hB0 : Below w.heap.size w W0 := by rw [hW0]; exact ((Below.refl _ w).alloc (Nat.le_refl _) _).alloc (by simp) _
  have hs0 : W0.heap.size = w.heap.size + 2 := by rw [hW0]; simp
  have hbf : W0.heap[w.heap.size + 1]? = some (.cells #[.int .i64 f] 2 (0, 0)) := by
    have := heap_alloc_new (w.alloc (.cells #[.int .i64 V, .slice a0 fs.length cap] 30)) (.cells #[.int .i64 f] 2)
    rw [World.size_alloc] at this
    rw [hW0]
    exact this
  have hk1 : W0.cell? ⟨w.heap.size, 1, none⟩ = some (.slice a0 fs.length cap) := by rw [hW0]; simp [go_sem]
  have HP := hid (containsP_any a1 n cap1 ps f (w.heap.size + 1) W0 (hx1.later hB0 hB0.size) hp hn hbf)
  have HF := hid (fun w1 (h : Below w.heap.size w w1) => contains_any a0 cap fs f w1 (hx.later h h.size) hl)
  have Hbf := hid hbf
  have HB0 := hid hB0
  have Hk1 := hid hk1
  have Hs0 := hid hs0
  rw [hW0] at HP
  obtain ⟨c1, hc1⟩ : ∃ c, c = decide (f ∈ fs) := ⟨_, rfl⟩
  obtain ⟨c2, hc2⟩ : ∃ c, c = decide (f ∈ ps) := ⟨_, rfl⟩
  rw [← hc1] at HF
  rw [← hc2] at HP
  have Hc : Hid (critB fs ps f = (c1 && !c2)) := hid (by unfold critB; rw [hc1, hc2])
  have HW0 := hid hW0
  clear hx hx1 hp hB0 hs0 hbf hk1 hc1 hc2 hW0
  go_enter Tryz.func25, Tryz.ntmps25
  go_wp2_with fail
  rw [← HW0.out] at HP ⊢
  refine HP.out.mono ?_
  rintro e w1 ⟨rfl, hB1⟩
  have hB : Below w.heap.size w w1 := HB0.out.trans (hB1.mono HB0.out.size)
  have k1 : w1.cell? ⟨w.heap.size, 1, none⟩ = some (.slice a0 fs.length cap) := (hB1.cell (p := ⟨w.heap.size, 1, none⟩) (by have := Hs0.out; simp only; omega)).trans Hk1.out
  have kf : w1.cell? ⟨w.heap.size + 1, 0, none⟩ = some (.int .i64 f) := (hB1.cell (p := ⟨w.heap.size + 1, 0, none⟩) (by have := Hs0.out; simp only; omega)).trans (box_cell Hbf.out).1
  have HF1 := hid (HF.out w1 hB)
  have HB := hid hB
  clear hB1 hB
  cases c1
  · go_wp2_with (go_at_call 39; refine HF1.out.mono ?_; rintro e w' ⟨rfl, rfl⟩)
    go_ret
    exact ⟨ret_bool (by rw [Hc.out]; rfl), HB.out⟩
  · go_wp2_with (go_at_call 39; refine HF1.out.mono ?_; rintro e w' ⟨rfl, rfl⟩)
    go_ret
    exact ⟨ret_bool (by rw [Hc.out]; cases c2 <;> rfl), HB.out⟩

end Go.Proofs.YtpdhnjdnlgnniaaGreat

/-! l06Critical. -/
namespace Go.Proofs.YtpdhnjdnlgnniaaGreat
open Go.RowKit

theorem mem_critL {fs ps : List Int} {x : Int} : x ∈ critL fs ps ↔ critB fs ps x = true := by
  unfold critL critB
  simp

set_option maxRecDepth 1000000 in
set_option maxHeartbeats 2000000 in
theorem crit6_any (V : Int) (a0 : Option Addr) (cap : Nat) (fs : List Int) (a1 : Option Addr) (n cap1 : Nat) (ps : List Int) (f : Int) (w : World) (hx : SlI w w.heap.size a0 fs) (hx1 : SlI w w.heap.size a1 ps) (hl : fs.length ≤ 1048576) (hp : ps.length = 2 * n) (hn : n ≤ 1048576) :
    Calls Tryz.prog 19 #[.agg #[.int .i64 V, .slice a0 fs.length cap], .slice a1 n cap1, .int .i64 f] w fun e w' => e = .returned (.bool (critB fs ps f)) ∧ Below w.heap.size w w' := by
  have hB0 : Below w.heap.size w (w.alloc (.cells #[.int .i64 V, .slice a0 fs.length cap] 30)) := (Below.refl _ w).alloc (Nat.le_refl _) _
  have HN := hid (critS_any V a0 cap fs a1 n cap1 ps _ (hx.later hB0 hB0.size) (hx1.later hB0 hB0.size) hl hp hn)
  obtain ⟨E, hE⟩ : ∃ E, E = critB fs ps f := ⟨_, rfl⟩
  rw [← hE]
  have HE := hid hE
  obtain ⟨C, hC⟩ : ∃ C, C = critL fs ps := ⟨_, rfl⟩
  have hml : C.length ≤ 1048576 := by rw [hC]; exact Nat.le_trans (List.length_filter_le _ _) hl
  have HMem : Hid (f ∈ C ↔ critB fs ps f = true) := hid (by rw [hC]; exact mem_critL)
  rw [← hC] at HN
  have HB0 := hid hB0
  clear hx hx1 hp hE hC hB0
  go_enter Tryz.func19, Tryz.ntmps19
  go_wp2_with fail
  refine HN.out.mono ?_
  rintro e w1 ⟨v, rfl, hR⟩
  obtain ⟨_, av, cv, rfl, hs⟩ := ownsRow_slI hR.1
  have HS := hid hs
  have HB1 := hid (HB0.out.trans (hR.2.mono HB0.out.size))
  clear hR hs
  go_wp2_with fail
  go_loopw [8] (fun i wr => ∃ k : Nat, k ≤ C.length ∧ i = .int .i64 k ∧ Hid (f ∉ C.take k) ∧ wr = w1) (fun i _ => C.length - (intOf i).toNat)
  case atStart => exact ⟨0, Nat.zero_le _, rfl, hid (by simp), rfl⟩
  case round =>
    obtain ⟨k, hk, rfl, Hk, rfl⟩ := hrel
    by_cases hlt : k < C.length
    · obtain ⟨y, hy⟩ : ∃ y, y = C[k]?.getD 0 := ⟨_, rfl⟩
      obtain ⟨g, off, hgb, rfl, hcl⟩ : ∃ g off, g < wr.heap.size ∧ av = some ⟨g, off, none⟩ ∧ ∀ i, i < C.length → wr.cell? ⟨g, off + i, none⟩ = some (.int .i64 (C[i]?.getD 0)) := by
        rcases HS.out with h | h
        · rw [h] at hlt; simp at hlt
        · exact h
      have hck : wr.cell? ⟨g, off + k, none⟩ = some (.int .i64 y) := by rw [hy]; exact hcl k hlt
      have hi0 : (0 : Int) ≤ (k : Int) := by omega
      have hi1 : (k : Int) < (C.length : Int) := by omega
      have Hy := hid hy
      clear hcl hy
      by_cases hyf : y = f
      · have hd : (y == f) = true := by simp [hyf]
        have He : Hid (E = true) := hid (by rw [HE.out]; exact HMem.out.1 (by rw [← hyf, Hy.out]; exact getD_mem hlt))
        clear hyf
        go_wp2_with fail
        go_ret
        exact ⟨ret_bool (by rw [He.out]), HB1.out⟩
      · have hd : (y == f) = false := by simp [hyf]
        have He : Hid (f ∉ C.take (k + 1)) := hid (by
          rw [take_snoc hlt, ← Hy.out]
          intro h
          rcases List.mem_append.1 h with h | h
          · exact Hk.out h
          · simp at h; exact hyf h.symm)
        clear hyf
        go_wp2_with fail
        go_roundw
        case rel => exact ⟨k + 1, by omega, by go_num, He, by first | rfl | trivial⟩
        case measure => simp [intOf]; omega
    · have He : Hid (E = false) := hid (by
        have h2 := Hk.out
        rw [List.take_of_length_le (by omega)] at h2
        rw [HE.out]
        cases h3 : critB fs ps f
        · rfl
        · exact absurd (HMem.out.2 h3) h2)
      go_wp2_with fail
      go_ret
      exact ⟨ret_bool (by rw [He.out]), HB1.out⟩

end Go.Proofs.YtpdhnjdnlgnniaaGreat

/-! CriticalChain, both doors. -/
namespace Go.Proofs.YtpdhnjdnlgnniaaGreat
open Go.RowKit

noncomputable def ccR (V : Int) (fs : List Int) (n : Nat) (ps : List Int) (b : Int) : List Int × Int := if acodeR V fs n ps (critB fs ps b) = 0 then (endL fs ps n [b], 0) else ([], acodeR V fs n ps (critB fs ps b))
theorem endL_len1 (fs ps : List Int) (n : Nat) : ∀ (N : Nat) (ch : List Int), muF fs ps n ch = N → (endL fs ps n ch).length ≤ max ch.length fs.length := by
  intro N
  induction N using Nat.strongRecOn with
  | _ N ih =>
    intro ch hN
    rw [endL]
    split
    · omega
    · split
      · rename_i h
        have h1 := ih _ (by omega) (flowL fs ps n ch) rfl
        have h2 := flowL_len fs ps n ch
        omega
      · simp
theorem ccR_len (V : Int) (fs : List Int) (n : Nat) (ps : List Int) (b : Int) (h : fs.length ≤ 1048576) (_hp : ps.length = 2 * n) (_hn : n ≤ 1048576) : (ccR V fs n ps b).1.length ≤ 1048576 := by
  unfold ccR
  split
  · have := endL_len1 fs ps n _ [b] rfl
    simp only [List.length_singleton] at this
    simp only
    omega
  · simp
theorem acyB_no1 {ps : List Int} {n : Nat} (h : acyB ps n = true) : NoCycle ps n := Classical.byContradiction fun hc => by rw [acyB_false hc] at h; cases h
theorem okTo_631 {V : Int} {fs ps : List Int} {n : Nat} (hC : IsC V fs) (hO : OkTo fs ps n) : n ≤ 63 := by
  have h1 : (pushTo ps (((List.range n).map fun i => at0 ps (i * 2))) n).length = n := by
    have : ∀ k, k ≤ n → (pushTo ps (((List.range n).map fun i => at0 ps (i * 2))) k).length = k := by
      intro k
      induction k with
      | zero => simp [pushTo]
      | succ k ih =>
        intro hk
        rw [pushTo, List.length_append, ih (by omega), if_pos (by rw [List.mem_map]; exact ⟨k, by simp; omega, rfl⟩)]
        rfl
    exact this n (Nat.le_refl _)
  have h2 := sub_lenI (pushTo ps ((List.range n).map fun i => at0 ps (i * 2)) n) fs (pushTo_nodup hO n (Nat.le_refl _)) (fun x hx => pushTo_fs hO x hx)
  rw [h1] at h2
  have := hC.len63
  omega
theorem acode_crit {V : Int} {fs ps : List Int} {n : Nat} {s : Bool} (h : acodeR V fs n ps s = 0) : IsC V fs ∧ OkTo fs ps n ∧ s = true ∧ acyB ps n = true := by
  unfold acodeR at h
  by_cases hp : pcodeR V fs n ps = 0
  · rw [if_pos hp] at h
    refine ⟨(pcode_zero hp).1, (pcode_zero hp).2, ?_⟩
    cases s
    · simp at h
    · cases ha : acyB ps n
      · rw [ha] at h; simp at h
      · exact ⟨rfl, rfl⟩
  · rw [if_neg hp] at h
    exact absurd h hp
theorem chn_single {fs ps : List Int} {b : Int} (h : critB fs ps b = true) : ChnF fs [b] := by
  refine ⟨by simp, fun x hx => ?_⟩
  simp at hx
  unfold critB at h
  simp only [Bool.and_eq_true, decide_eq_true_eq] at h
  rw [hx]
  exact h.1

theorem one_lit (w : World) (b : Int) (t : Nat) : SlI (w.alloc (.cells #[.int .i64 b] t)) (w.alloc (.cells #[.int .i64 b] t)).heap.size (some ⟨w.heap.size, 0, none⟩) [b] := by
  refine .inr ⟨w.heap.size, 0, ?_, rfl, fun i hi => ?_⟩
  · simp
  · have : i = 0 := by simp at hi; omega
    subst this
    unfold World.cell?
    rw [show (w.alloc (.cells #[.int .i64 b] t)).heap[w.heap.size]? = _ from heap_alloc_new _ _]
    rfl

set_option maxRecDepth 1000000 in
set_option maxHeartbeats 4000000 in
theorem specCriticalChain (V : Int) (a0 : Option Addr) (cap : Nat) (fs : List Int) (a1 : Option Addr) (n cap1 : Nat) (ps : List Int) (b : Int) (w : World) (hx : SlI w w.heap.size a0 fs) (hx1 : SlI w w.heap.size a1 ps) (hl : fs.length ≤ 1048576) (hp : ps.length = 2 * n) (hn : n ≤ 1048576) (_hw : ∀ x ∈ ps, (Lit.int .i64 x).wf = true) (_hb : (Lit.int .i64 b).wf = true) :
    Calls Tryz.prog 6 #[.agg #[.int .i64 V, .slice a0 fs.length cap], .slice a1 n cap1, .int .i64 b] w fun e w' => ∃ v, e = .returned (.tuple #[v, .int .i64 (ccR V fs n ps b).2]) ∧ Res w w' v (ccR V fs n ps b).1 := by
  obtain ⟨W0, hW0⟩ : ∃ W0, W0 = w.alloc (.cells #[.int .i64 V, .slice a0 fs.length cap] 30) := ⟨_, rfl⟩
  have hB0 : Below w.heap.size w W0 := by rw [hW0]; exact (Below.refl _ w).alloc (Nat.le_refl _) _
  have hk0 : W0.heap[w.heap.size]? = some (.cells #[.int .i64 V, .slice a0 fs.length cap] 30 (0, 0)) := by rw [hW0]; exact heap_alloc_new _ _
  have HK := hid (pcode_spec V a0 cap fs a1 n cap1 ps W0 (hx.later hB0 hB0.size) (hx1.later hB0 hB0.size) hl hp hn)
  rw [hW0] at HK
  have HCr := hid (fun W (h : Below w.heap.size w W) => crit6_any V a0 cap fs a1 n cap1 ps b W (hx.later h h.size) (hx1.later h h.size) hl hp hn)
  have HB0 := hid hB0
  have Hk0 := hid hk0
  obtain ⟨s, hs⟩ : ∃ s, s = critB fs ps b := ⟨_, rfl⟩
  by_cases hpc : pcodeR V fs n ps = 0
  · obtain ⟨hC, hO⟩ := pcode_zero hpc
    have HA := hid (fun (W : World) (h : Below w.heap.size w W) => acyclicS_any a1 n cap1 ps W (hx1.later h h.size) hp hn (okTo_highs hC hO) (okTo_lows hC hO))
    have hE : acodeR V fs n ps s = if s then (if acyB ps n then 0 else 5) else 2 := by unfold acodeR; rw [if_pos hpc]
    have HEnd := hid (fun (h1 : s = true) (h2 : acyB ps n = true) W (h : Below w.heap.size w W) g (hg : SlI W W.heap.size (some ⟨g, 0, none⟩) [b]) => end6_any fs a1 n cap1 ps (some ⟨g, 0, none⟩) 1 [b] W (hx1.later h h.size) hg hp hn hC hO (acyB_no1 h2) (chn_single (by rw [← hs]; exact h1)))
    have HR : Hid (ccR V fs n ps b = if s then (if acyB ps n then (endL fs ps n [b], 0) else ([], 5)) else ([], 2)) := hid (by
      unfold ccR
      rw [← hs, hE]
      cases s <;> cases acyB ps n <;> simp)
    rw [hpc] at HK
    rw [← hs] at HCr
    obtain ⟨ab, hab⟩ : ∃ ab, ab = acyB ps n := ⟨_, rfl⟩
    rw [← hab] at HA HR HEnd
    clear hx hx1 hB0 hk0 hpc hE hab hC hO hs hp hn
    go_enter Tryz.func6, Tryz.ntmps6
    go_wp2_with fail
    refine HK.out.mono ?_
    rintro e w1 ⟨rfl, hB1⟩
    rw [← hW0] at hB1
    have HB1 := hid (HB0.out.trans (hB1.mono HB0.out.size))
    obtain ⟨k0, k1, _, _⟩ := two_of ((hB1.block _ (lt_get Hk0.out)).trans Hk0.out)
    clear hB1
    have HCr1 := hid (HCr.out w1 HB1.out)
    cases s
    · go_wp2_with (go_at_call 19; refine HCr1.out.mono ?_; rintro e w2 ⟨rfl, hB2⟩; have HB2 := hid (HB1.out.trans (hB2.mono HB1.out.size)); clear hB2)
      go_ret2
      rw [HR.out]
      exact ⟨_, rfl, res_nil _ _ HB2.out⟩
    · cases ab
      · go_wp2_with (first
          | (go_at_call 19; refine HCr1.out.mono ?_; rintro e w2 ⟨rfl, hB2⟩; have HB2 := hid (HB1.out.trans (hB2.mono HB1.out.size)); have HA2 := hid (HA.out w2 HB2.out); clear hB2)
          | (go_at_call 20; refine HA2.out.mono ?_; rintro e w3 ⟨rfl, hB3⟩; have HB3 := hid (HB2.out.trans (hB3.mono HB2.out.size)); clear hB3))
        go_ret2
        rw [HR.out]
        exact ⟨_, rfl, res_nil _ _ HB3.out⟩
      · go_wp2_with (first
          | (go_at_call 19; refine HCr1.out.mono ?_; rintro e w2 ⟨rfl, hB2⟩; have HB2 := hid (HB1.out.trans (hB2.mono HB1.out.size)); have HA2 := hid (HA.out w2 HB2.out); clear hB2)
          | (go_at_call 20; refine HA2.out.mono ?_; rintro e w3 ⟨rfl, hB3⟩; have HB3 := hid (HB2.out.trans (hB3.mono HB2.out.size)); have HE3 := hid (HEnd.out (by trivial) (by trivial) (w3.alloc (.cells #[.int .i64 b] 2)) (HB3.out.trans (((Below.refl _ w3).alloc (Nat.le_refl _) _).mono HB3.out.size)) w3.heap.size (one_lit w3 b 2)); clear hB3)
          | (go_at_call 21; refine HE3.out.mono ?_; rintro e w4 ⟨v4, rfl, hr4⟩; have HR4 := hid (hr4.later (HB3.out.trans (((Below.refl _ w3).alloc (Nat.le_refl _) (.cells #[.int .i64 b] 2)).mono HB3.out.size))); clear hr4))
        go_ret2
        rw [HR.out]
        exact ⟨_, rfl, HR4.out⟩
  · have HR : Hid (ccR V fs n ps b = ([], pcodeR V fs n ps)) := hid (by
      unfold ccR acodeR
      rw [if_neg hpc, if_neg hpc])
    obtain ⟨E, hE⟩ : ∃ E, E = pcodeR V fs n ps := ⟨_, rfl⟩
    rw [← hE] at HR HK hpc
    have hcn : (E == 0) = false := by simpa using hpc
    have hcm : (E != 0) = true := by simpa using hpc
    clear hx hx1 hB0 hk0 hpc hE hs
    go_enter Tryz.func6, Tryz.ntmps6
    go_wp2_with fail
    refine HK.out.mono ?_
    rintro e w1 ⟨rfl, hB1⟩
    rw [← hW0] at hB1
    have HB1 := hid (HB0.out.trans (hB1.mono HB0.out.size))
    clear hB1
    go_wp2_with fail
    go_ret2
    rw [HR.out]
    exact ⟨_, rfl, res_nil _ _ HB1.out⟩

set_option maxRecDepth 100000 in
set_option maxHeartbeats 4000000 in
theorem implCriticalChain (V : Int) (a0 : Option Addr) (cap : Nat) (fs : List Int) (a1 : Option Addr) (n cap1 : Nat) (ps : List Int) (b : Int) (w : World) (hx : SlI w w.heap.size a0 fs) (hx1 : SlI w w.heap.size a1 ps) (hl : fs.length ≤ 1048576) (hp : ps.length = 2 * n) (hn : n ≤ 1048576) (hw : ∀ x ∈ ps, (Lit.int .i64 x).wf = true) (_hb : (Lit.int .i64 b).wf = true) :
    Calls Tryz.prog 9 #[.agg #[.int .i64 V, .slice a0 fs.length cap], .slice a1 n cap1, .int .i64 b] w fun e w' => ∃ v, e = .returned (.tuple #[v, .int .i64 (ccR V fs n ps b).2]) ∧ Res w w' v (ccR V fs n ps b).1 := by
  obtain ⟨W0, hW0⟩ : ∃ W0, W0 = w.alloc (.cells #[.int .i64 V, .slice a0 fs.length cap] 30) := ⟨_, rfl⟩
  have hB0 : Below w.heap.size w W0 := by rw [hW0]; exact (Below.refl _ w).alloc (Nat.le_refl _) _
  have hk0 : W0.heap[w.heap.size]? = some (.cells #[.int .i64 V, .slice a0 fs.length cap] 30 (0, 0)) := by rw [hW0]; exact heap_alloc_new _ _
  have hwl : w.heap.size < W0.heap.size := lt_get hk0
  have hkc := two_of hk0
  have HCr := hid (fun W (h : Below w.heap.size w W) => isCr_any V a0 cap fs a1 n cap1 ps b W (hx.later h h.size) (hx1.later h h.size) hl hp hn)
  have HAc := hid (fun s W (h : Below w.heap.size w W) => acode_any V a0 cap fs a1 n cap1 ps s W (hx.later h h.size) (hx1.later h h.size) hl hp hn hw)
  have HEnd := hid (fun (h0 : acodeR V fs n ps (critB fs ps b) = 0) W (h : Below w.heap.size w W) g (hg : SlI W W.heap.size (some ⟨g, 0, none⟩) [b]) => by
    obtain ⟨hC, hO, hs, hac⟩ := acode_crit h0
    exact eof_any V a0 cap fs a1 n cap1 ps (some ⟨g, 0, none⟩) 1 [b] W (hx.later h h.size) (hx1.later h h.size) hg hl hp hn hC hO (acyB_no1 hac) (chn_single hs) (okTo_631 hC hO))
  obtain ⟨s, hs⟩ : ∃ s, s = critB fs ps b := ⟨_, rfl⟩
  obtain ⟨c, hcc⟩ : ∃ c, c = acodeR V fs n ps s := ⟨_, rfl⟩
  have HAs := hid (fun W (h : Below w.heap.size w W) => HAc.out s W h)
  rw [← hcc] at HAs
  rw [← hs] at HCr HEnd
  rw [← hcc] at HEnd
  have HR1 : Hid (c = 0 → ccR V fs n ps b = (endL fs ps n [b], 0)) := hid (fun h => by unfold ccR; rw [← hs, ← hcc, if_pos h])
  have HR2 : Hid (¬ c = 0 → ccR V fs n ps b = ([], c)) := hid (fun h => by unfold ccR; rw [← hs, ← hcc, if_neg h])
  have HB0 := hid hB0
  have Hwl := hid hwl
  have Hkc := hid (show W0.cell? ⟨w.heap.size, 0, none⟩ = some (.int .i64 V) ∧ W0.cell? ⟨w.heap.size, 1, none⟩ = some (.slice a0 fs.length cap) from ⟨hkc.1, hkc.2.1⟩)
  clear hx hx1 hB0 hk0 hkc hwl hs hcc HAc hp hw
  go_enter Tryz.func9, Tryz.ntmps9
  go_wp2_with fail
  rw [← hW0]
  clear hW0
  refine region_M 7 (fun W : World => W.cell? ⟨w.heap.size, 0, none⟩ = some (.int .i64 V) ∧ W.cell? ⟨w.heap.size, 1, none⟩ = some (.slice a0 fs.length cap)) (by kernel_rfl) ?_
  obtain ⟨x0, hx0⟩ : ∃ x, x = W0.drew := ⟨_, rfl⟩
  have hb0 : Below W0.heap.size W0 x0 := by rw [hx0]; exact ⟨rfl, rfl, rfl, Nat.le_refl _, fun _ _ => rfl⟩
  rw [← hx0]
  have HX0 : Hid (x0.cell? ⟨w.heap.size, 0, none⟩ = some (.int .i64 V) ∧ x0.cell? ⟨w.heap.size, 1, none⟩ = some (.slice a0 fs.length cap)) := hid ⟨(hb0.cell (p := ⟨w.heap.size, 0, none⟩) Hwl.out).trans Hkc.out.1, (hb0.cell (p := ⟨w.heap.size, 1, none⟩) Hwl.out).trans Hkc.out.2⟩
  have HBx := hid (HB0.out.trans (hb0.mono HB0.out.size))
  have Hwx := hid (Nat.lt_of_lt_of_le Hwl.out hb0.size)
  clear hx0 hb0 HB0 Hkc Hwl
  refine anyM_take (i := 0) (v := .agg #[.int .i64 V, .slice a0 fs.length cap]) [6, 7] rfl (by kernel_rfl) (fun _ _ _ h => h) (Or.inl ⟨by rfl, fun W hW => by (obtain ⟨z0, z1⟩ := hW; go_simp)⟩) HX0.out ?_
  refine anyM_take (i := 1) (v := .slice a1 n cap1) [6, 7] rfl (by kernel_rfl) (fun _ _ _ h => h) (Or.inl ⟨by rfl, fun W hW => by go_simp⟩) HX0.out ?_
  refine anyM_take (i := 2) (v := .agg #[.int .i64 V, .slice a0 fs.length cap]) [5, 6, 7] rfl (by kernel_rfl) (fun _ _ _ h => h) (Or.inl ⟨by rfl, fun W hW => by (obtain ⟨z0, z1⟩ := hW; go_simp)⟩) HX0.out ?_
  refine anyM_take (i := 3) (v := .slice a1 n cap1) [5, 6, 7] rfl (by kernel_rfl) (fun _ _ _ h => h) (Or.inl ⟨by rfl, fun W hW => by go_simp⟩) HX0.out ?_
  refine anyM_take (i := 4) (v := .int .i64 b) [5, 6, 7] rfl (by kernel_rfl) (fun _ _ _ h => h) (Or.inl ⟨by rfl, fun W hW => by go_simp⟩) HX0.out ?_
  refine anyM_ready (rs := [5]) (by kernel_rfl) (by simp) ?_
  refine AllM.cons rfl (fun K hK => ?_) AllM.nil
  go_simp
  go_at_call 25
  refine (HCr.out x0 HBx.out).mono ?_
  rintro e x2 ⟨rfl, hb2⟩
  have HX2 : Hid (x2.cell? ⟨w.heap.size, 0, none⟩ = some (.int .i64 V) ∧ x2.cell? ⟨w.heap.size, 1, none⟩ = some (.slice a0 fs.length cap)) := hid ⟨(hb2.cell (p := ⟨w.heap.size, 0, none⟩) Hwx.out).trans HX0.out.1, (hb2.cell (p := ⟨w.heap.size, 1, none⟩) Hwx.out).trans HX0.out.2⟩
  have HB2 := hid (HBx.out.trans (hb2.mono HBx.out.size))
  have Hw2 := hid (Nat.lt_of_lt_of_le Hwx.out hb2.size)
  clear hb2
  refine hK.out _ _ (fun _ => HX2.out) ?_
  clear hK K
  refine anyM_ready (rs := [6]) (by kernel_rfl) (by simp) ?_
  refine AllM.cons rfl (fun K hK => ?_) AllM.nil
  go_simp
  go_at_call 24
  refine (HAs.out x2 HB2.out).mono ?_
  rintro e x3 ⟨rfl, hb3⟩
  have HX3 : Hid (x3.cell? ⟨w.heap.size, 0, none⟩ = some (.int .i64 V) ∧ x3.cell? ⟨w.heap.size, 1, none⟩ = some (.slice a0 fs.length cap)) := hid ⟨(hb3.cell (p := ⟨w.heap.size, 0, none⟩) Hw2.out).trans HX2.out.1, (hb3.cell (p := ⟨w.heap.size, 1, none⟩) Hw2.out).trans HX2.out.2⟩
  have HB3 := hid (HB2.out.trans (hb3.mono HB2.out.size))
  clear hb3
  refine hK.out _ _ (fun _ => HX3.out) ?_
  clear hK K
  refine anyM_ready (rs := [7]) (by kernel_rfl) (by simp) ?_
  refine AllM.cons rfl (fun K hK => ?_) AllM.nil
  go_simp
  refine hK.out _ _ (fun h => absurd rfl h) ?_
  clear hK K
  refine anyM_done (by kernel_rfl) ?_ _
  by_cases h0 : c = 0
  · have HR := hid (HR1.out h0)
    have hBa : Below x3.heap.size x3 (x3.alloc (.cells #[.int .i64 b] 2)) := (Below.refl _ x3).alloc (Nat.le_refl _) _
    have HBa := hid (HB3.out.trans (hBa.mono HB3.out.size))
    have HD := hid (HEnd.out h0 (x3.alloc (.cells #[.int .i64 b] 2)) HBa.out x3.heap.size (one_lit x3 b 2))
    obtain ⟨n0, n1⟩ := HX3.out
    clear hBa
    subst h0
    go_wp2_with (go_at_call 26; refine HD.out.mono ?_; rintro e x4 ⟨v, rfl, hr⟩; have Hr := hid (hr.later HBa.out); clear hr)
    go_ret2
    rw [HR.out]
    exact ⟨_, rfl, Hr.out⟩
  · have HR := hid (HR2.out h0)
    have hn : (c != 0) = true := by simpa using h0
    clear h0
    go_wp2_with fail
    go_ret2
    rw [HR.out]
    exact ⟨_, rfl, res_nil _ _ HB3.out⟩

end Go.Proofs.YtpdhnjdnlgnniaaGreat

/-! What a complex that comes in is told as, for the rows of all laws. -/
namespace Go.Proofs.YtpdhnjdnlgnniaaGreat
open Go.ChangeShapes Go.WideShapes Go.ChangeAt Go.RowKit Go.Joins

theorem own : ownKnob Tryz.prog.godebug = none := by kernel_rfl
theorem laidOut : laidOutB Tryz.prog = true := by kernel_rfl

variable {H : Type} {enc : TypeId × Value → H}

/-- A slice of int64 that came in. -/
theorem slI_of_trod {W : World} {n : Nat} {v : Value} {y : DataW H × List MemPlace} (hf : DataW.trod enc Tryz.prog W 0 (fun _ => true) true n 22 [v] = some y) :
    ∃ a len cap xs, v = .slice a len cap ∧ xs.length = len ∧ len ≤ 9223372036854775807 ∧ SlI W W.heap.size a xs ∧ ∀ x ∈ xs, (Lit.int .i64 x).wf = true := by
  rcases open_ints Tryz.underlying22 Tryz.underlying2 (by kernel_rfl) hf with ⟨hcs, _⟩ | ⟨x, l, c, zs, hcs, _, hl, hm, hz, _, hcell, hwf⟩
  · simp at hcs
    subst hcs
    exact ⟨none, 0, 0, [], rfl, rfl, by omega, .inl rfl, by simp⟩
  · simp at hcs
    subst hcs
    simp at hz
    have hlen : (zs.take l).length = l := by simp; omega
    unfold maxLen at hm
    refine ⟨some x, l, c, zs.take l, rfl, hlen, by omega, ?_, fun y hy => hwf y (List.mem_of_mem_take hy)⟩
    by_cases h0 : l = 0
    · subst h0; exact .inl (by simp)
    · right
      obtain ⟨b, off, spot⟩ := x
      have hc0 := hcell 0 (by omega)
      have hspot : spot = none := by simpa [Addr.add] using World.cell?_spot hc0
      subst hspot
      refine ⟨b, off, ?_, rfl, fun i hi => ?_⟩
      · have := World.block_lt_of_cell? W _ hc0
        simpa [Addr.add] using this
      · rw [hlen] at hi
        have := hcell i (by omega)
        have hadd : (⟨b, off, none⟩ : Addr).add i = ⟨b, off + i, none⟩ := by unfold Addr.add; split <;> simp_all
        rw [hadd] at this
        rw [List.getElem?_take, if_pos hi]
        simpa using this

end Go.Proofs.YtpdhnjdnlgnniaaGreat

/-! What a list of pairs that comes in is told as. -/
namespace Go.Proofs.YtpdhnjdnlgnniaaGreat
open Go.ChangeShapes Go.WideShapes Go.ChangeAt Go.RowKit Go.Joins

variable {H : Type} {enc : TypeId × Value → H}

/-- The number in a cell. -/
def cellInt (v : Option Value) : Int := match v with | some (.int _ n) => n | _ => 0

set_option maxRecDepth 100000 in
theorem two_of_trod {W : World} {n : Nat} {cs : List Value} {y : DataW H × List MemPlace} (hf : DataW.trod enc Tryz.prog W 0 (fun _ => true) true n 46 cs = some y) : ∃ x y : Int, cs = [.int .i64 x, .int .i64 y] ∧ (Lit.int .i64 x).wf = true ∧ (Lit.int .i64 y).wf = true := by
  cases n with
  | zero => simp [DataW.trod] at hf
  | succ n =>
    unfold DataW.trod at hf
    rw [Tryz.underlying46] at hf
    simp only at hf
    rw [show Tryz.prog.cellsOf 46 = 2 by kernel_rfl, show Tryz.prog.cellsOf 2 = 1 by kernel_rfl] at hf
    split at hf
    · next hl =>
      match cs, hl with
      | [c0, c1], _ =>
        simp only [Option.map_eq_some_iff] at hf
        obtain ⟨xs, hx, _⟩ := hf
        rw [show List.range 2 = [0, 1] from rfl, List.mapM_cons, List.mapM_cons, List.mapM_nil] at hx
        simp only [bind, Option.bind_eq_some_iff, pure, Option.some.injEq] at hx
        obtain ⟨y0, h0, _, ⟨y1, h1, _, rfl, rfl⟩, rfl⟩ := hx
        obtain ⟨a, ea, _, wa⟩ := DataW.trod_int Tryz.underlying2 h0
        obtain ⟨b, eb, _, wb⟩ := DataW.trod_int Tryz.underlying2 h1
        simp at ea eb
        subst ea; subst eb
        exact ⟨a, b, rfl, wa, wb⟩
    · cases hf

set_option maxRecDepth 100000 in
/-- A list of pairs that came in. -/
theorem pairs_of_trod {W : World} {n : Nat} {v : Value} {y : DataW H × List MemPlace} (hf : DataW.trod enc Tryz.prog W 0 (fun _ => true) true n 25 [v] = some y) :
    ∃ a len cap ps, v = .slice a len cap ∧ ps.length = 2 * len ∧ len ≤ 9223372036854775807 ∧ SlI W W.heap.size a ps ∧ ∀ x ∈ ps, (Lit.int .i64 x).wf = true := by
  rcases DataW.trod_slice Tryz.underlying25 hf with ⟨hcs, _⟩ | ⟨a, len, cap, elems, rest, m, _, hcs, _, hb, hl, hm, hlen, hel, _, _⟩
  · simp at hcs
    subst hcs
    exact ⟨none, 0, 0, [], rfl, rfl, by omega, .inl rfl, by simp⟩
  · simp at hcs
    subst hcs
    unfold maxLen at hm
    have hc : Tryz.prog.cellsOf 46 = 2 := by kernel_rfl
    have each : ∀ i, i < 2 * len → ∃ x, W.cell? (a.add i) = some (.int .i64 x) ∧ (Lit.int .i64 x).wf = true := by
      intro i hi
      have h := hel (i / 2) (by omega)
      rw [hc] at h
      have hy : elems[i / 2]? = some (elems[i / 2]'(by omega)) := List.getElem?_eq_getElem (by omega)
      rw [hy, Option.bind_eq_some_iff] at h
      obtain ⟨cs, hcs, ht⟩ := h
      obtain ⟨x, y, rfl, wx, wy⟩ := two_of_trod ht
      have h3 := (World.cells?_some hcs).2.2 (i % 2) (Nat.mod_lt _ (by decide))
      have hadd : (a.add (i / 2 * 2)).add (i % 2) = a.add i := by
        rw [Addr.add_add]
        congr 1
        omega
      rw [hadd] at h3
      rcases Nat.mod_two_eq_zero_or_one i with h | h <;> rw [h] at h3 <;> simp at h3
      · exact ⟨_, h3, wx⟩
      · exact ⟨_, h3, wy⟩
    refine ⟨some a, len, cap, (List.range (2 * len)).map (fun i => cellInt (W.cell? (a.add i))), rfl, by simp, by omega, ?_, ?_⟩
    rotate_left
    · intro x hx
      obtain ⟨i, hi, rfl⟩ := List.mem_map.1 hx
      obtain ⟨y, hy, wy⟩ := each i (List.mem_range.1 hi)
      rw [hy]
      exact wy
    by_cases h0 : len = 0
    · subst h0; exact .inl (by simp)
    · right
      obtain ⟨b, off, spot⟩ := a
      obtain ⟨x0, hc0, _⟩ := each 0 (by omega)
      have hspot : spot = none := by simpa [Addr.add] using World.cell?_spot hc0
      subst hspot
      refine ⟨b, off, ?_, rfl, fun i hi => ?_⟩
      · have := World.block_lt_of_cell? W _ hc0
        simpa [Addr.add] using this
      · simp only [List.length_map, List.length_range] at hi
        obtain ⟨x, hx, _⟩ := each i hi
        have hadd : (⟨b, off, none⟩ : Addr).add i = ⟨b, off + i, none⟩ := by unfold Addr.add; split <;> simp_all
        rw [hadd] at hx
        rw [hx, List.getElem?_map, List.getElem?_range hi]
        simp only [Option.map_some, Option.getD_some]
        rw [hadd, hx]
        rfl

theorem pairs_in {W : World} {n : Nat} {a : Option Addr} {m cap : Nat} {y : DataW H × List MemPlace} (hf : DataW.trod enc Tryz.prog W 0 (fun _ => true) true n 25 (Value.slice a m cap).cells.toList = some y) :
    ∃ ps, ps.length = 2 * m ∧ m ≤ 9223372036854775807 ∧ SlI W W.heap.size a ps ∧ ∀ x ∈ ps, (Lit.int .i64 x).wf = true := by
  obtain ⟨a', len, cap', ps, he, h1, h2, h3, h4⟩ := pairs_of_trod (v := .slice a m cap) hf
  cases he
  exact ⟨ps, h1, h2, h3, h4⟩

end Go.Proofs.YtpdhnjdnlgnniaaGreat
