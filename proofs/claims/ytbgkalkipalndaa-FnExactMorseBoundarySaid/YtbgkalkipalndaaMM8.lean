import Derived.Test.YtbgkalkipalndaaRows
import Derived.ProofKit
import Derived.OpenShut
import Derived.ShutString
import Derived.ChangeOld
import Derived.Below
import Derived.Lib.SmallJoins
import Derived.Test.YtbgkalkipalndaaMM1
import Derived.Test.YtbgkalkipalndaaMM7
/-! The laws' helpers for lists of rows: eqInt64SS, markInt64SS, heldInt64SS. -/
namespace Go.Proofs.Ytbgkalkipalndaa
open Go.RowKit

/-- The places ahead of row i. -/
def preR (gs : List (List Int)) (i : Nat) : Nat := ((gs.take i).map List.length).sum
theorem preR_succ {gs : List (List Int)} {i : Nat} (hi : i < gs.length) : preR gs (i + 1) = preR gs i + (gs[i]?.getD []).length := by
  unfold preR
  rw [List.take_add_one, List.getElem?_eq_getElem hi, List.map_append, List.sum_append]
  simp only [Option.toList_some, List.map_cons, List.map_nil, List.sum_cons, List.sum_nil, Option.getD_some, Nat.add_zero]
theorem preR_le {gs : List (List Int)} {B : Nat} (h : ∀ g ∈ gs, g.length ≤ B) : ∀ i, preR gs i ≤ i * B
  | 0 => by simp [preR]
  | i + 1 => by
    by_cases hi : i < gs.length
    · rw [preR_succ hi, List.getElem?_eq_getElem hi]
      have := preR_le h i
      have := h _ (List.getElem_mem hi)
      simp only [Option.getD_some]
      rw [Nat.add_mul]
      omega
    · have : preR gs (i + 1) = preR gs i := by
        unfold preR
        rw [List.take_of_length_le (by omega), List.take_of_length_le (by omega)]
      rw [this, Nat.add_mul]
      have := preR_le h i
      omega
/-- The rows as they are marked from k on. -/
def marksR (k : Int) (gs : List (List Int)) : List (List Int) := (List.range gs.length).map fun j => count (k + preR gs j) (gs[j]?.getD []).length
theorem marksR_len (k : Int) (gs : List (List Int)) : (marksR k gs).length = gs.length := by simp [marksR]
theorem marksR_get {k : Int} {gs : List (List Int)} {j : Nat} (hj : j < gs.length) : (marksR k gs)[j]?.getD [] = count (k + preR gs j) (gs[j]?.getD []).length := by simp [marksR, hj]
/-- The first i rows marked. -/
def someR (k : Int) (gs : List (List Int)) (i : Nat) : List (List Int) := (marksR k gs).take i ++ gs.drop i
theorem someR_zero (k : Int) (gs : List (List Int)) : someR k gs 0 = gs := by simp [someR]
theorem someR_all (k : Int) (gs : List (List Int)) : someR k gs gs.length = marksR k gs := by
  unfold someR
  rw [List.drop_length, List.append_nil, ← marksR_len k gs, List.take_length]
theorem someR_len {k : Int} {gs : List (List Int)} {i : Nat} (hi : i ≤ gs.length) : (someR k gs i).length = gs.length := by
  unfold someR
  rw [List.length_append, List.length_take, List.length_drop, marksR_len]
  omega
theorem someR_at {k : Int} {gs : List (List Int)} {i : Nat} (hi : i < gs.length) : (someR k gs i)[i]?.getD [] = gs[i]?.getD [] := by
  unfold someR
  rw [List.getElem?_append_right (by simp; omega)]
  simp only [List.length_take, marksR_len, Nat.min_eq_left (Nat.le_of_lt hi), Nat.sub_self, List.getElem?_drop, Nat.add_zero]
theorem someR_succ {k : Int} {gs : List (List Int)} {i : Nat} (hi : i < gs.length) : (someR k gs i).set i (count (k + preR gs i) (gs[i]?.getD []).length) = someR k gs (i + 1) := by
  unfold someR
  have hl : ((marksR k gs).take i).length = i := by simp [marksR_len]; omega
  rw [List.set_append_right _ _ (by rw [hl]; exact Nat.le_refl _), hl, Nat.sub_self, List.drop_eq_getElem_cons hi, List.set_cons_zero, List.take_add_one, List.append_assoc]
  congr 1
  rw [List.getElem?_eq_getElem (l := marksR k gs) (i := i) (by rw [marksR_len]; exact hi)]
  simp only [Option.toList_some, List.singleton_append, List.cons.injEq, and_true]
  have := marksR_get (k := k) hi
  rw [List.getElem?_eq_getElem (l := marksR k gs) (i := i) (by rw [marksR_len]; exact hi)] at this
  simpa using this.symm

set_option maxRecDepth 100000 in
set_option maxHeartbeats 4000000 in
theorem markRows (lo hi : Nat) (a : Option Addr) (cap : Nat) (vs : List Value) (gs : List (List Int)) (k : Int) (w : World) (hT : OwnT w ⟨lo, hi, .slice a gs.length cap, vs, gs⟩) (hl : gs.length ≤ 1000) (hr : ∀ g ∈ gs, g.length ≤ 1000) (h0 : 0 ≤ k) (h1 : k ≤ 1000000000) :
    Calls Try.prog 27 #[.slice a gs.length cap, .int .i64 k] w fun e w' => e = .returned (.int .i64 (k + preR gs gs.length)) ∧ RowsV w' lo (.slice a gs.length cap) vs (marksR k gs) ∧ Within lo hi w w' := by
  have hpre := preR_le hr
  have HT := hid hT
  have Hr := hid hr
  clear hT hr
  go_enter Try.func27, Try.ntmps27
  go_wp2_with fail
  go_loopw [1, 5] (fun m i wr => ∃ j : Nat, j ≤ gs.length ∧ i = .int .i64 j ∧ m = .int .i64 (k + preR gs j) ∧ RowsV wr lo (.slice a gs.length cap) vs (someR k gs j) ∧ Within lo hi w wr) (fun _ i _ => gs.length - (intOf i).toNat)
  case atStart => exact ⟨0, Nat.zero_le _, rfl, by simp [preR], by rw [someR_zero]; exact HT.out.rows, Within.refl _ _ _⟩
  case round =>
    obtain ⟨j, hj, rfl, rfl, hrows, hW⟩ := hrel
    have hpj := hpre j
    by_cases hlt : j < gs.length
    · have hlen := someR_len (k := k) (Nat.le_of_lt hlt)
      obtain ⟨aj, cj, ej, hoj⟩ := hrows.at_ j (by rw [hlen]; exact hlt)
      rw [someR_at hlt] at ej hoj
      obtain ⟨ao, co, eo, hsh⟩ := hrows.shape
      rw [hlen] at eo hsh
      obtain ⟨rfl, rfl⟩ : a = ao ∧ cap = co := by cases eo; exact ⟨rfl, rfl⟩
      obtain ⟨g, _, hg2, rfl, hcells⟩ := hsh.resolve_left (fun h => by rw [h] at hlen; simp at hlen; omega)
      have hcj := hcells j hlt
      rw [ej, Nat.zero_add] at hcj
      obtain ⟨X, hX⟩ : ∃ X, X = gs[j]?.getD [] := ⟨_, rfl⟩
      have hXl : X.length ≤ 1000 := by rw [hX, List.getElem?_eq_getElem hlt]; exact Hr.out _ (List.getElem_mem hlt)
      have HP := hid (preR_succ hlt)
      have HS := hid (someR_succ (k := k) hlt)
      have hblk := HT.out.lti j hlt
      simp only at hblk
      rw [ej] at hblk
      rw [← hX] at ej hoj hcj HP HS hblk
      have Hlow := hid (fun g hg => (hoj.lt g hg).1)
      have Hblk := hid hblk
      have Hrows := hid hrows
      have HW := hid hW
      have Hej := hid ej
      have Hat := hid (someR_at (k := k) hlt)
      rw [← hX] at Hat
      have hpj2 : (preR gs j : Int) ≤ 1000000 := by
        have : j * 1000 ≤ 1000 * 1000 := Nat.mul_le_mul_right _ (by omega)
        omega
      have hi0 : (0 : Int) ≤ (j : Int) := by omega
      have hi1 : (j : Int) < (gs.length : Int) := by omega
      clear hrows hW ej hX hcells hblk hpj eo hsh
      go_wp2_with fail
      refine (markInts lo aj cj X (k + preR gs j) _ hoj (by omega) (by omega) (by omega)).mono ?_
      rintro e w2 ⟨rfl, hown2, hgrow2⟩
      have hW2 := HW.out.trans (Within.of_grown hgrow2 (fun g hg => ⟨Hlow.out g hg, Hblk.out g hg⟩))
      have hR2 := Hrows.out.set (i := j) (ys := count (k + preR gs j) X.length) (by rw [hlen]; exact hlt) (by rw [Hej.out, count_len]; exact hown2) (by rw [Hej.out]; exact hgrow2)
      rw [HS.out] at hR2
      have HR2 := hid hR2
      have HW2 := hid hW2
      clear hown2 hgrow2 hR2 hW2 hoj hcj
      go_wp2_with fail
      go_roundw
      case rel => exact ⟨j + 1, by omega, by go_num, by rw [HP.out]; congr 1; push_cast; omega, HR2.out, HW2.out⟩
      case measure => simp [intOf]; omega
    · obtain rfl : j = gs.length := by omega
      rw [someR_all] at hrows
      go_wp2_with fail
      go_ret
      exact ⟨rfl, hrows, hW⟩

set_option maxRecDepth 100000 in
set_option maxHeartbeats 4000000 in
theorem heldRows (base : Nat) (a : Option Addr) (cap : Nat) (vs : List Value) (gs : List (List Int)) (k : Int) (w : World) (hT : RowsV w base (.slice a gs.length cap) vs (marksR k gs)) (hl : gs.length ≤ 1000) (hr : ∀ g ∈ gs, g.length ≤ 1000) (h0 : 0 ≤ k) (h1 : k ≤ 1000000000) :
    Calls Try.prog 28 #[.slice a gs.length cap, .int .i64 k] w fun e w' => e = .returned (.int .i64 (k + preR gs gs.length)) ∧ Below w.heap.size w w' := by
  have hpre := preR_le hr
  have HT := hid hT
  have Hr := hid hr
  have hlen := marksR_len k gs
  clear hT hr
  go_enter Try.func28, Try.ntmps28
  go_wp2_with fail
  go_loopw [1, 5] (fun m i wr => ∃ j : Nat, j ≤ gs.length ∧ i = .int .i64 j ∧ m = .int .i64 (k + preR gs j) ∧ Below w.heap.size w wr) (fun _ i _ => gs.length - (intOf i).toNat)
  case atStart => exact ⟨0, Nat.zero_le _, rfl, by simp [preR], Below.refl _ _⟩
  case round =>
    obtain ⟨j, hj, rfl, rfl, hB⟩ := hrel
    have hpj := hpre j
    by_cases hlt : j < gs.length
    · have hrows := HT.out.below hB
      obtain ⟨aj, cj, ej, hoj⟩ := hrows.at_ j (by rw [hlen]; exact hlt)
      obtain ⟨ao, co, eo, hsh⟩ := hrows.shape
      rw [hlen] at eo hsh
      obtain ⟨rfl, rfl⟩ : a = ao ∧ cap = co := by cases eo; exact ⟨rfl, rfl⟩
      obtain ⟨g, _, hg2, rfl, hcells⟩ := hsh.resolve_left (fun h => by rw [h] at hlen; simp at hlen; omega)
      have hcj := hcells j hlt
      rw [ej, Nat.zero_add] at hcj
      obtain ⟨X, hX⟩ : ∃ X, X = gs[j]?.getD [] := ⟨_, rfl⟩
      have hXl : X.length ≤ 1000 := by rw [hX, List.getElem?_eq_getElem hlt]; exact Hr.out _ (List.getElem_mem hlt)
      have HP := hid (preR_succ hlt)
      have hm := marksR_get (k := k) hlt
      rw [← hX] at HP hm
      obtain ⟨_, a', c', e', hs⟩ := ownsRow_slI hoj
      cases e'
      have HB := hid hB
      have hpj2 : (preR gs j : Int) ≤ 1000000 := by
        have : j * 1000 ≤ 1000 * 1000 := Nat.mul_le_mul_right _ (by omega)
        omega
      have hi0 : (0 : Int) ≤ (j : Int) := by omega
      have hi1 : (j : Int) < (gs.length : Int) := by omega
      have Hs := hid hs
      have Hm := hid hm
      have hnl : ((marksR k gs)[j]?.getD []).length = X.length := by rw [hm, count_len]
      rw [hnl] at hcj
      clear hrows hB ej hX hcells hpj eo hsh hm hs hoj hnl hlen
      go_wp2_with fail
      refine (heldInts _ _ X.length _ (k + preR gs j) _ Hm.out Hs.out (by omega) (by omega) (by omega)).mono ?_
      rintro e w2 ⟨rfl, hB2⟩
      have HB2 := hid (HB.out.trans (hB2.mono HB.out.size))
      have hng : decide (k + (preR gs j : Int) + (X.length : Int) < 0) = false := decide_eq_false (by omega)
      clear hB2 hcj
      go_wp2_with fail
      go_roundw
      case rel => exact ⟨j + 1, by omega, by go_num, by rw [HP.out]; congr 1; push_cast; omega, HB2.out⟩
      case measure => simp [intOf]; omega
    · obtain rfl : j = gs.length := by omega
      go_wp2_with fail
      go_ret
      exact ⟨rfl, hB⟩

set_option maxRecDepth 100000 in
set_option maxHeartbeats 4000000 in
theorem eqRows (base base' : Nat) (a a' : Option Addr) (cap cap' : Nat) (vs vs' : List Value) (gs : List (List Int)) (w : World) (hT : RowsV w base (.slice a gs.length cap) vs gs) (hT' : RowsV w base' (.slice a' gs.length cap') vs' gs) (hl : gs.length ≤ 1000) (hr : ∀ g ∈ gs, g.length ≤ 1000) :
    Calls Try.prog 22 #[.slice a gs.length cap, .slice a' gs.length cap'] w fun e w' => e = .returned (.bool true) ∧ Below w.heap.size w w' := by
  have HT := hid hT
  have HT' := hid hT'
  have Hr := hid hr
  clear hT hT' hr
  go_enter Try.func22, Try.ntmps22
  go_wp2_with fail
  go_loopw [5] (fun i wr => ∃ j : Nat, j ≤ gs.length ∧ i = .int .i64 j ∧ Below w.heap.size w wr) (fun i _ => gs.length - (intOf i).toNat)
  case atStart => exact ⟨0, Nat.zero_le _, rfl, Below.refl _ _⟩
  case round =>
    obtain ⟨j, hj, rfl, hB⟩ := hrel
    by_cases hlt : j < gs.length
    · have hrows := HT.out.below hB
      have hrows' := HT'.out.below hB
      obtain ⟨aj, cj, ej, hoj⟩ := hrows.at_ j hlt
      obtain ⟨aj', cj', ej', hoj'⟩ := hrows'.at_ j hlt
      obtain ⟨ao, co, eo, hsh⟩ := hrows.shape
      obtain ⟨ao', co', eo', hsh'⟩ := hrows'.shape
      obtain ⟨rfl, rfl⟩ : a = ao ∧ cap = co := by cases eo; exact ⟨rfl, rfl⟩
      obtain ⟨rfl, rfl⟩ : a' = ao' ∧ cap' = co' := by cases eo'; exact ⟨rfl, rfl⟩
      obtain ⟨g, _, hg2, rfl, hcells⟩ := hsh.resolve_left (fun h => by rw [h] at hlt; simp at hlt)
      obtain ⟨g', _, hg2', rfl, hcells'⟩ := hsh'.resolve_left (fun h => by rw [h] at hlt; simp at hlt)
      have hcj := hcells j hlt
      have hcj' := hcells' j hlt
      rw [ej, Nat.zero_add] at hcj
      rw [ej', Nat.zero_add] at hcj'
      obtain ⟨X, hX⟩ : ∃ X, X = gs[j]?.getD [] := ⟨_, rfl⟩
      have hXl : X.length ≤ 1000 := by rw [hX, List.getElem?_eq_getElem hlt]; exact Hr.out _ (List.getElem_mem hlt)
      rw [← hX] at hoj hoj' hcj hcj'
      obtain ⟨_, _, _, e', hs⟩ := ownsRow_slI hoj
      cases e'
      obtain ⟨_, _, _, e', hs'⟩ := ownsRow_slI hoj'
      cases e'
      have HB := hid hB
      have hi0 : (0 : Int) ≤ (j : Int) := by omega
      have hi1 : (j : Int) < (gs.length : Int) := by omega
      have Hs := hid hs
      have Hs' := hid hs'
      have HE := hid (fun W (h : Below wr.heap.size wr W) => eqInts_yes aj aj' cj cj' X X W (Hs.out.later h h.size) (Hs'.out.later h h.size) (by omega) (by omega) rfl)
      clear hrows hrows' hB ej ej' hX hcells hcells' eo eo' hsh hsh' hs hs' hoj hoj'
      go_wp2_with fail
      go_region_with (first
        | (go_at_call 31; refine (HE.out _ (Below.refl _ _).drew).mono ?_; rintro e w2 ⟨rfl, hB2⟩))
      all_goals
        have HB2 := hid (HB.out.trans (((Below.refl _ _).drew.trans hB2).mono HB.out.size))
        go_wp2_with fail
        go_roundw
        case rel => exact ⟨j + 1, by omega, by go_num, HB2.out⟩
        case measure => simp [intOf]; omega
    · obtain rfl : j = gs.length := by omega
      go_wp2_with fail
      go_ret
      exact ⟨rfl, hB⟩

end Go.Proofs.Ytbgkalkipalndaa

/-! What a complex that comes in is told as, for the rows of all laws. -/
namespace Go.Proofs.Ytbgkalkipalndaa
open Go.ChangeShapes Go.WideShapes Go.ChangeAt Go.RowKit Go.Joins

theorem own : ownKnob Try.prog.godebug = none := by kernel_rfl
theorem laidOut : laidOutB Try.prog = true := by kernel_rfl

variable {H : Type} {enc : TypeId × Value → H}

/-- A slice of int64 that came in. -/
theorem slI_of_trod {W : World} {n : Nat} {v : Value} {y : DataW H × List MemPlace} (hf : DataW.trod enc Try.prog W 0 (fun _ => true) true n 22 [v] = some y) :
    ∃ a len cap xs, v = .slice a len cap ∧ xs.length = len ∧ len ≤ 9223372036854775807 ∧ SlI W W.heap.size a xs ∧ ∀ x ∈ xs, (Lit.int .i64 x).wf = true := by
  rcases open_ints Try.underlying22 Try.underlying2 (by kernel_rfl) hf with ⟨hcs, _⟩ | ⟨x, l, c, zs, hcs, _, hl, hm, hz, _, hcell, hwf⟩
  · simp at hcs
    subst hcs
    exact ⟨none, 0, 0, [], rfl, rfl, by omega, .inl rfl, by simp⟩
  · simp at hcs
    subst hcs
    simp at hz
    have hlen : (zs.take l).length = l := by simp; omega
    unfold maxLen at hm
    refine ⟨some x, l, c, zs.take l, rfl, hlen, by omega, ?_, fun y hy => hwf y (List.mem_of_mem_take hy)⟩
    by_cases h0 : l = 0
    · subst h0; exact .inl (by simp)
    · right
      obtain ⟨b, off, spot⟩ := x
      have hc0 := hcell 0 (by omega)
      have hspot : spot = none := by simpa [Addr.add] using World.cell?_spot hc0
      subst hspot
      refine ⟨b, off, ?_, rfl, fun i hi => ?_⟩
      · have := World.block_lt_of_cell? W _ hc0
        simpa [Addr.add] using this
      · rw [hlen] at hi
        have := hcell i (by omega)
        have hadd : (⟨b, off, none⟩ : Addr).add i = ⟨b, off + i, none⟩ := by unfold Addr.add; split <;> simp_all
        rw [hadd] at this
        rw [List.getElem?_take, if_pos hi]
        simpa using this

end Go.Proofs.Ytbgkalkipalndaa

/-! What a list of pairs that comes in is told as. -/
namespace Go.Proofs.Ytbgkalkipalndaa
open Go.ChangeShapes Go.WideShapes Go.ChangeAt Go.RowKit Go.Joins

variable {H : Type} {enc : TypeId × Value → H}

/-- The number in a cell. -/
def cellInt (v : Option Value) : Int := match v with | some (.int _ n) => n | _ => 0

set_option maxRecDepth 100000 in
theorem two_of_trod {W : World} {n : Nat} {cs : List Value} {y : DataW H × List MemPlace} (hf : DataW.trod enc Try.prog W 0 (fun _ => true) true n 76 cs = some y) : ∃ x y : Int, cs = [.int .i64 x, .int .i64 y] ∧ (Lit.int .i64 x).wf = true ∧ (Lit.int .i64 y).wf = true := by
  cases n with
  | zero => simp [DataW.trod] at hf
  | succ n =>
    unfold DataW.trod at hf
    rw [Try.underlying76] at hf
    simp only at hf
    rw [show Try.prog.cellsOf 76 = 2 by kernel_rfl, show Try.prog.cellsOf 2 = 1 by kernel_rfl] at hf
    split at hf
    · next hl =>
      match cs, hl with
      | [c0, c1], _ =>
        simp only [Option.map_eq_some_iff] at hf
        obtain ⟨xs, hx, _⟩ := hf
        rw [show List.range 2 = [0, 1] from rfl, List.mapM_cons, List.mapM_cons, List.mapM_nil] at hx
        simp only [bind, Option.bind_eq_some_iff, pure, Option.some.injEq] at hx
        obtain ⟨y0, h0, _, ⟨y1, h1, _, rfl, rfl⟩, rfl⟩ := hx
        obtain ⟨a, ea, _, wa⟩ := DataW.trod_int Try.underlying2 h0
        obtain ⟨b, eb, _, wb⟩ := DataW.trod_int Try.underlying2 h1
        simp at ea eb
        subst ea; subst eb
        exact ⟨a, b, rfl, wa, wb⟩
    · cases hf

set_option maxRecDepth 100000 in
/-- A list of pairs that came in. -/
theorem pairs_of_trod {W : World} {n : Nat} {v : Value} {y : DataW H × List MemPlace} (hf : DataW.trod enc Try.prog W 0 (fun _ => true) true n 25 [v] = some y) :
    ∃ a len cap ps, v = .slice a len cap ∧ ps.length = 2 * len ∧ len ≤ 9223372036854775807 ∧ SlI W W.heap.size a ps ∧ ∀ x ∈ ps, (Lit.int .i64 x).wf = true := by
  rcases DataW.trod_slice Try.underlying25 hf with ⟨hcs, _⟩ | ⟨a, len, cap, elems, rest, m, _, hcs, _, hb, hl, hm, hlen, hel, _, _⟩
  · simp at hcs
    subst hcs
    exact ⟨none, 0, 0, [], rfl, rfl, by omega, .inl rfl, by simp⟩
  · simp at hcs
    subst hcs
    unfold maxLen at hm
    have hc : Try.prog.cellsOf 76 = 2 := by kernel_rfl
    have each : ∀ i, i < 2 * len → ∃ x, W.cell? (a.add i) = some (.int .i64 x) ∧ (Lit.int .i64 x).wf = true := by
      intro i hi
      have h := hel (i / 2) (by omega)
      rw [hc] at h
      have hy : elems[i / 2]? = some (elems[i / 2]'(by omega)) := List.getElem?_eq_getElem (by omega)
      rw [hy, Option.bind_eq_some_iff] at h
      obtain ⟨cs, hcs, ht⟩ := h
      obtain ⟨x, y, rfl, wx, wy⟩ := two_of_trod ht
      have h3 := (World.cells?_some hcs).2.2 (i % 2) (Nat.mod_lt _ (by decide))
      have hadd : (a.add (i / 2 * 2)).add (i % 2) = a.add i := by
        rw [Addr.add_add]
        congr 1
        omega
      rw [hadd] at h3
      rcases Nat.mod_two_eq_zero_or_one i with h | h <;> rw [h] at h3 <;> simp at h3
      · exact ⟨_, h3, wx⟩
      · exact ⟨_, h3, wy⟩
    refine ⟨some a, len, cap, (List.range (2 * len)).map (fun i => cellInt (W.cell? (a.add i))), rfl, by simp, by omega, ?_, ?_⟩
    rotate_left
    · intro x hx
      obtain ⟨i, hi, rfl⟩ := List.mem_map.1 hx
      obtain ⟨y, hy, wy⟩ := each i (List.mem_range.1 hi)
      rw [hy]
      exact wy
    by_cases h0 : len = 0
    · subst h0; exact .inl (by simp)
    · right
      obtain ⟨b, off, spot⟩ := a
      obtain ⟨x0, hc0, _⟩ := each 0 (by omega)
      have hspot : spot = none := by simpa [Addr.add] using World.cell?_spot hc0
      subst hspot
      refine ⟨b, off, ?_, rfl, fun i hi => ?_⟩
      · have := World.block_lt_of_cell? W _ hc0
        simpa [Addr.add] using this
      · simp only [List.length_map, List.length_range] at hi
        obtain ⟨x, hx, _⟩ := each i hi
        have hadd : (⟨b, off, none⟩ : Addr).add i = ⟨b, off + i, none⟩ := by unfold Addr.add; split <;> simp_all
        rw [hadd] at hx
        rw [hx, List.getElem?_map, List.getElem?_range hi]
        simp only [Option.map_some, Option.getD_some]
        rw [hadd, hx]
        rfl

theorem pairs_in {W : World} {n : Nat} {a : Option Addr} {m cap : Nat} {y : DataW H × List MemPlace} (hf : DataW.trod enc Try.prog W 0 (fun _ => true) true n 25 (Value.slice a m cap).cells.toList = some y) :
    ∃ ps, ps.length = 2 * m ∧ m ≤ 9223372036854775807 ∧ SlI W W.heap.size a ps ∧ ∀ x ∈ ps, (Lit.int .i64 x).wf = true := by
  obtain ⟨a', len, cap', ps, he, h1, h2, h3, h4⟩ := pairs_of_trod (v := .slice a m cap) hf
  cases he
  exact ⟨ps, h1, h2, h3, h4⟩

end Go.Proofs.Ytbgkalkipalndaa
