import Derived.Test.YtojnpacklcajpaaPairIs
import Derived.Test.YtojnpacklcajpaaContains
import Derived.Test.YtojnpacklcajpaaSetMap
import Derived.WideKeyPair
/-! Lists of pairs: all pairs of a complex; maps whose keys are pairs. -/
namespace Go.Proofs.Ytojnpacklcajpaa
open Go.RowKit

def flatP (L : List (Int × Int)) : List Int := L.flatMap fun p => [p.1, p.2]
theorem flatP_snoc (L : List (Int × Int)) (p : Int × Int) : flatP (L ++ [p]) = flatP L ++ [p.1, p.2] := by simp [flatP]
theorem flatP_len : ∀ L : List (Int × Int), (flatP L).length = 2 * L.length
  | [] => rfl
  | p :: L => by have := flatP_len L; unfold flatP at *; simp only [List.flatMap_cons, List.length_append, List.length_cons, List.length_nil]; omega
theorem flatP_at : ∀ (L : List (Int × Int)) (i : Nat), i < L.length → at0 (flatP L) (i * 2) = (L[i]?.getD (0, 0)).1 ∧ at0 (flatP L) (i * 2 + 1) = (L[i]?.getD (0, 0)).2
  | [], i, h => by simp at h
  | p :: L, 0, _ => by simp [flatP, at0]
  | p :: L, i + 1, h => by
    have ih := flatP_at L i (by simpa using h)
    have e : flatP (p :: L) = p.1 :: p.2 :: flatP L := by simp [flatP]
    have e1 : (i + 1) * 2 = i * 2 + 1 + 1 := by omega
    rw [e, e1]
    unfold at0 at *
    simpa using ih

/-- The pairs of a low face, over the first vertices. -/
def upS (fs : List Int) (x m : Nat) : List (Int × Int) := ((List.range m).filter fun v => decide (x ||| 2 ^ v ≠ x) && decide (((x ||| 2 ^ v : Nat) : Int) ∈ fs)).map fun v => ((x : Int), ((x ||| 2 ^ v : Nat) : Int))
theorem upS_succ (fs : List Int) (x m : Nat) (c : Bool) (h : (decide (x ||| 2 ^ m ≠ x) && decide (((x ||| 2 ^ m : Nat) : Int) ∈ fs)) = c) : upS fs x (m + 1) = upS fs x m ++ (if c then [((x : Int), ((x ||| 2 ^ m : Nat) : Int))] else []) := by
  unfold upS
  rw [List.range_succ, List.filter_append, List.map_append]
  cases c
  · rw [List.filter_cons, if_neg (by rw [h]; simp)]; simp
  · rw [List.filter_cons, if_pos h]; simp
theorem upS_len (fs : List Int) (x m : Nat) : (upS fs x m).length ≤ m := by
  unfold upS
  rw [List.length_map]
  exact Nat.le_trans (List.length_filter_le _ _) (by simp)

/-- All pairs whose low faces are among the first k faces. -/
def pairsL (fs : List Int) (V k : Nat) : List (Int × Int) := (fs.take k).flatMap fun x => upS fs x.toNat V
theorem pairsL_succ {fs : List Int} {V k : Nat} (hlt : k < fs.length) : pairsL fs V (k + 1) = pairsL fs V k ++ upS fs (fs[k]?.getD 0).toNat V := by
  unfold pairsL
  rw [take_snoc hlt, List.flatMap_append]
  simp
theorem pairsL_len (fs : List Int) (V : Nat) : ∀ k, k ≤ fs.length → (pairsL fs V k).length ≤ k * V
  | 0, _ => by simp [pairsL]
  | k + 1, h => by
    have h1 := pairsL_len fs V k (by omega)
    have h2 := upS_len fs (fs[k]?.getD 0).toNat V
    rw [pairsL_succ (by omega), List.length_append, Nat.add_mul]
    omega

theorem up_pair : ∀ x : Fin 64, ∀ v : Fin 6, x.val ||| 2 ^ v.val ≠ x.val → x.val &&& (x.val ||| 2 ^ v.val) = x.val ∧ ones (x.val ||| 2 ^ v.val) = ones x.val + 1 := by decide +kernel
theorem pair_up : ∀ x : Fin 64, ∀ y : Fin 64, x.val &&& y.val = x.val → ones y.val = ones x.val + 1 → ∃ v : Fin 6, x.val ||| 2 ^ v.val = y.val ∧ y.val ≠ x.val := by decide +kernel

theorem mem_pairsL {V : Int} {fs : List Int} (hC : IsC V fs) (x y : Int) : (x, y) ∈ pairsL fs V.toNat fs.length ↔ pairB fs x y = true := by
  have hr := hC.range63
  have hlo := hC.lo
  have hhi := hC.hi
  unfold pairsL upS pairB
  rw [List.take_of_length_le (Nat.le_refl _)]
  simp only [List.mem_flatMap, List.mem_map, List.mem_filter, List.mem_range, Bool.and_eq_true, decide_eq_true_eq, Prod.mk.injEq]
  constructor
  · rintro ⟨x0, hx0, v, ⟨hv, hne, hm⟩, rfl, rfl⟩
    have h0 := hr x0 hx0
    have hu := up_pair ⟨x0.toNat, by omega⟩ ⟨v, by omega⟩ hne
    rw [Int.toNat_of_nonneg (by omega)]
    simp only [Int.toNat_natCast]
    exact ⟨⟨⟨hx0, hm⟩, hu.1⟩, hu.2⟩
  · rintro ⟨⟨⟨hx, hy⟩, hb⟩, ho⟩
    have h0 := hr x hx
    have h1 := hr y hy
    obtain ⟨v, hv, hne⟩ := pair_up ⟨x.toNat, by omega⟩ ⟨y.toNat, by omega⟩ hb ho
    simp only at hv hne
    have hyr := (hC.range y hy).2
    have hle : 2 ^ v.val ≤ y.toNat := by rw [← hv]; exact Nat.right_le_or
    refine ⟨x, hx, v.val, ⟨?_, by rw [hv]; exact hne, by rw [hv, Int.toNat_of_nonneg (by omega)]; exact hy⟩, Int.toNat_of_nonneg (by omega), by rw [hv, Int.toNat_of_nonneg (by omega)]⟩
    rcases Nat.lt_or_ge v.val V.toNat with h | h
    · exact h
    · exfalso
      have hp := Nat.pow_le_pow_right (n := 2) (by decide) h
      unfold allV at hyr
      have e : ((2 : Int) ^ V.toNat) = ((2 ^ V.toNat : Nat) : Int) := by simp
      rw [e] at hyr
      generalize (2 : Nat) ^ V.toNat = q at *
      generalize (2 : Nat) ^ v.val = q' at *
      omega

/-! ### maps whose keys are pairs -/

theorem arrP : Go.WideMaps.ArrKey Try.prog 63 2 2 := ⟨Try.underlying63, by kernel_rfl, by kernel_rfl, by kernel_rfl⟩
theorem keyedP : Maps.Keyed Try.prog 63 := Maps.Keyed.of_law arrP.law
def keyP (p : Int × Int) : Lit := .string (keyBytes [.int .i64 p.1, .int .i64 p.2])
def wfP (p : Int × Int) : Prop := (Lit.int .i64 p.1).wf = true ∧ (Lit.int .i64 p.2).wf = true
theorem keyOfP {p : Int × Int} (h : wfP p) : keyOf Try.prog 63 (.agg #[.int .i64 p.1, .int .i64 p.2]) = some (keyP p) :=
  Go.WideMaps.keyOf_pair arrP Try.underlying2 ⟨Try.prog.types.size - 1, by kernel_rfl⟩ h.1 h.2
theorem keyP_inj {p q : Int × Int} (hp : wfP p) (hq : wfP q) (h : keyP p = keyP q) : p = q := by
  have := keyedP.inj (keyOfP hp) (by rw [h]; exact keyOfP hq)
  simp only [Value.agg.injEq, Array.mk.injEq, List.cons.injEq, Value.int.injEq, true_and, and_true] at this
  exact Prod.ext this.1 this.2

def pknFrom (D : DataW Unit) (pre : List (Int × Int)) : DataW Unit := pre.foldl (fun D p => D.put (keyP p) (.lit (.bool true))) D
def pknD (pre : List (Int × Int)) : DataW Unit := pknFrom (.map []) pre
theorem pknD_snoc (pre : List (Int × Int)) (p : Int × Int) : pknD (pre ++ [p]) = (pknD pre).put (keyP p) (.lit (.bool true)) := by simp [pknD, pknFrom]
theorem isKey_keyP (p : Int × Int) (h : wfP p) : WideAt.IsKeyLit (keyP p) := keyedP.key (keyOfP h)
theorem pknFrom_at (p : Int × Int) (hp : wfP p) : ∀ (pre : List (Int × Int)) (D : DataW Unit), (∀ q ∈ pre, wfP q) → Maps.IsMap D → (pknFrom D pre).atKey (keyP p) (.lit (.bool false)) = if p ∈ pre then .lit (.bool true) else D.atKey (keyP p) (.lit (.bool false))
  | [], D, _, _ => by simp [pknFrom]
  | x :: pre, D, hw, hD => by
    have ih := pknFrom_at p hp pre (D.put (keyP x) (.lit (.bool true))) (fun q hq => hw q (by simp [hq])) (hD.put _ _)
    have e : pknFrom D (x :: pre) = pknFrom (D.put (keyP x) (.lit (.bool true))) pre := rfl
    rw [e, ih]
    by_cases hm : p ∈ pre
    · simp [hm]
    · by_cases hx : p = x
      · subst hx
        rw [if_neg hm, if_pos (by simp), Maps.atKey_put_same hD (isKey_keyP p hp)]
      · rw [if_neg hm, if_neg (by simp [hm, hx]), Maps.atKey_put_other (fun e => hx (keyP_inj hp (hw x (by simp)) e))]

theorem pknD_at (p : Int × Int) (hp : wfP p) (pre : List (Int × Int)) (hw : ∀ q ∈ pre, wfP q) : (pknD pre).atKey (keyP p) (.lit (.bool false)) = .lit (.bool (decide (p ∈ pre))) := by
  unfold pknD
  rw [pknFrom_at p hp pre _ hw Maps.isMap_empty]
  by_cases h : p ∈ pre
  · simp [h]
  · simp [h]
    rfl

/-- The map of pairs. -/
def MapP (w' : World) (b n : Nat) (L : List (Int × Int)) : Prop := w'.ownsMap Try.prog 63 (plainElem (H := Unit) Try.prog 4) b n (pknD L)

theorem MapP.later {w w' : World} {b n : Nat} {L : List (Int × Int)} (h : MapP w b n L) (hB : Below w.heap.size w w') : MapP w' b n L :=
  World.ownsMap.kept h (row := none) ⟨hB.os, hB.tape, hB.output, hB.size, fun k hk _ => hB.block k hk⟩ (by simp)

theorem lookup_pair {w : World} {b n : Nat} {L : List (Int × Int)} (hown : MapP w b n L) (hw : ∀ q ∈ L, wfP q) {p : Int × Int} (hp : wfP p) :
    (Instr.lookup 118 (.map (some b)) (.agg #[.int .i64 p.1, .int .i64 p.2]) false).run Try.prog w = .ok (.bool (decide (p ∈ L))) w := by
  obtain ⟨v, ps, hrun, hv⟩ := World.ownsMap.lookup hown keyedP Try.underlying118 (zero_bool w) (plainElem_bool Try.underlying4 false) (keyOfP hp)
  rw [pknD_at p hp L hw] at hv
  rw [bool_inv hv] at hrun
  exact hrun

end Go.Proofs.Ytojnpacklcajpaa
