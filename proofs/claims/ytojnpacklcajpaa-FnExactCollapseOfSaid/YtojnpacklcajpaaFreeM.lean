import Derived.Test.YtojnpacklcajpaaPairMath
import Derived.Test.YtojnpacklcajpaaTakeFace
/-! Free faces: mathematics. -/
namespace Go.Proofs.Ytojnpacklcajpaa
open Go.RowKit

/-- The faces that have all of a set, and more. -/
def upF (fs : List Int) (f : Nat) : List Int := fs.filter fun y => decide (y.toNat &&& f = f ∧ y.toNat ≠ f)
/-- The only number of a list, or 0. -/
def frOf (us : List Int) : Int := match us with | [g] => g | _ => 0
/-- With which face a face is a free pair; 0 if it is not free. -/
def freeG (fs : List Int) (f : Nat) : Int := frOf (upF fs f)
/-- The free pairs of some faces, in order. -/
def freeP (fs pre : List Int) : List (Int × Int) := pre.flatMap fun x => if freeG fs x.toNat = 0 then [] else [(x, freeG fs x.toNat)]

theorem upF_snoc {fs : List Int} {f j : Nat} (hj : j < fs.length) (c : Bool) (h : decide ((fs[j]?.getD 0).toNat &&& f = f ∧ (fs[j]?.getD 0).toNat ≠ f) = c) : upF (fs.take (j + 1)) f = upF (fs.take j) f ++ (if c then [fs[j]?.getD 0] else []) := by
  unfold upF
  rw [take_snoc hj, List.filter_append]
  cases c <;> simpa using h
theorem upF_mono {fs : List Int} {f j : Nat} : (upF (fs.take j) f).length ≤ (upF fs f).length := by
  unfold upF
  exact ((List.take_sublist j fs).filter _).length_le
theorem upF_mem {fs : List Int} {f : Nat} {y : Int} (h : y ∈ upF fs f) : y ∈ fs ∧ y.toNat &&& f = f ∧ y.toNat ≠ f := by
  have := List.mem_filter.1 h
  simpa using this
theorem frOf_two {us : List Int} (h : 2 ≤ us.length) : frOf us = 0 := by
  match us with
  | [] => rfl
  | [a] => simp at h
  | a :: b :: l => rfl
theorem freeG_two {fs : List Int} {f j : Nat} (h : 2 ≤ (upF (fs.take j) f).length) : freeG fs f = 0 := frOf_two (Nat.le_trans h upF_mono)
theorem freeP_snoc {fs pre : List Int} {x : Int} : freeP fs (pre ++ [x]) = freeP fs pre ++ (if freeG fs x.toNat = 0 then [] else [(x, freeG fs x.toNat)]) := by simp [freeP]
theorem freeP_len (fs : List Int) : ∀ pre : List Int, (freeP fs pre).length ≤ pre.length := by
  intro pre
  induction pre with
  | nil => simp [freeP]
  | cons x l ih =>
    have e : freeP fs (x :: l) = (if freeG fs x.toNat = 0 then [] else [(x, freeG fs x.toNat)]) ++ freeP fs l := by simp [freeP]
    rw [e, List.length_append, List.length_cons]
    split <;> simp <;> omega
theorem freeG_mem {fs : List Int} {f : Nat} (h : freeG fs f ≠ 0) : upF fs f = [freeG fs f] := by
  unfold freeG at h ⊢
  match hu : upF fs f with
  | [] => rw [hu] at h; exact absurd rfl h
  | [a] => rfl
  | a :: b :: l => rw [hu] at h; exact absurd rfl h
theorem freeG_rng {fs : List Int} {f : Nat} (hr : ∀ x ∈ fs, 1 ≤ x ∧ x ≤ 63) : 0 ≤ freeG fs f ∧ freeG fs f ≤ 63 := by
  by_cases h : freeG fs f = 0
  · omega
  · have := freeG_mem h
    have hm : freeG fs f ∈ upF fs f := by rw [this]; simp
    have := hr _ (upF_mem hm).1
    omega
theorem mem_freeP {fs pre : List Int} {p : Int × Int} : p ∈ freeP fs pre ↔ p.1 ∈ pre ∧ freeG fs p.1.toNat ≠ 0 ∧ p.2 = freeG fs p.1.toNat := by
  unfold freeP
  rw [List.mem_flatMap]
  constructor
  · rintro ⟨x, hx, h⟩
    split at h
    · simp at h
    · rename_i hn
      simp at h
      subst h
      exact ⟨hx, hn, rfl⟩
  · rintro ⟨h1, h2, h3⟩
    refine ⟨p.1, h1, ?_⟩
    rw [if_neg h2]
    simp
    exact Prod.ext rfl h3

end Go.Proofs.Ytojnpacklcajpaa
