import Derived.Test.YtojnpacklcajpaaFreeM
/-! Collapses: mathematics. -/
namespace Go.Proofs.Ytojnpacklcajpaa
open Go.RowKit

/-- The first free pair whose low face is in no list. -/
def firstP (fs ls : List Int) : Option (Int × Int) := (freeP fs fs).find? fun p => decide (p.1 ∉ ls)
/-- One collapse. -/
def colStep (ls : List Int) (s : List Int × List (Int × Int)) : List Int × List (Int × Int) := match firstP s.1 ls with
  | none => s
  | some p => (takeL s.1 p.1, s.2 ++ [p])
def colN (ls : List Int) : Nat → List Int × List (Int × Int) → List Int × List (Int × Int)
  | 0, s => s
  | n + 1, s => colStep ls (colN ls n s)
/-- What the collapse leads to, and its pairs. -/
def colE (ls fs : List Int) : List Int × List (Int × Int) := colN ls fs.length (fs, [])

theorem firstP_some {fs ls : List Int} {p : Int × Int} (h : firstP fs ls = some p) : p.1 ∈ fs ∧ freeG fs p.1.toNat ≠ 0 ∧ p.2 = freeG fs p.1.toNat ∧ p.1 ∉ ls := by
  have h1 := List.mem_of_find?_eq_some h
  have h2 := List.find?_some h
  have h3 := mem_freeP.1 h1
  exact ⟨h3.1, h3.2.1, h3.2.2, by simpa using h2⟩

theorem take_free {fs : List Int} {p : Int × Int} (hr : ∀ x ∈ fs, 1 ≤ x ∧ x ≤ 63) (h1 : p.1 ∈ fs) (h2 : freeG fs p.1.toNat ≠ 0) (h3 : p.2 = freeG fs p.1.toNat) : takeL fs p.1 = fs.filter fun x => decide (x ∉ [p.1, p.2]) := by
  have hu := freeG_mem h2
  rw [← h3] at hu
  unfold takeL
  refine List.filter_congr fun x hx => ?_
  rw [decide_eq_decide]
  have hxr := hr x hx
  have hpr := hr _ h1
  constructor
  · intro h hm
    simp at hm
    rcases hm with e | e
    · exact h (by rw [e]; exact Nat.and_self _)
    · have : x ∈ upF fs p.1.toNat := by rw [hu, e]; simp
      exact h (upF_mem this).2.1
  · intro h hx2
    simp at h
    have hxu : x ∈ upF fs p.1.toNat := by
      unfold upF
      refine List.mem_filter.2 ⟨hx, ?_⟩
      simp only [decide_eq_true_eq]
      exact ⟨hx2, fun e => h.1 (by omega)⟩
    rw [hu] at hxu
    simp at hxu
    exact h.2 hxu

theorem take_lt {fs : List Int} {x : Int} (hx : x ∈ fs) : (takeL fs x).length < fs.length := by
  unfold takeL
  refine List.length_filter_lt_length_iff_exists.2 ⟨x, hx, ?_⟩
  simp

theorem colStep_none {ls : List Int} {s : List Int × List (Int × Int)} (h : firstP s.1 ls = none) : colStep ls s = s := by unfold colStep; rw [h]
theorem colStep_some {ls : List Int} {s : List Int × List (Int × Int)} {p : Int × Int} (h : firstP s.1 ls = some p) : colStep ls s = (takeL s.1 p.1, s.2 ++ [p]) := by unfold colStep; rw [h]
theorem colN_stop {ls : List Int} {s : List Int × List (Int × Int)} {n : Nat} (h : firstP (colN ls n s).1 ls = none) : ∀ m, n ≤ m → colN ls m s = colN ls n s := by
  intro m hm
  induction m with
  | zero => have : n = 0 := by omega
            subst this; rfl
  | succ m ih =>
    by_cases hn : n = m + 1
    · rw [hn]
    · have := ih (by omega)
      show colStep ls (colN ls m s) = _
      rw [this, colStep_none h]

/-- A collapse under way. -/
structure ColAt (ls fs : List Int) (n : Nat) (cur : List Int) (P : List (Int × Int)) : Prop where
  eq : colN ls n (fs, []) = (cur, P)
  len : n + cur.length ≤ fs.length
  plen : P.length ≤ n
  sub : cur.Sublist fs

theorem ColAt.start (ls fs : List Int) : ColAt ls fs 0 fs [] := ⟨rfl, by omega, by simp, List.Sublist.refl _⟩
theorem ColAt.step {ls fs : List Int} {n : Nat} {cur : List Int} {P : List (Int × Int)} {p : Int × Int} (h : ColAt ls fs n cur P) (hp : firstP cur ls = some p) : ColAt ls fs (n + 1) (takeL cur p.1) (P ++ [p]) := by
  have hl := take_lt (firstP_some hp).1
  have h1 := h.len
  have h2 := h.plen
  refine ⟨?_, by omega, by simp; omega, List.Sublist.trans (by unfold takeL; exact List.filter_sublist) h.sub⟩
  show colStep ls (colN ls n (fs, [])) = _
  rw [h.eq]
  exact colStep_some hp
theorem ColAt.stop {ls fs : List Int} {n : Nat} {cur : List Int} {P : List (Int × Int)} (h : ColAt ls fs n cur P) (hp : firstP cur ls = none) : colE ls fs = (cur, P) := by
  unfold colE
  rw [colN_stop (n := n) (by rw [h.eq]; exact hp) fs.length (by have := h.len; omega)]
  exact h.eq

theorem colE_len (ls fs : List Int) : (colE ls fs).1.length ≤ fs.length ∧ (colE ls fs).2.length ≤ fs.length ∧ (colE ls fs).1.Sublist fs := by
  have key : ∀ n, n ≤ fs.length → ((colN ls n (fs, [])).1.length ≤ fs.length ∧ (colN ls n (fs, [])).2.length ≤ n ∧ (colN ls n (fs, [])).1.Sublist fs) := by
    intro n
    induction n with
    | zero => intro _; exact ⟨Nat.le_refl _, by simp [colN], List.Sublist.refl _⟩
    | succ n ih =>
      intro hn
      obtain ⟨h1, h2, h3⟩ := ih (by omega)
      show (colStep ls (colN ls n (fs, []))).1.length ≤ _ ∧ (colStep ls (colN ls n (fs, []))).2.length ≤ _ ∧ (colStep ls (colN ls n (fs, []))).1.Sublist _
      cases hp : firstP (colN ls n (fs, [])).1 ls with
      | none => rw [colStep_none hp]; exact ⟨h1, by omega, h3⟩
      | some p =>
        rw [colStep_some hp]
        have hs : (takeL (colN ls n (fs, [])).1 p.1).Sublist fs := List.Sublist.trans (by unfold takeL; exact List.filter_sublist) h3
        exact ⟨hs.length_le, by simp; omega, hs⟩
  have := key fs.length (Nat.le_refl _)
  exact ⟨this.1, this.2.1, this.2.2⟩

/-- Lists in which the low face of a free pair lies if its high one does. -/
def LowIn (fs ls : List Int) : Prop := ∀ p ∈ freeP fs fs, p.2 ∈ ls → p.1 ∈ ls
theorem lowIn_nil (fs : List Int) : LowIn fs [] := fun _ _ h => by simp at h
theorem lowIn_of {V : Int} {fs ls : List Int} (hr : ∀ x ∈ fs, 1 ≤ x ∧ x ≤ 63) (hC : IsC V ls) : LowIn fs ls := by
  intro p hp h2
  have h := mem_freeP.1 hp
  have hu := freeG_mem h.2.1
  have hm : p.2 ∈ upF fs p.1.toNat := by rw [hu, h.2.2]; simp
  have hb := (upF_mem hm).2.1
  have hpr := hr _ h.1
  have := hC.closed p.2 h2 p.1.toNat (by omega) (by rw [Nat.and_comm]; exact hb)
  rwa [show ((p.1.toNat : Nat) : Int) = p.1 by omega] at this
/-- With such lists it is one whether both faces or the low one alone are asked for. -/
theorem firstP_both {fs ls : List Int} (h : LowIn fs ls) : (freeP fs fs).find? (fun p => decide (p.1 ∉ ls) && decide (p.2 ∉ ls)) = firstP fs ls := by
  unfold firstP
  have key : ∀ L : List (Int × Int), (∀ p ∈ L, p.2 ∈ ls → p.1 ∈ ls) → L.find? (fun p => decide (p.1 ∉ ls) && decide (p.2 ∉ ls)) = L.find? fun p => decide (p.1 ∉ ls) := by
    intro L
    induction L with
    | nil => intro _; rfl
    | cons q L ih =>
      intro hL
      rw [List.find?_cons, List.find?_cons, ih (fun p hp => hL p (by simp [hp]))]
      have hq := hL q (by simp)
      by_cases h1 : q.1 ∈ ls
      · simp [h1]
      · have h2 : q.2 ∉ ls := fun e => h1 (hq e)
        simp [h1, h2]
  exact key _ h

end Go.Proofs.Ytojnpacklcajpaa
