import Derived.Test.YtmkknfdjoajpcaaSortLay
import Derived.Test.YtmkknfdjoajpcaaPick
import Derived.Test.YtmkknfdjoajpcaaSetMap
import Derived.Shelf.SlIterI.Nil
import Derived.Shelf.SortM.Plain
import Derived.Shelf.SortM.SortNone
/-! The library's sort at int64, and slices.Sorted(maps.Keys(m)) of a set. -/
namespace Go.Proofs.Ytmkknfdjoajpcaa
open Go.RowKit Go.Maps Go.Sort Go.Shelf

/-- slices.Sort's two contracts, as slices.Sorted asks them. -/
theorem sortsL (m : Nat) : AnyZI.SortsIn Try.prog sortedL_ren Fence.wide m :=
  ⟨fun blk off cap ss W hH hblk hsz => callsIn_wide.2 (AnyM.slices_Sort_int sortL blk off cap ss W hH hblk hsz),
   fun p cap W => callsIn_wide.2 (AnyM.slices_Sort_int_none sortL p cap W)⟩

theorem has_knownFrom (x : Int) : ∀ (pre : List Int) (D : DataW Unit), Maps.IsMap D → (has (knownFrom D pre) (.int .i64 x) = true ↔ x ∈ pre ∨ has D (.int .i64 x) = true)
  | [], D, _ => by simp [knownFrom]
  | y :: pre, D, hD => by
    have ih := has_knownFrom x pre (D.put (.int .i64 y) (.lit (.bool true))) (hD.put _ _)
    have e : knownFrom D (y :: pre) = knownFrom (D.put (.int .i64 y) (.lit (.bool true))) pre := rfl
    rw [e, ih]
    by_cases hx : x = y
    · subst hx
      rw [has_put_same hD (show WideAt.IsKeyLit (.int .i64 x) from trivial)]
      simp
    · rw [has_put_other (by simpa using hx)]
      simp [hx]

theorem has_knownD (x : Int) (pre : List Int) : has (knownD pre) (.int .i64 x) = true ↔ x ∈ pre := by
  unfold knownD
  rw [has_knownFrom x pre _ Maps.isMap_empty]
  simp [has]

/-- A set's numbers, ascending. -/
def ascOf (L : List Int) : List Int := pickTo (fun x => decide (x ∈ L)) 63

theorem mem_ascOf {L : List Int} (hL : ∀ x ∈ L, 1 ≤ x ∧ x ≤ 63) {x : Int} : x ∈ ascOf L ↔ x ∈ L := by
  unfold ascOf
  rw [mem_pickTo]
  constructor
  · intro h; simpa using h.2.2
  · intro h; exact ⟨(hL x h).1, (hL x h).2, by simpa using h⟩

theorem sorted_known {w : World} {b n : Nat} {L : List Int} (hown : w.ownsMap Try.prog 2 (plainElem (H := Unit) Try.prog 4) b n (knownD L)) (hL : ∀ x ∈ L, 1 ≤ x ∧ x ≤ 63) {ss : List Int} (hp : ss.Perm (intKeys (knownD L))) :
    ss.mergeSort (fun x y => decide (x ≤ y)) = ascOf L := by
  obtain ⟨es, hD, hpw, _⟩ := hown.entries (Maps.int_keyed Try.underlying2)
  obtain ⟨es', hD', hko⟩ := hown.keysOf
  obtain rfl : es = es' := by rw [hD] at hD'; simpa using hD'
  have hasc := pickTo_asc (fun x => decide (x ∈ L)) 63
  have h1 : (ascOf L).Perm (intKeys (knownD L)) := by
    rw [hD]
    refine perm_intKeys hpw (fun p hp => by obtain ⟨v, hv⟩ := hko p hp; obtain ⟨x, _, hx, _⟩ := Maps.keyOf_i64 Try.underlying2 hv; exact ⟨x, hx⟩) (hasc.imp fun h e => by omega) (fun x => ?_)
    rw [← hD, has_knownD, mem_ascOf hL]
  have h2 := mergeSort_of_perm_i (hp.trans h1.symm)
  refine h2.trans (List.mergeSort_of_pairwise ?_)
  exact hasc.imp fun h => by simp only [leI, decide_eq_true_eq]; omega

end Go.Proofs.Ytmkknfdjoajpcaa
