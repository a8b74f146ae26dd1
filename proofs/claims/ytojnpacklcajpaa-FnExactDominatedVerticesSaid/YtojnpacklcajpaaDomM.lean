import Derived.Test.YtojnpacklcajpaaFacets
import Derived.Test.YtojnpacklcajpaaEqP
/-! Dominated vertices: mathematics. -/
namespace Go.Proofs.Ytojnpacklcajpaa
open Go.RowKit

/-- What is common to the facets with a vertex: the program's way, and the model's. -/
def comStepI (b c : Nat) (x : Int) : Nat := if x.toNat &&& b = 0 then c else (if c = 0 then x.toNat else c) &&& x.toNat
def comI (b : Nat) (F : List Int) : Nat := F.foldl (comStepI b) 0
def comStepS (b c : Nat) (x : Int) : Nat := if x.toNat &&& b = 0 then c else c &&& x.toNat
def comS (A b : Nat) (F : List Int) : Nat := F.foldl (comStepS b) A

theorem comI_snoc (b : Nat) (F : List Int) (x : Int) : comI b (F ++ [x]) = comStepI b (comI b F) x := by simp [comI]
theorem comS_snoc (A b : Nat) (F : List Int) (x : Int) : comS A b (F ++ [x]) = comStepS b (comS A b F) x := by simp [comS]

theorem one_bit : ∀ x : Fin 64, ∀ v : Fin 6, x.val &&& 2 ^ v.val = 0 ∨ x.val &&& 2 ^ v.val = 2 ^ v.val := by decide +kernel
theorem all_and : ∀ V : Fin 7, ∀ x : Fin 64, x.val ≤ 2 ^ V.val - 1 → (2 ^ V.val - 1) &&& x.val = x.val := by decide +kernel
theorem not_bit : ∀ c : Fin 64, ∀ v : Fin 6, c.val &&& 2 ^ v.val = 2 ^ v.val → (bits BinOp.andNot IntKind.i64 (c.val : Int) ((2 ^ v.val : Nat) : Int) != 0) = decide (c.val ≠ 2 ^ v.val) := by decide +kernel
theorem not_zero : ∀ v : Fin 6, (bits BinOp.andNot IntKind.i64 (0 : Int) ((2 ^ v.val : Nat) : Int) != 0) = false := by decide +kernel

theorem comI_lt {b : Nat} : ∀ {F : List Int}, (∀ x ∈ F, 1 ≤ x ∧ x ≤ 63) → comI b F < 64 := by
  intro F
  unfold comI
  have key : ∀ (F : List Int) (c : Nat), c < 64 → (∀ x ∈ F, 1 ≤ x ∧ x ≤ 63) → F.foldl (comStepI b) c < 64 := by
    intro F
    induction F with
    | nil => intro c hc _; exact hc
    | cons x F ih =>
      intro c hc hr
      have hx := hr x (by simp)
      refine ih _ ?_ (fun y hy => hr y (by simp [hy]))
      unfold comStepI
      split
      · exact hc
      · exact Nat.lt_of_le_of_lt Nat.and_le_right (by omega)
  exact key F 0 (by omega)

/-- Both ways go together. -/
theorem com_both {V v : Nat} (hV : V ≤ 6) (hv : v < 6) {F : List Int} (hr : ∀ x ∈ F, 1 ≤ x ∧ x ≤ 2 ^ V - 1) :
    ((∀ x ∈ F, x.toNat &&& 2 ^ v = 0) ∧ comI (2 ^ v) F = 0 ∧ comS (2 ^ V - 1) (2 ^ v) F = 2 ^ V - 1) ∨ ((∃ x ∈ F, x.toNat &&& 2 ^ v ≠ 0) ∧ comI (2 ^ v) F = comS (2 ^ V - 1) (2 ^ v) F ∧ comS (2 ^ V - 1) (2 ^ v) F &&& 2 ^ v = 2 ^ v) := by
  have hp : (2 : Nat) ^ V ≤ 64 := by
    have : V = 0 ∨ V = 1 ∨ V = 2 ∨ V = 3 ∨ V = 4 ∨ V = 5 ∨ V = 6 := by omega
    rcases this with rfl | rfl | rfl | rfl | rfl | rfl | rfl <;> decide
  have hpc : ((2 : Int) ^ V) = ((2 ^ V : Nat) : Int) := by simp
  have h1p : 1 ≤ (2 : Nat) ^ V := Nat.one_le_two_pow
  rw [hpc] at hr
  have key : ∀ n, n ≤ F.length → ((∀ x ∈ F.take n, x.toNat &&& 2 ^ v = 0) ∧ comI (2 ^ v) (F.take n) = 0 ∧ comS (2 ^ V - 1) (2 ^ v) (F.take n) = 2 ^ V - 1) ∨ ((∃ x ∈ F.take n, x.toNat &&& 2 ^ v ≠ 0) ∧ comI (2 ^ v) (F.take n) = comS (2 ^ V - 1) (2 ^ v) (F.take n) ∧ comS (2 ^ V - 1) (2 ^ v) (F.take n) &&& 2 ^ v = 2 ^ v) := by
    intro n
    induction n with
    | zero => intro _; left; simp [comI, comS]
    | succ n ih =>
      intro hn
      have hlt : n < F.length := by omega
      have hx := hr _ (getD_mem hlt)
      rw [take_snoc hlt, comI_snoc, comS_snoc]
      generalize F[n]?.getD 0 = x at hx ⊢
      have hx64 : x.toNat < 64 := by omega
      have hb := one_bit ⟨x.toNat, hx64⟩ ⟨v, hv⟩
      simp only at hb
      have ha := all_and ⟨V, by omega⟩ ⟨x.toNat, hx64⟩ (by simp only; omega)
      simp only at ha
      rcases ih (by omega) with ⟨h1, h2, h3⟩ | ⟨⟨y, hy, hyb⟩, h2, h3⟩
      · by_cases h0 : x.toNat &&& 2 ^ v = 0
        · left
          refine ⟨?_, ?_, ?_⟩
          · intro y hy
            rcases List.mem_append.1 hy with h | h
            · exact h1 y h
            · simp at h; subst h; exact h0
          · unfold comStepI; rw [if_pos h0]; exact h2
          · unfold comStepS; rw [if_pos h0]; exact h3
        · right
          refine ⟨⟨x, by simp, h0⟩, ?_, ?_⟩
          · unfold comStepI comStepS; rw [if_neg h0, if_neg h0, h2, h3, if_pos rfl, ha, Nat.and_self]
          · unfold comStepS; rw [if_neg h0, h3, ha]; exact hb.resolve_left h0
      · right
        refine ⟨⟨y, by simp [hy], hyb⟩, ?_, ?_⟩
        · unfold comStepI comStepS
          by_cases h0 : x.toNat &&& 2 ^ v = 0
          · rw [if_pos h0, if_pos h0, h2]
          · have hc0 : comI (2 ^ v) (F.take n) ≠ 0 := by
              intro e
              rw [← h2, e] at h3
              have : (0 : Nat) < 2 ^ v := Nat.pow_pos (by omega)
              simp at h3
              omega
            rw [if_neg h0, if_neg h0, if_neg hc0, h2]
        · unfold comStepS
          by_cases h0 : x.toNat &&& 2 ^ v = 0
          · rw [if_pos h0]; exact h3
          · rw [if_neg h0, Nat.and_assoc, hb.resolve_left h0]; exact h3
  have := key F.length (Nat.le_refl _)
  rwa [List.take_of_length_le (Nat.le_refl _)] at this

/-- Each face lies in a facet. -/
theorem in_facet {fs : List Int} (hr : ∀ x ∈ fs, 1 ≤ x ∧ x ≤ 63) : ∀ (m : Nat) (x : Int), x ∈ fs → 64 - x.toNat ≤ m → ∃ y ∈ facetsL fs, y.toNat &&& x.toNat = x.toNat := by
  intro m
  induction m with
  | zero => intro x hx hm; have := hr x hx; omega
  | succ m ih =>
    intro x hx hm
    by_cases h : (aboveL fs x.toNat).length = 0
    · exact ⟨x, List.mem_filter.2 ⟨hx, by simpa using h⟩, Nat.and_self _⟩
    · obtain ⟨y, hy⟩ := List.exists_mem_of_length_pos (Nat.pos_of_ne_zero h)
      unfold aboveL at hy
      have hym := List.mem_filter.1 hy
      simp only [decide_eq_true_eq] at hym
      have hxr := hr x hx
      have hyr := hr y hym.1
      have hle : x.toNat ≤ y.toNat := by rw [← hym.2.1]; exact Nat.and_le_left
      have hne : x.toNat ≠ y.toNat := fun e => by have := hym.2.2; rw [e] at this; omega
      obtain ⟨z, hz, hzy⟩ := ih y hym.1 (by omega)
      refine ⟨z, hz, ?_⟩
      have : z.toNat &&& x.toNat = z.toNat &&& (y.toNat &&& x.toNat) := by rw [hym.2.1]
      rw [this, ← Nat.and_assoc, hzy, hym.2.1]

/-- Whether a vertex is dominated. -/
def domB (V : Nat) (fs : List Int) (v : Nat) : Bool := decide (((2 ^ v : Nat) : Int) ∈ fs) && decide (comS (2 ^ V - 1) (2 ^ v) (facetsL fs) ≠ 2 ^ v)
/-- The dominated vertices less than m. -/
def domL (V : Nat) (fs : List Int) (m : Nat) : List Int := ((List.range m).filter (domB V fs)).map fun v => ((v : Nat) : Int)
theorem domL_succ (V : Nat) (fs : List Int) (m : Nat) (c : Bool) (h : domB V fs m = c) : domL V fs (m + 1) = domL V fs m ++ (if c then [((m : Nat) : Int)] else []) := by
  unfold domL
  rw [List.range_succ, List.filter_append, List.map_append]
  cases c <;> simp [h]
theorem domL_len (V : Nat) (fs : List Int) (m : Nat) : (domL V fs m).length ≤ m := by
  unfold domL
  rw [List.length_map]
  exact Nat.le_trans (List.length_filter_le _ _) (by simp)
theorem domL_mem {V : Nat} {fs : List Int} {m : Nat} {x : Int} (h : x ∈ domL V fs m) : ∃ v : Nat, x = v ∧ v < m ∧ domB V fs v = true := by
  unfold domL at h
  obtain ⟨v, hv, rfl⟩ := List.mem_map.1 h
  have := List.mem_filter.1 hv
  exact ⟨v, rfl, by simpa using this.1, this.2⟩

theorem facetsL_sub {fs : List Int} {x : Int} (h : x ∈ facetsL fs) : x ∈ fs := (List.mem_filter.1 h).1

theorem dom_prog {V : Nat} {fs : List Int} (hC : IsC (V : Int) fs) {v : Nat} (hv : v < V) : (bits BinOp.andNot IntKind.i64 (comI (2 ^ v) (facetsL fs) : Int) ((2 ^ v : Nat) : Int) != 0) = domB V fs v := by
  have hV : V ≤ 6 := by have := hC.hi; omega
  have hr : ∀ x ∈ facetsL fs, 1 ≤ x ∧ x ≤ 2 ^ V - 1 := fun x hx => by
    have := hC.range x (facetsL_sub hx)
    unfold allV at this
    rwa [Int.toNat_natCast] at this
  have hr63 : ∀ x ∈ facetsL fs, 1 ≤ x ∧ x ≤ 63 := fun x hx => hC.range63 x (facetsL_sub hx)
  unfold domB
  rcases com_both hV (by omega : v < 6) hr with ⟨h1, h2, h3⟩ | ⟨⟨y, hy, hyb⟩, h2, h3⟩
  · rw [h2]
    have hz := not_zero ⟨v, by omega⟩
    simp only at hz
    have hn : ((2 ^ v : Nat) : Int) ∉ fs := by
      intro hm
      obtain ⟨y, hy, hyx⟩ := in_facet hC.range63 64 _ hm (by omega)
      rw [Int.toNat_natCast] at hyx
      have := h1 y hy
      rw [hyx] at this
      have : (0 : Nat) < 2 ^ v := Nat.pow_pos (by omega)
      omega
    rw [decide_eq_false hn, Bool.false_and]
    exact hz
  · have hlt : comS (2 ^ V - 1) (2 ^ v) (facetsL fs) < 64 := by rw [← h2]; exact comI_lt hr63
    have hn := not_bit ⟨_, hlt⟩ ⟨v, by omega⟩ h3
    simp only at hn
    have hm : ((2 ^ v : Nat) : Int) ∈ fs := by
      have hyr := hr63 y hy
      have hb := one_bit ⟨y.toNat, by omega⟩ ⟨v, by omega⟩
      simp only at hb
      refine hC.closed y (facetsL_sub hy) (2 ^ v) (by have : (0 : Nat) < 2 ^ v := Nat.pow_pos (by omega); omega) ?_
      rw [Nat.and_comm]
      exact hb.resolve_left hyb
    rw [h2, hn, decide_eq_true hm, Bool.true_and]

/-- What DominatedVertices hands back. -/
noncomputable def domR (V : Int) (fs : List Int) : List Int × Int := if isCB V fs then (domL V.toNat fs V.toNat, 0) else ([], 1)
theorem domR_len (V : Int) (fs : List Int) (_h : fs.length ≤ 1048576) : (domR V fs).1.length ≤ 1048576 := by
  unfold domR
  by_cases hC : IsC V fs
  · rw [isCB_true hC, if_pos rfl]
    have := domL_len V.toNat fs V.toNat
    have := hC.hi
    simp only
    omega
  · rw [isCB_false hC, if_neg (by simp)]; simp

end Go.Proofs.Ytojnpacklcajpaa
