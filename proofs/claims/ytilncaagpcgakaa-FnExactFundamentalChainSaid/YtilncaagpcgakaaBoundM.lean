import Derived.Test.YtilncaagpcgakaaSides
import Derived.Test.YtilncaagpcgakaaSetMap
import Derived.Test.YtilncaagpcgakaaMath
/-! Boundaries modulo 2: parities. -/
namespace Go.Proofs.Ytilncaagpcgakaa
open Go.RowKit Go.Shelf

/-- The number of places at which p stands is odd. -/
def par (p : Int) (L : List Int) : Bool := decide (L.count p % 2 = 1)
/-- All sides of some faces, one after the other. -/
def sidesI (_f : Nat) (pre : List (Fin 64)) : List Int := pre.map fun p => ((p.val : Nat) : Int)
def sidesAll (ch : List Int) : List Int := ch.flatMap fun x => sidesI x.toNat (sidesF x.toNat)
theorem sidesAll_snoc (ch : List Int) (x : Int) : sidesAll (ch ++ [x]) = sidesAll ch ++ sidesI x.toNat (sidesF x.toNat) := by simp [sidesAll]
theorem sidesI_len (f : Nat) (pre : List (Fin 64)) : (sidesI f pre).length = pre.length := by simp [sidesI]
theorem sidesI_snoc (f : Nat) (pre : List (Fin 64)) (p : Fin 64) : sidesI f (pre ++ [p]) = sidesI f pre ++ [((p.val : Nat) : Int)] := by simp [sidesI]
theorem sidesAll_len : ∀ ch : List Int, (sidesAll ch).length ≤ 6 * ch.length
  | [] => by simp [sidesAll]
  | x :: ch => by
    have h1 := sidesAll_len ch
    have h2 : (sidesF x.toNat).length ≤ 6 := sides_len x.toNat 6
    unfold sidesAll at h1 ⊢
    rw [List.flatMap_cons, List.length_append, sidesI_len, List.length_cons]
    omega

/-- The map of parities; the last number met comes first. -/
def togR : List Int → DataW Unit
  | [] => .map []
  | x :: L => (togR L).put (.int .i64 x) (.lit (.bool (!par x L)))
def togD (L : List Int) : DataW Unit := togR L.reverse

theorem par_rev (p : Int) (L : List Int) : par p L.reverse = par p L := by unfold par; rw [List.count_reverse]
theorem togD_snoc (L : List Int) (x : Int) : togD (L ++ [x]) = (togD L).put (.int .i64 x) (.lit (.bool (!par x L))) := by
  unfold togD
  rw [List.reverse_append]
  show togR (x :: L.reverse) = _
  unfold togR
  rw [par_rev]
  cases L.reverse <;> rfl
theorem togR_map : ∀ L : List Int, Maps.IsMap (togR L)
  | [] => Maps.isMap_empty
  | _ :: L => (togR_map L).put _ _
theorem par_cons_self (x : Int) (L : List Int) : par x (x :: L) = !par x L := by
  unfold par
  rw [List.count_cons_self]
  rcases Nat.mod_two_eq_zero_or_one (L.count x) with h | h
  · have : (L.count x + 1) % 2 = 1 := by omega
    simp [h, this]
  · have : ¬ (L.count x + 1) % 2 = 1 := by omega
    simp [h, this]
theorem par_cons_ne {p x : Int} (h : ¬ p = x) (L : List Int) : par p (x :: L) = par p L := by
  unfold par
  rw [List.count_cons_of_ne (fun e => h e.symm)]
theorem togR_at (p : Int) : ∀ L : List Int, (togR L).atKey (.int .i64 p) (.lit (.bool false)) = .lit (.bool (par p L))
  | [] => by simp [togR, par]; rfl
  | x :: L => by
    have ih := togR_at p L
    show ((togR L).put (.int .i64 x) (.lit (.bool (!par x L)))).atKey _ _ = _
    by_cases h : p = x
    · subst h
      rw [Maps.atKey_put_same (togR_map L) (show WideAt.IsKeyLit (.int .i64 p) from trivial), par_cons_self]
    · rw [Maps.atKey_put_other (by simpa using h), ih, par_cons_ne h]
theorem togD_at (p : Int) (L : List Int) : (togD L).atKey (.int .i64 p) (.lit (.bool false)) = .lit (.bool (par p L)) := by
  unfold togD; rw [togR_at, par_rev]

theorem lookup_tog {w : World} {b n : Nat} {L : List Int} (hown : w.ownsMap Try.prog 2 (plainElem (H := Unit) Try.prog 4) b n (togD L)) {p : Int} (hp : (Lit.int .i64 p).wf = true) :
    (Instr.lookup 64 (.map (some b)) (.int .i64 p) false).run Try.prog w = .ok (.bool (par p L)) w := by
  obtain ⟨v, ps, hrun, hv⟩ := hown.lookup (Maps.int_keyed Try.underlying2) Try.underlying64 (zero_bool w) (plainElem_bool Try.underlying4 false) (Maps.keyOf_int_mk Try.underlying2 hp)
  rw [togD_at] at hv
  rw [bool_inv hv] at hrun
  exact hrun

/-- 'odd[p]', at the operation. -/
theorem at_tog {F : Fence} {nF : Nat} {w : World} {ops : Array Oper} {rest : List Oper} {o : Oper} {a : Act} {Q : Exit → Act → World → Prop} (hg : o.guard = none) {m x : Operand} (hop : o.op = Op.lookup 64 m x false)
    {b n : Nat} {L : List Int} (hown : w.ownsMap Try.prog 2 (plainElem (H := Unit) Try.prog 4) b n (togD L)) {p : Int} (hp : (Lit.int .i64 p).wf = true)
    (hm : a.eval m = .map (some b)) (hx : a.eval x = .int .i64 p) (hK : wpListIn F nF Try.prog ops Q rest (a.put o.dst (.bool (par p L))) w) :
    wpListIn F nF Try.prog ops Q (o :: rest) a w := by
  refine wpListIn_plain hg fun K' hK' => ?_
  have hrun := lookup_tog hown hp
  unfold Oper.wpIn
  refine ⟨by simp [Oper.about, hop], ?_⟩
  rw [Oper.semAt_plain F _ _ (by rw [hop]; intro c hc'; cases hc')]
  simp [execOp, hop, hm, hx, hrun, Result.andThen]
  exact hK' _ _ hK

/-- The boundary of a chain: the faces with an odd number of places among the sides. -/
def bdL (fs ch : List Int) : List Int := fs.filter fun p => par p (sidesAll ch)

end Go.Proofs.Ytilncaagpcgakaa
