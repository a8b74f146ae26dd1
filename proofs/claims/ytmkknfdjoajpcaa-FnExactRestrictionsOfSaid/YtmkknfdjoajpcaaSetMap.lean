import Derived.Test.YtmkknfdjoajpcaaRange
/-! A set of integers as a map to bools. -/
namespace Go.Proofs.Ytmkknfdjoajpcaa
open Go.RowKit Go.Shelf

def knownFrom (D : DataW Unit) (pre : List Int) : DataW Unit := pre.foldl (fun D x => D.put (.int .i64 x) (.lit (.bool true))) D
def knownD (pre : List Int) : DataW Unit := knownFrom (.map []) pre

theorem knownD_snoc (pre : List Int) (x : Int) : knownD (pre ++ [x]) = (knownD pre).put (.int .i64 x) (.lit (.bool true)) := by simp [knownD, knownFrom]

theorem knownFrom_at (p : Int) : ∀ (pre : List Int) (D : DataW Unit), Maps.IsMap D → (knownFrom D pre).atKey (.int .i64 p) (.lit (.bool false)) = if p ∈ pre then .lit (.bool true) else D.atKey (.int .i64 p) (.lit (.bool false))
  | [], D, _ => by simp [knownFrom]
  | x :: pre, D, hD => by
    have ih := knownFrom_at p pre (D.put (.int .i64 x) (.lit (.bool true))) (hD.put _ _)
    have e : knownFrom D (x :: pre) = knownFrom (D.put (.int .i64 x) (.lit (.bool true))) pre := rfl
    rw [e, ih]
    by_cases hp : p ∈ pre
    · simp [hp]
    · by_cases hx : p = x
      · subst hx
        rw [if_neg hp, if_pos (by simp), Maps.atKey_put_same hD (show WideAt.IsKeyLit (.int .i64 p) from trivial)]
      · rw [if_neg hp, if_neg (by simp [hp, hx]), Maps.atKey_put_other (by simpa using hx)]

theorem knownD_at (p : Int) (pre : List Int) : (knownD pre).atKey (.int .i64 p) (.lit (.bool false)) = .lit (.bool (decide (p ∈ pre))) := by
  unfold knownD
  rw [knownFrom_at p pre _ Maps.isMap_empty]
  by_cases h : p ∈ pre
  · simp [h]
  · simp [h]
    rfl

set_option maxRecDepth 100000 in
theorem bool_inv {v : Value} {c : Bool} {ps : List MemPlace} (h : plainElem (H := Unit) Try.prog 4 v = some (.lit (.bool c), ps)) : v = .bool c := by
  unfold plainElem at h
  rw [Try.underlying4] at h
  cases v <;> simp at h
  rw [h.1]

theorem zero_bool (w : World) : (zeroValue 4).run Try.prog w = .ok (.bool false) w := by kernel_rfl

theorem lookup_known {w : World} {b n : Nat} {pre : List Int} (hown : w.ownsMap Try.prog 2 (plainElem (H := Unit) Try.prog 4) b n (knownD pre)) {p : Int} (hp : (Lit.int .i64 p).wf = true) :
    (Instr.lookup 76 (.map (some b)) (.int .i64 p) false).run Try.prog w = .ok (.bool (decide (p ∈ pre))) w := by
  obtain ⟨v, ps, hrun, hv⟩ := hown.lookup (Maps.int_keyed Try.underlying2) Try.underlying76 (zero_bool w) (plainElem_bool Try.underlying4 false) (Maps.keyOf_int_mk Try.underlying2 hp)
  rw [knownD_at] at hv
  rw [bool_inv hv] at hrun
  exact hrun

/-- 'known[p]', at the operation. -/
theorem at_known {F : Fence} {nF : Nat} {w : World} {ops : Array Oper} {rest : List Oper} {o : Oper} {a : Act} {Q : Exit → Act → World → Prop} (hg : o.guard = none) {m x : Operand} (hop : o.op = Op.lookup 76 m x false)
    {b n : Nat} {pre : List Int} (hown : w.ownsMap Try.prog 2 (plainElem (H := Unit) Try.prog 4) b n (knownD pre)) {p : Int} (hp : (Lit.int .i64 p).wf = true)
    (hm : a.eval m = .map (some b)) (hx : a.eval x = .int .i64 p) {c : Bool} (hc : decide (p ∈ pre) = c) (hK : wpListIn F nF Try.prog ops Q rest (a.put o.dst (.bool c)) w) :
    wpListIn F nF Try.prog ops Q (o :: rest) a w := by
  refine wpListIn_plain hg fun K' hK' => ?_
  have hrun := lookup_known hown hp
  rw [hc] at hrun
  unfold Oper.wpIn
  refine ⟨by simp [Oper.about, hop], ?_⟩
  rw [Oper.semAt_plain F _ _ (by rw [hop]; intro c hc'; cases hc')]
  simp [execOp, hop, hm, hx, hrun, Result.andThen]
  exact hK' _ _ hK

end Go.Proofs.Ytmkknfdjoajpcaa
