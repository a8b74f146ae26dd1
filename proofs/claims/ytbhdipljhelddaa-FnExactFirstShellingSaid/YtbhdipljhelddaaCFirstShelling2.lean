/- THE STATEMENT on FirstShelling: for every argument that comes in (a complex-like value (any number, any slice of int64)) the law returns true and leaves its arguments as they were. No conditions. -/
import Derived.Test.YtbhdipljhelddaaMFS5
import Derived.Test.YtbhdipljhelddaaCFirstShelling1
namespace Go.Proofs.Ytbhdipljhelddaa.lawFirstShelling
open Go.ChangeShapes Go.WideShapes Go.ChangeAt Go.RowKit Go.Joins

set_option maxRecDepth 100000 in
theorem lifted (os : Os) (started : os.Started) (H : Type) (enc : TypeId × Value → H) :
    ReturnsInHanded {} Try.checked os 5 .any (Rows.fnExactFirstShellingSpec.pre6 enc Try.prog Try.f5 Rows.fnExactFirstShellingRow.domain false) (Rows.fnExactFirstShellingSpec.post enc Try.prog Try.f5 false true false false) := by
  refine returnsInHanded_of_change (C := Try.checked) own started (by kernel_rfl) Try.func5
    (ChangeSpec.witness6 (enc := enc) (C := Try.checked) false ⟨#[], #[.agg #[.int .i64 0, .slice none 0 0]], []⟩ 8 (by kernel_rfl) (by kernel_rfl) (by kernel_rfl) (by kernel_rfl)) ?_
  intro W base args ds gs before hval0 hW hcnd _
  have hval : ∀ (j : Nat) t v, Try.f5.params[j]? = some t → args[j]? = some v → Value.okWide Try.prog W .any base t v := hval0
  have hW' := hW
  obtain ⟨p, q, hA0, hV, rfl, hfz, hnd⟩ := hW
  have hA : DataW.TrodAll enc Try.prog W 0 (fun _ => true) true Try.f5.params.toList args.toList ds p := hA0
  rw [Try.params5] at hA hval
  obtain ⟨v0, vs0, d0, ds0, p0, q0, hargs, rfl, rfl, h0, r0⟩ := trodAll_cons hA
  obtain ⟨rfl, rfl, rfl⟩ := trodAll_nil r0
  obtain rfl : args = #[v0] := by cases args; simp_all
  obtain ⟨rfl, rfl⟩ := trodVars_none hV
  have k0 := h0
  have lt0 : ∀ x ∈ p0, x.block < W.heap.size := by obtain ⟨m, hm⟩ := k0; exact DataW.trod_lt m _ _ _ hm
  obtain ⟨c0, c0', y0, y0', m0, rfl, _, _, hy0, hy0'⟩ := open_agg2 Try.underlying24 (by kernel_rfl) (by kernel_rfl) (hval 0 24 v0 rfl rfl) h0
  obtain ⟨V0, e0, _, _⟩ := DataW.trod_int Try.underlying2 hy0
  obtain ⟨a0, len0, cap0, xs0, rfl, rfl, hn0, hx0, _⟩ := slI_of_trod hy0'
  simp at e0
  subst e0
  clear hA0 hval0
  refine (law_FirstShelling V0 a0 cap0 xs0 W hx0 hn0).mono fun e W' ⟨he, bel⟩ => ?_
  subst he
  exact ⟨_, rfl, _, _, _, [], _, [], hW', trodAll_mk1 (shut_bool Try.underlying4 _), (trodAll_cons_mk (Below.trod laidOut (by kernel_rfl) (of_decide_eq_true (by kernel_rfl)) k0 bel lt0) trodAll_mk0), rfl, bel.frame _, fun h => by cases h⟩

-- what the row says of the program, by itself: the kernel's memory is let go behind each theorem
theorem facts1 : laidOutB Try.checked.prog = true := by kernel_rfl
theorem facts2 : mapsRowed Try.checked.prog = true := by kernel_rfl
theorem facts3 : (Rows.fnExactFirstShellingRow.inPlace == Try.checked.prog.inPlace 5) = true := by kernel_rfl
theorem facts4 : (Rows.fnExactFirstShellingRow.unfollowed == Try.checked.prog.unfollowed 5) = true := by kernel_rfl
theorem facts5 : (Rows.fnExactFirstShellingRow.recurses == Try.checked.prog.recurses 5) = true := by kernel_rfl
theorem facts6 : (Rows.fnExactFirstShellingRow.named == Try.checked.prog.varsNamed 5) = true := by kernel_rfl
theorem facts : joinedFacts Try.checked.prog 5 Try.f5 Rows.fnExactFirstShellingSpec Rows.fnExactFirstShellingRow = true := by
  unfold joinedFacts
  rw [facts1, facts2, facts3, facts4, facts5, facts6]
  kernel_rfl

theorem over : Rows.fnExactFirstShellingRow.holds Try.pinned (OpenSpec.ofChange Rows.fnExactFirstShellingSpec) :=
  OpenClaim.holds_of_wide 5 Try.f5 rfl rfl rfl rfl rfl rfl rfl ⟨rfl, rfl, rfl, rfl, rfl⟩ rfl rfl rfl rfl rfl (by kernel_rfl) Try.func5 facts
    (of_decide_eq_true (by kernel_rfl)) (by unfold Func.isWrapper; first | (rw [if_pos (by decide +kernel)]; kernel_rfl) | (rw [if_neg (by decide +kernel)]; exact ⟨rfl, rfl⟩))
    (fun os started H enc _ => lifted os started H enc)

theorem proved : Rows.FnExactFirstShellingSaid := over
end Go.Proofs.Ytbhdipljhelddaa.lawFirstShelling
