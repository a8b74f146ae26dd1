/- THE STATEMENT on IsDesk: for every argument that comes in (a desk-like value: any number, any slice of int64, any list of pairs of int64) the law returns true and leaves its arguments as they were. No conditions. -/
import Derived.Test.YtbgkalkipalndaaMB7
import Derived.Test.YtbgkalkipalndaaCIsDesk1
namespace Go.Proofs.Ytbgkalkipalndaa.lawIsDesk
open Go.ChangeShapes Go.WideShapes Go.ChangeAt Go.RowKit Go.Joins

set_option maxRecDepth 100000 in
theorem lifted (os : Os) (started : os.Started) (H : Type) (enc : TypeId × Value → H) :
    ReturnsInHanded {} Try.checked os 3 .any (Rows.fnExactIsDeskSpec.pre6 enc Try.prog Try.f3 Rows.fnExactIsDeskRow.domain false) (Rows.fnExactIsDeskSpec.post enc Try.prog Try.f3 false true false false) := by
  refine returnsInHanded_of_change (C := Try.checked) own started (by kernel_rfl) Try.func3
    (ChangeSpec.witness6 (enc := enc) (C := Try.checked) false ⟨#[], #[.agg #[.int .i64 0, .slice none 0 0, .slice none 0 0]], []⟩ 8 (by kernel_rfl) (by kernel_rfl) (by kernel_rfl) (by kernel_rfl)) ?_
  intro W base args ds gs before hval0 hW hcnd _
  have hval : ∀ (j : Nat) t v, Try.f3.params[j]? = some t → args[j]? = some v → Value.okWide Try.prog W .any base t v := hval0
  have hW' := hW
  obtain ⟨p, q, hA0, hV, rfl, hfz, hnd⟩ := hW
  have hA : DataW.TrodAll enc Try.prog W 0 (fun _ => true) true Try.f3.params.toList args.toList ds p := hA0
  rw [Try.params3] at hA hval
  obtain ⟨v0, vs0, d0, ds0, p0, q0, hargs, rfl, rfl, h0, r0⟩ := trodAll_cons hA
  obtain ⟨rfl, rfl, rfl⟩ := trodAll_nil r0
  obtain rfl : args = #[v0] := by cases args; simp_all
  obtain ⟨rfl, rfl⟩ := trodVars_none hV
  have k0 := h0
  have lt0 : ∀ x ∈ p0, x.block < W.heap.size := by obtain ⟨m, hm⟩ := k0; exact DataW.trod_lt m _ _ _ hm
  obtain ⟨cs, rfl, hsz⟩ := okWide_struct Try.underlying27 (hval 0 27 v0 rfl rfl)
  obtain ⟨c0, c1, c2, rfl⟩ := array3 (hsz.trans (by kernel_rfl))
  obtain ⟨fu, hf⟩ := h0
  obtain ⟨y0, y1, m, _, _, t0, t1⟩ := trod_struct2 Try.underlying27 hf
  have e0 : Try.prog.cellsOf 24 = 2 := by kernel_rfl
  have e1 : Try.prog.cellsOf 25 = 1 := by kernel_rfl
  have t0' : DataW.trod enc Try.prog W 0 (fun _ => true) true m 24 [c0, c1] = some y0 := by simpa [Value.cells, e0] using t0
  have t1' : DataW.trod enc Try.prog W 0 (fun _ => true) true m 25 [c2] = some y1 := by simpa [Value.cells, e1] using t1
  obtain ⟨z0, z1, m2, _, _, s0, s1⟩ := trod_struct2 Try.underlying24 t0'
  have e2 : Try.prog.cellsOf 2 = 1 := by kernel_rfl
  have e3 : Try.prog.cellsOf 22 = 1 := by kernel_rfl
  have s0' : DataW.trod enc Try.prog W 0 (fun _ => true) true m2 2 [c0] = some z0 := by simpa [e2] using s0
  have s1' : DataW.trod enc Try.prog W 0 (fun _ => true) true m2 22 [c1] = some z1 := by simpa [e3] using s1
  obtain ⟨V0, ev, _, _⟩ := DataW.trod_int Try.underlying2 s0'
  obtain ⟨a0, len0, cap0, xs0, rfl, rfl, hn0, hx0, _⟩ := slI_of_trod s1'
  simp at ev
  subst ev
  obtain ⟨a1, n1, cap1, ps1, rfl, hp1, hn1, hx1, wp1⟩ := pairs_of_trod t1'
  clear hA0 hval0
  refine (law_IsDesk V0 a0 cap0 xs0 a1 n1 cap1 ps1 W hx0 hx1 hp1 wp1 hn0 hn1).mono fun e W' ⟨he, bel⟩ => ?_
  subst he
  exact ⟨_, rfl, _, _, _, [], _, [], hW', trodAll_mk1 (shut_bool Try.underlying4 _), (trodAll_cons_mk (Below.trod laidOut (by kernel_rfl) (of_decide_eq_true (by kernel_rfl)) k0 bel lt0) trodAll_mk0), rfl, bel.frame _, fun h => by cases h⟩

theorem over : Rows.fnExactIsDeskRow.holds Try.pinned (OpenSpec.ofChange Rows.fnExactIsDeskSpec) :=
  OpenClaim.holds_of_wide 3 Try.f3 rfl rfl rfl rfl rfl rfl rfl ⟨rfl, rfl, rfl, rfl, rfl⟩ rfl rfl rfl rfl rfl (by kernel_rfl) Try.func3 (by kernel_rfl)
    (of_decide_eq_true (by kernel_rfl)) (by unfold Func.isWrapper; first | (rw [if_pos (by decide +kernel)]; kernel_rfl) | (rw [if_neg (by decide +kernel)]; exact ⟨rfl, rfl⟩))
    (fun os started H enc _ => lifted os started H enc)

theorem proved : Rows.FnExactIsDeskSaid := over
end Go.Proofs.Ytbgkalkipalndaa.lawIsDesk
