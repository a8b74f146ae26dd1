/- THE STATEMENT on IsMap: for every argument that comes in (a complex-like value (any number, any slice of int64), a complex-like value (any number, any slice of int64), a slice of int64) the law returns true and leaves its arguments as they were. No conditions. -/
import Derived.Test.YtgcpakhagbbiiaaMB7
import Derived.Test.YtgcpakhagbbiiaaCIsMap1
namespace Go.Proofs.Ytgcpakhagbbiiaa.lawIsMap
open Go.ChangeShapes Go.WideShapes Go.ChangeAt Go.RowKit Go.Joins

set_option maxRecDepth 100000 in
theorem lifted (os : Os) (started : os.Started) (H : Type) (enc : TypeId × Value → H) :
    ReturnsInHanded {} Try.checked os 6 .any (Rows.fnExactIsMapSpec.pre6 enc Try.prog Try.f6 Rows.fnExactIsMapRow.domain false) (Rows.fnExactIsMapSpec.post enc Try.prog Try.f6 false true false false) := by
  refine returnsInHanded_of_change (C := Try.checked) own started (by kernel_rfl) Try.func6
    (ChangeSpec.witness6 (enc := enc) (C := Try.checked) false ⟨#[], #[.agg #[.int .i64 0, .slice none 0 0], .agg #[.int .i64 0, .slice none 0 0], .slice none 0 0], []⟩ 8 (by kernel_rfl) (by kernel_rfl) (by kernel_rfl) (by kernel_rfl)) ?_
  intro W base args ds gs before hval0 hW hcnd _
  have hval : ∀ (j : Nat) t v, Try.f6.params[j]? = some t → args[j]? = some v → Value.okWide Try.prog W .any base t v := hval0
  have hW' := hW
  obtain ⟨p, q, hA0, hV, rfl, hfz, hnd⟩ := hW
  have hA : DataW.TrodAll enc Try.prog W 0 (fun _ => true) true Try.f6.params.toList args.toList ds p := hA0
  rw [Try.params6] at hA hval
  obtain ⟨v0, vs0, d0, ds0, p0, q0, hargs, rfl, rfl, h0, r0⟩ := trodAll_cons hA
  obtain ⟨v1, vs1, d1, ds1, p1, q1, rfl, rfl, rfl, h1, r1⟩ := trodAll_cons r0
  obtain ⟨v2, vs2, d2, ds2, p2, q2, rfl, rfl, rfl, h2, r2⟩ := trodAll_cons r1
  obtain ⟨rfl, rfl, rfl⟩ := trodAll_nil r2
  obtain rfl : args = #[v0, v1, v2] := by cases args; simp_all
  obtain ⟨rfl, rfl⟩ := trodVars_none hV
  have k0 := h0
  have lt0 : ∀ x ∈ p0, x.block < W.heap.size := by obtain ⟨m, hm⟩ := k0; exact DataW.trod_lt m _ _ _ hm
  obtain ⟨c0, c0', y0, y0', m0, rfl, _, _, hy0, hy0'⟩ := open_agg2 Try.underlying24 (by kernel_rfl) (by kernel_rfl) (hval 0 24 v0 rfl rfl) h0
  obtain ⟨V0, e0, _, _⟩ := DataW.trod_int Try.underlying2 hy0
  obtain ⟨a0, len0, cap0, xs0, rfl, rfl, hn0, hx0, _⟩ := slI_of_trod hy0'
  simp at e0
  subst e0
  have k1 := h1
  have lt1 : ∀ x ∈ p1, x.block < W.heap.size := by obtain ⟨m, hm⟩ := k1; exact DataW.trod_lt m _ _ _ hm
  obtain ⟨c1, c1', y1, y1', m1, rfl, _, _, hy1, hy1'⟩ := open_agg2 Try.underlying24 (by kernel_rfl) (by kernel_rfl) (hval 1 24 v1 rfl rfl) h1
  obtain ⟨V1, e1, _, _⟩ := DataW.trod_int Try.underlying2 hy1
  obtain ⟨a1, len1, cap1, xs1, rfl, rfl, hn1, hx1, _⟩ := slI_of_trod hy1'
  simp at e1
  subst e1
  have k2 := h2
  have lt2 : ∀ x ∈ p2, x.block < W.heap.size := by obtain ⟨m, hm⟩ := k2; exact DataW.trod_lt m _ _ _ hm
  obtain ⟨b2, m2, cap2, hv2⟩ := okWide_slice Try.underlying22 (hval 2 22 v2 rfl rfl)
  subst hv2
  obtain ⟨fu2, hf2⟩ := h2
  obtain ⟨a2, len2, capz2, xs2, he2, hl2, _, hx2, _⟩ := slI_of_trod (v := .slice b2 m2 cap2) hf2
  obtain ⟨rfl, rfl, rfl⟩ : b2 = a2 ∧ m2 = len2 ∧ cap2 = capz2 := by injection he2; simp_all
  subst hl2
  clear hA0 hval0
  refine (law_IsMap V0 a0 cap0 xs0 V1 a1 cap1 xs1 b2 cap2 xs2 W hx0 hx1 hx2 hn0 hn1).mono fun e W' ⟨he, bel⟩ => ?_
  subst he
  exact ⟨_, rfl, _, _, _, [], _, [], hW', trodAll_mk1 (shut_bool Try.underlying4 _), (trodAll_cons_mk (Below.trod laidOut (by kernel_rfl) (of_decide_eq_true (by kernel_rfl)) k0 bel lt0) (trodAll_cons_mk (Below.trod laidOut (by kernel_rfl) (of_decide_eq_true (by kernel_rfl)) k1 bel lt1) (trodAll_cons_mk (Below.trod laidOut (by kernel_rfl) (of_decide_eq_true (by kernel_rfl)) k2 bel lt2) trodAll_mk0))), rfl, bel.frame _, fun h => by cases h⟩

-- what the row says of the program, by itself: the kernel's memory is let go behind each theorem
theorem facts1 : laidOutB Try.checked.prog = true := by kernel_rfl
theorem facts2 : mapsRowed Try.checked.prog = true := by kernel_rfl
theorem facts3 : (Rows.fnExactIsMapRow.inPlace == Try.checked.prog.inPlace 6) = true := by kernel_rfl
theorem facts4 : (Rows.fnExactIsMapRow.unfollowed == Try.checked.prog.unfollowed 6) = true := by kernel_rfl
theorem facts5 : (Rows.fnExactIsMapRow.recurses == Try.checked.prog.recurses 6) = true := by kernel_rfl
theorem facts6 : (Rows.fnExactIsMapRow.named == Try.checked.prog.varsNamed 6) = true := by kernel_rfl
theorem facts : joinedFacts Try.checked.prog 6 Try.f6 Rows.fnExactIsMapSpec Rows.fnExactIsMapRow = true := by
  unfold joinedFacts
  rw [facts1, facts2, facts3, facts4, facts5, facts6]
  kernel_rfl

theorem over : Rows.fnExactIsMapRow.holds Try.pinned (OpenSpec.ofChange Rows.fnExactIsMapSpec) :=
  OpenClaim.holds_of_wide 6 Try.f6 rfl rfl rfl rfl rfl rfl rfl ⟨rfl, rfl, rfl, rfl, rfl⟩ rfl rfl rfl rfl rfl (by kernel_rfl) Try.func6 facts
    (of_decide_eq_true (by kernel_rfl)) (by unfold Func.isWrapper; first | (rw [if_pos (by decide +kernel)]; kernel_rfl) | (rw [if_neg (by decide +kernel)]; exact ⟨rfl, rfl⟩))
    (fun os started H enc _ => lifted os started H enc)

theorem proved : Rows.FnExactIsMapSaid := over
end Go.Proofs.Ytgcpakhagbbiiaa.lawIsMap
