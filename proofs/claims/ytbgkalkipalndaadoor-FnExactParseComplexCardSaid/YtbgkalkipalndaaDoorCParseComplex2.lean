/- THE STATEMENT on ParseComplex: for every argument that comes in (any string) the law returns true and leaves its arguments as they were. No conditions. -/
import Derived.Test.YtbgkalkipalndaaDoorMC5
import Derived.Test.YtbgkalkipalndaaDoorCParseComplex1
namespace Go.Proofs.YtbgkalkipalndaaDoor.lawParseComplex
open Go.ChangeMaps Go.ChangeShapes Go.WideShapes Go.ChangeAt Go.RowKit Go.Joins

/-- The door's own heap meets the condition. -/
theorem door_met (os : Os) (args : Array Value) : laidMetH Tryd.prog Rows.fnExactParseComplexRow.laid ((World.laidAll Tryd.prog os Rows.fnExactParseComplexRow.laid).forCall (fun _ _ => 0) ⟨#[], args, []⟩).memory :=
  (by rw [MakeChecks.laidMetH_plain _ _ _ (by kernel_rfl)]; exact laidMet_laidAll _ (by kernel_rfl) (by kernel_rfl))

set_option maxRecDepth 100000 in
theorem lifted (os : Os) (started : os.Started) (H : Type) (enc : TypeId × Value → H) :
    ReturnsInHanded {} Tryd.checked os 6 .any (fun w args => (Rows.fnExactParseComplexSpec.pre enc Tryd.prog Tryd.f6 [] false w args ∧ laidMetH Tryd.prog Rows.fnExactParseComplexRow.laid w) ∧ sizedMet enc Tryd.prog Tryd.f6 (OpenSpec.ofChange Rows.fnExactParseComplexSpec) false w args) (Rows.fnExactParseComplexSpec.post enc Tryd.prog Tryd.f6 false true false false) := by
  refine handed_both (C := Tryd.checked) (X := fun w _ => laidMetH Tryd.prog Rows.fnExactParseComplexRow.laid w) (fun _ _ _ hh h => h.of_heap hh) own started (by kernel_rfl) Tryd.func6
    (ChangeSpec.witness_shaped (enc := enc) (C := Tryd.checked) (os := os) (X := fun w _ => laidMetH Tryd.prog Rows.fnExactParseComplexRow.laid w) false (World.laidAll Tryd.prog os Rows.fnExactParseComplexRow.laid) #[.string ByteArray.empty] 8 (World.laidAll_os _ _ _) (World.shaped_of_ZipB (by kernel_rfl) (by kernel_rfl)) (by kernel_rfl) (by kernel_rfl) (by kernel_rfl) (door_met os _)) ?_
  intro W base args ds gs before hval0 hW _ hsh
  have hval : ∀ (j : Nat) t v, Tryd.f6.params[j]? = some t → args[j]? = some v → Value.okWide Tryd.prog W .any base t v := hval0
  have hW' := hW
  obtain ⟨p, q, hA0, hV, rfl, hfz, hnd⟩ := hW
  have hA : DataW.TrodAll enc Tryd.prog W 0 (fun _ => true) true Tryd.f6.params.toList args.toList ds p := hA0
  rw [Tryd.params6] at hA hval
  obtain ⟨v0, vs0, d0, ds0, p0, q0, hargs, rfl, rfl, h0, r0⟩ := trodAll_cons hA
  obtain ⟨rfl, rfl, rfl⟩ := trodAll_nil r0
  obtain rfl : args = #[v0] := by cases args; simp_all
  obtain ⟨rfl, rfl⟩ := trodVars_none hV
  have k0 := h0
  have lt0 : ∀ x ∈ p0, x.block < W.heap.size := by obtain ⟨m, hm⟩ := k0; exact DataW.trod_lt m _ _ _ hm
  obtain ⟨s0, rfl, _, _, hs0⟩ := open_string Tryd.underlying9 (hval 0 9 v0 rfl rfl) h0
  obtain ⟨m, hm⟩ := maxLen_of hsh
  have hl0 : (⟨s0.data.toList.toArray⟩ : ByteArray) = s0 := Lib.mk_data s0
  have hn0 : s0.data.toList.length ≤ 9223372036854775807 := by
    rw [← Lib.size_eq]
    unfold maxLen at hs0
    omega
  clear hA0 hval0
  have hlaw := law_ParseComplex s0.data.toList W m hm hn0
  rw [hl0] at hlaw
  refine hlaw.mono fun e W' ⟨he, bel⟩ => ?_
  subst he
  exact ⟨_, rfl, _, _, _, [], _, [], hW', trodAll_mk1 (shut_bool Tryd.underlying4 _), (trodAll_cons_mk (Below.trod laidOut (by kernel_rfl) (of_decide_eq_true (by kernel_rfl)) k0 bel lt0) trodAll_mk0), rfl, bel.frame _, fun h => by cases h⟩

-- what the row says of the program, by itself: the kernel's memory is let go behind each theorem
theorem facts1 : laidOutB Tryd.checked.prog = true := by kernel_rfl
theorem facts2 : mapsRowed Tryd.checked.prog = true := by kernel_rfl
theorem facts3 : (Rows.fnExactParseComplexRow.inPlace == Tryd.checked.prog.inPlace 6) = true := by kernel_rfl
theorem facts4 : (Rows.fnExactParseComplexRow.unfollowed == Tryd.checked.prog.unfollowed 6) = true := by kernel_rfl
theorem facts5 : (Rows.fnExactParseComplexRow.recurses == Tryd.checked.prog.recurses 6) = true := by kernel_rfl
theorem facts6 : (Rows.fnExactParseComplexRow.named == Tryd.checked.prog.varsNamed 6) = true := by kernel_rfl
theorem facts : joinedFacts Tryd.checked.prog 6 Tryd.f6 Rows.fnExactParseComplexSpec Rows.fnExactParseComplexRow = true := by
  unfold joinedFacts
  rw [facts1, facts2, facts3, facts4, facts5, facts6]
  kernel_rfl

theorem over : Rows.fnExactParseComplexRow.holds Tryd.pinned (OpenSpec.ofChange Rows.fnExactParseComplexSpec) :=
  OpenClaim.holds_of_wide 6 Tryd.f6 rfl rfl rfl rfl rfl rfl rfl ⟨rfl, rfl, rfl, rfl, rfl⟩ rfl rfl rfl rfl rfl (by kernel_rfl) Tryd.func6 facts
    (of_decide_eq_true (by kernel_rfl)) (by unfold Func.isWrapper; first | (rw [if_pos (by decide +kernel)]; kernel_rfl) | (rw [if_neg (by decide +kernel)]; exact ⟨rfl, rfl⟩))
    (fun os started H enc _ => lifted os started H enc)

theorem proved : Rows.FnExactParseComplexCardSaid :=
  Claim7.holds_tied_plain_at .later [] _ true _ false
    over (fun _ h => by cases h) (by kernel_rfl) (fun _ h => by cases h) fnExactParseComplex_row_tie rfl ⟨rfl, rfl⟩ (by kernel_rfl) rfl
    (fun f fn hf hfn => by
      obtain rfl : f = 6 := Option.some.inj ((show Tryd.prog.funcNamed "loop.example/g01348/laws.FnExactParseComplex" = some 6 by kernel_rfl).symm.trans hf) |>.symm
      obtain rfl : fn = Tryd.f6 := (Option.some.inj (Tryd.func6.symm.trans hfn)).symm
      exact ⟨by kernel_rfl, fun j t ht => by
        rw [Tryd.params6] at ht
        have hm := Array.mem_of_getElem? ht
        have hall : ((Tryd.f6).params.toList.all fun u => !Tryd.prog.wantsStandIn u) = true := by kernel_rfl
        rw [Tryd.params6] at hall
        exact (show Tryd.prog.wantsStandIn t = false by simpa using List.all_eq_true.1 hall t (by simpa using hm))⟩)
    (by kernel_rfl)
end Go.Proofs.YtbgkalkipalndaaDoor.lawParseComplex
