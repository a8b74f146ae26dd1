import Derived.Test.YtmkknfdjoajpcaaImplA
/-! The program's test whether something is a complex, at whatever comes in. -/
namespace Go.Proofs.Ytmkknfdjoajpcaa
open Go.RowKit Go.Shelf

attribute [local go_sem] Oper.semAt_some

set_option maxRecDepth 100000 in
set_option maxHeartbeats 400000 in
theorem isc_bad (V : Int) (a : Option Addr) (n cap : Nat) (w : World) (h : ¬ (1 ≤ V ∧ V ≤ 6)) :
    CallsIn Fence.wide 10 Try.prog 51 #[.agg #[.int .i64 V, .slice a n cap]] w fun e w' => e = .returned (.bool false) ∧ Below w.heap.size w w' := by
  refine callsIn_of_wp_marks Try.func51 rfl trivial ?_ rfl
  simp only [Try.ntmps51, List.size_toArray, List.length_cons, List.length_nil, Nat.reduceAdd, Nat.reduceSub, Array.replicate_succ, Array.replicate_zero, List.push_toArray, List.append_toArray, List.nil_append, List.cons_append]
  gi_wp2_with (first
    | (refine ⟨trivial, ?_⟩; gi_at_call 87; refine (callsIn_wide.2 (vc_no V _ h)).mono ?_; rintro e w' ⟨rfl, rfl⟩))
  refine ⟨.bool false, ?_, rfl, ?_⟩
  · simp [results, Try.results51, go_sem]
  · exact ((Below.refl _ w).alloc (Nat.le_refl _) _).alloc (by simp) _

set_option maxRecDepth 100000 in
set_option maxHeartbeats 400000 in
theorem isc_nil (V : Int) (a : Option Addr) (cap : Nat) (w : World) (h1 : 1 ≤ V) (h2 : V ≤ 6) :
    CallsIn Fence.wide 10 Try.prog 51 #[.agg #[.int .i64 V, .slice a 0 cap]] w fun e w' => e = .returned (.bool true) ∧ Below w.heap.size w w' := by
  have hmm := @run_makeMap Try.prog
  refine callsIn_of_wp_marks Try.func51 rfl trivial ?_ rfl
  simp only [Try.ntmps51, List.size_toArray, List.length_cons, List.length_nil, Nat.reduceAdd, Nat.reduceSub, Array.replicate_succ, Array.replicate_zero, List.push_toArray, List.append_toArray, List.nil_append, List.cons_append]
  gi_wp2_with (first
    | (refine ⟨trivial, ?_⟩; gi_at_call 87; refine (callsIn_wide.2 (vc_yes V _ h1 h2)).mono ?_; rintro e w' ⟨rfl, rfl⟩))
  refine wpIn_loop_rounds 1 ?_
  rw [roundsIn_succ]
  gi_wp2
  refine ⟨.bool true, ?_, rfl, ?_⟩
  · simp [results, Try.results51, go_sem]
  · repeat (first | exact Below.refl _ _ | refine Below.alloc ?_ (by simp <;> omega) _ | refine Below.setCell ?_ (by simp <;> omega) _)

/-- impl.IsComplex, whatever comes in. -/
theorem implIsComplex (V : Int) (a : Option Addr) (cap : Nat) (fs : List Int) (w : World) (hx : SlI w w.heap.size a fs) (hl : fs.length ≤ 1048576) :
    Calls Try.prog 51 #[.agg #[.int .i64 V, .slice a fs.length cap]] w fun e w' => e = .returned (.bool (isCB V fs)) ∧ Below w.heap.size w w' := by
  by_cases hV : 1 ≤ V ∧ V ≤ 6
  · rcases hx with rfl | ⟨b, off, hb, rfl, hc⟩
    · exact (callsIn_wide.1 (isc_nil V a cap w hV.1 hV.2)).mono fun _ _ ⟨he, hw⟩ => ⟨by rw [he, isCB_true (isC_nil hV.1 hV.2)], hw⟩
    · exact callsIn_wide.1 (isc_in V b off cap fs w hV.1 hV.2 hb hc hl)
  · exact (callsIn_wide.1 (isc_bad V a fs.length cap w hV)).mono fun _ _ ⟨he, hw⟩ => ⟨by rw [he, isCB_false (fun h => hV ⟨h.lo, h.hi⟩)], hw⟩

theorem isc_yes (V : Int) (a : Option Addr) (cap : Nat) (fs : List Int) (w : World) (hx : SlI w w.heap.size a fs) (hl : fs.length ≤ 1048576) (h : IsC V fs) :
    Calls Try.prog 51 #[.agg #[.int .i64 V, .slice a fs.length cap]] w fun e w' => e = .returned (.bool true) ∧ Below w.heap.size w w' :=
  (implIsComplex V a cap fs w hx hl).mono fun _ _ ⟨he, hw⟩ => ⟨by rw [he, isCB_true h], hw⟩

theorem isc_no (V : Int) (a : Option Addr) (cap : Nat) (fs : List Int) (w : World) (hx : SlI w w.heap.size a fs) (hl : fs.length ≤ 1048576) (h : ¬ IsC V fs) :
    Calls Try.prog 51 #[.agg #[.int .i64 V, .slice a fs.length cap]] w fun e w' => e = .returned (.bool false) ∧ Below w.heap.size w w' :=
  (implIsComplex V a cap fs w hx hl).mono fun _ _ ⟨he, hw⟩ => ⟨by rw [he, isCB_false h], hw⟩

end Go.Proofs.Ytmkknfdjoajpcaa
