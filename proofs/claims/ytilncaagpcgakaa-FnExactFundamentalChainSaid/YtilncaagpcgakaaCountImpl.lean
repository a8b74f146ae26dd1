import Derived.Test.YtilncaagpcgakaaCount
/-! CountFaces, the program's. -/
namespace Go.Proofs.Ytilncaagpcgakaa
open Go.RowKit

theorem dimE (f e : Nat) (w : World) (hf : f < 64) (he : ones f = e + 1) :
    Calls Try.prog 59 #[.int .i64 (f : Int)] w fun r w' => r = .returned (.int .i64 (e : Int)) ∧ w = w' :=
  (dim_any f w hf).mono fun _ _ ⟨h, hw⟩ => ⟨by rw [h, he]; congr 2; omega, hw⟩

theorem dimT (V : Int) (a0 : Option Addr) (cap : Nat) (fs : List Int) (T : Nat) (w : World) (hx : SlI w w.heap.size a0 fs) (hl : fs.length ≤ 1048576) (hf : ∀ x ∈ fs, 1 ≤ x ∧ x ≤ 63) (hT : top fs = (T : Int) - 1) :
    Calls Try.prog 58 #[.agg #[.int .i64 V, .slice a0 fs.length cap]] w fun e w' => e = .returned (.int .i64 ((T : Int) - 1)) ∧ Below w.heap.size w w' :=
  (dimI_any V a0 cap fs w hx hl hf).mono fun _ _ ⟨h, hw⟩ => ⟨by rw [h, hT], hw⟩

theorem countL_nil (n : Nat) : countL [] n = List.replicate n 0 := by
  apply List.ext_getElem?
  intro i
  by_cases hi : i < n
  · simp [countL, hi, ofDim]
  · rw [List.getElem?_eq_none (by rw [countL_len]; omega), List.getElem?_eq_none (by simp; omega)]


end Go.Proofs.Ytilncaagpcgakaa
