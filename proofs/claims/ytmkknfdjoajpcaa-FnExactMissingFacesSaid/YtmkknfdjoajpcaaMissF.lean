import Derived.Test.YtmkknfdjoajpcaaMissI
/-! Missing faces: the list, on both sides. -/
namespace Go.Proofs.Ytmkknfdjoajpcaa
open Go.RowKit Go.Shelf

theorem sides_below : ∀ f : Fin 64, ((belowR f.val 63).all fun y => (sidesF f.val).any fun s => decide (((s.val : Nat) : Int) = y)) && ((sidesF f.val).all fun s => (belowR f.val 63).any fun y => decide (((s.val : Nat) : Int) = y)) = true := by decide +kernel

theorem sides_all {f : Nat} (hf : f < 64) (p : Int → Bool) : (sidesF f).all (fun s => p ((s.val : Nat) : Int)) = (belowR f 63).all p := by
  have h := sides_below ⟨f, hf⟩
  simp only [Bool.and_eq_true, List.all_eq_true, List.any_eq_true, decide_eq_true_eq] at h
  rw [Bool.eq_iff_iff, List.all_eq_true, List.all_eq_true]
  constructor
  · intro hs y hy
    obtain ⟨s, hs1, rfl⟩ := h.1 y hy
    exact hs s hs1
  · intro hs s hs1
    obtain ⟨y, hy, rfl⟩ := h.2 s hs1
    exact hs _ hy

/-- What MissingFaces hands back. -/
noncomputable def missFacesR (V : Int) (fs : List Int) : List Int × Int := if isCB V fs then (missL V fs, 0) else ([], 1)

theorem missFacesR_len (V : Int) (fs : List Int) (_ : fs.length ≤ 1048576) : (missFacesR V fs).1.length ≤ 1048576 := by
  unfold missFacesR
  split
  · next h =>
    have h6 := (isCB_iff.1 h).hi
    have := pickTo_len (fun x => missB fs x.toNat) (allV V).toNat
    have := allV_le h6
    show (missL V fs).length ≤ 1048576
    unfold missL
    omega
  · simp

set_option maxRecDepth 100000 in
set_option maxHeartbeats 2000000 in
theorem missFaces_any (V : Int) (a : Option Addr) (cap : Nat) (fs : List Int) (w : World) (hx : SlI w w.heap.size a fs) (hl : fs.length ≤ 1048576) (h1 : 1 ≤ V) (h2 : V ≤ 6) :
    Calls Try.prog 55 #[.agg #[.int .i64 V, .slice a fs.length cap]] w fun e w' => ∃ v, e = .returned v ∧ Res w w' v (missL V fs) := by
  obtain ⟨A, hA, hA1, hA2⟩ := allV_nat h1 h2
  have hB0 : Below w.heap.size w (w.alloc (.cells #[.int .i64 V, .slice a fs.length cap] 26)) := (Below.refl _ w).alloc (Nat.le_refl _) _
  have Hk := hid (heap_alloc_new w (.cells #[.int .i64 V, .slice a fs.length cap] 26))
  have HB0 := hid hB0
  have HA := hid hA
  have Hall : Hid (∀ W, Calls Try.prog 52 #[.int .i64 V] W fun e w' => e = .returned (.int .i64 (A : Int)) ∧ W = w') := hid (fun W => by rw [hA]; exact av_any V W (by omega) h2)
  have HM := hid (fun (W : World) (h : Below w.heap.size w W) (f : Nat) (hf : f < 64) => callsIn_wide.1 (missing_in V a cap fs f W (hx.later h h.size) hl hf))
  clear hx hA hB0
  go_enter Try.func55, Try.ntmps55
  go_wp2_with fail
  go_loopw [3, 4] (fun v i wr => ∃ k : Nat, k ≤ A ∧ i = .int .i64 ((k : Int) + 1) ∧ Hid (wr.ownsRow w.heap.size 2 1 v (pickTo (fun x => missB fs x.toNat) k).length ((pickTo (fun x => missB fs x.toNat) k).map (Value.int .i64))) ∧ Hid (Below w.heap.size w wr ∧ wr.heap[w.heap.size]? = some (.cells #[.int .i64 V, .slice a fs.length cap] 26 (0, 0)))) (fun _ i _ => A + 1 - (RowKit.intOf i).toNat)
  case atStart => exact ⟨0, Nat.zero_le _, rfl, hid (World.ownsRow_nil _ _ _ _), hid ⟨HB0.out, Hk.out⟩⟩
  case round =>
    obtain ⟨k, hk, rfl, HO, HB⟩ := hrel
    obtain ⟨k0, k1, _, _⟩ := two_of HB.out.2
    have hbs := HB.out.1.size
    have hlen := pickTo_len (fun x => missB fs x.toNat) k
    by_cases hlt : k < A
    · have hd : decide ((k : Int) + 1 ≤ (A : Int)) = true := decide_eq_true (by omega)
      have HC : Hid (Calls Try.prog 91 #[.agg #[.int .i64 V, .slice a fs.length cap], .int .i64 ((k : Int) + 1)] wr fun e w' => e = .returned (.bool (missB fs (k + 1))) ∧ Below wr.heap.size wr w') := hid (HM.out wr HB.out.1 (k + 1) (by omega)) 
      have Hs : Hid (∀ b : Bool, missB fs (k + 1) = b → pickTo (fun x => missB fs x.toNat) (k + 1) = pickTo (fun x => missB fs x.toNat) k ++ (if b then [(k : Int) + 1] else [])) := hid (fun b hb => by rw [← hb]; rfl)
      go_wp2_with fail
      refine (Hall.out _).mono ?_
      rintro e w1 ⟨rfl, rfl⟩
      cases hb : missB fs (k + 1)
      · have HP := hid (Hs.out false hb)
        rw [hb] at HC
        clear hb Hs
        go_wp2_with fail
        refine HC.out.mono ?_
        rintro e w2 ⟨rfl, hB2⟩
        have HO2 := hid (ownsRow_below HO.out hB2 (fun g hg => (HO.out.lt g hg).2))
        have HB2 := hid (show Below w.heap.size w w2 ∧ w2.heap[w.heap.size]? = some (.cells #[.int .i64 V, .slice a fs.length cap] 26 (0, 0)) from ⟨HB.out.1.trans (hB2.mono hbs), (hB2.block _ (lt_get HB.out.2)).trans HB.out.2⟩)
        clear hB2
        go_wp2_with fail
        go_roundw
        case rel => exact ⟨k + 1, by omega, by go_num, hid (by rw [HP.out]; simpa using HO2.out), HB2⟩
        case measure => simp [RowKit.intOf]; omega
      · have HP := hid ((Hs.out true hb).trans (by rw [if_pos rfl]))
        rw [hb] at HC
        clear hb Hs
        go_wp2_with fail
        refine HC.out.mono ?_
        rintro e w2 ⟨rfl, hB2⟩
        have HO2 := hid (ownsRow_below HO.out hB2 (fun g hg => (HO.out.lt g hg).2))
        have HB2 := hid (show Below w.heap.size w w2 ∧ w2.heap[w.heap.size]? = some (.cells #[.int .i64 V, .slice a fs.length cap] 26 (0, 0)) from ⟨HB.out.1.trans (hB2.mono hbs), (hB2.block _ (lt_get HB.out.2)).trans HB.out.2⟩)
        have hbs2 := HB2.out.1.size
        clear hB2
        go_wp2_with (at_builtin; refine append_int rfl rfl HO2.out hbs2 (by omega) rfl rfl ?_; intro v' w3 hown3 hgrow3 hB3)
        go_roundw
        case rel =>
          refine ⟨k + 1, by omega, by go_num, hid (by rw [HP.out]; exact hown3), hid ⟨HB2.out.1.trans hB3, ?_⟩⟩
          exact (hgrow3.block _ (lt_get HB2.out.2) (row_ne HO2.out HB2.out.2 (by decide))).trans HB2.out.2
        case measure => simp [RowKit.intOf]; omega
    · have hd : decide ((k : Int) + 1 ≤ (A : Int)) = false := decide_eq_false (by omega)
      have HE : Hid (pickTo (fun x => missB fs x.toNat) k = missL V fs) := hid (by unfold missL; rw [← HA.out, Int.toNat_natCast, show A = k by omega])
      go_wp2_with fail
      refine (Hall.out _).mono ?_
      rintro e w1 ⟨rfl, rfl⟩
      go_wp2_with fail
      go_ret
      exact ⟨_, rfl, by rw [← HE.out]; exact ⟨HO.out, HB.out.1⟩⟩

end Go.Proofs.Ytmkknfdjoajpcaa
