import Derived.Test.YtmkknfdjoajpcaaShI
/-! shellingBy, IsShelling: the program's. -/
namespace Go.Proofs.Ytmkknfdjoajpcaa
open Go.RowKit Go.Shelf

/-- The chain of the first k facets, the last one first. -/
def chN (ns : List Nat) : Nat → List (Nat × Nat)
  | 0 => []
  | k + 1 => (ns[k]?.getD 0, fR (ns[k]?.getD 0) (chN ns k)) :: chN ns k
def okN (ns : List Nat) (k : Nat) : Bool := (List.range k).all fun i => fG (ns[i]?.getD 0) (chN ns i)
theorem okN_succ (ns : List Nat) (k : Nat) : okN ns (k + 1) = (okN ns k && fG (ns[k]?.getD 0) (chN ns k)) := by unfold okN; rw [List.range_succ, List.all_append]; simp
theorem okN_no {ns : List Nat} {n k : Nat} (hk : k < n) (h : fG (ns[k]?.getD 0) (chN ns k) = false) : okN ns n = false := by
  unfold okN
  rw [List.all_eq_false]
  exact ⟨k, by simpa using hk, by rw [h]; decide⟩
def srt (os : List Int) : List Int := os.mergeSort fun x y => decide (x ≤ y)
/-- Is a list a shelling, as the program sees it? -/
def shI (F os : List Int) : Bool := decide (F = srt os) && okN (os.map Int.toNat) os.length

set_option maxRecDepth 1000000 in
set_option maxHeartbeats 4000000 in
theorem shBy_any (a : Option Addr) (cap : Nat) (F : List Int) (a1 : Option Addr) (cap1 : Nat) (os : List Int) (w : World) (hx : SlI w w.heap.size a F) (hx1 : SlI w w.heap.size a1 os) (hF : ∀ x ∈ F, 1 ≤ x ∧ x ≤ 63) (hl : F.length ≤ 1048576) (hl1 : os.length ≤ 1048576) :
    Calls Try.prog 78 #[.slice a F.length cap, .slice a1 os.length cap1] w fun e w' => ∃ q, e = .returned (.tuple #[.pointer q, .bool (shI F os)]) ∧ (shI F os = true → ChainAt w' q (chN (os.map Int.toNat) os.length)) ∧ Below w.heap.size w w' := by
  obtain ⟨W, hW⟩ : ∃ W, W = w.alloc (.cells #[.slice a1 os.length cap1] 22) := ⟨_, rfl⟩
  have hB0 : Below w.heap.size w W := by rw [hW]; exact (Below.refl _ w).alloc (Nat.le_refl _) _
  have HV := hid (callsIn_wide.1 (values_in 5 a1 cap1 os w))
  have HS := hid (sortedV_any a1 cap1 os w hx1 hl1)
  rw [← hW] at HV HS
  have hmem : ∀ x, x ∈ srt os ↔ x ∈ os := fun x => by unfold srt; exact List.mem_mergeSort
  obtain ⟨E, hE⟩ : ∃ E, E = shI F os := ⟨_, rfl⟩
  have HE := hid hE
  rw [← hE]
  obtain ⟨ns, hns⟩ : ∃ ns, ns = os.map Int.toNat := ⟨_, rfl⟩
  rw [← hns]
  have HE1 := hid (show E = (decide (F = srt os) && okN ns os.length) by rw [hE, shI, hns])
  rw [show (os.mergeSort fun x y => decide (x ≤ y)) = srt os from rfl] at HS
  have HM := hid hmem
  obtain ⟨ss, hss⟩ : ∃ ss, ss = srt os := ⟨_, rfl⟩
  rw [← hss] at HS HE1 HM
  have Hns := hid hns
  have HF := hid hF
  have HB0 := hid hB0
  have Hx := hid hx
  have Hy := hid hx1
  clear hx hx1 hF hB0 hE hns hmem hss hW
  go_enter Try.func78, Try.ntmps78
  go_wp2_with fail
  refine HV.out.mono ?_
  rintro e w1 ⟨rfl, rfl⟩
  go_wp2_with fail
  refine HS.out.mono ?_
  rintro e w2 ⟨v2, rfl, hr2⟩
  have hb2 := hr2.2
  obtain ⟨_, sa, sc, rfl, hs2⟩ := ownsRow_slI hr2.1
  have HB2 := hid (HB0.out.trans (hb2.mono HB0.out.size))
  have Hs2 := hid hs2
  clear hr2 hb2 hs2
  go_wp2_with fail
  refine (eqIs_any a cap F sa sc ss w2 (Hx.out.later HB2.out HB2.out.size) Hs2.out hl).mono ?_
  rintro e w3 ⟨rfl, hB3⟩
  have HB3 := hid (HB2.out.trans (hB3.mono HB2.out.size))
  clear hB3
  by_cases hFs : F = ss
  · have HE2 := hid (show E = okN ns os.length by rw [HE1.out, decide_eq_true hFs, Bool.true_and])
    have hos : ∀ x ∈ os, 1 ≤ x ∧ x ≤ 63 := fun x hx => HF.out x (by rw [hFs]; exact (HM.out x).2 hx)
    rw [decide_eq_true hFs]
    have Hos := hid hos
    clear hFs hos
    go_wp2_with fail
    go_loopw [6, 19] (fun q i wr => ∃ (k : Nat) (ad : Option Addr), k ≤ os.length ∧ i = .int .i64 k ∧ q = .pointer ad ∧ Hid (ChainAt wr ad (chN ns k)) ∧ Hid (okN ns k = true) ∧ Hid (Below w.heap.size w wr)) (fun _ i _ => os.length - (intOf i).toNat)
    case atStart => exact ⟨0, none, Nat.zero_le _, rfl, rfl, hid rfl, hid rfl, HB3⟩
    case round =>
      obtain ⟨k, ad, hk, rfl, rfl, Hch, Hk, HB⟩ := hrel
      by_cases hlt : k < os.length
      · obtain ⟨b1, off1, hb1, rfl, hc1⟩ : ∃ b off, b < w.heap.size ∧ a1 = some ⟨b, off, none⟩ ∧ ∀ i, i < os.length → w.cell? ⟨b, off + i, none⟩ = some (.int .i64 (os[i]?.getD 0)) := by
          rcases Hy.out with h | h
          · rw [h] at hlt; simp at hlt
          · exact h
        obtain ⟨f, hf⟩ : ∃ f : Nat, os[k]?.getD 0 = (f : Int) := ⟨(os[k]?.getD 0).toNat, by have := Hos.out _ (getD_mem hlt); omega⟩
        have hf64 : f < 64 := by have := Hos.out _ (getD_mem hlt); omega
        have hfn : ns[k]?.getD 0 = f := by
          rw [Hns.out, List.getElem?_map]
          rw [List.getElem?_eq_getElem hlt] at hf ⊢
          simp at hf ⊢
          omega
        have c1 := (HB.out.cell (p := ⟨b1, off1 + k, none⟩) hb1).trans (hc1 k hlt)
        rw [hf] at c1
        have HFo := hid (followed_any ad (chN ns k) f wr Hch.out hf64)
        obtain ⟨G, hG⟩ : ∃ G, G = fG f (chN ns k) := ⟨_, rfl⟩
        rw [← hG] at HFo
        have Hs : Hid (okN ns (k + 1) = G) := hid (by rw [okN_succ, Hk.out, hfn, ← hG]; rfl)
        have Hno : Hid (G = false → E = false) := hid (fun h => by rw [HE2.out]; exact okN_no hlt (by rw [hfn, ← hG]; exact h))
        have Hcn : Hid (chN ns (k + 1) = (f, fR f (chN ns k)) :: chN ns k) := hid (by rw [chN, hfn])
        have hi0 : (0 : Int) ≤ (k : Int) := by omega
        have hi1 : (k : Int) < (os.length : Int) := by omega
        clear hc1 hf hfn hG
        go_wp2_with fail
        refine HFo.out.mono ?_
        rintro e w4 ⟨q4, rfl, hch4, hB4⟩
        have HB4 := hid (HB.out.trans (hB4.mono HB.out.size))
        have Hch4 := hid hch4
        clear hch4 hB4
        cases G
        · have He := hid (Hno.out rfl)
          go_wp2_with fail
          go_ret2
          rw [He.out]
          exact ⟨_, rfl, by simp, HB4.out⟩
        · go_wp2_with fail
          go_roundw
          case rel => exact ⟨k + 1, q4, by omega, by go_num, by first | rfl | go_num, hid (by rw [Hcn.out]; exact Hch4.out trivial), Hs, HB4⟩
          case measure => simp [intOf]; omega
      · have Hkk : Hid (k = os.length) := hid (by omega)
        have He : Hid (E = true) := hid (by rw [HE2.out, ← Hkk.out, Hk.out])
        go_wp2_with fail
        go_ret2
        rw [He.out]
        exact ⟨_, rfl, fun _ => by rw [← Hkk.out]; exact Hch.out, HB.out⟩
  · have HE2 := hid (show E = false by rw [HE1.out, decide_eq_false hFs, Bool.false_and])
    rw [decide_eq_false hFs]
    clear hFs
    go_wp2_with fail
    go_ret2
    rw [HE2.out]
    exact ⟨_, rfl, by simp, HB3.out⟩

end Go.Proofs.Ytmkknfdjoajpcaa
