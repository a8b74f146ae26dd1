import Derived.Lib.SliceRun
import Derived.Lib.Walk
import Derived.Deep.CutRange
import Derived.Test.YtgefpllmelpahaaMF1
import Derived.Test.YtgefpllmelpahaaMF2
/-! The faces as keys of a map: the program's facesHaving. -/
namespace Go.Proofs.Ytgefpllmelpahaa
open Go.RowKit

theorem wf_face {x : Int} (h0 : 1 ≤ x) (h1 : x ≤ 63) : (Lit.int .i64 x).wf = true := WalkArith.wf_i64 (by omega)

/-- The map of faces. -/
def MapW (w' : World) (b n : Nat) (fs : List Int) : Prop := w'.ownsMap Try.prog 2 (plainElem (H := Unit) Try.prog 4) b n (knownD fs)

theorem MapW.later {w w' : World} {b n : Nat} {fs : List Int} (h : MapW w b n fs) (hB : Below w.heap.size w w') : MapW w' b n fs :=
  World.ownsMap.kept h (row := none) ⟨hB.os, hB.tape, hB.output, hB.size, fun k hk _ => hB.block k hk⟩ (by simp)

theorem MapW.lt {w : World} {b n : Nat} {fs : List Int} (h : MapW w b n fs) : b < w.heap.size := World.ownsMap.lt h

set_option maxRecDepth 100000 in
set_option maxHeartbeats 2000000 in
theorem fh_in (V : Int) (a0 : Option Addr) (cap : Nat) (fs : List Int) (f : Int) (w : World) (hx : SlI w w.heap.size a0 fs) (hl : fs.length ≤ 1048576) (hC : IsC V fs) (hwf : (Lit.int .i64 f).wf = true) (c : Bool) (hc : decide (f ∈ fs) = c) :
    Calls Try.prog 145 #[.agg #[.int .i64 V, .slice a0 fs.length cap], .int .i64 f] w fun e w' => ∃ b, e = .returned (if c then .tuple #[.map (some b), .int .i64 0] else .tuple #[.map none, .int .i64 2]) ∧ (∃ n, MapW w' b n fs) ∧ w.heap.size ≤ b ∧ Below w.heap.size w w' := by
  have hB0 : Below w.heap.size w (w.alloc (.cells #[.int .i64 V, .slice a0 fs.length cap] 30)) := (Below.refl _ w).alloc (Nat.le_refl _) _
  have Hx := hid (hx.later hB0 (by simp <;> omega))
  have Hx0 := hid hx
  have Hf := hid hC.range63
  have HC := hid hC
  clear hx hC
  have hmm := @run_makeMap Try.prog
  go_enter Try.func145, Try.ntmps145
  go_wp2_with fail
  refine (isc_yes V a0 cap fs _ Hx.out hl HC.out).mono ?_
  rintro e w1 ⟨rfl, hB1⟩
  have k0 : w1.cell? ⟨w.heap.size, 0, none⟩ = some (.int .i64 V) := (hB1.cell (p := ⟨w.heap.size, 0, none⟩) (by simp <;> omega)).trans (by simp [go_sem])
  have k1 : w1.cell? ⟨w.heap.size, 1, none⟩ = some (.slice a0 fs.length cap) := (hB1.cell (p := ⟨w.heap.size, 1, none⟩) (by simp <;> omega)).trans (by simp [go_sem])
  have hB01 := hid (hB0.trans (hB1.mono (by simp <;> omega)))
  have hs1 : w.heap.size < w1.heap.size := by have := hB1.size; simp at this; omega
  clear hB0 hB1
  go_wp2_with fail
  clear hmm
  go_loopw [16] (fun i wr => ∃ (k : Nat), k ≤ fs.length ∧ i = .int .i64 k ∧ MapW wr w1.heap.size k (fs.take k) ∧ Below w.heap.size w wr) (fun i _ => fs.length - (intOf i).toNat)
  case atStart => exact ⟨0, Nat.zero_le _, rfl, World.ownsMap_made w1 Try.prog 2 _, hB01.out.trans ((Below.refl _ w1).alloc (by omega) _)⟩
  case round =>
    obtain ⟨k, hk, rfl, hown, hB⟩ := hrel
    by_cases hlt : k < fs.length
    · obtain ⟨b, off, hb, rfl, hc⟩ : ∃ b off, b < w.heap.size ∧ a0 = some ⟨b, off, none⟩ ∧ ∀ i, i < fs.length → w.cell? ⟨b, off + i, none⟩ = some (.int .i64 (fs[i]?.getD 0)) := by
        rcases Hx0.out with rfl | h
        · simp at hlt
        · exact h
      obtain ⟨x, hx⟩ : ∃ x, x = fs[k]?.getD 0 := ⟨_, rfl⟩
      have hxr := Hf.out _ (getD_mem hlt)
      rw [← hx] at hxr
      have hck : wr.cell? ⟨b, off + k, none⟩ = some (.int .i64 x) := by rw [hx]; exact (hB.cell (p := ⟨b, off + k, none⟩) hb).trans (hc k hlt)
      have Hsn : Hid (fs.take (k + 1) = fs.take k ++ [x]) := hid (by rw [take_snoc hlt, ← hx])
      have hi0 : (0 : Int) ≤ (k : Int) := by omega
      have hi1 : (k : Int) < (fs.length : Int) := by omega
      have hkm : k < maxLen := by unfold maxLen; omega
      have hwx := wf_face hxr.1 hxr.2
      have Hown := hid hown
      have HB := hid hB
      clear hc hx hown hB
      go_wp2_with (first | (at_mapUpdate; refine wpList_mapUpdate_own _ rfl _ _ _ 93 rfl 2 4 (Maps.int_keyed Try.underlying2) Try.underlying93 _ w1.heap.size _ _ rfl Hown.out hkm _ _ _ rfl rfl (Maps.keyOf_int_mk Try.underlying2 hwx) _ [] (plainElem_bool Try.underlying4 true) ?_; intro w2 hown2 hgrow2) | go_in)
      go_roundw
      case rel =>
        refine ⟨k + 1, by omega, by go_num, ?_, HB.out.grown hgrow2 HB.out.size (fun r e => by cases e; omega)⟩
        rw [Hsn.out]
        unfold MapW
        rw [knownD_snoc]
        exact hown2
      case measure => simp [intOf]; omega
    · obtain rfl : k = fs.length := by omega
      rw [List.take_of_length_le (Nat.le_refl _)] at hown
      have hlook := lookup_known hown hwf
      rw [hc] at hlook
      have Hown := hid hown
      have HB := hid hB
      clear hown hB
      cases c
      · go_wp2_with (simp only [hlook])
        go_ret2
        exact ⟨rfl, w1.heap.size, ⟨_, Hown.out⟩, by omega, HB.out⟩
      · go_wp2_with fail
        go_ret2
        exact ⟨w1.heap.size, rfl, ⟨_, Hown.out⟩, by omega, HB.out⟩

theorem fh_yes (V : Int) (a0 : Option Addr) (cap : Nat) (fs : List Int) (f : Int) (w : World) (hx : SlI w w.heap.size a0 fs) (hl : fs.length ≤ 1048576) (hC : IsC V fs) (hm : f ∈ fs) :
    Calls Try.prog 145 #[.agg #[.int .i64 V, .slice a0 fs.length cap], .int .i64 f] w fun e w' => ∃ b, e = .returned (.tuple #[.map (some b), .int .i64 0]) ∧ (∃ n, MapW w' b n fs) ∧ w.heap.size ≤ b ∧ Below w.heap.size w w' :=
  fh_in V a0 cap fs f w hx hl hC (wf_face (hC.range63 f hm).1 (hC.range63 f hm).2) true (decide_eq_true hm)

theorem fh_no (V : Int) (a0 : Option Addr) (cap : Nat) (fs : List Int) (f : Int) (w : World) (hx : SlI w w.heap.size a0 fs) (hl : fs.length ≤ 1048576) (hC : IsC V fs) (hwf : (Lit.int .i64 f).wf = true) (hm : f ∉ fs) :
    Calls Try.prog 145 #[.agg #[.int .i64 V, .slice a0 fs.length cap], .int .i64 f] w fun e w' => e = .returned (.tuple #[.map none, .int .i64 2]) ∧ Below w.heap.size w w' :=
  (fh_in V a0 cap fs f w hx hl hC hwf false (decide_eq_false hm)).mono fun _ _ ⟨_, he, _, _, hB⟩ => ⟨he, hB⟩

theorem fh_bad (V : Int) (a0 : Option Addr) (cap : Nat) (fs : List Int) (f : Int) (w : World) (hx : SlI w w.heap.size a0 fs) (hl : fs.length ≤ 1048576) (hC : ¬ IsC V fs) :
    Calls Try.prog 145 #[.agg #[.int .i64 V, .slice a0 fs.length cap], .int .i64 f] w fun e w' => e = .returned (.tuple #[.map none, .int .i64 1]) ∧ Below w.heap.size w w' := by
  have hB0 : Below w.heap.size w (w.alloc (.cells #[.int .i64 V, .slice a0 fs.length cap] 30)) := (Below.refl _ w).alloc (Nat.le_refl _) _
  have Hx := hid (hx.later hB0 (by simp <;> omega))
  go_enter Try.func145, Try.ntmps145
  go_wp2_with fail
  refine (isc_no V a0 cap fs _ Hx.out hl hC).mono ?_
  rintro e w1 ⟨rfl, hB1⟩
  have hB01 := hid (hB0.trans (hB1.mono (by simp <;> omega)))
  go_wp2_with fail
  go_ret2
  exact ⟨rfl, hB01.out⟩


/-! The model's test of a face. -/

theorem face_yes (V : Int) (a0 : Option Addr) (cap : Nat) (fs : List Int) (f : Int) (w : World) (hx : SlI w w.heap.size a0 fs) (hl : fs.length ≤ 1048576) (hC : IsC V fs) (hm : f ∈ fs) :
    Calls Try.prog 68 #[.agg #[.int .i64 V, .slice a0 fs.length cap], .int .i64 f] w fun e w' => e = .returned (.int .i64 0) ∧ Below w.heap.size w w' := by
  have hB0 : Below w.heap.size w (w.alloc (.cells #[.int .i64 V, .slice a0 fs.length cap] 30)) := (Below.refl _ w).alloc (Nat.le_refl _) _
  have Hx := hid (hx.later hB0 (by simp <;> omega))
  have HC := hid hC
  clear hC
  go_enter Try.func68, Try.ntmps68
  go_wp2_with fail
  refine (is_yes V a0 cap fs _ Hx.out hl HC.out).mono ?_
  rintro e w1 ⟨rfl, hB1⟩
  have k0 : w1.cell? ⟨w.heap.size, 0, none⟩ = some (.int .i64 V) := (hB1.cell (p := ⟨w.heap.size, 0, none⟩) (by simp <;> omega)).trans (by simp [go_sem])
  have k1 : w1.cell? ⟨w.heap.size, 1, none⟩ = some (.slice a0 fs.length cap) := (hB1.cell (p := ⟨w.heap.size, 1, none⟩) (by simp <;> omega)).trans (by simp [go_sem])
  have hB01 := hB0.trans (hB1.mono (by simp <;> omega))
  have hx1 := hid (hx.later hB01 hB01.size)
  go_wp2_with fail
  refine (has_yes V f a0 cap fs _ hx1.out hl hm).mono ?_
  rintro e w2 ⟨rfl, hB2⟩
  have hB02 := hid (hB01.trans (hB2.mono hB01.size))
  go_wp2_with fail
  go_ret
  exact ⟨rfl, hB02.out⟩

theorem face_no (V : Int) (a0 : Option Addr) (cap : Nat) (fs : List Int) (f : Int) (w : World) (hx : SlI w w.heap.size a0 fs) (hl : fs.length ≤ 1048576) (hC : IsC V fs) (hm : f ∉ fs) :
    Calls Try.prog 68 #[.agg #[.int .i64 V, .slice a0 fs.length cap], .int .i64 f] w fun e w' => e = .returned (.int .i64 2) ∧ Below w.heap.size w w' := by
  have hB0 : Below w.heap.size w (w.alloc (.cells #[.int .i64 V, .slice a0 fs.length cap] 30)) := (Below.refl _ w).alloc (Nat.le_refl _) _
  have Hx := hid (hx.later hB0 (by simp <;> omega))
  have HC := hid hC
  clear hC
  go_enter Try.func68, Try.ntmps68
  go_wp2_with fail
  refine (is_yes V a0 cap fs _ Hx.out hl HC.out).mono ?_
  rintro e w1 ⟨rfl, hB1⟩
  have k0 : w1.cell? ⟨w.heap.size, 0, none⟩ = some (.int .i64 V) := (hB1.cell (p := ⟨w.heap.size, 0, none⟩) (by simp <;> omega)).trans (by simp [go_sem])
  have k1 : w1.cell? ⟨w.heap.size, 1, none⟩ = some (.slice a0 fs.length cap) := (hB1.cell (p := ⟨w.heap.size, 1, none⟩) (by simp <;> omega)).trans (by simp [go_sem])
  have hB01 := hB0.trans (hB1.mono (by simp <;> omega))
  have hx1 := hid (hx.later hB01 hB01.size)
  go_wp2_with fail
  refine (has_no V f a0 cap fs _ hx1.out hl hm).mono ?_
  rintro e w2 ⟨rfl, hB2⟩
  have hB02 := hid (hB01.trans (hB2.mono hB01.size))
  go_wp2_with fail
  go_ret
  exact ⟨rfl, hB02.out⟩

theorem face_bad (V : Int) (a0 : Option Addr) (cap : Nat) (fs : List Int) (f : Int) (w : World) (hx : SlI w w.heap.size a0 fs) (hl : fs.length ≤ 1048576) (hC : ¬ IsC V fs) :
    Calls Try.prog 68 #[.agg #[.int .i64 V, .slice a0 fs.length cap], .int .i64 f] w fun e w' => e = .returned (.int .i64 1) ∧ Below w.heap.size w w' := by
  have hB0 : Below w.heap.size w (w.alloc (.cells #[.int .i64 V, .slice a0 fs.length cap] 30)) := (Below.refl _ w).alloc (Nat.le_refl _) _
  have Hx := hid (hx.later hB0 (by simp <;> omega))
  go_enter Try.func68, Try.ntmps68
  go_wp2_with fail
  refine (is_no V a0 cap fs _ Hx.out hl hC).mono ?_
  rintro e w1 ⟨rfl, hB1⟩
  have hB01 := hid (hB0.trans (hB1.mono (by simp <;> omega)))
  go_wp2_with fail
  go_ret
  exact ⟨rfl, hB01.out⟩


end Go.Proofs.Ytgefpllmelpahaa

/-! A face that is in another one is in one with a vertex more. -/
namespace Go.Proofs.Ytgefpllmelpahaa

theorem above_step : ∀ x f : Fin 64, x.val ≠ 0 → x.val &&& f.val = x.val → x.val ≠ f.val → ∃ y : Fin 64, y.val ≠ 0 ∧ y.val &&& f.val = y.val ∧ y.val &&& x.val = x.val ∧ ones y.val = ones x.val + 1 := by decide +kernel

end Go.Proofs.Ytgefpllmelpahaa

/-! How many faces a complex has at most. -/
namespace Go.Proofs.Ytgefpllmelpahaa

theorem asc_len : ∀ (fs : List Int) (lo : Int), fs.Pairwise (· < ·) → (∀ x ∈ fs, lo ≤ x ∧ x ≤ 63) → fs.length ≤ (64 - lo).toNat
  | [], lo, _, _ => by simp
  | x :: fs, lo, hp, hr => by
    have h1 := hr x (by simp)
    have h2 := asc_len fs (x + 1) (List.pairwise_cons.1 hp).2 (fun y hy => ⟨by have := (List.pairwise_cons.1 hp).1 y hy; omega, (hr y (by simp [hy])).2⟩)
    rw [List.length_cons]
    omega

theorem IsC.len63 {V : Int} {fs : List Int} (h : IsC V fs) : fs.length ≤ 63 := by
  have := asc_len fs 1 h.asc h.range63
  omega

end Go.Proofs.Ytgefpllmelpahaa

/-! FacetsOf, the program's. -/
namespace Go.Proofs.Ytgefpllmelpahaa
open Go.RowKit Go.Shelf

attribute [local go_sem] Oper.semAt_some

/-- The parts of one face that are not itself, as they are met. -/
def innerOf (f : Nat) (pre : List (Fin 64)) : List Int := (pre.filter fun p => decide (p.val ≠ f)).map fun p => ((p.val : Nat) : Int)
/-- All parts of faces that are not the faces themselves. -/
def innerL (fs : List Int) : List Int := fs.flatMap fun x => innerOf x.toNat (subsF x.toNat)

theorem innerOf_len (f : Nat) (pre : List (Fin 64)) : (innerOf f pre).length ≤ pre.length := by
  unfold innerOf; rw [List.length_map]; exact List.length_filter_le _ _

theorem innerOf_snoc (f : Nat) (pre : List (Fin 64)) (p : Fin 64) (c : Bool) (h : decide (p.val ≠ f) = c) : innerOf f (pre ++ [p]) = innerOf f pre ++ (if c then [((p.val : Nat) : Int)] else []) := by
  unfold innerOf
  rw [List.filter_append, List.map_append]
  cases c <;> simp only [List.filter_cons, h, List.filter_nil] <;> simp

theorem subsF_len (f : Nat) (hf : f < 64) : (subsF f).length ≤ 63 := by
  have h := subs_len' ⟨f, hf⟩
  have e := congrArg List.length (subsF_map hf)
  rw [List.length_map] at e
  simp only at h
  omega

theorem innerL_len : ∀ (fs : List Int), (∀ x ∈ fs, 1 ≤ x ∧ x ≤ 63) → (innerL fs).length ≤ 63 * fs.length
  | [], _ => by simp [innerL]
  | x :: fs, h => by
    have h1 := innerL_len fs (fun y hy => h y (by simp [hy]))
    have h2 := innerOf_len x.toNat (subsF x.toNat)
    have h3 := subsF_len x.toNat (by have := h x (by simp); omega)
    unfold innerL at h1 ⊢
    rw [List.flatMap_cons, List.length_append, List.length_cons]
    omega

theorem innerL_snoc (fs : List Int) (x : Int) : innerL (fs ++ [x]) = innerL fs ++ innerOf x.toNat (subsF x.toNat) := by simp [innerL]

theorem mem_innerL {fs : List Int} (hr : ∀ x ∈ fs, 1 ≤ x ∧ x ≤ 63) {x : Int} : x ∈ innerL fs ↔ ∃ y ∈ fs, ∃ p : Nat, x = p ∧ p ≠ 0 ∧ p &&& y.toNat = p ∧ p ≠ y.toNat := by
  unfold innerL innerOf
  simp only [List.mem_flatMap, List.mem_map, List.mem_filter]
  constructor
  · rintro ⟨y, hy, p, ⟨hp, hne⟩, rfl⟩
    have := hr y hy
    have hm := (mem_subsF (show y.toNat < 64 by omega)).1 hp
    exact ⟨y, hy, p.val, rfl, hm.1, hm.2, by simpa using hne⟩
  · rintro ⟨y, hy, p, rfl, h0, h1, h2⟩
    have := hr y hy
    have hle := and_le_left' _ _ h1
    exact ⟨y, hy, ⟨p, by omega⟩, ⟨(mem_subsF (show y.toNat < 64 by omega)).2 ⟨h0, h1⟩, by simpa using h2⟩, rfl⟩

/-- The facets are the faces that are no such parts. -/
theorem facets_inner {V : Int} {fs : List Int} (h : IsC V fs) : facetsL fs = fs.filter fun x => !decide (x ∈ innerL fs) := by
  unfold facetsL
  refine List.filter_congr (fun x hx => ?_)
  have hxr := h.range63 x hx
  rw [← decide_not]
  refine decide_eq_decide.2 ?_
  rw [List.length_eq_zero_iff]
  unfold aboveL
  rw [List.filter_eq_nil_iff, mem_innerL h.range63]
  constructor
  · rintro ha ⟨y, hy, p, rfl, h0, h1, h2⟩
    have hyr := h.range63 y hy
    rw [Int.toNat_natCast] at ha
    obtain ⟨z, z0, z1, z2, z3⟩ := above_step ⟨p, by omega⟩ ⟨y.toNat, by omega⟩ h0 h1 h2
    have hz := h.closed y hy z.val z0 z1
    refine ha _ hz ?_
    rw [Int.toNat_natCast]
    exact decide_eq_true ⟨z2, z3⟩
  · intro hn y hy hd
    have hyr := h.range63 y hy
    have hd' := of_decide_eq_true hd
    refine hn ⟨y, hy, x.toNat, by omega, by omega, by rw [Nat.and_comm]; exact hd'.1, fun e => ?_⟩
    rw [← e] at hd'
    omega

/-- What the walk keeps of the world. -/
structure FaW (w W : World) (V : Int) (sl : Value) (mb : Nat) (L : List Int) (Ds : List Nat) : Prop where
  below : Below w.heap.size w W
  lo : w.heap.size + 1 ≤ mb
  kbox : W.heap[w.heap.size]? = some (.cells #[.int .i64 V, sl] 30 (0, 0))
  own : W.ownsMap Try.prog 2 (plainElem (H := Unit) Try.prog 4) mb L.length (knownD L)
  mbox : W.heap[mb + 1]? = some (.cells #[.map (some mb)] 93 (0, 0))
  nodup : Ds.Nodup
  marks : ∀ D ∈ Ds, mb + 2 ≤ D ∧ W.heap[D]? = some (.deferred (some []))

theorem FaW.size {w W : World} {V : Int} {sl : Value} {mb : Nat} {L : List Int} {Ds : List Nat} (h : FaW w W V sl mb L Ds) : mb + 2 ≤ W.heap.size := by
  have := lt_of_get h.mbox; omega

theorem FaW.turn {w W W' : World} {V : Int} {sl : Value} {mb : Nat} {L : List Int} {Ds : List Nat} (h : FaW w W V sl mb L Ds) {row : Option Nat} (hg : W.grownBy W' row)
    (hr : ∀ r, row = some r → mb + 2 ≤ r ∧ r ∉ Ds) : FaW w W' V sl mb L Ds where
  below := h.below.grown hg h.below.size (fun k e => by have := (hr k e).1; have := h.lo; omega)
  lo := h.lo
  kbox := (hg.block _ (lt_of_get h.kbox) (fun e => by have := (hr _ e.symm).1; have := h.lo; omega)).trans h.kbox
  own := h.own.kept hg (fun e => by have := (hr _ e.symm).1; omega)
  mbox := (hg.block _ (lt_of_get h.mbox) (fun e => by have := (hr _ e.symm).1; omega)).trans h.mbox
  nodup := h.nodup
  marks := fun D hD => ⟨(h.marks D hD).1, (hg.block _ (lt_of_get (h.marks D hD).2) (fun e => (hr _ e.symm).2 hD)).trans (h.marks D hD).2⟩

theorem faw_own {w : World} {V : Int} {sl : Value} {mb : Nat} {g : List (Fin 64) → List Int} {Ds : List Nat} {B : Nat} (hB : mb + 2 ≤ B) (hD : ∀ D ∈ Ds, D < B) : OwnFrom B (fun (pre : List (Fin 64)) W => FaW w W V sl mb (g pre) Ds) :=
  fun _ _ _ _ hs hg hr => hs.turn hg (fun r e => ⟨by have := (hr r e).1; omega, fun hm => by have := hD r hm; have := (hr r e).1; omega⟩)

theorem box_own {β : Type} {B fb : Nat} {o : Obj} (hB : fb < B) : OwnFrom B (fun (_ : β) (W : World) => W.heap[fb]? = some o) :=
  fun _ _ _ _ hs hg hr => (hg.block _ (lt_of_get hs) (fun e => by have := (hr _ e.symm).1; omega)).trans hs

/-- A further mark. -/
theorem FaW.mark {w W : World} {V : Int} {sl : Value} {mb : Nat} {L : List Int} {Ds : List Nat} (h : FaW w W V sl mb L Ds) {D : Nat} (hD : W.heap[D]? = some (.deferred (some []))) (hb : mb + 2 ≤ D) (hn : D ∉ Ds) : FaW w W V sl mb L (D :: Ds) where
  below := h.below
  lo := h.lo
  kbox := h.kbox
  own := h.own
  mbox := h.mbox
  nodup := List.nodup_cons.2 ⟨hn, h.nodup⟩
  marks := fun E hE => by
    rcases List.mem_cons.1 hE with rfl | hE
    · exact ⟨hb, hD⟩
    · exact h.marks E hE

/-- A part more in the map. -/
theorem FaW.put {w W w1 : World} {V : Int} {sl : Value} {mb : Nat} {L : List Int} {Ds : List Nat} (h : FaW w W V sl mb L Ds) {x : Int}
    (hown : w1.ownsMap Try.prog 2 (plainElem (H := Unit) Try.prog 4) mb (L.length + 1) ((knownD L).put (.int .i64 x) (.lit (.bool true)))) (hg : W.grownBy w1 (some mb)) : FaW w w1 V sl mb (L ++ [x]) Ds where
  below := h.below.grown hg h.below.size (fun k e => by cases e; have := h.lo; omega)
  lo := h.lo
  kbox := (hg.block _ (lt_of_get h.kbox) (fun e => by have := h.lo; simp at e; omega)).trans h.kbox
  own := by rw [knownD_snoc]; simpa using hown
  mbox := (hg.block _ (lt_of_get h.mbox) (fun e => by simp at e)).trans h.mbox
  nodup := h.nodup
  marks := fun D hD => ⟨(h.marks D hD).1, (hg.block _ (lt_of_get (h.marks D hD).2) (fun e => by have := (h.marks D hD).1; simp at e; omega)).trans (h.marks D hD).2⟩

theorem facetWanted (L : List Int) (bm b n : Nat) (x : Int) (w : World) (hx0 : 1 ≤ x) (hx1 : x ≤ 63) (hm : w.cell? ⟨bm, 0, none⟩ = some (.map (some b))) (hM : w.ownsMap Try.prog 2 (plainElem (H := Unit) Try.prog 4) b n (knownD L)) :
    Calls Try.prog 216 #[.int .i64 x, .pointer (some ⟨bm, 0, none⟩)] w fun e w' => e = .returned (.bool (!decide (x ∈ L))) ∧ Below w.heap.size w w' := by
  have hlook := lookup_known hM (p := x) (WalkArith.wf_i64 (by omega))
  clear hM
  obtain ⟨c, hc⟩ : ∃ c, c = decide (x ∈ L) := ⟨_, rfl⟩
  rw [← hc] at hlook ⊢
  clear hc
  cases c
  · go_enter Try.func216, Try.ntmps216
    go_wp2_with fail
    go_ret
    exact ⟨rfl, Below.refl _ _⟩
  · go_enter Try.func216, Try.ntmps216
    go_wp2_with fail
    go_ret
    exact ⟨rfl, Below.refl _ _⟩

set_option maxRecDepth 100000 in
set_option maxHeartbeats 4000000 in
theorem fac_in (V : Int) (b off : Nat) (cap : Nat) (fs : List Int) (w : World) (hb : b < w.heap.size)
    (hc : ∀ i, i < fs.length → w.cell? ⟨b, off + i, none⟩ = some (.int .i64 (fs[i]?.getD 0))) (hC : IsC V fs) :
    CallsIn Fence.wide 10 Try.prog 158 #[.agg #[.int .i64 V, .slice (some ⟨b, off, none⟩) fs.length cap]] w fun e w' => ∃ v, e = .returned (.tuple #[v, .int .i64 0]) ∧ Res w w' v (facetsL fs) := by
  have hmm := @run_makeMap Try.prog
  have hl63 : fs.length ≤ 63 := hC.len63
  have hB0 : Below w.heap.size w (w.alloc (.cells #[.int .i64 V, .slice (some ⟨b, off, none⟩) fs.length cap] 30)) := (Below.refl _ w).alloc (Nat.le_refl _) _
  have hx : SlI w w.heap.size (some ⟨b, off, none⟩) fs := .inr ⟨b, off, hb, rfl, hc⟩
  have Hx := hid (hx.later hB0 hB0.size)
  have Hx0 := hid hx
  have Hf := hid hC.range63
  have HC := hid hC
  have Hc := hid hc
  have HB0 := hid hB0
  clear hC hx hc hB0
  refine callsIn_of_wp_marks Try.func158 rfl trivial ?_ rfl
  simp only [Try.ntmps158, List.size_toArray, List.length_cons, List.length_nil, Nat.reduceAdd, Nat.reduceSub, Array.replicate_succ, Array.replicate_zero, List.push_toArray, List.append_toArray, List.nil_append, List.cons_append]
  gi_wp2_with (first
    | (refine ⟨trivial, ?_⟩; gi_at_call 108; refine (callsIn_wide.2 (isc_yes V _ cap fs _ Hx.out (by omega) HC.out)).mono ?_; rintro e w1 ⟨rfl, hB1⟩; have k0 : w1.cell? ⟨w.heap.size, 0, none⟩ = some (.int .i64 V) := (hB1.cell (p := ⟨w.heap.size, 0, none⟩) (by simp)).trans (by simp [go_sem]); have k1 : w1.cell? ⟨w.heap.size, 1, none⟩ = some (.slice (some ⟨b, off, none⟩) fs.length cap) := (hB1.cell (p := ⟨w.heap.size, 1, none⟩) (by simp)).trans (by simp [go_sem]); have hs1 : w.heap.size < w1.heap.size := (by have := hB1.size; simp at this; omega)))
  clear hmm
  have hB01 := HB0.out.trans (hB1.mono (by simp))
  have q1 : w1.heap[w.heap.size]? = some (.cells #[.int .i64 V, .slice (some ⟨b, off, none⟩) fs.length cap] 30 (0, 0)) := (hB1.block _ (by simp)).trans (heap_alloc_new _ _)
  have hF0 : FaW w ((w1.alloc (.map #[] 0)).alloc (.cells #[.map (some w1.heap.size)] 93)) V (.slice (some ⟨b, off, none⟩) fs.length cap) w1.heap.size [] [] := by
    have e3 := heap_alloc_new (w1.alloc (.map #[] 0)) (.cells #[.map (some w1.heap.size)] 93)
    rw [World.size_alloc] at e3
    exact {
      below := (hB01.alloc (by omega) _).alloc (by simp <;> omega) _
      lo := by omega
      kbox := (Below.heap_alloc _ _ _ (by simp; omega)).trans ((Below.heap_alloc _ _ _ (by omega)).trans q1)
      own := (World.ownsMap_made w1 Try.prog 2 (plainElem (H := Unit) Try.prog 4)).alloc _
      mbox := e3
      nodup := by simp
      marks := by simp }
  have HF0 := hid hF0
  obtain ⟨mb, hmb⟩ : ∃ mb, mb = w1.heap.size := ⟨_, rfl⟩
  rw [← hmb] at HF0 ⊢
  clear hF0 q1 hB01 hB1 k0 k1 hmb hs1
  refine wpIn_loop (fun a' W => ∃ (k : Nat) (c6 c7 c16 c17 c18 c19 c20 c21 c22 c23 c24 c25 c26 c27 : Value) (Ds : List Nat),
      a' = { tmps := #[.agg #[.int .i64 V, .slice (some ⟨b, off, none⟩) fs.length cap], .pointer (some ⟨w.heap.size, 0, none⟩), .slice none 0 0, .int .i64 0, .pointer (some ⟨mb + 1, 0, none⟩), undef, c6, c7,
          .agg #[.int .i64 V, .slice (some ⟨b, off, none⟩) fs.length cap], .bool true, .bool false, .map (some mb), .pointer (some ⟨w.heap.size, 1, none⟩), .slice (some ⟨b, off, none⟩) fs.length cap, .int .i64 fs.length,
          .int .i64 k, c16, c17, c18, c19, c20, c21, c22, c23, c24, c25, c26, c27, undef, undef, undef], defers := marks Ds } ∧
      k ≤ fs.length ∧ FaW w W V (.slice (some ⟨b, off, none⟩) fs.length cap) mb (innerL (fs.take k)) Ds)
    (fun a' _ => fs.length - (intOf (a'.tmps.getD 15 undef)).toNat) ?start ?round
  case start => exact ⟨0, _, _, _, _, _, _, _, _, _, _, _, _, _, _, [], rfl, Nat.zero_le _, by simpa [innerL] using HF0.out⟩
  case round =>
    rintro a W ⟨k, c6, c7, c16, c17, c18, c19, c20, c21, c22, c23, c24, c25, c26, c27, Ds, rfl, hk, hW⟩
    have hsz := hW.size
    have k0 : W.cell? ⟨w.heap.size, 0, none⟩ = some (.int .i64 V) := by simp [World.cell?, hW.kbox]
    have k1 : W.cell? ⟨w.heap.size, 1, none⟩ = some (.slice (some ⟨b, off, none⟩) fs.length cap) := by simp [World.cell?, hW.kbox]
    have HW := hid hW
    have hlo := hW.lo
    clear hW
    by_cases hlt : k < fs.length
    · obtain ⟨x, hx⟩ : ∃ x, x = fs[k]?.getD 0 := ⟨_, rfl⟩
      have hck : W.cell? ⟨b, off + k, none⟩ = some (.int .i64 x) := by rw [hx]; exact (HW.out.below.cell (p := ⟨b, off + k, none⟩) hb).trans (Hc.out k hlt)
      have hxr := Hf.out _ (getD_mem hlt)
      rw [← hx] at hxr
      have Hx1 := hid hx
      have hi0 : (0 : Int) ≤ (k : Int) := by omega
      have hi1 : (k : Int) < (fs.length : Int) := by omega
      obtain ⟨f, rfl⟩ : ∃ f : Nat, x = f := ⟨x.toNat, by omega⟩
      have hf : f < 64 := by omega
      clear hx
      gi_wp2_with (first
        | (refine ⟨trivial, ?_⟩; gi_at_call 151; refine (parts_in _ _ trivial rfl _ _).mono ?_; rintro e w' ⟨rfl, rfl⟩))
      have hW2 : FaW w ((W.alloc (.cells #[.int .i64 (f : Int)] 2)).alloc (.cells #[.int .i64 (f : Int)] 2)) V (.slice (some ⟨b, off, none⟩) fs.length cap) mb (innerL (fs.take k)) Ds := (HW.out.turn (World.grownBy_alloc W _ none) (fun r e => by cases e)).turn (World.grownBy_alloc _ _ none) (fun r e => by cases e)
      have hfb : ((W.alloc (.cells #[.int .i64 (f : Int)] 2)).alloc (.cells #[.int .i64 (f : Int)] 2)).heap[W.heap.size]? = some (.cells #[.int .i64 (f : Int)] 2 (0, 0)) := (Below.heap_alloc _ _ _ (by simp)).trans (heap_alloc_new _ _)
      have hsb : ((W.alloc (.cells #[.int .i64 (f : Int)] 2)).alloc (.cells #[.int .i64 (f : Int)] 2)).heap[W.heap.size + 1]? = some (.cells #[.int .i64 (f : Int)] 2 (0, 0)) := new2 _ _ _
      have hDlt : ∀ D ∈ Ds, D < ((W.alloc (.cells #[.int .i64 (f : Int)] 2)).alloc (.cells #[.int .i64 (f : Int)] 2)).heap.size := fun D hD => lt_of_get (hW2.marks D hD).2
      have hLl := innerL_len (fs.take k) (fun y hy => Hf.out y (List.mem_of_mem_take hy))
      have hkl : (fs.take k).length ≤ 63 := by simp; omega
      obtain ⟨L0, hL0⟩ : ∃ L0, L0 = innerL (fs.take k) := ⟨_, rfl⟩
      have HL0 := hid hL0
      rw [← hL0] at hW2 hLl HW
      clear hL0
      refine wpIn_rangeFunc_ownG rfl (by decide) (gf := 214) (lb := #[.pointer (some ⟨W.heap.size + 1, 0, none⟩)]) rfl trivial (enters_of Try.func214 (by kernel_rfl) rfl)
        (parts_stops Fence.wide 9 trivial rfl (by decide) (W.heap.size + 1) f hf _ (by simp) hsb) keepB_t (keepB_b (by simp)) (Below.refl _ _) (fun _ => rfl)
        (fun pre W' => FaW w W' V (.slice (some ⟨b, off, none⟩) fs.length cap) mb (L0 ++ innerOf f pre) Ds ∧ W'.heap[W.heap.size]? = some (.cells #[.int .i64 (f : Int)] 2 (0, 0)) ∧ W'.heap[W.heap.size + 1]? = some (.cells #[.int .i64 (f : Int)] 2 (0, 0)))
        (fun _ _ _ => False)
        (OwnFrom.and (faw_own (by simp; omega) hDlt) (OwnFrom.and (box_own (by simp <;> omega)) (box_own (by simp <;> omega)))) (fun _ => ownFrom_pure _ _)
        ⟨by simpa [innerOf] using hW2, hfb, hsb⟩
        (fun x => { tmps := #[.agg #[.int .i64 V, .slice (some ⟨b, off, none⟩) fs.length cap], .pointer (some ⟨w.heap.size, 0, none⟩), .slice none 0 0, .int .i64 0, .pointer (some ⟨mb + 1, 0, none⟩), undef, .pointer (some ⟨W.heap.size, 0, none⟩), .int .i64 (x.val : Int),
          .agg #[.int .i64 V, .slice (some ⟨b, off, none⟩) fs.length cap], .bool true, .bool false, .map (some mb), .pointer (some ⟨w.heap.size, 1, none⟩), .slice (some ⟨b, off, none⟩) fs.length cap, .int .i64 fs.length,
          .int .i64 k, .bool true, .pointer (some ⟨b, off + k, none⟩), .int .i64 f, .int .i64 f, .func (.func 214) #[] #[.pointer (some ⟨W.heap.size + 1, 0, none⟩)], .int .i64 (x.val : Int), c22, c23, c24, c25, c26, c27, undef, undef, undef], defers := [] }) ?assign ?body ?done ?stop
      case assign =>
        intro l x W3 K hK
        gi_wp2
        exact hK
      case body =>
        rintro l pre x W3 ⟨hW3, hfb3, hsb3⟩ hpl
        have m3 : W3.cell? ⟨mb + 1, 0, none⟩ = some (.map (some mb)) := (box_cell hW3.mbox).1
        have f3 : W3.cell? ⟨W.heap.size, 0, none⟩ = some (.int .i64 (f : Int)) := (box_cell hfb3).1
        have hxl := x.isLt
        have hwx : (Lit.int .i64 (x.val : Int)).wf = true := WalkArith.wf_i64 (by omega)
        have HW3 := hid hW3
        have Hfb3 := hid hfb3
        have Hsb3 := hid hsb3
        have hpre := innerOf_len f pre
        clear hW3 hfb3 hsb3
        by_cases hm : x.val = f
        · have hd : (((x.val : Nat) : Int) != (f : Int)) = false := by simp; omega
          have Hs := hid (innerOf_snoc f pre x false (by simpa using hm))
          clear hm
          gi_wp2
          refine ⟨KeepsFrom.refl _ _, rfl, ?_, Hfb3.out, Hsb3.out⟩
          rw [Hs.out]
          simpa using HW3.out
        · have hd : (((x.val : Nat) : Int) != (f : Int)) = true := by simp; omega
          have Hs := hid (innerOf_snoc f pre x true (by simpa using hm))
          clear hm
          have hkm : (L0 ++ innerOf f pre).length < maxLen := by unfold maxLen; simp; omega
          gi_wp2_with (gi_at_mapUpdate; refine wpListIn_mapUpdate_own _ rfl _ _ _ 93 rfl 2 4 (Maps.int_keyed Try.underlying2) Try.underlying93 _ mb _ _ rfl HW3.out.own hkm _ _ _ rfl rfl (Maps.keyOf_int_mk Try.underlying2 hwx) _ [] (plainElem_bool Try.underlying4 true) ?_; intro w4 hown4 hgrow4)
          refine ⟨KeepsFrom.of_grownBy hgrow4 (fun j e => by cases e; first | omega | (simp; omega)), (hgrow4.block _ (lt_of_get Hsb3.out) (fun e => by simp at e; omega)), ?_, (hgrow4.block _ (lt_of_get Hfb3.out) (fun e => by simp at e; omega)).trans Hfb3.out, (hgrow4.block _ (lt_of_get Hsb3.out) (fun e => by simp at e; omega)).trans Hsb3.out⟩
          rw [Hs.out, ← List.append_assoc]
          exact HW3.out.put hown4 hgrow4
      case done =>
        rintro D ys W3 hD rfl ⟨hW3, _, _⟩ hK
        have hDb : mb + 2 ≤ D := by simp at hD; omega
        have hDn : D ∉ Ds := fun hm => by have := hDlt D hm; omega
        have HW4 := hid (hW3.mark hK hDb hDn)
        have htk : innerL (fs.take (k + 1)) = L0 ++ innerOf f (subsF f) := by rw [take_snoc hlt, innerL_snoc, ← Hx1.out, HL0.out, Int.toNat_natCast]
        have Htk := hid htk
        clear hW3 htk
        gi_wp2
        refine ⟨⟨k + 1, ?_⟩, ?_⟩
        · (repeat apply Exists.intro)
          refine ⟨?e, ?_⟩
          case e =>
            rw [show ((k + 1 : Nat) : Int) = (k : Int) + 1 by omega, show ({ target := .collected D, args := #[] } :: marks Ds : List Deferred) = marks (D :: Ds) from rfl]
          exact ⟨by omega, by rw [Htk.out]; exact HW4.out⟩
        · simp [intOf]; omega
      case stop =>
        rintro D c pre W3 hD hpre hF hK
        exact hF.elim
    · obtain rfl : k = fs.length := by omega
      rw [List.take_of_length_le (Nat.le_refl _)] at HW
      have hxW := Hx0.out.later HW.out.below HW.out.below.size
      have HFW : Hid (Calls Try.prog 152 #[.agg #[.int .i64 V, .slice (some ⟨b, off, none⟩) fs.length cap], .func (.func 216) #[] #[.pointer (some ⟨mb + 1, 0, none⟩)]] W fun e w' => ∃ v, e = .returned v ∧ Res W w' v (facetsL fs)) := hid (by
        rw [facets_inner HC.out]
        refine fw_any V _ cap fs W 216 _ (fun x => !decide (x ∈ innerL fs)) hxW (by omega) (enters_of Try.func216 (by kernel_rfl) rfl) ?_
        intro W' x hW' hxm
        have hr := Hf.out x hxm
        have hkeep : W.grownBy W' none := ⟨hW'.os, hW'.tape, hW'.output, hW'.size, fun k hk _ => hW'.block k hk⟩
        exact facetWanted (innerL fs) _ mb _ x W' hr.1 hr.2 ((hW'.cell (p := ⟨mb + 1, 0, none⟩) (lt_of_get HW.out.mbox)).trans (box_cell HW.out.mbox).1) (HW.out.own.kept hkeep (by simp)))
      clear hxW
      gi_wp2_with (refine ⟨trivial, ?_⟩; gi_at_call 152; refine (callsIn_wide.2 HFW.out).mono ?_; rintro e w2 ⟨v, rfl, hr⟩)
      have hB2 : Below W.heap.size W w2 := hr.2
      refine leaves_marks (by simp) Ds _ HW.out.nodup (fun D hD => (hB2.block _ (lt_of_get (HW.out.marks D hD).2)).trans (HW.out.marks D hD).2) (fun w' hw' => ?_)
      have hsh : Below w.heap.size w2 w' := hw'.below (fun D hD => by have := (HW.out.marks D hD).1; omega)
      have hown : w'.ownsRow W.heap.size 2 1 v (facetsL fs).length ((facetsL fs).map (Value.int .i64)) := by
        refine ⟨hr.1.1, ?_⟩
        rcases hr.1.2 with hn | ⟨g, cp, cur, rfl, hg, hh, rest⟩
        · exact .inl hn
        · exact .inr ⟨g, cp, cur, rfl, hg, (hw'.block g (fun hm => by have := lt_of_get (HW.out.marks g hm).2; omega)).trans hh, rest⟩
      refine ⟨.tuple #[v, .int .i64 0], ?_, v, rfl, ownsRow_base hown HW.out.below.size, (HW.out.below.trans (hB2.mono HW.out.below.size)).trans hsh⟩
      simp [results, Try.results158, go_sem]

set_option maxRecDepth 100000 in
set_option maxHeartbeats 1000000 in
theorem fac_nil (V : Int) (a : Option Addr) (cap : Nat) (w : World) (hC : IsC V []) :
    CallsIn Fence.wide 10 Try.prog 158 #[.agg #[.int .i64 V, .slice a 0 cap]] w fun e w' => ∃ v, e = .returned (.tuple #[v, .int .i64 0]) ∧ Res w w' v [] := by
  have hmm := @run_makeMap Try.prog
  have hB0 : Below w.heap.size w (w.alloc (.cells #[.int .i64 V, .slice a 0 cap] 30)) := (Below.refl _ w).alloc (Nat.le_refl _) _
  have HB0 := hid hB0
  have HC := hid hC
  have HFW : Hid (∀ (W : World) (bm : Nat), Calls Try.prog 152 #[.agg #[.int .i64 V, .slice a 0 cap], .func (.func 216) #[] #[.pointer (some ⟨bm, 0, none⟩)]] W fun e w' => ∃ v, e = .returned v ∧ Res W w' v []) := hid (fun W bm => by
    have h := fw_any V a cap [] W 216 (.pointer (some ⟨bm, 0, none⟩)) (fun _ => false) (.inl rfl) (by simp) (enters_of Try.func216 (by kernel_rfl) rfl) (by intro _ x _ hx; simp at hx)
    simpa using h)
  clear hC hB0
  refine callsIn_of_wp_marks Try.func158 rfl trivial ?_ rfl
  simp only [Try.ntmps158, List.size_toArray, List.length_cons, List.length_nil, Nat.reduceAdd, Nat.reduceSub, Array.replicate_succ, Array.replicate_zero, List.push_toArray, List.append_toArray, List.nil_append, List.cons_append]
  gi_wp2_with (first
    | (refine ⟨trivial, ?_⟩; gi_at_call 108; refine (callsIn_wide.2 (isc_yes V a cap [] _ (.inl rfl) (by simp) HC.out)).mono ?_; rintro e w1 ⟨rfl, hB1⟩; have k0 : w1.cell? ⟨w.heap.size, 0, none⟩ = some (.int .i64 V) := (hB1.cell (p := ⟨w.heap.size, 0, none⟩) (by simp)).trans (by simp [go_sem]); have k1 : w1.cell? ⟨w.heap.size, 1, none⟩ = some (.slice a 0 cap) := (hB1.cell (p := ⟨w.heap.size, 1, none⟩) (by simp)).trans (by simp [go_sem]); have hs1 : w.heap.size < w1.heap.size := (by have := hB1.size; simp at this; omega)))
  clear hmm
  refine wpIn_loop_rounds 1 ?_
  rw [roundsIn_succ]
  gi_wp2_with (refine ⟨trivial, ?_⟩; gi_at_call 152; refine (callsIn_wide.2 (HFW.out _ _)).mono ?_; rintro e w2 ⟨v, rfl, hr⟩)
  refine ⟨.tuple #[v, .int .i64 0], ?_, v, rfl, hr.later ?_⟩
  · simp [results, Try.results158, go_sem]
  · exact ((HB0.out.trans (hB1.mono (by simp))).alloc (by omega) _).alloc (by simp <;> omega) _

set_option maxRecDepth 100000 in
set_option maxHeartbeats 1000000 in
theorem fac_no (V : Int) (a : Option Addr) (cap : Nat) (fs : List Int) (w : World) (hx : SlI w w.heap.size a fs) (hl : fs.length ≤ 1048576) (hC : ¬ IsC V fs) :
    CallsIn Fence.wide 10 Try.prog 158 #[.agg #[.int .i64 V, .slice a fs.length cap]] w fun e w' => ∃ v, e = .returned (.tuple #[v, .int .i64 1]) ∧ Res w w' v [] := by
  have hB0 : Below w.heap.size w (w.alloc (.cells #[.int .i64 V, .slice a fs.length cap] 30)) := (Below.refl _ w).alloc (Nat.le_refl _) _
  have HB0 := hid hB0
  have HC := hid hC
  have Hx := hid (hx.later hB0 hB0.size)
  clear hC hB0 hx
  refine callsIn_of_wp_marks Try.func158 rfl trivial ?_ rfl
  simp only [Try.ntmps158, List.size_toArray, List.length_cons, List.length_nil, Nat.reduceAdd, Nat.reduceSub, Array.replicate_succ, Array.replicate_zero, List.push_toArray, List.append_toArray, List.nil_append, List.cons_append]
  gi_wp2_with (first
    | (refine ⟨trivial, ?_⟩; gi_at_call 108; refine (callsIn_wide.2 (isc_no V a cap fs _ Hx.out hl HC.out)).mono ?_; rintro e w1 ⟨rfl, hB1⟩))
  refine ⟨.tuple #[.slice none 0 0, .int .i64 1], ?_, _, rfl, res_nil _ _ (HB0.out.trans (hB1.mono (by simp)))⟩
  simp [results, Try.results158, go_sem]

theorem facets_nil : facetsL [] = [] := rfl

/-- impl.FacetsOf, whatever comes in. -/
theorem implFacetsOf (V : Int) (a : Option Addr) (cap : Nat) (fs : List Int) (w : World) (hx : SlI w w.heap.size a fs) (hl : fs.length ≤ 1048576) :
    Calls Try.prog 158 #[.agg #[.int .i64 V, .slice a fs.length cap]] w fun e w' => ∃ v, e = .returned (.tuple #[v, .int .i64 (facetsOfR V fs).2]) ∧ Res w w' v (facetsOfR V fs).1 := by
  by_cases hC : IsC V fs
  · refine pair_mono' (show facetsOfR V fs = (facetsL fs, 0) by unfold facetsOfR; rw [isCB_true hC, if_pos rfl]) ?_
    rcases hx with rfl | ⟨b, off, hb, rfl, hc⟩
    · rw [facets_nil]
      exact callsIn_wide.1 (fac_nil V a cap w hC)
    · exact callsIn_wide.1 (fac_in V b off cap fs w hb hc hC)
  · refine pair_mono' (show facetsOfR V fs = ([], 1) by unfold facetsOfR; rw [isCB_false hC, if_neg (by simp)]) ?_
    exact callsIn_wide.1 (fac_no V a cap fs w hx hl hC)

end Go.Proofs.Ytgefpllmelpahaa

/-! slices.Contains on a list of int64. -/
namespace Go.Proofs.Ytgefpllmelpahaa
open Go.RowKit

set_option maxRecDepth 100000 in
set_option maxHeartbeats 1000000 in
theorem index_any (a : Option Addr) (cap : Nat) (xs : List Int) (x : Int) (w : World) (hx : SlI w w.heap.size a xs) (hl : xs.length ≤ 1048576) :
    Calls Try.prog 227 #[.slice a xs.length cap, .int .i64 x] w fun e w' => ∃ i : Int, e = .returned (.int .i64 i) ∧ -1 ≤ i ∧ (0 ≤ i ↔ x ∈ xs) ∧ w = w' := by
  rcases hx with rfl | ⟨b, off, hb, rfl, hc⟩
  · go_enter Try.func227, Try.ntmps227
    go_wp2
    refine wp_loop_rounds 1 ?_; rw [rounds_succ]
    go_wp2
    go_ret
    exact ⟨-1, rfl, by decide, by simp, rfl⟩
  · have Hc := hid hc
    clear hc
    go_enter Try.func227, Try.ntmps227
    go_wp2
    go_loop [8] (fun i => ∃ k : Nat, k ≤ xs.length ∧ i = .int .i64 k ∧ Hid (x ∉ xs.take k)) (fun i => xs.length - (intOf i).toNat)
    case atStart => exact ⟨0, Nat.zero_le _, rfl, hid (by simp)⟩
    case round =>
      obtain ⟨k, hk, rfl, Hk⟩ := hrel
      by_cases hlt : k < xs.length
      · obtain ⟨y, hy⟩ : ∃ y, y = xs[k]?.getD 0 := ⟨_, rfl⟩
        have hck : w.cell? ⟨b, off + k, none⟩ = some (.int .i64 y) := by rw [hy]; exact Hc.out k hlt
        have Hy := hid hy
        have hi0 : (0 : Int) ≤ (k : Int) := by omega
        have hi1 : (k : Int) < (xs.length : Int) := by omega
        clear hy
        by_cases hxy : x = y
        · have hd : (x == y) = true := by simp [hxy]
          have He : Hid (x ∈ xs) := hid (by rw [hxy, Hy.out]; exact getD_mem hlt)
          clear hxy
          go_wp2
          go_ret
          exact ⟨k, rfl, by omega, ⟨fun _ => He.out, fun _ => by omega⟩, rfl⟩
        · have hd : (x == y) = false := by simp [hxy]
          have He : Hid (x ∉ xs.take (k + 1)) := hid (by
            rw [take_snoc hlt, ← Hy.out]
            intro h
            rcases List.mem_append.1 h with h | h
            · exact Hk.out h
            · simp at h; exact hxy h)
          clear hxy
          go_wp2
          go_round
          case rel => exact ⟨k + 1, by omega, by go_num, He.out⟩
          case measure => simp [intOf]; omega
      · have He : Hid (x ∉ xs) := hid (by have := Hk.out; rwa [List.take_of_length_le (by omega)] at this)
        go_wp2
        go_ret
        exact ⟨-1, rfl, by decide, ⟨fun h => absurd h (by decide), fun h => absurd h He.out⟩, rfl⟩

set_option maxRecDepth 100000 in
set_option maxHeartbeats 1000000 in
theorem contains_any (a : Option Addr) (cap : Nat) (xs : List Int) (x : Int) (w : World) (hx : SlI w w.heap.size a xs) (hl : xs.length ≤ 1048576) :
    Calls Try.prog 175 #[.slice a xs.length cap, .int .i64 x] w fun e w' => e = .returned (.bool (decide (x ∈ xs))) ∧ w = w' := by
  have HI := hid (index_any a cap xs x w hx hl)
  obtain ⟨c, hc⟩ : ∃ c, c = decide (x ∈ xs) := ⟨_, rfl⟩
  have Hc := hid hc
  rw [← hc]
  clear hc hx
  go_enter Try.func175, Try.ntmps175
  go_wp2_with fail
  refine HI.out.mono ?_
  rintro e w' ⟨i, rfl, h1, h2, rfl⟩
  have Hi := hid h2
  have H1 := hid h1
  clear h1 h2
  by_cases h0 : 0 ≤ i
  · have He : Hid (c = true) := hid (by rw [Hc.out]; exact decide_eq_true (Hi.out.1 h0))
    go_wp2_with fail
    go_ret
    exact ⟨ret_bool (by rw [He.out]), rfl⟩
  · have He : Hid (c = false) := hid (by rw [Hc.out]; exact decide_eq_false (fun h => h0 (Hi.out.2 h)))
    have hlt : i < 0 := by omega
    go_wp2_with fail
    go_ret
    exact ⟨ret_bool (by rw [He.out]; simp [hlt]), rfl⟩

end Go.Proofs.Ytgefpllmelpahaa

/-! Pure complexes: the kind's method, IsPure, pureFacets. -/
namespace Go.Proofs.Ytgefpllmelpahaa
open Go.RowKit

/-- Do all have as many vertices as the first? -/
def pureB (L : List Int) : Bool := L.all fun x => decide (ones x.toNat = ones (L[0]?.getD 0).toNat)

theorem below_drewN (w : World) (n : Nat) : Below w.heap.size w (w.drewN n) := ⟨rfl, rfl, rfl, Nat.le_refl _, fun _ _ => rfl⟩

set_option maxRecDepth 100000 in
set_option maxHeartbeats 1000000 in
/-- slices.IndexFunc at []int64, with a function that has captured one variable. -/
theorem idxC_any (a : Option Addr) (cap : Nat) (xs : List Int) (fid : Nat) (c1 : Value) (p : Int → Bool) (w : World) (hx : SlI w w.heap.size a xs) (hl : xs.length ≤ 1048576)
    (hent : ∀ args w, (callFunc fid args).run Try.prog w = .ok (.enter fid args) w)
    (hcl : ∀ W x, Below w.heap.size w W → x ∈ xs → Calls Try.prog fid #[.int .i64 x, c1] W fun e w' => e = .returned (.bool (p x)) ∧ Below W.heap.size W w') :
    Calls Try.prog 164 #[.slice a xs.length cap, .func (.func fid) #[] #[c1]] w fun e w' => ∃ i : Int, e = .returned (.int .i64 i) ∧ -1 ≤ i ∧ (0 ≤ i ↔ xs.any p = true) ∧ Below w.heap.size w w' := by
  have Hx := hid hx
  have HD := hid hcl
  clear hx hcl
  go_enter Try.func164, Try.ntmps164
  go_wp2
  go_loopw [8] (fun i wr => ∃ k : Nat, k ≤ xs.length ∧ i = .int .i64 k ∧ Hid ((xs.take k).any p = false) ∧ Hid (Below w.heap.size w wr)) (fun i _ => xs.length - (RowKit.intOf i).toNat)
  case atStart => exact ⟨0, Nat.zero_le _, rfl, hid (by simp), hid (Below.refl _ _)⟩
  case round =>
    obtain ⟨k, hk, rfl, Hk, HB⟩ := hrel
    by_cases hlt : k < xs.length
    · obtain ⟨b, off, hb, rfl, hc⟩ : ∃ b off, b < w.heap.size ∧ a = some ⟨b, off, none⟩ ∧ ∀ i, i < xs.length → w.cell? ⟨b, off + i, none⟩ = some (.int .i64 (xs[i]?.getD 0)) := by
        rcases Hx.out with rfl | h
        · simp at hlt
        · exact h
      obtain ⟨x, hx⟩ : ∃ x, x = xs[k]?.getD 0 := ⟨_, rfl⟩
      have hck : wr.cell? ⟨b, off + k, none⟩ = some (.int .i64 x) := by rw [hx]; exact (HB.out.cell (p := ⟨b, off + k, none⟩) hb).trans (hc k hlt)
      have hxm : x ∈ xs := by rw [hx]; exact getD_mem hlt
      have hi0 : (0 : Int) ≤ (k : Int) := by omega
      have hi1 : (k : Int) < (xs.length : Int) := by omega
      have HC := hid (HD.out wr x HB.out hxm)
      have Hs : Hid (∀ c, p x = c → (xs.take (k + 1)).any p = c) := hid (fun c hcc => by rw [take_snoc hlt, List.any_append, Hk.out, ← hx]; simpa using hcc)
      have Hm : Hid (p x = true → xs.any p = true) := hid (fun h => List.any_eq_true.2 ⟨x, hxm, h⟩)
      clear hx hc hxm
      cases hpx : p x
      · rw [hpx] at HC
        have He := hid (Hs.out false hpx)
        clear hpx Hs Hm
        go_wp2_with fail
        refine HC.out.mono ?_
        rintro e w1 ⟨rfl, hB1⟩
        have HB1 := hid (HB.out.trans (hB1.mono HB.out.size))
        clear hB1
        go_wp2_with fail
        go_roundw
        case rel => exact ⟨k + 1, by omega, by go_num, He, HB1⟩
        case measure => simp [RowKit.intOf]; omega
      · rw [hpx] at HC
        have He := hid (Hm.out hpx)
        clear hpx Hs Hm
        go_wp2_with fail
        refine HC.out.mono ?_
        rintro e w1 ⟨rfl, hB1⟩
        have HB1 := hid (HB.out.trans (hB1.mono HB.out.size))
        clear hB1
        go_wp2_with fail
        go_ret
        exact ⟨_, rfl, by omega, ⟨fun _ => He.out, fun _ => by omega⟩, HB1.out⟩
    · have hkn : k = xs.length := by omega
      have He : Hid (xs.any p = false) := hid (by have h := Hk.out; rw [hkn, List.take_length] at h; exact h)
      go_wp2_with fail
      go_ret
      exact ⟨-1, rfl, by decide, ⟨fun h => absurd h (by decide), fun h => by rw [He.out] at h; cases h⟩, HB.out⟩

set_option maxRecDepth 100000 in
set_option maxHeartbeats 1000000 in
theorem containsC_any (a : Option Addr) (cap : Nat) (xs : List Int) (fid : Nat) (c1 : Value) (p : Int → Bool) (w : World) (hx : SlI w w.heap.size a xs) (hl : xs.length ≤ 1048576)
    (hent : ∀ args w, (callFunc fid args).run Try.prog w = .ok (.enter fid args) w)
    (hcl : ∀ W x, Below w.heap.size w W → x ∈ xs → Calls Try.prog fid #[.int .i64 x, c1] W fun e w' => e = .returned (.bool (p x)) ∧ Below W.heap.size W w') :
    Calls Try.prog 217 #[.slice a xs.length cap, .func (.func fid) #[] #[c1]] w fun e w' => e = .returned (.bool (xs.any p)) ∧ Below w.heap.size w w' := by
  have HI := hid (idxC_any a cap xs fid c1 p w hx hl hent hcl)
  obtain ⟨c, hc⟩ : ∃ c, c = xs.any p := ⟨_, rfl⟩
  have Hc := hid hc
  rw [← hc]
  clear hc hx hcl hent
  go_enter Try.func217, Try.ntmps217
  go_wp2_with fail
  refine HI.out.mono ?_
  rintro e w' ⟨i, rfl, h1, h2, hB⟩
  have Hi := hid h2
  have HB := hid hB
  clear h1 h2 hB
  by_cases h0 : 0 ≤ i
  · have He : Hid (c = true) := hid (by rw [Hc.out]; exact Hi.out.1 h0)
    have hd : decide (0 ≤ i) = true := decide_eq_true h0
    go_wp2_with fail
    go_ret
    exact ⟨ret_bool He.out.symm, HB.out⟩
  · have He : Hid (c = false) := hid (by
      rw [Hc.out]
      rw [Bool.eq_false_iff]
      exact fun h => h0 (Hi.out.2 h))
    have hd : decide (0 ≤ i) = false := decide_eq_false h0
    go_wp2_with fail
    go_ret
    exact ⟨ret_bool He.out.symm, HB.out⟩

set_option maxRecDepth 100000 in
set_option maxHeartbeats 1000000 in
theorem has1_any (x : Nat) (hx : x < 64) (f : Nat) (hf : f < 64) (bm b off n cap : Nat) (w : World) (hm : w.cell? ⟨bm, 0, none⟩ = some (.slice (some ⟨b, off, none⟩) n cap)) (hn : 0 < n) (hc : w.cell? ⟨b, off, none⟩ = some (.int .i64 (f : Int))) :
    Calls Try.prog 218 #[.int .i64 (x : Int), .pointer (some ⟨bm, 0, none⟩)] w fun e w' => e = .returned (.bool (!decide (ones x = ones f))) ∧ Below w.heap.size w w' := by
  have hi1 : (0 : Int) < (n : Int) := by omega
  have hlt : 0 < n := hn
  go_enter Try.func218, Try.ntmps218
  go_wp2_with fail
  go_quiet (first
    | (go_at_call 125; exact quiet_of_eq (dim_any x _ hx))
    | (go_at_call 125; exact quiet_of_eq (dim_any f _ hf)))
  go_wp2_with fail
  go_ret
  refine ⟨ret_bool ?_, below_drewN _ _⟩
  rw [Bool.eq_iff_iff]
  simp
  omega

theorem pureB_any (L : List Int) : (!(L.any fun x => !decide (ones x.toNat = ones (L[0]?.getD 0).toNat))) = pureB L := by
  unfold pureB
  rw [List.not_any_eq_all_not]
  simp

set_option maxRecDepth 100000 in
set_option maxHeartbeats 1000000 in
/-- The kind's method. -/
theorem pureHas_any (a : Option Addr) (cap : Nat) (xs : List Int) (w : World) (hx : SlI w w.heap.size a xs) (hl : xs.length ≤ 1048576) (hr : ∀ x ∈ xs, 1 ≤ x ∧ x ≤ 63) :
    Calls Try.prog 159 #[.agg #[], .slice a xs.length cap] w fun e w' => e = .returned (.bool (pureB xs)) ∧ Below w.heap.size w w' := by
  obtain ⟨W, hW⟩ : ∃ W, W = (w.alloc (.cells #[] 171)).alloc (.cells #[.slice a xs.length cap] 22) := ⟨_, rfl⟩
  have hB0 : Below w.heap.size w W := by rw [hW]; exact ((Below.refl _ w).alloc (Nat.le_refl _) _).alloc (by simp) _
  have hk : W.cell? ⟨w.heap.size + 1, 0, none⟩ = some (.slice a xs.length cap) := by rw [hW]; simp [go_sem]
  have hlt : w.heap.size + 1 < W.heap.size := by rw [hW]; simp
  have HC := hid (containsC_any a cap xs 218 (.pointer (some ⟨w.heap.size + 1, 0, none⟩)) (fun x => !decide (ones x.toNat = ones (xs[0]?.getD 0).toNat)) W (hx.later hB0 hB0.size) hl
    (enters_of Try.func218 (by kernel_rfl) rfl) (by
      intro W' x hB hxm
      have h0 : 0 < xs.length := List.length_pos_of_mem hxm
      rcases hx with rfl | ⟨b, off, hb, rfl, hc⟩
      · simp at h0
      · have h1 := hr x hxm
        have h2 := hr _ (getD_mem h0)
        have hc0 : W'.cell? ⟨b, off, none⟩ = some (.int .i64 (xs[0]?.getD 0)) := (hB.cell (p := ⟨b, off, none⟩) (Nat.lt_of_lt_of_le hb hB0.size)).trans ((hB0.cell (p := ⟨b, off, none⟩) hb).trans (hc 0 h0))
        have h := has1_any x.toNat (by omega) (xs[0]?.getD 0).toNat (by omega) (w.heap.size + 1) b off xs.length cap W' ((hB.cell (p := ⟨w.heap.size + 1, 0, none⟩) hlt).trans hk) h0 (by rw [hc0, Int.toNat_of_nonneg (by omega)])
        rw [Int.toNat_of_nonneg (show 0 ≤ x by omega)] at h
        exact h))
  obtain ⟨c, hc⟩ : ∃ c, c = xs.any (fun x => !decide (ones x.toNat = ones (xs[0]?.getD 0).toNat)) := ⟨_, rfl⟩
  have hpc : Hid (pureB xs = !c) := hid (by rw [hc, ← pureB_any])
  rw [← hc] at HC
  have HW := hid hW
  have HB0 := hid hB0
  clear hc hx hr hW hB0 hk hlt
  rw [hpc.out]
  go_enter Try.func159, Try.ntmps159
  go_wp2_with fail
  rw [← HW.out]
  refine HC.out.mono ?_
  rintro e w1 ⟨rfl, hB1⟩
  cases c <;>
  · go_wp2_with fail
    go_ret
    exact ⟨rfl, HB0.out.trans (hB1.mono HB0.out.size)⟩

/-- What IsPure hands back. -/
noncomputable def isPureR (V : Int) (fs : List Int) : Bool × Int := if isCB V fs then (pureB (facetsL fs), 0) else (false, 1)

theorem bool_mono' {fn : FuncId} {args : Array Value} {w : World} {B : Nat} {P : Program} {R : Bool × Int} {b : Bool} {c : Int} (hR : R = (b, c))
    (h : Calls P fn args w fun e w' => e = .returned (.tuple #[.bool b, .int .i64 c]) ∧ Below B w w') :
    Calls P fn args w fun e w' => e = .returned (.tuple #[.bool R.1, .int .i64 R.2]) ∧ Below B w w' := by
  subst hR
  exact h

theorem facetsL_range {V : Int} {fs : List Int} (h : IsC V fs) : ∀ x ∈ facetsL fs, 1 ≤ x ∧ x ≤ 63 := fun x hx => h.range63 x (List.mem_filter.1 hx).1
theorem facetsL_le (fs : List Int) : (facetsL fs).length ≤ fs.length := List.length_filter_le _ _

theorem method_pure (w : World) : (method 375 171 (.agg #[]) "loop.example/g01348/impl.has").run Try.prog w = .ok (159, .agg #[]) w := by kernel_rfl



/-- The facets of a pure complex. -/
noncomputable def pureFacetsR (V : Int) (fs : List Int) : List Int × Int := if isCB V fs then (if pureB (facetsL fs) then (facetsL fs, 0) else ([], 5)) else ([], 1)

set_option maxRecDepth 100000 in
set_option maxHeartbeats 1000000 in
theorem pureFacets_any (V : Int) (a : Option Addr) (cap : Nat) (fs : List Int) (w : World) (hx : SlI w w.heap.size a fs) (hl : fs.length ≤ 1048576) :
    Calls Try.prog 82 #[.agg #[.int .i64 V, .slice a fs.length cap]] w fun e w' => ∃ v, e = .returned (.tuple #[v, .int .i64 (pureFacetsR V fs).2]) ∧ Res w w' v (pureFacetsR V fs).1 := by
  obtain ⟨W, hW⟩ : ∃ W, W = w.alloc (.cells #[.int .i64 V, .slice a fs.length cap] 30) := ⟨_, rfl⟩
  have hB0 : Below w.heap.size w W := by rw [hW]; exact (Below.refl _ w).alloc (Nat.le_refl _) _
  have HF := hid (implFacetsOf V a cap fs W (hx.later hB0 hB0.size) hl)
  have HW := hid hW
  have HB0 := hid hB0
  clear hx hW hB0
  by_cases hC : IsC V fs
  · have hR : facetsOfR V fs = (facetsL fs, 0) := by unfold facetsOfR; rw [isCB_true hC, if_pos rfl]
    rw [hR] at HF
    have Hr := hid (facetsL_range hC)
    have Hle := hid (facetsL_le fs)
    obtain ⟨b, hb⟩ : ∃ b, b = pureB (facetsL fs) := ⟨_, rfl⟩
    have hP : Hid (pureFacetsR V fs = if b then (facetsL fs, 0) else ([], 5)) := hid (by unfold pureFacetsR; rw [isCB_true hC, if_pos rfl, hb])
    have Hb := hid hb
    clear hR hC hb
    cases b
    · refine pair_mono' (hP.out.trans (if_neg (by decide))) ?_
      go_enter Try.func82, Try.ntmps82
      go_wp2_with fail
      rw [← HW.out]
      refine HF.out.mono ?_
      rintro e w1 ⟨v, rfl, hr⟩
      obtain ⟨_, av, cv, rfl, hs⟩ := ownsRow_slI hr.1
      have HB1 := hid (HB0.out.trans (hr.2.mono HB0.out.size))
      go_wp2_with fail
      refine (pureHas_any av cv (facetsL fs) w1 hs (by have := Hle.out; omega) Hr.out).mono ?_
      rw [← Hb.out]
      rintro e w2 ⟨rfl, hB2⟩
      have HB2 := hid (HB1.out.trans (hB2.mono HB1.out.size))
      clear hB2
      go_wp2_with fail
      go_ret2
      exact ⟨_, rfl, res_nil _ _ HB2.out⟩
    · refine pair_mono' (hP.out.trans (if_pos rfl)) ?_
      go_enter Try.func82, Try.ntmps82
      go_wp2_with fail
      rw [← HW.out]
      refine HF.out.mono ?_
      rintro e w1 ⟨v, rfl, hr⟩
      obtain ⟨_, av, cv, rfl, hs⟩ := ownsRow_slI hr.1
      have Hres := hid (hr.later HB0.out)
      go_wp2_with fail
      refine (pureHas_any av cv (facetsL fs) w1 hs (by have := Hle.out; omega) Hr.out).mono ?_
      rw [← Hb.out]
      rintro e w2 ⟨rfl, hB2⟩
      have Hres2 := hid (Hres.out.after hB2)
      clear hB2
      go_wp2_with fail
      go_ret2
      exact ⟨_, rfl, Hres2.out⟩
  · refine pair_mono' (show pureFacetsR V fs = ([], 1) by unfold pureFacetsR; rw [isCB_false hC, if_neg (by simp)]) ?_
    have hR : facetsOfR V fs = ([], 1) := by unfold facetsOfR; rw [isCB_false hC, if_neg (by simp)]
    rw [hR] at HF
    clear hR hC
    go_enter Try.func82, Try.ntmps82
    go_wp2_with fail
    rw [← HW.out]
    refine HF.out.mono ?_
    rintro e w1 ⟨v, rfl, hr⟩
    have Hres := hid (hr.later HB0.out)
    go_wp2_with fail
    go_ret2
    exact ⟨_, rfl, Hres.out⟩

end Go.Proofs.Ytgefpllmelpahaa

/-! Pure complexes: the model's. -/
namespace Go.Proofs.Ytgefpllmelpahaa
open Go.RowKit

set_option maxRecDepth 100000 in
set_option maxHeartbeats 2000000 in
theorem pureS_any (V : Int) (a : Option Addr) (cap : Nat) (fs : List Int) (w : World) (hx : SlI w w.heap.size a fs) (hl : fs.length ≤ 1048576) (hC : IsC V fs) :
    Calls Try.prog 79 #[.agg #[.int .i64 V, .slice a fs.length cap]] w fun e w' => e = .returned (.bool (pureB (facetsL fs))) ∧ Below w.heap.size w w' := by
  obtain ⟨W, hW⟩ : ∃ W, W = w.alloc (.cells #[.int .i64 V, .slice a fs.length cap] 30) := ⟨_, rfl⟩
  have hB0 : Below w.heap.size w W := by rw [hW]; exact (Below.refl _ w).alloc (Nat.le_refl _) _
  have HF := hid (facets_any V a cap fs W (hx.later hB0 hB0.size) hl hC.range63)
  have HW := hid hW
  have HB0 := hid hB0
  have Hr := hid (facetsL_range hC)
  have Hle := hid (facetsL_le fs)
  obtain ⟨L, hL⟩ : ∃ L, L = facetsL fs := ⟨_, rfl⟩
  rw [← hL] at HF Hr Hle
  rw [← hL]
  clear hx hW hB0 hC hL
  have hL63 : L.length ≤ 1048576 := by have := Hle.out; omega
  go_enter Try.func79, Try.ntmps79
  go_wp2_with fail
  rw [← HW.out]
  refine HF.out.mono ?_
  rintro e w1 ⟨v, rfl, hr⟩
  obtain ⟨_, av, cv, rfl, hs⟩ := ownsRow_slI hr.1
  have HB1 := hid (HB0.out.trans (hr.2.mono HB0.out.size))
  have Hs := hid hs
  clear hr hs
  go_wp2_with fail
  go_loopw [4] (fun i wr => ∃ k : Nat, k ≤ L.length ∧ i = .int .i64 k ∧ Hid ((L.take k).all (fun x => decide (ones x.toNat = ones (L[0]?.getD 0).toNat)) = true) ∧ Hid (Below w1.heap.size w1 wr)) (fun i _ => L.length - (RowKit.intOf i).toNat)
  case atStart => exact ⟨0, Nat.zero_le _, rfl, hid (by simp), hid (Below.refl _ _)⟩
  case round =>
    obtain ⟨k, hk, rfl, Hk, HB⟩ := hrel
    by_cases hlt : k < L.length
    · obtain ⟨b, off, hb, rfl, hc⟩ : ∃ b off, b < wr.heap.size ∧ av = some ⟨b, off, none⟩ ∧ ∀ i, i < L.length → wr.cell? ⟨b, off + i, none⟩ = some (.int .i64 (L[i]?.getD 0)) := by
        rcases Hs.out.later HB.out HB.out.size with h | h
        · rw [h] at hlt; simp at hlt
        · exact h
      obtain ⟨x, hx⟩ : ∃ x : Nat, (x : Int) = L[k]?.getD 0 := ⟨(L[k]?.getD 0).toNat, by have := Hr.out _ (getD_mem hlt); omega⟩
      obtain ⟨f, hf⟩ : ∃ f : Nat, (f : Int) = L[0]?.getD 0 := ⟨(L[0]?.getD 0).toNat, by have := Hr.out _ (getD_mem (show 0 < L.length by omega)); omega⟩
      have hx64 : x < 64 := by have := Hr.out _ (getD_mem hlt); omega
      have hf64 : f < 64 := by have := Hr.out _ (getD_mem (show 0 < L.length by omega)); omega
      have hck : wr.cell? ⟨b, off + k, none⟩ = some (.int .i64 (x : Int)) := by rw [hx]; exact hc k hlt
      have hc0 : wr.cell? ⟨b, off, none⟩ = some (.int .i64 (f : Int)) := by rw [hf]; exact hc 0 (by omega)
      have hi0 : (0 : Int) ≤ (k : Int) := by omega
      have hi1 : (k : Int) < (L.length : Int) := by omega
      have hi2 : (0 : Int) < (L.length : Int) := by omega
      have hfn : (L[0]?.getD 0).toNat = f := by omega
      have Hsn : Hid (∀ c, decide (ones x = ones f) = c → (L.take (k + 1)).all (fun x => decide (ones x.toNat = ones (L[0]?.getD 0).toNat)) = c) := hid (fun c hcc => by
        rw [take_snoc hlt, List.all_append, Hk.out, ← hx, hfn]; simpa using hcc)
      have Hall : Hid (decide (ones x = ones f) = false → pureB L = false) := hid (fun hcc => by
        unfold pureB
        rw [List.all_eq_false]
        exact ⟨_, getD_mem hlt, by rw [← hx, hfn]; simpa using hcc⟩)
      clear hx hf hc hfn
      by_cases he : ones x = ones f
      · have hd : ((ones x : Int) != (ones f : Int)) = false := by simp; omega
        have He := hid (Hsn.out true (decide_eq_true he))
        clear he Hsn Hall
        go_wp2_with fail
        go_quiet ((go_at_call 130; exact quiet_of_eq (ones_any _ _ (by assumption))))
        go_wp2_with fail
        go_roundw
        case rel => exact ⟨k + 1, by omega, by go_num, He, hid ⟨HB.out.os, HB.out.tape, HB.out.output, HB.out.size, HB.out.block⟩⟩
        case measure => simp [RowKit.intOf]; omega
      · have hd : ((ones x : Int) != (ones f : Int)) = true := by simp; omega
        have He := hid (Hall.out (decide_eq_false he))
        clear he Hsn Hall
        go_wp2_with fail
        go_quiet ((go_at_call 130; exact quiet_of_eq (ones_any _ _ (by assumption))))
        go_wp2_with fail
        go_ret
        exact ⟨ret_bool He.out.symm, HB1.out.trans (Below.mono ⟨HB.out.os, HB.out.tape, HB.out.output, HB.out.size, HB.out.block⟩ HB1.out.size)⟩
    · have He : Hid (pureB L = true) := hid (by have h := Hk.out; rw [show k = L.length by omega, List.take_length] at h; exact h)
      go_wp2_with fail
      go_ret
      exact ⟨ret_bool He.out.symm, HB1.out.trans (HB.out.mono HB1.out.size)⟩


end Go.Proofs.Ytgefpllmelpahaa

/-! l07Shelling, the model's. -/
namespace Go.Proofs.Ytgefpllmelpahaa
open Go.RowKit Go.Shelf

/-- The k-th of a list is a facet that is not ahead of it. -/
def shK (F os : List Int) (k : Nat) : Bool := decide (os[k]?.getD 0 ∈ F) && (os.take k).all (fun x => decide (x ≠ os[k]?.getD 0))
def shOk (F os : List Int) (k : Nat) : Bool := (List.range k).all fun i => shK F os i && shG (os[i]?.getD 0) (os.take i)
/-- Is it a shelling? -/
def shB (F os : List Int) : Bool := decide (os.length = F.length) && shOk F os os.length
/-- The restrictions of the first k. -/
def shL (os : List Int) (k : Nat) : List Int := (List.range k).map fun i => shR (os[i]?.getD 0) (os.take i) 6
theorem shOk_succ (F os : List Int) (k : Nat) : shOk F os (k + 1) = (shOk F os k && (shK F os k && shG (os[k]?.getD 0) (os.take k))) := by unfold shOk; rw [List.range_succ, List.all_append]; simp
theorem shOk_no {F os : List Int} {n k : Nat} (hk : k < n) (h : (shK F os k && shG (os[k]?.getD 0) (os.take k)) = false) : shOk F os n = false := by
  unfold shOk
  rw [List.all_eq_false]
  exact ⟨k, by simpa using hk, by rw [h]; decide⟩
theorem shL_succ (os : List Int) (k : Nat) : shL os (k + 1) = shL os k ++ [shR (os[k]?.getD 0) (os.take k) 6] := by unfold shL; rw [List.range_succ, List.map_append]; rfl
theorem shL_len (os : List Int) (k : Nat) : (shL os k).length = k := by simp [shL]
theorem quiet_of_eq2 {P : Program} {f : FuncId} {args : Array Value} {w : World} {m n : Nat} {v : Value}
    (h : Calls P f args (w.drewN (m + n)) fun e w' => e = .returned v ∧ w.drewN (m + n) = w') : Calls P f args (w.drewN (m + n)) fun e w'' => e = .returned v ∧ ∃ k, w'' = w.drewN (m + k) :=
  h.mono fun _ _ ⟨he, hm⟩ => ⟨he, n, hm.symm⟩
theorem slI_take {w : World} {B : Nat} {a : Option Addr} {xs : List Int} (h : SlI w B a xs) (k : Nat) : SlI w B a (xs.take k) := by
  rcases h with rfl | ⟨b, off, hb, ha, hc⟩
  · left; simp
  · right
    refine ⟨b, off, hb, ha, fun i hi => ?_⟩
    simp at hi
    rw [hc i (by omega), List.getElem?_take_of_lt (by omega)]


end Go.Proofs.Ytgefpllmelpahaa

/-! properParts. -/
namespace Go.Proofs.Ytgefpllmelpahaa
open Go.RowKit Go.Shelf

/-- The parts of f, ascending. -/
def srtP (f : Nat) : List Int := ((subsF f).map fun x => (x.val : Int)).mergeSort fun x y => decide (x ≤ y)

set_option maxRecDepth 100000 in
set_option maxHeartbeats 1000000 in
theorem proper_any (f : Nat) (h1 : 1 ≤ f) (hf : f < 64) (w : World) :
    Calls Try.prog 76 #[.int .i64 (f : Int)] w fun e w' => ∃ a c, e = .returned (.slice a ((srtP f).length - 1) c) ∧ SlI w' w'.heap.size a ((srtP f).take ((srtP f).length - 1)) ∧ Below w.heap.size w w' := by
  have hlen : (srtP f).length ≤ 63 := by
    have := subs_len' ⟨f, hf⟩
    rw [← subsF_map hf, List.length_map] at this
    simpa [srtP] using this
  have hpos : 0 < (srtP f).length := by
    have hm : (⟨f, hf⟩ : Fin 64) ∈ subsF f := (mem_subsF hf).2 ⟨by simp only; omega, by simp⟩
    have := List.length_pos_of_mem hm
    simpa [srtP] using this
  have HS := hid (sortedParts_any f hf w)
  rw [show (((subsF f).map fun x => (x.val : Int)).mergeSort fun x y => decide (x ≤ y)) = srtP f from rfl] at HS
  obtain ⟨ss, hss⟩ : ∃ ss, ss = srtP f := ⟨_, rfl⟩
  rw [← hss] at HS hlen hpos
  rw [← hss]
  obtain ⟨W, hW⟩ : ∃ W, W = w.alloc (.cells #[.int .i64 (f : Int)] 2) := ⟨_, rfl⟩
  have HB0 := hid (show Below w.heap.size w W by rw [hW]; exact (Below.refl _ w).alloc (Nat.le_refl _) _)
  have HP := hid (callsIn_wide.1 (parts_in Fence.wide 5 trivial rfl (f : Int) w))
  rw [← hW] at HS HP
  clear hW hss
  go_enter Try.func76, Try.ntmps76
  go_wp2_with fail
  refine HP.out.mono ?_
  rintro e w1 ⟨rfl, rfl⟩
  go_wp2_with fail
  refine HS.out.mono ?_
  rintro e w2 ⟨v2, rfl, hr2⟩
  have HB2 := hid (HB0.out.trans (Below.mono (w := w1) hr2.2 HB0.out.size))
  rcases hr2.1.2 with ⟨_, hz⟩ | ⟨g, cp, cur, rfl, hbase, hgb, r1, r2, r3, r4⟩
  · exact absurd hz (by omega)
  · obtain ⟨_, a, c, he, hs⟩ := ownsRow_slI hr2.1
    injection he with e1 e2 e3
    subst e1
    have Hs := hid (slI_take hs (ss.length - 1))
    have hk0 : (0 : Int) ≤ (ss.length : Int) - 1 := by omega
    have hk1 : (ss.length : Int) - 1 ≤ (cp : Int) := by omega
    have hk2 : IntKind.i64.wrap ((ss.length : Int) - 1) = (ss.length : Int) - 1 := IntWalk.i64_in _ (by omega)
    have hk3 : ((ss.length : Int) - 1).toNat = ss.length - 1 := by omega
    clear hr2 hs r1 r2 r3 r4 hgb hbase e2 e3
    go_wp2_with fail
    go_ret
    exact ⟨_, _, rfl, Hs.out, HB2.out⟩

end Go.Proofs.Ytgefpllmelpahaa

/-! Joins: copies of lists. -/
namespace Go.Proofs.Ytgefpllmelpahaa
open Go.RowKit

/-- 'append([]int64{}, list...)' of a list that lies in memory. -/
theorem append_all {w : World} {ops : Array Oper} {rest : List Oper} {o : Oper} {a : Act} {Q : Exit → Act → World → Prop} (hgd : o.guard = none) {s y : Operand}
    (ho : o.op = .call { callee := .builtin .append, args := #[s, y], argTypes := #[22, 22] })
    {b off cap : Nat} {xs : List Int} (hl : xs.length ≤ 1048576) (hc : ∀ i, i < xs.length → w.cell? ⟨b, off + i, none⟩ = some (.int .i64 (xs[i]?.getD 0)))
    (hs : a.eval s = .slice (some ⟨w.heap.size, 0, none⟩) 0 0) (hy : a.eval y = .slice (some ⟨b, off, none⟩) xs.length cap)
    (hK : ∀ v' w', w'.ownsRow w.heap.size 2 1 v' xs.length (xs.map (Value.int .i64)) → Below w.heap.size w w' → (v' = .slice none 0 0 → False) → wpList Try.prog ops Q rest (a.put o.dst v') w') :
    wpList Try.prog ops Q (o :: rest) a (w.alloc (.cells #[] 2)) := by
  obtain ⟨i0, hi, hz0, hz1, hz2⟩ := info_parts info_i64
  refine wpList_append_own _ hgd s y 22 ho w.heap.size 2 i0 (.int .i64 0) 1 8 Try.underlying22 hi hz0 hz1 hz2 rfl (by decide) (.slice (some ⟨w.heap.size, 0, none⟩) 0 0) 0 [] hs (World.ownsRow_made w #[] 0 (Nat.le_refl _) (Nat.zero_le _) rfl) ⟨b, off, none⟩ xs.length cap (xs.map (Value.int .i64)) hy (by simp) ?_ (fun u hu => by obtain ⟨x, _, rfl⟩ := List.mem_map.1 hu; rfl) (by unfold maxLen; omega) (by omega) (by simp) ?_
  · intro j u hj
    have hjn : j < xs.length := by
      have := (List.getElem?_eq_some_iff.1 hj).1
      simpa using this
    rw [Addr.add_lit]
    refine (World.cell?_alloc_some w _ _ (show (w.cell? _).isSome = true by rw [hc j hjn]; rfl)).trans ?_
    rw [hc j hjn, ← hj]
    simp [List.getElem?_eq_getElem hjn]
  · intro v' w1 hown hgrow hnil
    refine hK v' w1 (by simpa using hown) (((Below.refl _ w).alloc (Nat.le_refl _) _).grown hgrow (by simp) (by intro k hk; simp [Value.ownBlock] at hk; omega)) (fun e => ?_)
    have := (hnil.1 e).1
    simp at this

theorem own_any (a0 : Option Addr) (cap : Nat) (xs : List Int) (w : World) (hx : SlI w w.heap.size a0 xs) (hl : xs.length ≤ 1048576) :
    Calls Try.prog 157 #[.slice a0 xs.length cap] w fun e w' => ∃ v, e = .returned v ∧ Res w w' v xs := by
  rcases hx with rfl | ⟨b, off, hb, rfl, hc⟩
  · have hr : Res w (w.alloc (.cells #[] 2)) (.slice (some ⟨w.heap.size, 0, none⟩) 0 0) [] := ⟨World.ownsRow_made w #[] 0 (Nat.le_refl _) (Nat.zero_le _) rfl, (Below.refl _ w).alloc (Nat.le_refl _) _⟩
    have Hr := hid hr
    clear hr
    cases a0 with
    | none =>
      go_enter Try.func157, Try.ntmps157
      go_wp2_with fail
      go_ret
      exact ⟨_, rfl, Hr.out⟩
    | some ad =>
      go_enter Try.func157, Try.ntmps157
      go_wp2_with fail
      go_ret
      exact ⟨_, rfl, Hr.out⟩
  · have Hc := hid hc
    clear hc
    go_enter Try.func157, Try.ntmps157
    go_wp2_with (at_builtin; refine append_all rfl rfl hl Hc.out rfl rfl ?_; intro v' w1 hown hB _)
    go_ret
    exact ⟨v', rfl, hown, hB⟩

/-- slices.Clone: nil of nil; else a copy. -/
theorem clone_any (a0 : Option Addr) (cap : Nat) (xs : List Int) (w : World) (hx : SlI w w.heap.size a0 xs) (hl : xs.length ≤ 1048576) :
    Calls Try.prog 166 #[.slice a0 xs.length cap] w fun e w' => ∃ v, e = .returned v ∧ Res w w' v xs := by
  have q22 : ∀ (w : World) (a : Option Addr) (n c n' c' : Nat), (binOp .eql 22 (.slice a n c) (.slice none n' c')).run Try.prog w = .ok (.bool a.isNone) w := fun w a n c n' c' => Lib.run_eql_slice_nil w _ _ a n c n' c' Try.underlying22
  rcases hx with rfl | ⟨b, off, hb, rfl, hc⟩
  · have hr : Res w (w.alloc (.cells #[] 2)) (.slice (some ⟨w.heap.size, 0, none⟩) 0 0) [] := ⟨World.ownsRow_made w #[] 0 (Nat.le_refl _) (Nat.zero_le _) rfl, (Below.refl _ w).alloc (Nat.le_refl _) _⟩
    have hr0 : Res w w (.slice none 0 0) [] := res_nil _ _ (Below.refl _ _)
    have Hr := hid hr
    have Hr0 := hid hr0
    clear hr hr0
    cases a0 with
    | none =>
      go_enter Try.func166, Try.ntmps166
      go_wp2_with fail
      go_ret
      exact ⟨_, rfl, Hr0.out⟩
    | some ad =>
      go_enter Try.func166, Try.ntmps166
      go_wp2_with fail
      go_ret
      exact ⟨_, rfl, Hr.out⟩
  · have Hc := hid hc
    clear hc
    go_enter Try.func166, Try.ntmps166
    go_wp2_with (at_builtin; refine append_all rfl rfl hl Hc.out rfl rfl ?_; intro v' w1 hown hB _)
    go_ret
    exact ⟨v', rfl, hown, hB⟩

/-- step_append_new in a plain region. -/
theorem plain_append_new {W : World} {H : Nat} {ops : Array Oper} {rest : List Oper} {o : Oper} {a : Act} {Q : Exit → Act → World → Prop} (hgd : o.guard = none) {s y : Operand}
    (ho : o.op = .call { callee := .builtin .append, args := #[s, y], argTypes := #[22, 22] })
    {base : Nat} {v : Value} {xs : List Int} {x : Int} (hown : W.ownsRow base 2 1 v xs.length (xs.map (Value.int .i64))) (hH : W.heap.size = H) (hbase : base ≤ H) (hl : xs.length ≤ 1099511627776)
    (hs : a.eval s = v) (hy : a.eval y = .slice (some ⟨H, 0, none⟩) 1 1)
    (hK : ∀ g cap w', w'.ownsRow base 2 1 (.slice (some ⟨g, 0, none⟩) (xs ++ [x]).length cap) (xs ++ [x]).length ((xs ++ [x]).map (Value.int .i64)) → (W.alloc (.cells #[.int .i64 x] 2)).grownBy w' v.ownBlock →
      wpList Try.prog ops Q rest (a.put o.dst (.slice (some ⟨g, 0, none⟩) (xs ++ [x]).length cap)) w') :
    wpList Try.prog ops Q (o :: rest) a (W.alloc (.cells #[.int .i64 x] 2)) := by
  subst hH
  obtain ⟨i0, hi, hz0, hz1, hz2⟩ := info_parts info_i64
  refine wpList_append_lies (W.alloc (.cells #[.int .i64 x] 2)) hgd s y 22 ho base 2 i0 (.int .i64 0) 1 8 Try.underlying22 hi hz0 hz1 hz2 rfl (by decide) v _ _ hs (hown.alloc _) ⟨W.heap.size, 0, none⟩ 1 1 [.int .i64 x] hy rfl (cell_one_new _ _ _) (by simp [Value.oneCell']) (by decide) (by unfold maxLen; omega) (by omega) (by simp; omega) _ rfl ?_
  intro g cap w1 hown1 hg _ _
  have e : (xs ++ [x]).length = xs.length + 1 := by simp
  have h := hK g cap w1 (by rw [e]; simpa using hown1) hg
  rw [e] at h
  exact h

end Go.Proofs.Ytgefpllmelpahaa

/-! Duals: the model's. -/
namespace Go.Proofs.Ytgefpllmelpahaa
open Go.RowKit

/-- Is a set in the dual? -/
def dualP (V : Int) (fs : List Int) : Int → Bool := fun x => !decide ((allV V - x) ∈ fs)
/-- The dual's faces. -/
def dualL (V : Int) (fs : List Int) : List Int := pickTo (dualP V fs) ((allV V).toNat - 1)

/-- What DualOf hands back. -/
noncomputable def dualOfR (V : Int) (xs : List Int) : Int × List Int × Int := if isCB V xs then (V, dualL V xs, 0) else (0, [], 1)

theorem dualOfR_len (V : Int) (xs : List Int) (_ : xs.length ≤ 1048576) : (dualOfR V xs).2.1.length ≤ 1048576 := by
  unfold dualOfR
  split
  · next h =>
    have h6 := (isCB_iff.1 h).hi
    have := pickTo_len (dualP V xs) ((allV V).toNat - 1)
    have := allV_le h6
    show (dualL V xs).length ≤ 1048576
    unfold dualL
    omega
  · simp

theorem allV_nat {V : Int} (h1 : 1 ≤ V) (h2 : V ≤ 6) : ∃ A : Nat, (A : Int) = allV V ∧ 1 ≤ A ∧ A ≤ 63 := by
  rcases (show V = 1 ∨ V = 2 ∨ V = 3 ∨ V = 4 ∨ V = 5 ∨ V = 6 by omega) with rfl | rfl | rfl | rfl | rfl | rfl
  · exact ⟨1, rfl, by decide, by decide⟩
  · exact ⟨3, rfl, by decide, by decide⟩
  · exact ⟨7, rfl, by decide, by decide⟩
  · exact ⟨15, rfl, by decide, by decide⟩
  · exact ⟨31, rfl, by decide, by decide⟩
  · exact ⟨63, rfl, by decide, by decide⟩

theorem outW_start2 {w W : World} {V : Int} {sl : Value} (hB : Below w.heap.size w W) (hk : W.heap[w.heap.size]? = some (.cells #[.int .i64 V, sl] 30 (0, 0)))
    (hr : W.heap[w.heap.size + 1]? = some (.cells #[.int .i64 0, .slice none 0 0] 30 (0, 0))) :
    OutW w ((W.alloc (.cells #[.int .i64 V, .slice (some ⟨W.heap.size + 1, 0, none⟩) 0 0] 30)).alloc (.cells #[] 2)) V sl W.heap.size [] (some ⟨W.heap.size + 1, 0, none⟩) 0 where
  below := (hB.alloc hB.size _).alloc (by have := hB.size; simp; omega) _
  kbox := (Below.heap_alloc _ _ _ (by have := lt_get hk; simp; omega)).trans ((Below.heap_alloc _ _ _ (lt_get hk)).trans hk)
  res := (Below.heap_alloc _ _ _ (by have := lt_get hr; simp; omega)).trans ((Below.heap_alloc _ _ _ (lt_get hr)).trans hr)
  out := (Below.heap_alloc _ _ _ (by simp)).trans (heap_alloc_new W _)
  own := by
    have h := World.ownsRow_made (base := w.heap.size) (e := 2) (size := 1) (W.alloc (.cells #[.int .i64 V, .slice (some ⟨W.heap.size + 1, 0, none⟩) 0 0] 30)) #[] 0 (by have := hB.size; simp; omega) (by simp [maxLen]) rfl
    rw [World.size_alloc] at h
    exact h
  bo := by have := lt_get hr; omega

/-- .. where nothing is put in it yet. -/
theorem outW_start0 {w W : World} {V : Int} {sl : Value} (hB : Below w.heap.size w W) (hk : W.heap[w.heap.size]? = some (.cells #[.int .i64 V, sl] 30 (0, 0)))
    (hr : W.heap[w.heap.size + 1]? = some (.cells #[.int .i64 0, .slice none 0 0] 30 (0, 0))) :
    OutW w (W.alloc (.cells #[.int .i64 V, .slice none 0 0] 30)) V sl W.heap.size [] none 0 where
  below := hB.alloc hB.size _
  kbox := (Below.heap_alloc _ _ _ (lt_get hk)).trans hk
  res := (Below.heap_alloc _ _ _ (lt_get hr)).trans hr
  out := heap_alloc_new W _
  own := World.ownsRow_nil _ _ _ _
  bo := by have := lt_get hr; omega



end Go.Proofs.Ytgefpllmelpahaa

/-! Duals: the program's. -/
namespace Go.Proofs.Ytgefpllmelpahaa
open Go.RowKit

theorem andNot_all : ∀ v : Fin 7, ∀ s : Fin 64, s.val ≤ 2 ^ v.val - 1 → bits BinOp.andNot IntKind.i64 ((2 ^ v.val - 1 : Nat) : Int) (s.val : Int) = ((2 ^ v.val - 1 - s.val : Nat) : Int) := by decide +kernel

theorem andNot_allV {V : Int} {A k : Nat} (h1 : 1 ≤ V) (h2 : V ≤ 6) (hA : (A : Int) = allV V) (hk : k ≤ A) : bits BinOp.andNot IntKind.i64 (A : Int) (k : Int) = (A : Int) - (k : Int) := by
  have hp : A = 2 ^ V.toNat - 1 := by
    have e : ((2 ^ V.toNat : Nat) : Int) = 2 ^ V.toNat := by simp
    have := Nat.two_pow_pos V.toNat
    unfold allV at hA
    rw [← e] at hA
    omega
  have hA63 : A ≤ 63 := by have := allV_le h2; omega
  have h := andNot_all ⟨V.toNat, by omega⟩ ⟨k, by omega⟩ (by simp only; omega)
  simp only at h
  rw [hp, h]
  omega


end Go.Proofs.Ytgefpllmelpahaa

/-! Missing faces: the program's. -/
namespace Go.Proofs.Ytgefpllmelpahaa
open Go.RowKit Go.Shelf

attribute [local go_sem] Oper.semAt_some

/-- Is a set a missing face? -/
def missB (fs : List Int) (f : Nat) : Bool := (sidesF f).all (fun s => decide (((s.val : Nat) : Int) ∈ fs)) && !decide ((f : Int) ∈ fs)
/-- The missing faces. -/
def missL (V : Int) (fs : List Int) : List Int := pickTo (fun x => missB fs x.toNat) (allV V).toNat

/-- What the walk of isMissing keeps of the world. -/
structure MsW (w W : World) (V : Int) (sl : Value) : Prop where
  below : Below w.heap.size w W
  kbox : W.heap[w.heap.size]? = some (.cells #[.int .i64 V, sl] 30 (0, 0))
  res : W.heap[w.heap.size + 1]? = some (.cells #[.bool false] 4 (0, 0))

theorem MsW.size {w W : World} {V : Int} {sl : Value} (h : MsW w W V sl) : w.heap.size + 2 ≤ W.heap.size := by
  have := lt_of_get h.res; omega

theorem MsW.turn {w W W' : World} {V : Int} {sl : Value} (h : MsW w W V sl) {row : Option Nat} (hg : W.grownBy W' row) (hr : ∀ r, row = some r → w.heap.size + 2 ≤ r) : MsW w W' V sl where
  below := h.below.grown hg h.below.size (fun k e => by have := hr k e; omega)
  kbox := (hg.block _ (lt_of_get h.kbox) (fun e => by have := hr _ e.symm; omega)).trans h.kbox
  res := (hg.block _ (lt_of_get h.res) (fun e => by have := hr _ e.symm; omega)).trans h.res

theorem MsW.drewN {w W : World} {V : Int} {sl : Value} (h : MsW w W V sl) (n : Nat) : MsW w (W.drewN n) V sl :=
  ⟨⟨h.below.os, h.below.tape, h.below.output, h.below.size, h.below.block⟩, h.kbox, h.res⟩

theorem msw_own {β : Type} {w : World} {V : Int} {sl : Value} {B : Nat} (hB : w.heap.size + 2 ≤ B) : OwnFrom B (fun (_ : β) W => MsW w W V sl) :=
  fun _ _ _ _ hs hg hr => hs.turn hg (fun r e => by have := (hr r e).1; omega)

theorem MsW.store {w W : World} {V : Int} {sl : Value} (h : MsW w W V sl) : MsW w (W.setCell ⟨w.heap.size + 1, 0, none⟩ (.bool false)) V sl where
  below := h.below.setCell (p := ⟨w.heap.size + 1, 0, none⟩) (by simp) _
  kbox := (Below.heap_setCell _ _ _ _ (by simp)).trans h.kbox
  res := by
    have := h.res
    simp only [World.setCell, Array.getElem?_modify, this]
    simp

/-- isMissing's end: the answer lies in its block, the marks are taken off. -/
theorem ms_end {w W : World} {V : Int} {sl : Value} (h : MsW w W V sl) {D : Nat} (hD : w.heap.size + 2 ≤ D) (hK : W.heap[D]? = some (.deferred (some []))) (b c : Bool) (hb : b = c) {tmps : Array Value} (ht : tmps[4]?.getD undef = .pointer (some ⟨w.heap.size + 1, 0, none⟩)) :
    LeavesInM Fence.wide 10 Try.prog Try.f149 tmps (fun e w' => e = .returned (.bool b) ∧ Below w.heap.size w w') (marks [D]) .returning (W.setCell ⟨w.heap.size + 1, 0, none⟩ (.bool c)) := by
  have hs := h.size
  refine leaves_marks (by simp) [D] _ (by simp) (fun E hE => by
    simp at hE
    subst hE
    exact (Below.heap_setCell _ _ _ _ (by simp <;> omega)).trans hK) (fun w' hw' => ?_)
  have hres : w'.cell? ⟨w.heap.size + 1, 0, none⟩ = some (.bool c) := by
    rw [World.cell?_of_block (hw'.block _ (fun hm => by simp at hm; omega))]
    exact World.cell?_setCell_same' _ _ _ (by rw [(box_cell h.res).1]; rfl)
  have hB : Below w.heap.size w w' := (h.below.setCell (p := ⟨w.heap.size + 1, 0, none⟩) (by simp) _).trans (hw'.below (fun E hE => by simp at hE; omega))
  refine ⟨.bool c, ?_, by rw [hb], hB⟩
  simp [results, Try.results149, go_sem, ht, hres]

theorem ms_end0 {w W : World} {V : Int} {sl : Value} (h : MsW w W V sl) {D : Nat} (hD : w.heap.size + 2 ≤ D) (hK : W.heap[D]? = some (.deferred (some []))) (b : Bool) (hb : b = false) {tmps : Array Value} (ht : tmps[4]?.getD undef = .pointer (some ⟨w.heap.size + 1, 0, none⟩)) :
    LeavesInM Fence.wide 10 Try.prog Try.f149 tmps (fun e w' => e = .returned (.bool b) ∧ Below w.heap.size w w') (marks [D]) .returning W := by
  refine leaves_marks (by simp) [D] _ (by simp) (fun E hE => by
    simp at hE
    subst hE
    exact hK) (fun w' hw' => ?_)
  have hres : w'.cell? ⟨w.heap.size + 1, 0, none⟩ = some (.bool false) := by
    rw [World.cell?_of_block (w := W) (hw'.block _ (fun hm => by simp at hm; omega))]
    exact (box_cell h.res).1
  have hB : Below w.heap.size w w' := h.below.trans (hw'.below (fun E hE => by simp at hE; omega))
  refine ⟨.bool false, ?_, by rw [hb], hB⟩
  simp [results, Try.results149, go_sem, ht, hres]

set_option maxRecDepth 100000 in
set_option maxHeartbeats 4000000 in
theorem missing_in (V : Int) (a : Option Addr) (cap : Nat) (fs : List Int) (f : Nat) (w : World) (hx : SlI w w.heap.size a fs) (hl : fs.length ≤ 1048576) (hf : f < 64) :
    CallsIn Fence.wide 10 Try.prog 149 #[.agg #[.int .i64 V, .slice a fs.length cap], .int .i64 (f : Int)] w fun e w' => e = .returned (.bool (missB fs f)) ∧ Below w.heap.size w w' := by
  have hms : MsW w ((w.alloc (.cells #[.int .i64 V, .slice a fs.length cap] 30)).alloc (.cells #[.bool false] 4)) V (.slice a fs.length cap) := {
      below := ((Below.refl _ w).alloc (Nat.le_refl _) _).alloc (by simp) _
      kbox := (Below.heap_alloc _ _ _ (by simp)).trans (heap_alloc_new _ _)
      res := new2 _ _ _ }
  have Hms := hid hms
  have Hx := hid hx
  clear hms hx
  refine callsIn_of_wp_marks Try.func149 rfl trivial ?_ rfl
  simp only [Try.ntmps149, List.size_toArray, List.length_cons, List.length_nil, Nat.reduceAdd, Nat.reduceSub, Array.replicate_succ, Array.replicate_zero, List.push_toArray, List.append_toArray, List.nil_append, List.cons_append]
  gi_wp2_with (first
    | (refine ⟨trivial, ?_⟩; gi_at_call 154; refine (sides_in _ _ _).mono ?_; rintro e w' ⟨rfl, rfl⟩))
  obtain ⟨W0, hW0⟩ : ∃ W0, W0 = (w.alloc (.cells #[.int .i64 V, .slice a fs.length cap] 30)).alloc (.cells #[.bool false] 4) := ⟨_, rfl⟩
  rw [← hW0] at Hms ⊢
  have hsz0 : W0.heap.size = w.heap.size + 1 + 1 := by rw [hW0]; simp
  clear hW0
  have hW2 : MsW w (W0.alloc (.cells #[.int .i64 (f : Int)] 2)) V (.slice a fs.length cap) := Hms.out.turn (World.grownBy_alloc W0 _ none) (fun r e => by cases e)
  have hsb : (W0.alloc (.cells #[.int .i64 (f : Int)] 2)).heap[W0.heap.size]? = some (.cells #[.int .i64 (f : Int)] 2 (0, 0)) := heap_alloc_new _ _
  rw [hsz0] at hsb
  refine wpIn_rangeFunc_ownG rfl (by decide) (gf := 215) (lb := #[.pointer (some ⟨w.heap.size + 1 + 1, 0, none⟩)]) rfl trivial (enters_of Try.func215 (by kernel_rfl) rfl)
    (sides_stops 9 (by decide) (w.heap.size + 1 + 1) f hf _ (by simp; omega) hsb) keepB_t (keepB_b (by simp; omega)) (Below.refl _ _) (fun _ => rfl)
    (fun pre W => (∀ p ∈ pre, ((p.val : Nat) : Int) ∈ fs) ∧ MsW w W V (.slice a fs.length cap))
    (fun c pre W => (c = .ret ∧ ∃ p ∈ pre, ((p.val : Nat) : Int) ∉ fs) ∧ MsW w W V (.slice a fs.length cap))
    (OwnFrom.and (ownFrom_pure _ _) (msw_own (by simp; omega))) (fun c => OwnFrom.and (ownFrom_pure _ _) (msw_own (by simp; omega)))
    ⟨by simp, hW2⟩
    (fun x => { tmps := #[.agg #[.int .i64 V, .slice a fs.length cap], .int .i64 f, .pointer (some ⟨w.heap.size, 0, none⟩), undef, .pointer (some ⟨w.heap.size + 1, 0, none⟩), .int .i64 (x.val : Int), .int .i64 f, .func (.func 215) #[] #[.pointer (some ⟨w.heap.size + 1 + 1, 0, none⟩)], .int .i64 (x.val : Int),
      undef, undef, undef, undef, undef, undef, undef, undef, undef, undef], defers := [] }) ?assign ?body ?done ?stop
  case assign =>
    intro l x W3 K hK
    gi_wp2
    exact hK
  case body =>
    rintro l pre x W3 ⟨hp, hW3⟩ _
    obtain ⟨k0, k1, _, _⟩ := two_of hW3.kbox
    have r3 : W3.cell? ⟨w.heap.size + 1, 0, none⟩ = some (.bool false) := (box_cell hW3.res).1
    have r4 : W3.frozen? ⟨w.heap.size + 1, 0, none⟩ = false := (box_cell hW3.res).2
    have HW3 := hid hW3
    have Hp := hid hp
    have HxW := hid (Hx.out.later hW3.below hW3.below.size)
    clear hW3 hp
    by_cases hm : ((x.val : Nat) : Int) ∈ fs
    · have HC := hid (contains_any a cap fs ((x.val : Nat) : Int) W3 HxW.out hl)
      rw [decide_eq_true hm] at HC
      have Hm := hid hm
      clear hm
      gi_wp2_with (refine ⟨trivial, ?_⟩; gi_at_call 175; refine (callsIn_wide.2 HC.out).mono ?_; rintro e w' ⟨rfl, rfl⟩)
      refine ⟨KeepsFrom.refl _ _, rfl, fun p hp' => ?_, HW3.out⟩
      rcases List.mem_append.1 hp' with hp' | hp'
      · exact Hp.out p hp'
      · simp at hp'; rw [hp']; exact Hm.out
    · have HC := hid (contains_any a cap fs ((x.val : Nat) : Int) W3 HxW.out hl)
      rw [decide_eq_false hm] at HC
      have Hm := hid hm
      clear hm
      gi_wp2_with (refine ⟨trivial, ?_⟩; gi_at_call 175; refine (callsIn_wide.2 HC.out).mono ?_; rintro e w' ⟨rfl, rfl⟩)
      exact ⟨(KeepsOthers.setCell _ _ _).from _, ⟨rfl, x, by simp, Hm.out⟩, HW3.out.store⟩
  case done =>
    rintro D ys W3 hD rfl ⟨hp, hW3⟩ hK
    have hDb : w.heap.size + 2 ≤ D := by simp at hD; omega
    obtain ⟨k0, k1, _, _⟩ := two_of hW3.kbox
    have r3 : W3.cell? ⟨w.heap.size + 1, 0, none⟩ = some (.bool false) := (box_cell hW3.res).1
    have r4 : W3.frozen? ⟨w.heap.size + 1, 0, none⟩ = false := (box_cell hW3.res).2
    have HE : Hid (missB fs f = !decide ((f : Int) ∈ fs)) := hid (by
      unfold missB
      rw [show ((sidesF f).all fun s => decide (((s.val : Nat) : Int) ∈ fs)) = true from List.all_eq_true.2 (fun p hp' => decide_eq_true (hp p hp'))]
      rfl)
    have HC := hid (contains_any a cap fs (f : Int) W3 (Hx.out.later hW3.below hW3.below.size) hl)
    have HW3 := hid hW3
    have HK := hid hK
    obtain ⟨c, hc⟩ : ∃ c, c = decide ((f : Int) ∈ fs) := ⟨_, rfl⟩
    rw [← hc] at HC HE
    clear hW3 hp hc hK
    cases c
    · gi_wp2_with (refine ⟨trivial, ?_⟩; gi_at_call 175; refine (callsIn_wide.2 HC.out).mono ?_; rintro e w' ⟨rfl, rfl⟩)
      exact ms_end HW3.out hDb HK.out _ true HE.out rfl
    · gi_wp2_with (refine ⟨trivial, ?_⟩; gi_at_call 175; refine (callsIn_wide.2 HC.out).mono ?_; rintro e w' ⟨rfl, rfl⟩)
      exact ms_end HW3.out hDb HK.out _ false HE.out rfl
  case stop =>
    rintro D c pre W3 hD hpre ⟨⟨rfl, p, hpm, hpn⟩, hW3⟩ hK
    have hDb : w.heap.size + 2 ≤ D := by simp at hD; omega
    have HE : Hid (missB fs f = false) := hid (by
      unfold missB
      rw [show ((sidesF f).all fun s => decide (((s.val : Nat) : Int) ∈ fs)) = false from List.all_eq_false.2 ⟨p, hpre.subset hpm, by simpa using hpn⟩]
      rfl)
    have HW3 := hid hW3
    have HK := hid hK
    clear hW3 hpn hpm hpre hK
    gi_wp2
    exact ms_end0 HW3.out hDb HK.out _ HE.out rfl

end Go.Proofs.Ytgefpllmelpahaa

/-! Missing faces: the list, on both sides. -/
namespace Go.Proofs.Ytgefpllmelpahaa
open Go.RowKit Go.Shelf

theorem sides_below : ∀ f : Fin 64, ((belowR f.val 63).all fun y => (sidesF f.val).any fun s => decide (((s.val : Nat) : Int) = y)) && ((sidesF f.val).all fun s => (belowR f.val 63).any fun y => decide (((s.val : Nat) : Int) = y)) = true := by decide +kernel

theorem sides_all {f : Nat} (hf : f < 64) (p : Int → Bool) : (sidesF f).all (fun s => p ((s.val : Nat) : Int)) = (belowR f 63).all p := by
  have h := sides_below ⟨f, hf⟩
  simp only [Bool.and_eq_true, List.all_eq_true, List.any_eq_true, decide_eq_true_eq] at h
  rw [Bool.eq_iff_iff, List.all_eq_true, List.all_eq_true]
  constructor
  · intro hs y hy
    obtain ⟨s, hs1, rfl⟩ := h.1 y hy
    exact hs s hs1
  · intro hs s hs1
    obtain ⟨y, hy, rfl⟩ := h.2 s hs1
    exact hs _ hy

/-- What MissingFaces hands back. -/
noncomputable def missFacesR (V : Int) (fs : List Int) : List Int × Int := if isCB V fs then (missL V fs, 0) else ([], 1)

theorem missFacesR_len (V : Int) (fs : List Int) (_ : fs.length ≤ 1048576) : (missFacesR V fs).1.length ≤ 1048576 := by
  unfold missFacesR
  split
  · next h =>
    have h6 := (isCB_iff.1 h).hi
    have := pickTo_len (fun x => missB fs x.toNat) (allV V).toNat
    have := allV_le h6
    show (missL V fs).length ≤ 1048576
    unfold missL
    omega
  · simp

set_option maxRecDepth 100000 in
set_option maxHeartbeats 2000000 in
theorem missFaces_any (V : Int) (a : Option Addr) (cap : Nat) (fs : List Int) (w : World) (hx : SlI w w.heap.size a fs) (hl : fs.length ≤ 1048576) (h1 : 1 ≤ V) (h2 : V ≤ 6) :
    Calls Try.prog 74 #[.agg #[.int .i64 V, .slice a fs.length cap]] w fun e w' => ∃ v, e = .returned v ∧ Res w w' v (missL V fs) := by
  obtain ⟨A, hA, hA1, hA2⟩ := allV_nat h1 h2
  have hB0 : Below w.heap.size w (w.alloc (.cells #[.int .i64 V, .slice a fs.length cap] 30)) := (Below.refl _ w).alloc (Nat.le_refl _) _
  have Hk := hid (heap_alloc_new w (.cells #[.int .i64 V, .slice a fs.length cap] 30))
  have HB0 := hid hB0
  have HA := hid hA
  have Hall : Hid (∀ W, Calls Try.prog 148 #[.int .i64 V] W fun e w' => e = .returned (.int .i64 (A : Int)) ∧ W = w') := hid (fun W => by rw [hA]; exact av_any V W (by omega) h2)
  have HM := hid (fun (W : World) (h : Below w.heap.size w W) (f : Nat) (hf : f < 64) => callsIn_wide.1 (missing_in V a cap fs f W (hx.later h h.size) hl hf))
  clear hx hA hB0
  go_enter Try.func74, Try.ntmps74
  go_wp2_with fail
  go_loopw [3, 4] (fun v i wr => ∃ k : Nat, k ≤ A ∧ i = .int .i64 ((k : Int) + 1) ∧ Hid (wr.ownsRow w.heap.size 2 1 v (pickTo (fun x => missB fs x.toNat) k).length ((pickTo (fun x => missB fs x.toNat) k).map (Value.int .i64))) ∧ Hid (Below w.heap.size w wr ∧ wr.heap[w.heap.size]? = some (.cells #[.int .i64 V, .slice a fs.length cap] 30 (0, 0)))) (fun _ i _ => A + 1 - (RowKit.intOf i).toNat)
  case atStart => exact ⟨0, Nat.zero_le _, rfl, hid (World.ownsRow_nil _ _ _ _), hid ⟨HB0.out, Hk.out⟩⟩
  case round =>
    obtain ⟨k, hk, rfl, HO, HB⟩ := hrel
    obtain ⟨k0, k1, _, _⟩ := two_of HB.out.2
    have hbs := HB.out.1.size
    have hlen := pickTo_len (fun x => missB fs x.toNat) k
    by_cases hlt : k < A
    · have hd : decide ((k : Int) + 1 ≤ (A : Int)) = true := decide_eq_true (by omega)
      have HC : Hid (Calls Try.prog 149 #[.agg #[.int .i64 V, .slice a fs.length cap], .int .i64 ((k : Int) + 1)] wr fun e w' => e = .returned (.bool (missB fs (k + 1))) ∧ Below wr.heap.size wr w') := hid (HM.out wr HB.out.1 (k + 1) (by omega)) 
      have Hs : Hid (∀ b : Bool, missB fs (k + 1) = b → pickTo (fun x => missB fs x.toNat) (k + 1) = pickTo (fun x => missB fs x.toNat) k ++ (if b then [(k : Int) + 1] else [])) := hid (fun b hb => by rw [← hb]; rfl)
      go_wp2_with fail
      refine (Hall.out _).mono ?_
      rintro e w1 ⟨rfl, rfl⟩
      cases hb : missB fs (k + 1)
      · have HP := hid (Hs.out false hb)
        rw [hb] at HC
        clear hb Hs
        go_wp2_with fail
        refine HC.out.mono ?_
        rintro e w2 ⟨rfl, hB2⟩
        have HO2 := hid (ownsRow_below HO.out hB2 (fun g hg => (HO.out.lt g hg).2))
        have HB2 := hid (show Below w.heap.size w w2 ∧ w2.heap[w.heap.size]? = some (.cells #[.int .i64 V, .slice a fs.length cap] 30 (0, 0)) from ⟨HB.out.1.trans (hB2.mono hbs), (hB2.block _ (lt_get HB.out.2)).trans HB.out.2⟩)
        clear hB2
        go_wp2_with fail
        go_roundw
        case rel => exact ⟨k + 1, by omega, by go_num, hid (by rw [HP.out]; simpa using HO2.out), HB2⟩
        case measure => simp [RowKit.intOf]; omega
      · have HP := hid ((Hs.out true hb).trans (by rw [if_pos rfl]))
        rw [hb] at HC
        clear hb Hs
        go_wp2_with fail
        refine HC.out.mono ?_
        rintro e w2 ⟨rfl, hB2⟩
        have HO2 := hid (ownsRow_below HO.out hB2 (fun g hg => (HO.out.lt g hg).2))
        have HB2 := hid (show Below w.heap.size w w2 ∧ w2.heap[w.heap.size]? = some (.cells #[.int .i64 V, .slice a fs.length cap] 30 (0, 0)) from ⟨HB.out.1.trans (hB2.mono hbs), (hB2.block _ (lt_get HB.out.2)).trans HB.out.2⟩)
        have hbs2 := HB2.out.1.size
        clear hB2
        go_wp2_with (at_builtin; refine append_int rfl rfl HO2.out hbs2 (by omega) rfl rfl ?_; intro v' w3 hown3 hgrow3 hB3)
        go_roundw
        case rel =>
          refine ⟨k + 1, by omega, by go_num, hid (by rw [HP.out]; exact hown3), hid ⟨HB2.out.1.trans hB3, ?_⟩⟩
          exact (hgrow3.block _ (lt_get HB2.out.2) (row_ne HO2.out HB2.out.2 (by decide))).trans HB2.out.2
        case measure => simp [RowKit.intOf]; omega
    · have hd : decide ((k : Int) + 1 ≤ (A : Int)) = false := decide_eq_false (by omega)
      have HE : Hid (pickTo (fun x => missB fs x.toNat) k = missL V fs) := hid (by unfold missL; rw [← HA.out, Int.toNat_natCast, show A = k by omega])
      go_wp2_with fail
      refine (Hall.out _).mono ?_
      rintro e w1 ⟨rfl, rfl⟩
      go_wp2_with fail
      go_ret
      exact ⟨_, rfl, by rw [← HE.out]; exact ⟨HO.out, HB.out.1⟩⟩

end Go.Proofs.Ytgefpllmelpahaa

/-! StarOf, the model's and the program's. -/
namespace Go.Proofs.Ytgefpllmelpahaa
open Go.RowKit

/-- The faces that are faces together with a given one. -/
def starL (fs : List Int) (f : Int) : List Int := fs.filter fun x => decide (((x.toNat ||| f.toNat : Nat) : Int) ∈ fs)

/-- What StarOf hands back. -/
noncomputable def starOfR (V : Int) (fs : List Int) (f : Int) : Int × List Int × Int := if isCB V fs then (if f ∈ fs then (V, starL fs f, 0) else (0, [], 2)) else (0, [], 1)

theorem starOfR_len (V : Int) (fs : List Int) (f : Int) (h : fs.length ≤ 1048576) : (starOfR V fs f).2.1.length ≤ 1048576 := by
  unfold starOfR
  split
  · split
    · exact Nat.le_trans (List.length_filter_le _ _) h
    · simp
  · simp


end Go.Proofs.Ytgefpllmelpahaa

/-! StarOf, the program's. -/
namespace Go.Proofs.Ytgefpllmelpahaa
open Go.RowKit

/-- The cells of a block of two, behind an alloc. -/
theorem two_alloc {W : World} {b : Nat} {x y : Value} {t : Nat} (h : W.heap[b]? = some (.cells #[x, y] t (0, 0))) : (∀ o, (W.alloc o).cell? ⟨b, 0, none⟩ = some x) ∧ (∀ o, (W.alloc o).cell? ⟨b, 1, none⟩ = some y) ∧ (∀ o, (W.alloc o).frozen? ⟨b, 0, none⟩ = false) ∧ (∀ o, (W.alloc o).frozen? ⟨b, 1, none⟩ = false) := by
  have h' : ∀ o, (W.alloc o).heap[b]? = some (.cells #[x, y] t (0, 0)) := fun o => (Below.heap_alloc _ o _ (lt_get h)).trans h
  exact ⟨fun o => (two_of (h' o)).1, fun o => (two_of (h' o)).2.1, fun o => (two_of (h' o)).2.2.1, fun o => (two_of (h' o)).2.2.2⟩



end Go.Proofs.Ytgefpllmelpahaa

/-! LinkOf, the model's and the program's. -/
namespace Go.Proofs.Ytgefpllmelpahaa
open Go.RowKit

/-- The faces apart from a given one that are faces together with it. -/
def linkL (fs : List Int) (f : Int) : List Int := fs.filter fun x => decide (x.toNat &&& f.toNat = 0) && decide (((x.toNat ||| f.toNat : Nat) : Int) ∈ fs)

/-- What LinkOf hands back. -/
noncomputable def linkOfR (V : Int) (fs : List Int) (f : Int) : Int × List Int × Int := if isCB V fs then (if f ∈ fs then (V, linkL fs f, 0) else (0, [], 2)) else (0, [], 1)

theorem linkOfR_len (V : Int) (fs : List Int) (f : Int) (h : fs.length ≤ 1048576) : (linkOfR V fs f).2.1.length ≤ 1048576 := by
  unfold linkOfR
  split
  · split
    · exact Nat.le_trans (List.length_filter_le _ _) h
    · simp
  · simp

set_option maxHeartbeats 2000000 in
theorem link_any (V : Int) (a0 : Option Addr) (cap : Nat) (fs : List Int) (s : Nat) (w : World) (hx : SlI w w.heap.size a0 fs) (hl : fs.length ≤ 1048576) (hf : ∀ x ∈ fs, 1 ≤ x ∧ x ≤ 63) (hs : s < 64) :
    Calls Try.prog 143 #[.agg #[.int .i64 V, .slice a0 fs.length cap], .int .i64 (s : Int)] w fun e w' => ∃ v, e = .returned (.agg #[.int .i64 V, v]) ∧ Res w w' v (linkL fs s) := by
  have Hx0 := hid hx
  have Hf := hid hf
  clear hx hf
  go_enter Try.func143, Try.ntmps143
  go_wp2
  go_loopw [6] (fun i wr => ∃ (k : Nat) (a : Option Addr) (c : Nat), k ≤ fs.length ∧ i = .int .i64 k ∧ OutW w wr V (.slice a0 fs.length cap) (w.heap.size + 1 + 1 + 1) ((fs.take k).filter fun x => decide (x.toNat &&& s = 0) && decide (((x.toNat ||| s : Nat) : Int) ∈ fs)) a c) (fun i _ => fs.length - (intOf i).toNat)
  case atStart =>
    refine ⟨0, some ⟨w.heap.size + 1 + 1, 0, none⟩, 0, Nat.zero_le _, rfl, ?_⟩
    have e0 := heap_alloc_new w (.cells #[.int .i64 V, .slice a0 fs.length cap] 30)
    have e1 := heap_alloc_new (w.alloc (.cells #[.int .i64 V, .slice a0 fs.length cap] 30)) (.cells #[.int .i64 0, .slice none 0 0] 30)
    rw [World.size_alloc] at e1
    have h := outW_start (((Below.refl _ w).alloc (Nat.le_refl _) _).alloc (by simp) _) ((Below.heap_alloc _ _ _ (by simp)).trans e0) e1
    simp only [World.size_alloc] at h
    exact h
  case round =>
    obtain ⟨k, a, c, hk, rfl, hW⟩ := hrel
    obtain ⟨ys, hys⟩ : ∃ ys, ys = (fs.take k).filter fun x => decide (x.toNat &&& s = 0) && decide (((x.toNat ||| s : Nat) : Int) ∈ fs) := ⟨_, rfl⟩
    have hfl : ys.length ≤ 1048576 := by rw [hys]; exact Nat.le_trans (List.length_filter_le _ _) (by simp; omega)
    rw [← hys] at hW
    have Hys := hid hys
    clear hys
    have k0 : wr.cell? ⟨w.heap.size, 0, none⟩ = some (.int .i64 V) := by simp [World.cell?, hW.kbox]
    have k1 : wr.cell? ⟨w.heap.size, 1, none⟩ = some (.slice a0 fs.length cap) := by simp [World.cell?, hW.kbox]
    have HW := hid hW
    by_cases hlt : k < fs.length
    · obtain ⟨b, off, hb, rfl, hc⟩ : ∃ b off, b < w.heap.size ∧ a0 = some ⟨b, off, none⟩ ∧ ∀ i, i < fs.length → w.cell? ⟨b, off + i, none⟩ = some (.int .i64 (fs[i]?.getD 0)) := by
        rcases Hx0.out with rfl | h
        · simp at hlt
        · exact h
      have Hc := hid hc
      clear hc
      obtain ⟨x, hx⟩ : ∃ x : Nat, (x : Int) = fs[k]?.getD 0 := ⟨(fs[k]?.getD 0).toNat, by have := Hf.out _ (getD_mem hlt); omega⟩
      have hx64 : x < 64 := by have := Hf.out _ (getD_mem hlt); omega
      have hck : wr.cell? ⟨b, off + k, none⟩ = some (.int .i64 (x : Int)) := by rw [hx]; exact (hW.below.cell (p := ⟨b, off + k, none⟩) hb).trans (Hc.out k hlt)
      have hi0 : (0 : Int) ≤ (k : Int) := by omega
      have hi1 : (k : Int) < (fs.length : Int) := by omega
      have Hp : Hid (∀ cc, (decide (x &&& s = 0) && decide (((x ||| s : Nat) : Int) ∈ fs)) = cc → ((fs.take (k + 1)).filter fun x => decide (x.toNat &&& s = 0) && decide (((x.toNat ||| s : Nat) : Int) ∈ fs)) = ys ++ (if cc then [(x : Int)] else [])) := hid (fun cc hc => by
        rw [take_snoc hlt, List.filter_append, ← hx, Hys.out]
        cases cc <;> simpa using hc)
      have hand : bits BinOp.and IntKind.i64 (x : Int) (s : Int) = ((x &&& s : Nat) : Int) := (bits_nat .i64 6 (by decide) (fun n h0 h1 => by rw [IntKind.wrap_i64]; omega) x s (by omega) (by omega)).1
      have hor : bits BinOp.or IntKind.i64 (x : Int) (s : Int) = ((x ||| s : Nat) : Int) := (bits_nat .i64 6 (by decide) (fun n h0 h1 => by rw [IntKind.wrap_i64]; omega) x s (by omega) (by omega)).2
      have hbs := hW.below.size
      have Hxr := hid (Hx0.out.later hW.below hW.below.size)
      clear hx hW
      by_cases hpa : x &&& s = 0
      · have hd : (((x &&& s : Nat) : Int) == 0) = true := by simp [hpa]
        by_cases hpx : ((x ||| s : Nat) : Int) ∈ fs
        · have HP := hid ((Hp.out true (by simp [hpa, hpx])).trans (by rw [if_pos rfl]))
          have Hpx := hid hpx
          clear Hp hpx hpa
          go_wp2_with fail
          go_region_held3 (fun w' => w'.cell? ⟨w.heap.size, 0, none⟩ = some (.int .i64 V) ∧ w'.cell? ⟨w.heap.size, 1, none⟩ = some (.slice (some ⟨b, off, none⟩) fs.length cap) ∧ w'.cell? ⟨b, off + k, none⟩ = some (.int .i64 (x : Int))) (go_keep)
            ((go_at_call 72; refine (has_yes V _ _ cap fs wr.drew Hxr.out hl Hpx.out).mono ?_; rintro e w2 ⟨rfl, hB2⟩; have k02 := (hB2.cell (p := ⟨w.heap.size, 0, none⟩) (Nat.lt_of_lt_of_le (lt_get HW.out.kbox) (Nat.le_refl _))).trans k0; have k12 := (hB2.cell (p := ⟨w.heap.size, 1, none⟩) (Nat.lt_of_lt_of_le (lt_get HW.out.kbox) (Nat.le_refl _))).trans k1; have c12 := (hB2.cell (p := ⟨b, off + k, none⟩) (Nat.lt_of_lt_of_le hb hbs)).trans hck))
          have HW2 := hid (HW.out.later (show Below wr.heap.size wr w2 from ⟨hB2.os, hB2.tape, hB2.output, hB2.size, hB2.block⟩))
          have o1 : w2.cell? ⟨w.heap.size + 1 + 1 + 1, 1, none⟩ = some (.slice a ys.length c) := (two_of HW2.out.out).2.1
          have o2 : w2.frozen? ⟨w.heap.size + 1 + 1 + 1, 1, none⟩ = false := (two_of HW2.out.out).2.2.2
          have hbs2 := HW2.out.below.size
          have a1 : ∀ (o : Obj), (w2.alloc o).cell? ⟨w.heap.size + 1 + 1 + 1, 1, none⟩ = some (.slice a ys.length c) := cell_alloc_drew1 o1
          have a2 : ∀ (o : Obj), (w2.alloc o).cell? ⟨w.heap.size, 1, none⟩ = some (.slice (some ⟨b, off, none⟩) fs.length cap) := cell_alloc_drew1 k12
          have a3 : ∀ (o : Obj), (w2.alloc o).cell? ⟨b, off + k, none⟩ = some (.int .i64 (x : Int)) := cell_alloc_drew1 c12
          clear k0 k1 hck hB2 k02
          go_wp2_with fail
          go_region_law (first | (refine step_append_new (by rfl) (by rfl) HW2.out.drew.own (by rfl) hbs2 (by omega) (by rfl) (by rfl) ?_; intro g cp w3 hown3 hgrow3; obtain ⟨o13, o23⟩ := HW2.out.mid (n := 1) hgrow3; have k13 := HW2.out.midK (n := 1) hgrow3; have x13 := (HW2.out.midX (n := 1) hgrow3 (p := ⟨b, off + k, none⟩) hb).trans c12))
          all_goals
            go_wp2_with fail
            go_roundw
            case rel => exact ⟨k + 1, some ⟨g, 0, none⟩, cp, by omega, by go_num, by rw [HP.out]; simpa using HW2.out.stepN (n := 1) hown3 hgrow3⟩
            case measure => simp [intOf]; omega
        · have HP := hid (Hp.out false (by simp [hpx]))
          have Hpx := hid hpx
          clear Hp hpx hpa
          go_wp2_with fail
          go_region_held3 (fun w' => w'.cell? ⟨w.heap.size, 0, none⟩ = some (.int .i64 V) ∧ w'.cell? ⟨w.heap.size, 1, none⟩ = some (.slice (some ⟨b, off, none⟩) fs.length cap) ∧ w'.cell? ⟨b, off + k, none⟩ = some (.int .i64 (x : Int))) (go_keep)
            ((go_at_call 72; refine (has_no V _ _ cap fs wr.drew Hxr.out hl Hpx.out).mono ?_; rintro e w2 ⟨rfl, hB2⟩; have k02 := (hB2.cell (p := ⟨w.heap.size, 0, none⟩) (Nat.lt_of_lt_of_le (lt_get HW.out.kbox) (Nat.le_refl _))).trans k0; have k12 := (hB2.cell (p := ⟨w.heap.size, 1, none⟩) (Nat.lt_of_lt_of_le (lt_get HW.out.kbox) (Nat.le_refl _))).trans k1; have c12 := (hB2.cell (p := ⟨b, off + k, none⟩) (Nat.lt_of_lt_of_le hb hbs)).trans hck))
          have HW2 := hid (HW.out.later (show Below wr.heap.size wr w2 from ⟨hB2.os, hB2.tape, hB2.output, hB2.size, hB2.block⟩))
          clear k0 k1 hck hB2 k02
          go_wp2_with fail
          go_roundw
          case rel => exact ⟨k + 1, a, c, by omega, by go_num, by rw [HP.out]; simpa using HW2.out⟩
          case measure => simp [intOf]; omega
      · have hd : (((x &&& s : Nat) : Int) == 0) = false := by simp; omega
        have HP := hid (Hp.out false (by simp [hpa]))
        clear Hp hpa
        go_wp2_with fail
        go_quiet (fail)
        go_wp2_with fail
        go_roundw
        case rel => exact ⟨k + 1, a, c, by omega, by go_num, by rw [HP.out]; simpa using HW.out.drewN nq⟩
        case measure => simp [intOf]; omega
    · have o0 : wr.cell? ⟨w.heap.size + 1 + 1 + 1, 0, none⟩ = some (.int .i64 V) := (two_of hW.out).1
      have o1 : wr.cell? ⟨w.heap.size + 1 + 1 + 1, 1, none⟩ = some (.slice a ys.length c) := (two_of hW.out).2.1
      obtain ⟨r0, r1, f0, f1⟩ := two_of hW.res
      have Hr := hid hW.res
      clear hW
      go_wp2_with fail
      (try simp only [Exit.inBlock, Exit.then])
      have R3 := two_of (two_set Hr.out (.int .i64 V) (.slice a ys.length c))
      refine done_cx1 (p := 4) (by kernel_rfl) rfl rfl R3.1 R3.2.1 ?_
      obtain rfl : k = fs.length := by omega
      have h := HW.out.done (.int .i64 V) (.slice a ys.length c)
      have hy : ys = linkL fs s := by rw [Hys.out, List.take_of_length_le (Nat.le_refl _)]; simp [linkL]
      rw [← hy]
      exact ⟨_, rfl, h⟩

end Go.Proofs.Ytgefpllmelpahaa

/-! TakeFace, the model's and the program's. -/
namespace Go.Proofs.Ytgefpllmelpahaa
open Go.RowKit

/-- The faces that do not have a given one. -/
def takeL (fs : List Int) (s : Int) : List Int := fs.filter fun x => decide (¬ x.toNat &&& s.toNat = s.toNat)

/-- What TakeFace hands back. -/
noncomputable def takeFaceR (V : Int) (fs : List Int) (f : Int) : Int × List Int × Int := if isCB V fs then (if f ∈ fs then (V, takeL fs f, 0) else (0, [], 2)) else (0, [], 1)

theorem takeFaceR_len (V : Int) (fs : List Int) (f : Int) (h : fs.length ≤ 1048576) : (takeFaceR V fs f).2.1.length ≤ 1048576 := by
  unfold takeFaceR
  split
  · split
    · exact Nat.le_trans (List.length_filter_le _ _) h
    · simp
  · simp

set_option maxHeartbeats 2000000 in
theorem take_any (V : Int) (a0 : Option Addr) (cap : Nat) (fs : List Int) (s : Nat) (w : World) (hx : SlI w w.heap.size a0 fs) (hl : fs.length ≤ 1048576) (hf : ∀ x ∈ fs, 1 ≤ x ∧ x ≤ 63) (hs : s < 64) :
    Calls Try.prog 70 #[.agg #[.int .i64 V, .slice a0 fs.length cap], .int .i64 (s : Int)] w fun e w' => ∃ v, e = .returned (.agg #[.int .i64 V, v]) ∧ Res w w' v (takeL fs s) := by
  have Hx := hid hx
  have Hf := hid hf
  clear hx hf
  go_enter Try.func70, Try.ntmps70
  go_wp2
  go_loopw [6] (fun i wr => ∃ (k : Nat) (a : Option Addr) (c : Nat), k ≤ fs.length ∧ i = .int .i64 k ∧ OutW w wr V (.slice a0 fs.length cap) (w.heap.size + 1 + 1 + 1) (takeL (fs.take k) s) a c) (fun i _ => fs.length - (intOf i).toNat)
  case atStart =>
    refine ⟨0, some ⟨w.heap.size + 1 + 1, 0, none⟩, 0, Nat.zero_le _, rfl, ?_⟩
    have e0 := heap_alloc_new w (.cells #[.int .i64 V, .slice a0 fs.length cap] 30)
    have e1 := heap_alloc_new (w.alloc (.cells #[.int .i64 V, .slice a0 fs.length cap] 30)) (.cells #[.int .i64 0, .slice none 0 0] 30)
    rw [World.size_alloc] at e1
    have h := outW_start (((Below.refl _ w).alloc (Nat.le_refl _) _).alloc (by simp) _) ((Below.heap_alloc _ _ _ (by simp)).trans e0) e1
    simp only [World.size_alloc] at h
    exact h
  case round =>
    obtain ⟨k, a, c, hk, rfl, hW⟩ := hrel
    have k0 : wr.cell? ⟨w.heap.size, 0, none⟩ = some (.int .i64 V) := by simp [World.cell?, hW.kbox]
    have k1 : wr.cell? ⟨w.heap.size, 1, none⟩ = some (.slice a0 fs.length cap) := by simp [World.cell?, hW.kbox]
    have o1 : wr.cell? ⟨w.heap.size + 1 + 1 + 1, 1, none⟩ = some (.slice a (takeL (fs.take k) s).length c) := by simp [World.cell?, hW.out]
    have o2 : wr.frozen? ⟨w.heap.size + 1 + 1 + 1, 1, none⟩ = false := by simp [World.frozen?, hW.out]
    have HW := hid hW
    by_cases hlt : k < fs.length
    · obtain ⟨b, off, hb, rfl, hc⟩ : ∃ b off, b < w.heap.size ∧ a0 = some ⟨b, off, none⟩ ∧ ∀ i, i < fs.length → w.cell? ⟨b, off + i, none⟩ = some (.int .i64 (fs[i]?.getD 0)) := by
        rcases Hx.out with rfl | h
        · simp at hlt
        · exact h
      have Hc := hid hc
      clear hc
      obtain ⟨x, hx⟩ : ∃ x : Nat, (x : Int) = fs[k]?.getD 0 := ⟨(fs[k]?.getD 0).toNat, by have := Hf.out _ (getD_mem hlt); omega⟩
      have hx64 : x < 64 := by have := Hf.out _ (getD_mem hlt); omega
      have hck : wr.cell? ⟨b, off + k, none⟩ = some (.int .i64 (x : Int)) := by rw [hx]; exact (hW.below.cell (p := ⟨b, off + k, none⟩) hb).trans (Hc.out k hlt)
      have hi0 : (0 : Int) ≤ (k : Int) := by omega
      have hi1 : (k : Int) < (fs.length : Int) := by omega
      have hfl : (takeL (fs.take k) s).length ≤ 1048576 := Nat.le_trans (List.length_filter_le _ _) (by simp; omega)
      have Hp : Hid (∀ cc, decide (¬ x &&& s = s) = cc → takeL (fs.take (k + 1)) s = takeL (fs.take k) s ++ (if cc then [(x : Int)] else [])) := hid (fun cc hc => by
        unfold takeL
        rw [take_snoc hlt, List.filter_append, ← hx]
        cases cc <;> simpa using hc)
      have hbits : bits BinOp.and IntKind.i64 (x : Int) (s : Int) = ((x &&& s : Nat) : Int) := (bits_nat .i64 6 (by decide) (fun n h0 h1 => by rw [IntKind.wrap_i64]; omega) x s (by omega) (by omega)).1
      have hbs := hW.below.size
      clear hx hW
      by_cases hpx : ¬ x &&& s = s
      · have hd : (((x &&& s : Nat) : Int) == (s : Int)) = false := by simp; omega
        have hd2 : (((x &&& s : Nat) : Int) != (s : Int)) = true := by simp; omega
        have HP := hid ((Hp.out true (decide_eq_true hpx)).trans (by rw [if_pos rfl]))
        clear hpx Hp
        go_wp2_with fail
        have a1 : ∀ (o : Obj), (wr.alloc o).cell? ⟨w.heap.size + 1 + 1 + 1, 1, none⟩ = some (.slice a (takeL (fs.take k) s).length c) := cell_alloc_drew1 o1
        have a2 : ∀ (o : Obj), (wr.alloc o).cell? ⟨w.heap.size, 1, none⟩ = some (.slice (some ⟨b, off, none⟩) fs.length cap) := cell_alloc_drew1 k1
        have a3 : ∀ (o : Obj), (wr.alloc o).cell? ⟨b, off + k, none⟩ = some (.int .i64 (x : Int)) := cell_alloc_drew1 hck
        go_region_law (first | (refine step_append_new (by rfl) (by rfl) HW.out.drew.own (by rfl) hbs (by omega) (by rfl) (by rfl) ?_; intro g cp w2 hown2 hgrow2; obtain ⟨o12, o22⟩ := HW.out.mid (n := 1) hgrow2; have k12 := HW.out.midK (n := 1) hgrow2; have x12 := (HW.out.midX (n := 1) hgrow2 (p := ⟨b, off + k, none⟩) hb).trans hck))
        all_goals
          go_wp2_with fail
          go_roundw
          case rel => exact ⟨k + 1, some ⟨g, 0, none⟩, cp, by omega, by go_num, by rw [HP.out]; simpa using HW.out.stepN (n := 1) hown2 hgrow2⟩
          case measure => simp [intOf]; omega
      · have hd : (((x &&& s : Nat) : Int) == (s : Int)) = true := by simp; omega
        have hd2 : (((x &&& s : Nat) : Int) != (s : Int)) = false := by simp; omega
        have HP := hid (Hp.out false (decide_eq_false hpx))
        clear hpx Hp
        go_wp2_with fail
        go_roundw
        case rel => exact ⟨k + 1, a, c, by omega, by go_num, by rw [HP.out]; simpa using HW.out⟩
        case measure => simp [intOf]; omega
    · have o0 : wr.cell? ⟨w.heap.size + 1 + 1 + 1, 0, none⟩ = some (.int .i64 V) := by simp [World.cell?, hW.out]
      have r0 : wr.cell? ⟨w.heap.size + 1, 0, none⟩ = some (.int .i64 0) := by simp [World.cell?, hW.res]
      have r1 : wr.cell? ⟨w.heap.size + 1, 1, none⟩ = some (.slice none 0 0) := by simp [World.cell?, hW.res]
      have f0 : wr.frozen? ⟨w.heap.size + 1, 0, none⟩ = false := by simp [World.frozen?, hW.res]
      have f1 : wr.frozen? ⟨w.heap.size + 1, 1, none⟩ = false := by simp [World.frozen?, hW.res]
      go_wp2_with fail
      have hres : Try.f70.results = #[.cell 4 30] := by kernel_rfl
      refine bodyPost_ret (v := .agg #[.int .i64 V, .slice a (takeL (fs.take k) s).length c]) ?_ rfl ⟨_, rfl, ?_⟩
      · simp only [results, hres]
        go_simp
      obtain rfl : k = fs.length := by omega
      rw [List.take_of_length_le (Nat.le_refl _)] at HW
      have h := HW.out.done (.int .i64 V) (.slice a (takeL (fs.take fs.length) s).length c)
      rw [List.take_of_length_le (Nat.le_refl _)] at h ⊢
      exact h

end Go.Proofs.Ytgefpllmelpahaa
