import Derived.Shelf.Strings.OnBuilder
import Derived.Shelf.Strconv.Itoa4
import Derived.Test.YtbgkalkipalndaaDoorRows
import Derived.ProofKit
import Derived.OpenShut
import Derived.ShutString
import Derived.ChangeOld
import Derived.Below
import Derived.Lib.SmallJoins
import Derived.Shelf.SlLaysM
import Derived.Shelf.SlLaysZI
import Derived.Test.YtbgkalkipalndaaDoorProg
import Derived.Shelf.SlIterI.Nil
import Derived.Shelf.SortM.Plain
import Derived.Shelf.SortM.SortNone
import Derived.Lib.SliceRun
import Derived.Lib.Walk
import Derived.Deep.CutRange
import Derived.Test.YtbgkalkipalndaaDoorMB1
import Derived.Test.YtbgkalkipalndaaDoorMB2
/-! ComplexText, on both sides. -/
namespace Go.Proofs.YtbgkalkipalndaaDoor
open Go.RowKit Go.Shelf

theorem digL_len {x : Int} (h : 1 ≤ x ∧ x ≤ 63) : (digL x).length ≤ 6 := digK_len x.toNat (by omega)

theorem join_len (c : UInt8) : ∀ (xs : List (List UInt8)), (∀ x ∈ xs, x.length ≤ 6) → (Lib.join xs [c]).length ≤ 7 * xs.length
  | [], _ => by simp [Lib.join_nil]
  | [x], h => by rw [Lib.join_one]; have := h x (by simp); simp; omega
  | x :: y :: r, h => by
    rw [join_cons2]
    have h1 := h x (by simp)
    have h2 := join_len c (y :: r) (fun z hz => h z (by simp [hz]))
    simp only [List.length_append, List.length_cons, List.length_nil] at h2 ⊢
    omega

theorem map_len6 {F : List Int} (hf : ∀ x ∈ F, 1 ≤ x ∧ x ≤ 63) : ∀ d ∈ F.map digL, d.length ≤ 6 := by
  intro d hd
  obtain ⟨x, hx, rfl⟩ := List.mem_map.1 hd
  exact digL_len (hf x hx)

/-- The text of the first facets. -/
def txK (V : Int) (F : List Int) (k : Nat) : List UInt8 := textL V (F.take k)

theorem txK_len {V : Int} {F : List Int} (hf : ∀ x ∈ F, 1 ≤ x ∧ x ≤ 63) (hl : F.length ≤ 63) (k : Nat) : (txK V F k).length ≤ 443 := by
  unfold txK textL
  have h := join_len 44 ((F.take k).map digL) (map_len6 (fun x hx => hf x (List.mem_of_mem_take hx)))
  simp only [List.length_cons, List.length_map, List.length_take] at h ⊢
  omega

theorem txK_one {V : Int} {F : List Int} (h : 0 < F.length) : txK V F 1 = txK V F 0 ++ digL (F[0]?.getD 0) := by
  unfold txK textL
  rw [show (1 : Nat) = 0 + 1 from rfl, take_snoc h]
  simp [Lib.join_one, Lib.join_nil]

theorem txK_next {V : Int} {F : List Int} {k : Nat} (h0 : 0 < k) (h : k < F.length) : txK V F (k + 1) = (txK V F k ++ [44]) ++ digL (F[k]?.getD 0) := by
  unfold txK textL
  rw [take_snoc h, List.map_append, List.map_cons, List.map_nil, join_snoc]
  · simp
  · intro he
    have h2 : ((F.take k).map digL).length = 0 := by rw [he]; rfl
    simp only [List.length_map, List.length_take] at h2
    omega

theorem decD (V : Nat) (h1 : 1 ≤ V) (h6 : V ≤ 6) : Lib.decDigits V = [UInt8.ofNat (48 + V)] := by
  rcases (show V = 1 ∨ V = 2 ∨ V = 3 ∨ V = 4 ∨ V = 5 ∨ V = 6 by omega) with rfl | rfl | rfl | rfl | rfl | rfl <;> decide +kernel

theorem add_str (W : World) (x y : List UInt8) (h : x.length + y.length ≤ 1000000) : (Op.stringOp .add ⟨x.toArray⟩ ⟨y.toArray⟩).run Tryd.prog W = .ok (.string ⟨(x ++ y).toArray⟩) W := by
  rw [run_string_add_sum W _ _ (by simp [ByteArray.size]; omega), ByteArray.mk_append_mk]

set_option maxRecDepth 100000 in
set_option maxHeartbeats 2000000 in
theorem textS_any (V : Int) (a : Option Addr) (cap : Nat) (fs : List Int) (w : World) (hx : SlI w w.heap.size a fs) (hl : fs.length ≤ 1048576) (hC : IsC V fs) :
    Calls Tryd.prog 35 #[.agg #[.int .i64 V, .slice a fs.length cap]] w fun e w' => e = .returned (.string ⟨(textL V (facetsL fs)).toArray⟩) ∧ Below w.heap.size w w' := by
  obtain ⟨vn, rfl⟩ : ∃ vn : Nat, V = (vn : Int) := ⟨V.toNat, by have := hC.lo; omega⟩
  have h1 := hC.lo
  have h6 := hC.hi
  obtain ⟨W0, hW0⟩ : ∃ W0, W0 = w.alloc (.cells #[.int .i64 (vn : Int), .slice a fs.length cap] 24) := ⟨_, rfl⟩
  have hB0 : Below w.heap.size w W0 := by rw [hW0]; exact (Below.refl _ w).alloc (Nat.le_refl _) _
  have HK := hid (show W0.heap[w.heap.size]? = some (.cells #[.int .i64 (vn : Int), .slice a fs.length cap] 24 (0, 0)) by rw [hW0]; exact heap_alloc_new _ _)
  have HB0 := hid hB0
  have HW0 := hid hW0
  have Hx := hid hx
  have Hdec := hid (fun (W : World) => dec_any vn (by omega) W)
  have Hfac := hid (fun (W : World) (h : Below w.heap.size w W) => facets_any (vn : Int) a cap fs W (Hx.out.later h h.size) hl hC.range63)
  obtain ⟨F, hF⟩ : ∃ F, F = facetsL fs := ⟨_, rfl⟩
  have Hf : Hid (∀ x ∈ F, 1 ≤ x ∧ x ≤ 63) := hid (by rw [hF]; exact fun x hx => hC.range63 x (List.mem_filter.1 hx).1)
  have hFl : F.length ≤ 63 := by rw [hF]; exact Nat.le_trans (List.length_filter_le _ _) hC.len63
  rw [← hF] at Hfac ⊢
  obtain ⟨b, hb⟩ : ∃ b : UInt8, b = UInt8.ofNat (48 + vn) := ⟨_, rfl⟩
  have HS0 : Hid ((⟨#[b]⟩ : ByteArray) ++ ⟨#[58]⟩ = ⟨(txK (vn : Int) F 0).toArray⟩) := hid (by rw [hb]; rfl)
  rw [← hb] at Hdec
  have Hlen := hid (txK_len (V := (vn : Int)) Hf.out hFl)
  obtain ⟨q0, q1, _, _⟩ := two_of HK.out
  clear hx hB0 hW0 hC hF hb
  go_enter Tryd.func35, Tryd.ntmps35
  go_wp2_with fail
  rw [← HW0.out]
  have Hlt := hid (lt_get HK.out)
  go_region_with (first
    | (go_at_call 57; refine (Hdec.out _).mono ?_; rintro e w1 ⟨rfl, hB1⟩; have HB1a := hid hB1; have hj := (hB1.block w.heap.size (by first | exact Hlt.out | exact lt_get K2.out)).trans (by first | exact HK.out | exact K2.out); obtain ⟨j0, j1, _, _⟩ := two_of hj; have K1 := hid hj; clear hB1 hj)
    | (go_at_call 58; refine (Hfac.out _ (by first | exact HB0.out | exact HB0.out.drew | exact HB0.out.drew.trans (HB1a.out.mono HB0.out.drew.size) | exact HB0.out.trans (HB1a.out.mono HB0.out.size))).mono ?_; rintro e w2 ⟨v, rfl, hr⟩; obtain ⟨_, av, cv, rfl, _⟩ := ownsRow_slI hr.1; have hj := (hr.2.block w.heap.size (by first | exact Hlt.out | exact lt_get K1.out)).trans (by first | exact HK.out | exact K1.out); obtain ⟨m0, m1, _, _⟩ := two_of hj; have K2 := hid hj; clear hj)
    | fail)
  all_goals
    first
      | (obtain ⟨W, hW⟩ : ∃ W, W = w2 := ⟨_, rfl⟩
         have HR : Hid (Below w.heap.size w W ∧ SlI W W.heap.size av F) := hid (by rw [hW]; exact ⟨(hr.later (HB0.out.drew.trans (HB1a.out.mono HB0.out.drew.size))).2, owned_slI hr.1⟩)
         rw [← hW]
         clear hW)
      | (obtain ⟨W, hW⟩ : ∃ W, W = w1 := ⟨_, rfl⟩
         have HR : Hid (Below w.heap.size w W ∧ SlI W W.heap.size av F) := hid (by rw [hW]; exact ⟨((hr.later HB0.out.drew).after HB1a.out).2, (owned_slI hr.1).later HB1a.out HB1a.out.size⟩)
         rw [← hW]
         clear hW)
    clear q0 q1 j0 j1 m0 m1 K1 K2 HB1a hr Hdec Hfac
    rw [HS0.out]
    go_wp2_with fail
    go_loopw [3, 5] (fun tv iv wr => ∃ k : Nat, k ≤ F.length ∧ tv = .string ⟨(txK (vn : Int) F k).toArray⟩ ∧ iv = .int .i64 k ∧ Below W.heap.size W wr) (fun _ iv _ => F.length - (intOf iv).toNat)
    case atStart => exact ⟨0, Nat.zero_le _, rfl, rfl, Below.refl _ _⟩
    case round =>
      obtain ⟨k, hk, rfl, rfl, hB⟩ := hrel
      have HB := hid hB
      have hsz := hB.size
      by_cases hlt : k < F.length
      · obtain ⟨x, hx⟩ : ∃ x, x = F[k]?.getD 0 := ⟨_, rfl⟩
        have hxr := Hf.out _ (getD_mem hlt)
        rw [← hx] at hxr
        have Hck : Hid (∀ (Q : World), Below W.heap.size W Q → ∃ g off, av = some ⟨g, off, none⟩ ∧ Q.cell? ⟨g, off + k, none⟩ = some (.int .i64 x)) := hid (fun Q hQ => by
          rcases HR.out.2 with h | ⟨g, off, hg, rfl, hc⟩
          · rw [h] at hlt; simp at hlt
          · exact ⟨g, off, rfl, by rw [hx]; exact (hQ.cell (p := ⟨g, off + k, none⟩) hg).trans (hc k hlt)⟩)
        obtain ⟨g, off, rfl, hck⟩ := Hck.out wr hB
        obtain ⟨f, rfl⟩ : ∃ f : Nat, x = (f : Int) := ⟨x.toNat, by omega⟩
        have Hd := hid (fun W => digits_any f (by omega) W)
        have hi0 : (0 : Int) ≤ (k : Int) := by omega
        have hi1 : (k : Int) < (F.length : Int) := by omega
        have h443 := Hlen.out k
        have hd6 := digL_len hxr
        obtain ⟨t, ht⟩ : ∃ t : ByteArray, t = ⟨(txK (vn : Int) F k).toArray⟩ := ⟨_, rfl⟩
        obtain ⟨d, hd⟩ : ∃ d : ByteArray, d = ⟨(digL (f : Int)).toArray⟩ := ⟨_, rfl⟩
        rw [← ht]
        rw [← hd] at Hd
        clear hB Hck
        by_cases h0 : k = 0
        · have hgt : decide (0 < k) = false := decide_eq_false (by omega)
          have hadd : ∀ W : World, (Op.stringOp .add t d).run Tryd.prog W = .ok (.string ⟨(txK (vn : Int) F (k + 1)).toArray⟩) W := fun W => by
            have h1 := txK_one (V := (vn : Int)) (F := F) (by omega)
            rw [ht, hd, hx, h0, h1]
            rw [h0] at h443
            rw [hx, h0] at hd6
            exact add_str W _ _ (by omega)
          clear ht hd hx h443 hd6 hxr h0
          go_wp2_with fail
          refine (Hd.out _).mono ?_
          rintro e w3 ⟨rfl, hB3⟩
          have HB3 := hid (HB.out.trans (hB3.mono hsz))
          clear hB3
          go_wp2_with fail
          go_roundw
          case rel => exact ⟨k + 1, by omega, rfl, by go_num, HB3.out⟩
          case measure => simp [intOf]; omega
        · have hgt : decide (0 < k) = true := decide_eq_true (by omega)
          obtain ⟨t2, ht2⟩ : ∃ t2 : ByteArray, t2 = ⟨(txK (vn : Int) F k ++ [44]).toArray⟩ := ⟨_, rfl⟩
          have hadd1 : ∀ W : World, (Op.stringOp .add t ⟨#[44]⟩).run Tryd.prog W = .ok (.string t2) W := fun W => by
            rw [ht, ht2]
            exact add_str W _ [44] (by simp; omega)
          have hadd : ∀ W : World, (Op.stringOp .add t2 d).run Tryd.prog W = .ok (.string ⟨(txK (vn : Int) F (k + 1)).toArray⟩) W := fun W => by
            rw [ht2, hd, txK_next (by omega) hlt, ← hx]
            exact add_str W _ _ (by simp; omega)
          clear ht hd hx ht2 h443 hd6 hxr
          go_wp2_with fail
          refine (Hd.out _).mono ?_
          rintro e w3 ⟨rfl, hB3⟩
          have HB3 := hid (HB.out.trans (hB3.mono hsz))
          clear hB3
          go_wp2_with fail
          go_roundw
          case rel => exact ⟨k + 1, by omega, rfl, by go_num, HB3.out⟩
          case measure => simp [intOf]; omega
      · obtain rfl : k = F.length := by omega
        have HE : Hid (textL (vn : Int) F = txK (vn : Int) F F.length) := hid (by unfold txK; rw [List.take_length])
        go_wp2_with fail
        go_ret
        exact ⟨by rw [HE.out]; rfl, HR.out.1.trans (HB.out.mono HR.out.1.size)⟩

end Go.Proofs.YtbgkalkipalndaaDoor

/-! ComplexText: both doors. -/
namespace Go.Proofs.YtbgkalkipalndaaDoor
open Go.RowKit Go.Shelf

/-- What ComplexText hands back. -/
noncomputable def textR (V : Int) (fs : List Int) : List UInt8 × Int := if isCB V fs then (textL V (facetsL fs), 0) else ([], 1)

theorem fmt_any (n : Nat) (h : n < 100) (w : World) : Calls Tryd.prog 39 #[.int .i64 (n : Int), .int .i64 10] w fun e w' => e = .returned (.string ⟨(Lib.decDigits n).toArray⟩) ∧ w' = w :=
  Any.strconv_FormatInt_10_small fmtT n h w

theorem joinX : Builder.Extra Tryd.prog joinT_ren where
  sizeBuilder := by kernel_rfl
  liesBuilder := by kernel_rfl
  t5 := by kernel_rfl
  a5 := fun _ => by kernel_rfl
  z5 := fun _ => by kernel_rfl
  v5 := fun _ => by kernel_rfl
  infoByte := by kernel_rfl
  cellsByte := by kernel_rfl
  sizeByte := by kernel_rfl
  neB5 := by decide

/-- strings.Join of an own row, by commas. -/
theorem joinV {w : World} {base : Nat} {v : Value} {xs : List (List UInt8)} (h : w.ownsRow base 9 1 v xs.length (xs.map strV)) (hl : xs.length ≤ 1000) (hlen : (Lib.join xs [44]).length ≤ 100000) :
    Calls Tryd.prog 40 #[v, .string ⟨#[44]⟩] w fun e w' => e = .returned (.string ⟨(Lib.join xs [44]).toArray⟩) ∧ Below w.heap.size w w' := by
  rcases h.2 with ⟨rfl, hn⟩ | ⟨g, cap, cur, rfl, _, hg, hc, _⟩
  · have hx : xs = [] := List.eq_nil_of_length_eq_zero hn
    subst hx
    exact (Any.strings_Join_none joinT joinX none 0 ⟨#[44]⟩ w).mono fun e w' ⟨he, hw⟩ => ⟨he, hw ▸ Below.refl _ _⟩
  · have e1 : (xs.map fun x => (⟨x.toArray⟩ : ByteArray)).length = xs.length := by simp
    have e2 : (xs.map fun x => (⟨x.toArray⟩ : ByteArray)).map (·.data.toList) = xs := by
      rw [List.map_map]
      have : ((fun x => x.data.toList) ∘ fun x : List UInt8 => (⟨x.toArray⟩ : ByteArray)) = id := by funext x; rfl
      rw [this, List.map_id]
    have hcall := Any.strings_Join joinT joinX g 0 cap (xs.map fun x => (⟨x.toArray⟩ : ByteArray)) ⟨#[44]⟩ w (fun j x hx => by
      obtain ⟨y, hy, rfl⟩ : ∃ y, xs[j]? = some y ∧ (⟨y.toArray⟩ : ByteArray) = x := by
        rw [List.getElem?_map] at hx
        cases hxs : xs[j]? with
        | none => rw [hxs] at hx; cases hx
        | some y => rw [hxs] at hx; exact ⟨y, by first | rfl | exact hxs, by simpa using hx⟩
      have := h.cells (g := g) rfl j (strV y) (by simp [hy])
      have hadd : (⟨g, 0, none⟩ : Addr).add j = ⟨g, 0 + j, none⟩ := by unfold Addr.add; split <;> simp_all
      rw [hadd] at this
      exact this) (Array.getElem?_eq_some_iff.1 hg).1 (by rw [e1]; omega) (by rw [e1]; exact hc) (by rw [e2]; exact Nat.le_trans hlen (by decide))
    rw [e1, e2] at hcall
    exact hcall

theorem text_mono {P : Program} {f : FuncId} {args : Array Value} {w : World} {r : List UInt8 × Int} {t : List UInt8} {c : Int} {Q : World → Prop} (hr : r = (t, c))
    (h : Calls P f args w fun e w' => e = .returned (.tuple #[.string ⟨t.toArray⟩, .int .i64 c]) ∧ Q w') : Calls P f args w fun e w' => e = .returned (.tuple #[.string ⟨r.1.toArray⟩, .int .i64 r.2]) ∧ Q w' := by
  subst hr; exact h

set_option maxRecDepth 100000 in
set_option maxHeartbeats 1000000 in
theorem specComplexText (V : Int) (a : Option Addr) (cap : Nat) (fs : List Int) (w : World) (hx : SlI w w.heap.size a fs) (hl : fs.length ≤ 1048576) :
    Calls Tryd.prog 18 #[.agg #[.int .i64 V, .slice a fs.length cap]] w fun e w' => e = .returned (.tuple #[.string ⟨(textR V fs).1.toArray⟩, .int .i64 (textR V fs).2]) ∧ Below w.heap.size w w' := by
  have hB0 : Below w.heap.size w (w.alloc (.cells #[.int .i64 V, .slice a fs.length cap] 24)) := (Below.refl _ w).alloc (Nat.le_refl _) _
  have Hx := hid (hx.later hB0 (by simp))
  by_cases hC : IsC V fs
  · refine text_mono (show textR V fs = (textL V (facetsL fs), 0) by unfold textR; rw [isCB_true hC, if_pos rfl]) ?_
    have HC := hid hC
    clear hC
    go_enter Tryd.func18, Tryd.ntmps18
    go_wp2_with fail
    refine (is_yes V a cap fs _ Hx.out hl HC.out).mono ?_
    rintro e w1 ⟨rfl, hB1⟩
    have c0 : w1.cell? ⟨w.heap.size, 0, none⟩ = some (.int .i64 V) := (hB1.cell (p := ⟨w.heap.size, 0, none⟩) (by simp)).trans (by simp [go_sem])
    have c1 : w1.cell? ⟨w.heap.size, 1, none⟩ = some (.slice a fs.length cap) := (hB1.cell (p := ⟨w.heap.size, 1, none⟩) (by simp)).trans (by simp [go_sem])
    have hB01 := hB0.trans (hB1.mono (by simp))
    have hx1 := hid (hx.later hB01 hB01.size)
    go_wp2_with fail
    refine (textS_any V a cap fs _ hx1.out hl HC.out).mono ?_
    rintro e w2 ⟨rfl, hB2⟩
    go_wp2_with fail
    go_ret2
    exact ⟨rfl, hB01.trans (hB2.mono hB01.size)⟩
  · refine text_mono (show textR V fs = ([], 1) by unfold textR; rw [isCB_false hC, if_neg (by simp)]) ?_
    go_enter Tryd.func18, Tryd.ntmps18
    go_wp2_with fail
    refine (is_no V a cap fs _ Hx.out hl hC).mono ?_
    rintro e w1 ⟨rfl, hB1⟩
    have hB01 := hB0.trans (hB1.mono (by simp))
    go_wp2_with fail
    go_ret2
    exact ⟨rfl, hB01⟩

set_option maxRecDepth 100000 in
set_option maxHeartbeats 2000000 in
theorem implComplexText (V : Int) (a : Option Addr) (cap : Nat) (fs : List Int) (w : World) (hx : SlI w w.heap.size a fs) (hl : fs.length ≤ 1048576) :
    Calls Tryd.prog 20 #[.agg #[.int .i64 V, .slice a fs.length cap]] w fun e w' => e = .returned (.tuple #[.string ⟨(textR V fs).1.toArray⟩, .int .i64 (textR V fs).2]) ∧ Below w.heap.size w w' := by
  obtain ⟨W0, hW0⟩ : ∃ W0, W0 = w.alloc (.cells #[.int .i64 V, .slice a fs.length cap] 24) := ⟨_, rfl⟩
  have hB0 : Below w.heap.size w W0 := by rw [hW0]; exact (Below.refl _ w).alloc (Nat.le_refl _) _
  have HK := hid (show W0.heap[w.heap.size]? = some (.cells #[.int .i64 V, .slice a fs.length cap] 24 (0, 0)) by rw [hW0]; exact heap_alloc_new _ _)
  have HB0 := hid hB0
  have HW0 := hid hW0
  have HI := hid (implFacetsOf V a cap fs W0 (hx.later hB0 hB0.size) hl)
  obtain ⟨q0, q1, _, _⟩ := two_of HK.out
  clear hx hB0 hW0
  by_cases hC : IsC V fs
  · refine text_mono (show textR V fs = (textL V (facetsL fs), 0) by unfold textR; rw [isCB_true hC, if_pos rfl]) ?_
    rw [show facetsOfR V fs = (facetsL fs, 0) by unfold facetsOfR; rw [isCB_true hC, if_pos rfl]] at HI
    obtain ⟨vn, rfl⟩ : ∃ vn : Nat, V = (vn : Int) := ⟨V.toNat, by have := hC.lo; omega⟩
    have h1 := hC.lo
    have h6 := hC.hi
    obtain ⟨F, hF⟩ : ∃ F, F = facetsL fs := ⟨_, rfl⟩
    have Hf : Hid (∀ x ∈ F, 1 ≤ x ∧ x ≤ 63) := hid (by rw [hF]; exact fun x hx => hC.range63 x (List.mem_filter.1 hx).1)
    have hFl : F.length ≤ 63 := by rw [hF]; exact Nat.le_trans (List.length_filter_le _ _) hC.len63
    rw [← hF] at HI ⊢
    have Hd := hid (decD vn (by omega) (by omega))
    obtain ⟨b, hb⟩ : ∃ b : UInt8, b = UInt8.ofNat (48 + vn) := ⟨_, rfl⟩
    rw [← hb] at Hd
    have Hfmt := hid (fun W => fmt_any vn (by omega) W)
    rw [Hd.out] at Hfmt
    have HT : Hid (textL (vn : Int) F = [b] ++ [58] ++ Lib.join (F.map digL) [44]) := hid (by rw [hb]; rfl)
    have Hjl := hid (join_len 44 (F.map digL) (map_len6 Hf.out))
    clear hC hF hb
    go_enter Tryd.func20, Tryd.ntmps20
    go_wp2_with fail
    rw [← HW0.out]
    go_wp2_with fail
    refine HI.out.mono ?_
    rintro e w1 ⟨v, rfl, hr⟩
    obtain ⟨_, av, cv, rfl, hs⟩ := ownsRow_slI hr.1
    have HB1 := hid (HB0.out.trans (hr.2.mono HB0.out.size))
    have Hs := hid hs
    have K1 := hid ((hr.2.block _ (lt_get HK.out)).trans HK.out)
    clear hr hs q0 q1
    go_wp2_with fail
    go_loopw [6, 19] (fun tv iv wr => ∃ k : Nat, k ≤ F.length ∧ iv = .int .i64 k ∧ wr.ownsRow w1.heap.size 9 1 tv ((F.take k).map digL).length (((F.take k).map digL).map strV) ∧ Below w1.heap.size w1 wr) (fun _ iv _ => F.length - (intOf iv).toNat)
    case atStart => exact ⟨0, Nat.zero_le _, rfl, World.ownsRow_nil _ _ _ _, Below.refl _ _⟩
    case round =>
      obtain ⟨k, hk, rfl, hown, hB⟩ := hrel
      have HB := hid hB
      have hsz := hB.size
      by_cases hlt : k < F.length
      · obtain ⟨x, hx⟩ : ∃ x, x = F[k]?.getD 0 := ⟨_, rfl⟩
        have hxr := Hf.out _ (getD_mem hlt)
        rw [← hx] at hxr
        have Hck : Hid (∀ (Q : World), Below w1.heap.size w1 Q → ∃ g off, av = some ⟨g, off, none⟩ ∧ Q.cell? ⟨g, off + k, none⟩ = some (.int .i64 x)) := hid (fun Q hQ => by
          rcases Hs.out with h | ⟨g, off, hg, rfl, hc⟩
          · rw [h] at hlt; simp at hlt
          · exact ⟨g, off, rfl, by rw [hx]; exact (hQ.cell (p := ⟨g, off + k, none⟩) hg).trans (hc k hlt)⟩)
        obtain ⟨g, off, rfl, hck⟩ := Hck.out wr hB
        obtain ⟨f, rfl⟩ : ∃ f : Nat, x = (f : Int) := ⟨x.toNat, by omega⟩
        have Hst := hid (fun W => setText_any f (by omega) W)
        have hi0 : (0 : Int) ≤ (k : Int) := by omega
        have hi1 : (k : Int) < (F.length : Int) := by omega
        have Hnx : Hid ((F.take (k + 1)).map digL = (F.take k).map digL ++ [digL (f : Int)]) := hid (by rw [take_snoc hlt, ← hx]; simp)
        have hxl : ((F.take k).map digL).length ≤ 1099511627776 := by simp; omega
        have HX : Hid (Value.string ⟨(digL (f : Int)).toArray⟩ = strV (digL (f : Int))) := hid rfl
        clear hB Hck hx hxr
        go_wp2_with fail
        refine (Hst.out _).mono ?_
        rintro e w3 ⟨rfl, hB3⟩
        have HB3 := hid (HB.out.trans (hB3.mono hsz))
        have hsz3 := HB3.out.size
        have hown3 := ownsRow_below hown hB3 (fun g hg => (hown.lt g hg).2)
        clear hB3 hown
        go_wp2_with (first
          | (at_builtin; rw [HX.out]; refine append_str rfl rfl hown3 hsz3 hxl rfl rfl ?_; intro v' w4 hown4 hgrow4 hB4)
          | fail)
        go_roundw
        case rel => exact ⟨k + 1, by omega, by go_num, by rw [Hnx.out]; exact hown4, HB3.out.trans hB4⟩
        case measure => simp [intOf]; omega
      · obtain rfl : k = F.length := by omega
        obtain ⟨k0, k1, _, _⟩ := two_of ((hB.block _ (lt_get K1.out)).trans K1.out)
        rw [List.take_length] at hown
        have HJ := hid (joinV hown (by simp; omega) (by have := Hjl.out; simp at this; omega))
        have Hend := hid (HB1.out.trans (HB.out.mono HB1.out.size))
        obtain ⟨j, hj⟩ : ∃ j : ByteArray, j = ⟨(Lib.join (F.map digL) [44]).toArray⟩ := ⟨_, rfl⟩
        obtain ⟨r, hr⟩ : ∃ r : ByteArray, r = ⟨(textL (vn : Int) F).toArray⟩ := ⟨_, rfl⟩
        have hadd : ∀ W : World, (Op.stringOp .add ((⟨#[b]⟩ : ByteArray) ++ ⟨#[58]⟩) j).run Tryd.prog W = .ok (.string r) W := fun W => by
          rw [hj, hr, HT.out]
          exact add_str W [b, 58] _ (by have := Hjl.out; simp at this ⊢; omega)
        rw [← hj] at HJ
        have Hr := hid hr
        clear hj hr hB hown
        go_wp2_with fail
        refine (Hfmt.out _).mono ?_
        rintro e w5 ⟨rfl, rfl⟩
        go_wp2_with fail
        refine HJ.out.mono ?_
        rintro e w6 ⟨rfl, hB6⟩
        have HB6 := hid (Hend.out.trans (hB6.mono Hend.out.size))
        clear hB6
        go_wp2_with fail
        go_ret2
        exact ⟨by rw [← Hr.out]; rfl, HB6.out⟩
  · refine text_mono (show textR V fs = ([], 1) by unfold textR; rw [isCB_false hC, if_neg (by simp)]) ?_
    rw [show facetsOfR V fs = ([], 1) by unfold facetsOfR; rw [isCB_false hC, if_neg (by simp)]] at HI
    clear hC
    go_enter Tryd.func20, Tryd.ntmps20
    go_wp2_with fail
    rw [← HW0.out]
    go_wp2_with fail
    refine HI.out.mono ?_
    rintro e w1 ⟨v, rfl, hr⟩
    obtain ⟨_, av, cv, rfl, _⟩ := ownsRow_slI hr.1
    have HB1 := hid (HB0.out.trans (hr.2.mono HB0.out.size))
    clear hr q0 q1
    go_wp2_with fail
    go_ret2
    exact ⟨rfl, HB1.out⟩

end Go.Proofs.YtbgkalkipalndaaDoor

/-! What a complex that comes in is told as, for the rows of all laws. -/
namespace Go.Proofs.YtbgkalkipalndaaDoor
open Go.ChangeShapes Go.WideShapes Go.ChangeAt Go.RowKit Go.Joins

theorem own : ownKnob Tryd.prog.godebug = none := by kernel_rfl
theorem laidOut : laidOutB Tryd.prog = true := by kernel_rfl

variable {H : Type} {enc : TypeId × Value → H}

/-- A slice of int64 that came in. -/
theorem slI_of_trod {W : World} {n : Nat} {v : Value} {y : DataW H × List MemPlace} (hf : DataW.trod enc Tryd.prog W 0 (fun _ => true) true n 22 [v] = some y) :
    ∃ a len cap xs, v = .slice a len cap ∧ xs.length = len ∧ len ≤ 9223372036854775807 ∧ SlI W W.heap.size a xs ∧ ∀ x ∈ xs, (Lit.int .i64 x).wf = true := by
  rcases open_ints Tryd.underlying22 Tryd.underlying2 (by kernel_rfl) hf with ⟨hcs, _⟩ | ⟨x, l, c, zs, hcs, _, hl, hm, hz, _, hcell, hwf⟩
  · simp at hcs
    subst hcs
    exact ⟨none, 0, 0, [], rfl, rfl, by omega, .inl rfl, by simp⟩
  · simp at hcs
    subst hcs
    simp at hz
    have hlen : (zs.take l).length = l := by simp; omega
    unfold maxLen at hm
    refine ⟨some x, l, c, zs.take l, rfl, hlen, by omega, ?_, fun y hy => hwf y (List.mem_of_mem_take hy)⟩
    by_cases h0 : l = 0
    · subst h0; exact .inl (by simp)
    · right
      obtain ⟨b, off, spot⟩ := x
      have hc0 := hcell 0 (by omega)
      have hspot : spot = none := by simpa [Addr.add] using World.cell?_spot hc0
      subst hspot
      refine ⟨b, off, ?_, rfl, fun i hi => ?_⟩
      · have := World.block_lt_of_cell? W _ hc0
        simpa [Addr.add] using this
      · rw [hlen] at hi
        have := hcell i (by omega)
        have hadd : (⟨b, off, none⟩ : Addr).add i = ⟨b, off + i, none⟩ := by unfold Addr.add; split <;> simp_all
        rw [hadd] at this
        rw [List.getElem?_take, if_pos hi]
        simpa using this

end Go.Proofs.YtbgkalkipalndaaDoor

/-! The library's sort, slices.Sorted and maps.Keys at int64: that this program holds their very bodies. -/
namespace Go.Proofs.YtbgkalkipalndaaDoor
open Go.Shelf

def sortL_ren : Go.Shelf.Ren := ⟨fun | 5 => 85 | 8 => 101 | 7 => 100 | 19 => 118 | 20 => 89 | 10 => 109 | 11 => 110 | 12 => 111 | 13 => 112 | 14 => 113 | 15 => 114 | 16 => 115 | 17 => 116 | 18 => 117 | 30 => 121 | 31 => 122 | 32 => 123 | 33 => 124 | 34 => 125 | 35 => 126 | 40 => 127 | n => n, fun | 23 => 22 | 25 => 2 | 3 => 3 | 32 => 114 | 22 => 22 | 0 => 0 | 44 => 111 | 46 => 93 | 4 => 4 | 36 => 128 | 35 => 127 | 41 => 133 | 5 => 5 | 9 => 9 | 53 => 143 | 57 => 147 | 63 => 149 | 64 => 150 | n => n, fun | n => n⟩
theorem sortL : Go.Proofs.SlLaysM.n5 Tryd.prog sortL_ren := {
  mixed := by kernel_rfl,
  f5 := ⟨Tryd.f85.name, by decide, Tryd.func85.trans (congrArg some (by kernel_rfl))⟩,
  f7 := ⟨Tryd.f100.name, by decide, Tryd.func100.trans (congrArg some (by kernel_rfl))⟩,
  f8 := Tryd.func101.trans (congrArg some (by kernel_rfl)),
  f10 := ⟨Tryd.f109.name, by decide, Tryd.func109.trans (congrArg some (by kernel_rfl))⟩,
  f11 := ⟨Tryd.f110.name, by decide, Tryd.func110.trans (congrArg some (by kernel_rfl))⟩,
  f12 := ⟨Tryd.f111.name, by decide, Tryd.func111.trans (congrArg some (by kernel_rfl))⟩,
  f13 := ⟨Tryd.f112.name, by decide, Tryd.func112.trans (congrArg some (by kernel_rfl))⟩,
  f14 := ⟨Tryd.f113.name, by decide, Tryd.func113.trans (congrArg some (by kernel_rfl))⟩,
  f15 := ⟨Tryd.f114.name, by decide, Tryd.func114.trans (congrArg some (by kernel_rfl))⟩,
  f16 := ⟨Tryd.f115.name, by decide, Tryd.func115.trans (congrArg some (by kernel_rfl))⟩,
  f17 := ⟨Tryd.f116.name, by decide, Tryd.func116.trans (congrArg some (by kernel_rfl))⟩,
  f18 := ⟨Tryd.f117.name, by decide, Tryd.func117.trans (congrArg some (by kernel_rfl))⟩,
  f19 := Tryd.func118.trans (congrArg some (by kernel_rfl)),
  f20 := Tryd.func89.trans (congrArg some (by kernel_rfl)),
  f30 := ⟨Tryd.f121.name, by decide, Tryd.func121.trans (congrArg some (by kernel_rfl))⟩,
  f31 := Tryd.func122.trans (congrArg some (by kernel_rfl)),
  f32 := Tryd.func123.trans (congrArg some (by kernel_rfl)),
  f33 := ⟨Tryd.f124.name, by decide, Tryd.func124.trans (congrArg some (by kernel_rfl))⟩,
  f34 := ⟨Tryd.f125.name, by decide, Tryd.func125.trans (congrArg some (by kernel_rfl))⟩,
  f35 := ⟨Tryd.f126.name, by decide, Tryd.func126.trans (congrArg some (by kernel_rfl))⟩,
  f40 := ⟨Tryd.f127.name, by decide, Tryd.func127.trans (congrArg some (by kernel_rfl))⟩,
  t0 := Tryd.underlying0,
  a0 := Tryd.isAgg0,
  z0 := Tryd.sizeOf0,
  v0 := Tryd.zeroValue0,
  t3 := Tryd.underlying3,
  a3 := Tryd.isAgg3,
  z3 := Tryd.sizeOf3,
  v3 := Tryd.zeroValue3,
  t4 := Tryd.underlying4,
  a4 := Tryd.isAgg4,
  z4 := Tryd.sizeOf4,
  v4 := Tryd.zeroValue4,
  t5 := Tryd.underlying5,
  a5 := Tryd.isAgg5,
  z5 := Tryd.sizeOf5,
  v5 := Tryd.zeroValue5,
  t9 := Tryd.underlying9,
  a9 := Tryd.isAgg9,
  z9 := Tryd.sizeOf9,
  v9 := Tryd.zeroValue9,
  t22 := Tryd.underlying22,
  a22 := Tryd.isAgg22,
  z22 := Tryd.sizeOf22,
  v22 := Tryd.zeroValue22,
  t23 := Tryd.underlying22,
  a23 := Tryd.isAgg22,
  z23 := Tryd.sizeOf22,
  v23 := Tryd.zeroValue22,
  t25 := Tryd.underlying2,
  a25 := Tryd.isAgg2,
  z25 := Tryd.sizeOf2,
  v25 := Tryd.zeroValue2,
  t32 := Tryd.underlying114,
  a32 := Tryd.isAgg114,
  z32 := Tryd.sizeOf114,
  v32 := Tryd.zeroValue114,
  t35 := Tryd.underlying127,
  a35 := Tryd.isAgg127,
  z35 := Tryd.sizeOf127,
  v35 := Tryd.zeroValue127,
  t36 := Tryd.underlying128,
  a36 := Tryd.isAgg128,
  z36 := Tryd.sizeOf128,
  v36 := Tryd.zeroValue128,
  t41 := Tryd.underlying133,
  a41 := Tryd.isAgg133,
  z41 := Tryd.sizeOf133,
  v41 := Tryd.zeroValue133,
  t44 := Tryd.underlying111,
  a44 := Tryd.isAgg111,
  z44 := Tryd.sizeOf111,
  v44 := Tryd.zeroValue111,
  t46 := Tryd.underlying93,
  a46 := Tryd.isAgg93,
  z46 := Tryd.sizeOf93,
  v46 := Tryd.zeroValue93,
  t53 := Tryd.underlying143,
  a53 := Tryd.isAgg143,
  z53 := Tryd.sizeOf143,
  v53 := Tryd.zeroValue143,
  t57 := Tryd.underlying147,
  a57 := Tryd.isAgg147,
  z57 := Tryd.sizeOf147,
  v57 := Tryd.zeroValue147,
  t63 := Tryd.underlying149,
  a63 := Tryd.isAgg149,
  z63 := Tryd.sizeOf149,
  v63 := Tryd.zeroValue149,
  t64 := Tryd.underlying150,
  a64 := Tryd.isAgg150,
  z64 := Tryd.sizeOf150,
  v64 := Tryd.zeroValue150 }

def sortedL_ren : Go.Shelf.Ren := ⟨fun | 6 => 70 | 8 => 84 | 9 => 85 | 11 => 99 | 13 => 101 | 12 => 100 | 23 => 118 | 24 => 89 | 14 => 109 | 15 => 110 | 16 => 111 | 17 => 112 | 18 => 113 | 19 => 114 | 20 => 115 | 21 => 116 | 22 => 117 | 25 => 121 | 26 => 122 | 27 => 123 | 28 => 124 | 29 => 125 | 30 => 126 | 31 => 127 | n => n, fun | 26 => 2 | 28 => 79 | 24 => 22 | 0 => 0 | 3 => 3 | 37 => 114 | 48 => 111 | 50 => 93 | 4 => 4 | 40 => 128 | 39 => 127 | 45 => 133 | 5 => 5 | 9 => 9 | 51 => 143 | 55 => 147 | 57 => 149 | 58 => 150 | 33 => 70 | n => n, fun | n => n⟩
theorem sortedL : Go.Proofs.SlLaysZI.n6 Tryd.prog sortedL_ren := {
  mixed := by kernel_rfl,
  f6 := ⟨Tryd.f70.name, by decide, Tryd.func70.trans (congrArg some (by kernel_rfl))⟩,
  f8 := ⟨Tryd.f84.name, by decide, Tryd.func84.trans (congrArg some (by kernel_rfl))⟩,
  f11 := ⟨Tryd.f99.name, by decide, Tryd.func99.trans (congrArg some (by kernel_rfl))⟩,
  t0 := Tryd.underlying0,
  a0 := Tryd.isAgg0,
  z0 := Tryd.sizeOf0,
  v0 := Tryd.zeroValue0,
  t24 := Tryd.underlying22,
  a24 := Tryd.isAgg22,
  z24 := Tryd.sizeOf22,
  v24 := Tryd.zeroValue22,
  t26 := Tryd.underlying2,
  a26 := Tryd.isAgg2,
  z26 := Tryd.sizeOf2,
  v26 := Tryd.zeroValue2,
  t28 := Tryd.underlying79,
  a28 := Tryd.isAgg79,
  z28 := Tryd.sizeOf79,
  v28 := Tryd.zeroValue79,
  i26 := by kernel_rfl }

def keysL_ren : Go.Shelf.Ren := ⟨fun | 7 => 71 | 10 => 86 | n => n, fun | 23 => 77 | 26 => 2 | 3 => 4 | 28 => 79 | 0 => 0 | 27 => 78 | 33 => 70 | 4 => 4 | n => n, fun | n => n⟩
theorem keysL : Go.Proofs.SlLaysZI.n7 Tryd.prog keysL_ren := {
  mixed := by kernel_rfl,
  f7 := ⟨Tryd.f71.name, by decide, Tryd.func71.trans (congrArg some (by kernel_rfl))⟩,
  f10 := ⟨Tryd.f86.name, by decide, Tryd.func86.trans (congrArg some (by kernel_rfl))⟩,
  t0 := Tryd.underlying0,
  a0 := Tryd.isAgg0,
  z0 := Tryd.sizeOf0,
  v0 := Tryd.zeroValue0,
  t4 := Tryd.underlying4,
  a4 := Tryd.isAgg4,
  z4 := Tryd.sizeOf4,
  v4 := Tryd.zeroValue4,
  t23 := Tryd.underlying77,
  a23 := Tryd.isAgg77,
  z23 := Tryd.sizeOf77,
  v23 := Tryd.zeroValue77,
  t26 := Tryd.underlying2,
  a26 := Tryd.isAgg2,
  z26 := Tryd.sizeOf2,
  v26 := Tryd.zeroValue2,
  t27 := Tryd.underlying78,
  a27 := Tryd.isAgg78,
  z27 := Tryd.sizeOf78,
  v27 := Tryd.zeroValue78,
  t28 := Tryd.underlying79,
  a28 := Tryd.isAgg79,
  z28 := Tryd.sizeOf79,
  v28 := Tryd.zeroValue79,
  t33 := Tryd.underlying70,
  a33 := Tryd.isAgg70,
  z33 := Tryd.sizeOf70,
  v33 := Tryd.zeroValue70 }

end Go.Proofs.YtbgkalkipalndaaDoor

/-! 'out.Faces = append(out.Faces, x)' in the model's loops, where the complex that is built has a number of vertices of its own (OutW, with that number). -/
namespace Go.Proofs.YtbgkalkipalndaaDoor
open Go.RowKit

/-- The same, where what is built has another number of vertices: B is the heap's size when the call began. -/
structure OutU (w W : World) (V U : Int) (sl : Value) (Bo : Nat) (xs : List Int) (a : Option Addr) (c : Nat) : Prop where
  below : Below w.heap.size w W
  kbox : W.heap[w.heap.size]? = some (.cells #[.int .i64 V, sl] 24 (0, 0))
  res : W.heap[w.heap.size + 1]? = some (.cells #[.int .i64 0, .slice none 0 0] 24 (0, 0))
  out : W.heap[Bo]? = some (.cells #[.int .i64 U, .slice a xs.length c] 24 (0, 0))
  own : W.ownsRow w.heap.size 2 1 (.slice a xs.length c) xs.length (xs.map (Value.int .i64))
  bo : w.heap.size + 1 < Bo

/-- Draws alone. -/
theorem OutU.drew {w W : World} {V U : Int} {sl : Value} {Bo : Nat} {xs : List Int} {a : Option Addr} {c : Nat} (h : OutU w W V U sl Bo xs a c) : OutU w W.drew V U sl Bo xs a c :=
  ⟨⟨h.below.os, h.below.tape, h.below.output, h.below.size, h.below.block⟩, h.kbox, h.res, h.out, h.own, h.bo⟩

theorem OutU.drewN {w W : World} {V U : Int} {sl : Value} {Bo : Nat} {xs : List Int} {a : Option Addr} {c : Nat} (h : OutU w W V U sl Bo xs a c) (n : Nat) : OutU w (W.drewN n) V U sl Bo xs a c :=
  ⟨⟨h.below.os, h.below.tape, h.below.output, h.below.size, h.below.block⟩, h.kbox, h.res, h.out, h.own, h.bo⟩

/-- Whatever keeps all that lay. -/
theorem OutU.later {w W W' : World} {V U : Int} {sl : Value} {Bo : Nat} {xs : List Int} {a : Option Addr} {c : Nat} (h : OutU w W V U sl Bo xs a c) (hb : Below W.heap.size W W') : OutU w W' V U sl Bo xs a c where
  below := h.below.trans (hb.mono h.below.size)
  kbox := (hb.block _ (lt_get h.kbox)).trans h.kbox
  res := (hb.block _ (lt_get h.res)).trans h.res
  out := (hb.block _ (lt_get h.out)).trans h.out
  own := ownsRow_below h.own hb (fun g hg => (h.own.lt g hg).2)
  bo := h.bo

/-- A face more. -/
theorem OutU.step {w W w2 : World} {V U : Int} {sl : Value} {Bo : Nat} {xs : List Int} {a : Option Addr} {c : Nat} (h : OutU w W V U sl Bo xs a c) {x : Int} {g cap : Nat} {o : Obj}
    (hown : w2.ownsRow w.heap.size 2 1 (.slice (some ⟨g, 0, none⟩) (xs ++ [x]).length cap) (xs ++ [x]).length ((xs ++ [x]).map (Value.int .i64))) (hg : (W.alloc o).grownBy w2 (Value.ownBlock (.slice a xs.length c))) :
    OutU w (w2.setCell ⟨Bo, 1, none⟩ (.slice (some ⟨g, 0, none⟩) (xs ++ [x]).length cap)) V U sl Bo (xs ++ [x]) (some ⟨g, 0, none⟩) cap := by
  have hgr : W.grownBy w2 (Value.ownBlock (.slice a xs.length c)) := (World.grownBy_alloc W o _).trans hg
  have hbo := h.bo
  have k2 := (hgr.block _ (lt_get h.kbox) (row_ne h.own h.kbox (by decide))).trans h.kbox
  have r2 := (hgr.block _ (lt_get h.res) (row_ne h.own h.res (by decide))).trans h.res
  have o2 := (hgr.block _ (lt_get h.out) (row_ne h.own h.out (by decide))).trans h.out
  refine ⟨?_, ?_, ?_, ?_, ?_, h.bo⟩
  · exact (h.below.grown hgr h.below.size (fun k hk => (h.own.lt k hk).1)).setCell (p := ⟨Bo, 1, none⟩) (by simp only; omega) _
  · exact (Below.heap_setCell _ _ _ _ (by simp only; omega)).trans k2
  · exact (Below.heap_setCell _ _ _ _ (by simp only; omega)).trans r2
  · simp only [World.setCell, Array.getElem?_modify, o2]
    simp
  · exact ownsRow_set hown (by
      have := row_ne hown o2 (by decide)
      exact fun e => this e.symm) _

/-- The model's loops hand back what they have built. -/
theorem OutU.done {w W : World} {V U : Int} {sl : Value} {Bo : Nat} {xs : List Int} {a : Option Addr} {c : Nat} (h : OutU w W V U sl Bo xs a c) (u v : Value) :
    Res w ((W.setCell ⟨w.heap.size + 1, 0, none⟩ u).setCell ⟨w.heap.size + 1, 1, none⟩ v) (.slice a xs.length c) xs := by
  have hn := row_ne h.own h.res (by decide)
  exact ⟨ownsRow_set (ownsRow_set h.own (fun e => hn e.symm) _) (fun e => hn e.symm) _, (h.below.setCell (p := ⟨w.heap.size + 1, 0, none⟩) (by simp) _).setCell (p := ⟨w.heap.size + 1, 1, none⟩) (by simp) _⟩

theorem OutU.stepN {w W w2 : World} {V U : Int} {sl : Value} {Bo : Nat} {xs : List Int} {a : Option Addr} {c : Nat} (h : OutU w W V U sl Bo xs a c) {x : Int} {g cap : Nat} {o : Obj} {n : Nat}
    (hown : w2.ownsRow w.heap.size 2 1 (.slice (some ⟨g, 0, none⟩) (xs ++ [x]).length cap) (xs ++ [x]).length ((xs ++ [x]).map (Value.int .i64))) (hg : ((W.drewN n).alloc o).grownBy w2 (Value.ownBlock (.slice a xs.length c))) :
    OutU w (w2.setCell ⟨Bo, 1, none⟩ (.slice (some ⟨g, 0, none⟩) (xs ++ [x]).length cap)) V U sl Bo (xs ++ [x]) (some ⟨g, 0, none⟩) cap := (h.drewN n).step hown hg

/-- The out block behind an append. -/
theorem OutU.mid {w W w2 : World} {V U : Int} {sl : Value} {Bo : Nat} {xs : List Int} {a : Option Addr} {c : Nat} (h : OutU w W V U sl Bo xs a c) {n : Nat} {o : Obj} (hg : ((W.drewN n).alloc o).grownBy w2 (Value.ownBlock (.slice a xs.length c))) :
    w2.cell? ⟨Bo, 1, none⟩ = some (.slice a xs.length c) ∧ w2.frozen? ⟨Bo, 1, none⟩ = false := by
  have hgr : (W.drewN n).grownBy w2 (Value.ownBlock (.slice a xs.length c)) := (World.grownBy_alloc _ o _).trans hg
  have o2 := (hgr.block _ (lt_get (h.drewN n).out) (row_ne (h.drewN n).own (h.drewN n).out (by decide))).trans (h.drewN n).out
  constructor <;> simp [World.cell?, World.frozen?, o2]

/-- The given complex's box behind an append. -/
theorem OutU.midK {w W w2 : World} {V U : Int} {sl : Value} {Bo : Nat} {xs : List Int} {a : Option Addr} {c : Nat} (h : OutU w W V U sl Bo xs a c) {n : Nat} {o : Obj} (hg : ((W.drewN n).alloc o).grownBy w2 (Value.ownBlock (.slice a xs.length c))) :
    w2.cell? ⟨w.heap.size, 1, none⟩ = some sl := by
  have hgr : (W.drewN n).grownBy w2 (Value.ownBlock (.slice a xs.length c)) := (World.grownBy_alloc _ o _).trans hg
  have o2 := (hgr.block _ (lt_get (h.drewN n).kbox) (row_ne (h.drewN n).own (h.drewN n).kbox (by decide))).trans (h.drewN n).kbox
  simp [World.cell?, o2]

/-- What lay before the call, behind an append. -/
theorem OutU.midX {w W w2 : World} {V U : Int} {sl : Value} {Bo : Nat} {xs : List Int} {a : Option Addr} {c : Nat} (h : OutU w W V U sl Bo xs a c) {n : Nat} {o : Obj} (hg : ((W.drewN n).alloc o).grownBy w2 (Value.ownBlock (.slice a xs.length c))) {p : Addr} (hp : p.block < w.heap.size) :
    w2.cell? p = W.cell? p := by
  have hgr : (W.drewN n).grownBy w2 (Value.ownBlock (.slice a xs.length c)) := (World.grownBy_alloc _ o _).trans hg
  have hlt : p.block < (W.drewN n).heap.size := Nat.lt_of_lt_of_le hp h.below.size
  have h2 : w2.heap[p.block]? = W.heap[p.block]? := hgr.block _ hlt (by
    intro he
    have := (h.own.lt _ he.symm).1
    omega)
  simp only [World.cell?, h2]

end Go.Proofs.YtbgkalkipalndaaDoor

/-! Finite facts on bits, decided. -/
namespace Go.Proofs.YtbgkalkipalndaaDoor
open Go.RowKit

theorem andNot_fin : ∀ x : Nat, x < 64 → ∀ s : Nat, s < 64 → (bits BinOp.andNot IntKind.i64 (x : Int) (s : Int) == 0) = decide (x &&& s = x) := by
  decide +kernel

end Go.Proofs.YtbgkalkipalndaaDoor

/-! The numbers from 1 to n that are wanted, ascending. -/
namespace Go.Proofs.YtbgkalkipalndaaDoor
open Go.RowKit

/-- The numbers from 1 to k of which p says yes. -/
def pickTo (p : Int → Bool) : Nat → List Int
  | 0 => []
  | k + 1 => pickTo p k ++ (if p ((k : Int) + 1) then [(k : Int) + 1] else [])

theorem pickTo_len (p : Int → Bool) : ∀ k, (pickTo p k).length ≤ k
  | 0 => by simp [pickTo]
  | k + 1 => by
    have := pickTo_len p k
    simp only [pickTo, List.length_append]
    split <;> simp <;> omega

theorem mem_pickTo {p : Int → Bool} {x : Int} : ∀ k : Nat, x ∈ pickTo p k ↔ 1 ≤ x ∧ x ≤ k ∧ p x = true
  | 0 => by simp [pickTo]; omega
  | k + 1 => by
    have ih := mem_pickTo (p := p) (x := x) k
    simp only [pickTo, List.mem_append, ih]
    constructor
    · rintro (⟨h1, h2, h3⟩ | h)
      · exact ⟨h1, by omega, h3⟩
      · split at h
        · rename_i hp
          simp at h
          subst h
          exact ⟨by omega, by omega, hp⟩
        · simp at h
    · rintro ⟨h1, h2, h3⟩
      by_cases he : x = (k : Int) + 1
      · subst he
        right
        rw [if_pos h3]; simp
      · exact .inl ⟨h1, by omega, h3⟩

theorem pickTo_asc (p : Int → Bool) : ∀ k : Nat, (pickTo p k).Pairwise (· < ·)
  | 0 => by simp [pickTo]
  | k + 1 => by
    simp only [pickTo]
    rw [List.pairwise_append]
    refine ⟨pickTo_asc p k, by split <;> simp, fun a ha b hb => ?_⟩
    have h1 := (mem_pickTo k).1 ha
    split at hb
    · simp at hb; omega
    · simp at hb

theorem pickTo_congr {p q : Int → Bool} : ∀ k : Nat, (∀ x : Int, 1 ≤ x → x ≤ k → p x = q x) → pickTo p k = pickTo q k
  | 0, _ => rfl
  | k + 1, h => by
    simp only [pickTo]
    rw [pickTo_congr k (fun x h1 h2 => h x h1 (by omega)), h ((k : Int) + 1) (by omega) (by omega)]

/-- Two ascending lists with the same members are one. -/
theorem asc_ext : ∀ {xs ys : List Int}, xs.Pairwise (· < ·) → ys.Pairwise (· < ·) → (∀ x, x ∈ xs ↔ x ∈ ys) → xs = ys
  | [], [], _, _, _ => rfl
  | [], y :: ys, _, _, h => absurd ((h y).2 (by simp)) (by simp)
  | x :: xs, [], _, _, h => absurd ((h x).1 (by simp)) (by simp)
  | x :: xs, y :: ys, hx, hy, h => by
    have hx' := List.pairwise_cons.1 hx
    have hy' := List.pairwise_cons.1 hy
    have hxy : x = y := by
      have h1 := (h x).1 (by simp)
      have h2 := (h y).2 (by simp)
      rcases List.mem_cons.1 h1 with h1 | h1
      · exact h1
      · rcases List.mem_cons.1 h2 with h2 | h2
        · exact h2.symm
        · have a := hy'.1 _ h1
          have b := hx'.1 _ h2
          omega
    subst hxy
    congr 1
    refine asc_ext hx'.2 hy'.2 fun z => ?_
    have hz := h z
    simp only [List.mem_cons] at hz
    constructor
    · intro hm
      rcases hz.1 (.inr hm) with rfl | h'
      · exact absurd (hx'.1 _ hm) (by omega)
      · exact h'
    · intro hm
      rcases hz.2 (.inr hm) with rfl | h'
      · exact absurd (hy'.1 _ hm) (by omega)
      · exact h'

end Go.Proofs.YtbgkalkipalndaaDoor

/-! The library's sort at int64, and slices.Sorted(maps.Keys(m)) of a set. -/
namespace Go.Proofs.YtbgkalkipalndaaDoor
open Go.RowKit Go.Maps Go.Sort Go.Shelf

/-- slices.Sort's two contracts, as slices.Sorted asks them. -/
theorem sortsL (m : Nat) : AnyZI.SortsIn Tryd.prog sortedL_ren Fence.wide m :=
  ⟨fun blk off cap ss W hH hblk hsz => callsIn_wide.2 (AnyM.slices_Sort_int sortL blk off cap ss W hH hblk hsz),
   fun p cap W => callsIn_wide.2 (AnyM.slices_Sort_int_none sortL p cap W)⟩

theorem has_knownFrom (x : Int) : ∀ (pre : List Int) (D : DataW Unit), Maps.IsMap D → (has (knownFrom D pre) (.int .i64 x) = true ↔ x ∈ pre ∨ has D (.int .i64 x) = true)
  | [], D, _ => by simp [knownFrom]
  | y :: pre, D, hD => by
    have ih := has_knownFrom x pre (D.put (.int .i64 y) (.lit (.bool true))) (hD.put _ _)
    have e : knownFrom D (y :: pre) = knownFrom (D.put (.int .i64 y) (.lit (.bool true))) pre := rfl
    rw [e, ih]
    by_cases hx : x = y
    · subst hx
      rw [has_put_same hD (show WideAt.IsKeyLit (.int .i64 x) from trivial)]
      simp
    · rw [has_put_other (by simpa using hx)]
      simp [hx]

theorem has_knownD (x : Int) (pre : List Int) : has (knownD pre) (.int .i64 x) = true ↔ x ∈ pre := by
  unfold knownD
  rw [has_knownFrom x pre _ Maps.isMap_empty]
  simp [has]

/-- A set's numbers, ascending. -/
def ascOf (L : List Int) : List Int := pickTo (fun x => decide (x ∈ L)) 63

theorem mem_ascOf {L : List Int} (hL : ∀ x ∈ L, 1 ≤ x ∧ x ≤ 63) {x : Int} : x ∈ ascOf L ↔ x ∈ L := by
  unfold ascOf
  rw [mem_pickTo]
  constructor
  · intro h; simpa using h.2.2
  · intro h; exact ⟨(hL x h).1, (hL x h).2, by simpa using h⟩

theorem sorted_known {w : World} {b n : Nat} {L : List Int} (hown : w.ownsMap Tryd.prog 2 (plainElem (H := Unit) Tryd.prog 4) b n (knownD L)) (hL : ∀ x ∈ L, 1 ≤ x ∧ x ≤ 63) {ss : List Int} (hp : ss.Perm (intKeys (knownD L))) :
    ss.mergeSort (fun x y => decide (x ≤ y)) = ascOf L := by
  obtain ⟨es, hD, hpw, _⟩ := hown.entries (Maps.int_keyed Tryd.underlying2)
  obtain ⟨es', hD', hko⟩ := hown.keysOf
  obtain rfl : es = es' := by rw [hD] at hD'; simpa using hD'
  have hasc := pickTo_asc (fun x => decide (x ∈ L)) 63
  have h1 : (ascOf L).Perm (intKeys (knownD L)) := by
    rw [hD]
    refine perm_intKeys hpw (fun p hp => by obtain ⟨v, hv⟩ := hko p hp; obtain ⟨x, _, hx, _⟩ := Maps.keyOf_i64 Tryd.underlying2 hv; exact ⟨x, hx⟩) (hasc.imp fun h e => by omega) (fun x => ?_)
    rw [← hD, has_knownD, mem_ascOf hL]
  have h2 := mergeSort_of_perm_i (hp.trans h1.symm)
  refine h2.trans (List.mergeSort_of_pairwise ?_)
  exact hasc.imp fun h => by simp only [leI, decide_eq_true_eq]; omega

end Go.Proofs.YtbgkalkipalndaaDoor

/-! madeBy: the complex made by some sets. -/
namespace Go.Proofs.YtbgkalkipalndaaDoor
open Go.RowKit Go.Shelf

attribute [local go_sem] Oper.semAt_some

/-- The parts of a set, as they are met. -/
def partsI (f : Nat) : List Int := (subsF f).map fun p => ((p.val : Nat) : Int)
/-- .. of some sets. -/
def partsL (sets : List Int) : List Int := sets.flatMap fun x => partsI x.toNat
/-- The faces of the complex that some sets make. -/
def madeP (sets : List Int) : Int → Bool := fun x => sets.any fun s => decide (x.toNat &&& s.toNat = x.toNat)
def madeL (V : Int) (sets : List Int) : List Int := pickTo (madeP sets) (allV V).toNat

theorem partsI_len (f : Nat) (hf : f < 64) : (partsI f).length ≤ 63 := by
  unfold partsI; rw [List.length_map]; exact subsF_len f hf

theorem partsL_len : ∀ (sets : List Int), (∀ x ∈ sets, 0 ≤ x ∧ x ≤ 63) → (partsL sets).length ≤ 63 * sets.length
  | [], _ => by simp [partsL]
  | x :: sets, h => by
    have ih := partsL_len sets (fun y hy => h y (by simp [hy]))
    have hx := h x (by simp)
    have := partsI_len x.toNat (by omega)
    simp only [partsL, List.flatMap_cons, List.length_append, List.length_cons] at ih ⊢
    omega

theorem partsL_snoc (sets : List Int) (x : Int) : partsL (sets ++ [x]) = partsL sets ++ partsI x.toNat := by simp [partsL]

theorem mem_partsI {f : Nat} (hf : f < 64) {x : Int} : x ∈ partsI f ↔ ∃ p : Nat, x = p ∧ p ≠ 0 ∧ p &&& f = p := by
  unfold partsI
  rw [List.mem_map]
  constructor
  · rintro ⟨p, hp, rfl⟩
    exact ⟨p.val, rfl, (mem_subsF hf).1 hp⟩
  · rintro ⟨p, rfl, h1, h2⟩
    have hle := and_le_left' _ _ h2
    exact ⟨⟨p, by omega⟩, (mem_subsF hf).2 ⟨h1, h2⟩, rfl⟩

theorem mem_partsL {sets : List Int} (hr : ∀ x ∈ sets, 0 ≤ x ∧ x ≤ 63) {x : Int} : x ∈ partsL sets ↔ ∃ y ∈ sets, ∃ p : Nat, x = p ∧ p ≠ 0 ∧ p &&& y.toNat = p := by
  unfold partsL
  rw [List.mem_flatMap]
  constructor
  · rintro ⟨y, hy, h⟩
    exact ⟨y, hy, (mem_partsI (by have := hr y hy; omega)).1 h⟩
  · rintro ⟨y, hy, h⟩
    exact ⟨y, hy, (mem_partsI (by have := hr y hy; omega)).2 h⟩

/-- What is collected is what is made. -/
theorem asc_parts {V : Int} {sets : List Int} (h2 : V ≤ 6) (hr : ∀ x ∈ sets, 0 ≤ x ∧ x ≤ allV V) : ascOf (partsL sets) = madeL V sets := by
  have h63 : ∀ x ∈ sets, 0 ≤ x ∧ x ≤ 63 := fun x hx => ⟨(hr x hx).1, by have := allV_le h2; have := (hr x hx).2; omega⟩
  refine asc_ext (pickTo_asc _ _) (pickTo_asc _ _) fun x => ?_
  unfold ascOf madeL
  rw [mem_pickTo, mem_pickTo]
  simp only [decide_eq_true_eq, mem_partsL h63, madeP, List.any_eq_true]
  constructor
  · rintro ⟨h1, _, y, hy, p, rfl, hp0, hp⟩
    have hle := and_le_left' _ _ hp
    have := hr y hy
    exact ⟨h1, by omega, y, hy, by simpa using hp⟩
  · rintro ⟨h1, h3, y, hy, hp⟩
    have := allV_le h2
    exact ⟨h1, by omega, y, hy, x.toNat, by omega, by omega, hp⟩

theorem parts_range {sets : List Int} (hr : ∀ x ∈ sets, 0 ≤ x ∧ x ≤ 63) : ∀ x ∈ partsL sets, 1 ≤ x ∧ x ≤ 63 := by
  intro x hx
  obtain ⟨y, hy, p, rfl, h0, hp⟩ := (mem_partsL hr).1 hx
  have := and_le_left' _ _ hp
  have := hr y hy
  omega

theorem faw_box {w W : World} {V : Int} {sl : Value} {mb : Nat} {L : List Int} {Ds : List Nat} (h : FaW w W V sl mb L Ds) : W.cell? ⟨mb + 1, 0, none⟩ = some (.map (some mb)) := (box_cell h.mbox).1

set_option maxRecDepth 100000 in
set_option maxHeartbeats 4000000 in
theorem made_in (V : Int) (a : Option Addr) (cap : Nat) (xs : List Int) (w : World) (hx : SlI w w.heap.size a xs) (hl : xs.length ≤ 1048576) (h2 : V ≤ 6) (hr : ∀ x ∈ xs, 0 ≤ x ∧ x ≤ allV V) :
    CallsIn Fence.wide 10 Tryd.prog 52 #[.int .i64 V, .slice a xs.length cap] w fun e w' => ∃ v, e = .returned (.agg #[.int .i64 V, v]) ∧ Res w w' v (madeL V xs) := by
  have hmm := @run_makeMap Tryd.prog
  have hB0 : Below w.heap.size w (w.alloc (.cells #[.int .i64 0, .slice none 0 0] 24)) := (Below.refl _ w).alloc (Nat.le_refl _) _
  have h63 : ∀ x ∈ xs, 0 ≤ x ∧ x ≤ 63 := fun x hx => ⟨(hr x hx).1, by have := allV_le h2; have := (hr x hx).2; omega⟩
  have HR := hid (asc_parts h2 hr)
  have Hx0 := hid hx
  have Hf := hid h63
  have HB0 := hid hB0
  have hF0 : FaW w (((w.alloc (.cells #[.int .i64 0, .slice none 0 0] 24)).alloc (.map #[] 0)).alloc (.cells #[.map (some (w.heap.size + 1))] 77)) 0 (.slice none 0 0) (w.heap.size + 1) [] [] := by
    have e3 := heap_alloc_new ((w.alloc (.cells #[.int .i64 0, .slice none 0 0] 24)).alloc (.map #[] 0)) (.cells #[.map (some (w.heap.size + 1))] 77)
    rw [World.size_alloc, World.size_alloc] at e3
    have e4 := (World.ownsMap_made (w.alloc (.cells #[.int .i64 0, .slice none 0 0] 24)) Tryd.prog 2 (plainElem (H := Unit) Tryd.prog 4)).alloc (.cells #[.map (some (w.heap.size + 1))] 77)
    rw [World.size_alloc] at e4
    exact {
      below := (hB0.alloc (by simp) _).alloc (by simp <;> omega) _
      lo := Nat.le_refl _
      kbox := (Below.heap_alloc _ _ _ (by simp; omega)).trans ((Below.heap_alloc _ _ _ (by simp)).trans (heap_alloc_new _ _))
      own := e4
      mbox := e3
      nodup := by simp
      marks := by simp }
  have HF0 := hid hF0
  clear hF0 hx hr h63 hB0
  refine callsIn_of_wp_marks Tryd.func52 rfl trivial ?_ rfl
  simp only [Tryd.ntmps52, List.size_toArray, List.length_cons, List.length_nil, Nat.reduceAdd, Nat.reduceSub, Array.replicate_succ, Array.replicate_zero, List.push_toArray, List.append_toArray, List.nil_append, List.cons_append]
  gi_wp2
  clear hmm
  obtain ⟨mb, hmb⟩ : ∃ mb, mb = w.heap.size + 1 := ⟨_, rfl⟩
  rw [← hmb] at HF0 ⊢
  clear hmb
  refine wpIn_loop (fun a' W => ∃ (k : Nat) (c7 c8 c13 c14 c15 c16 c17 c18 c19 c20 c21 : Value) (Ds : List Nat),
      a' = { tmps := #[.int .i64 V, .slice a xs.length cap, undef, undef, .pointer (some ⟨w.heap.size, 0, none⟩), .pointer (some ⟨mb + 1, 0, none⟩), undef, c7, c8,
          .map (some mb), .slice a xs.length cap, .int .i64 xs.length,
          .int .i64 k, c13, c14, c15, c16, c17, c18, c19, c20, c21, undef, undef, undef, undef, undef], defers := marks Ds } ∧
      k ≤ xs.length ∧ FaW w W 0 (.slice none 0 0) mb (partsL (xs.take k)) Ds)
    (fun a' _ => xs.length - (RowKit.intOf (a'.tmps.getD 12 undef)).toNat) ?start ?round
  case start => exact ⟨0, _, _, _, _, _, _, _, _, _, _, _, [], rfl, Nat.zero_le _, by simpa [partsL] using HF0.out⟩
  case round =>
    rintro a' W ⟨k, c7, c8, c13, c14, c15, c16, c17, c18, c19, c20, c21, Ds, rfl, hk, hW⟩
    have hsz := hW.size
    have HW := hid hW
    have hlo := hW.lo
    clear hW
    by_cases hlt : k < xs.length
    · obtain ⟨b, off, hb, rfl, hc⟩ : ∃ b off, b < w.heap.size ∧ a = some ⟨b, off, none⟩ ∧ ∀ i, i < xs.length → w.cell? ⟨b, off + i, none⟩ = some (.int .i64 (xs[i]?.getD 0)) := by
        rcases Hx0.out with h | h
        · rw [h] at hlt; simp at hlt
        · exact h
      have Hc := hid hc
      clear hc
      obtain ⟨x, hx⟩ : ∃ x, x = xs[k]?.getD 0 := ⟨_, rfl⟩
      have hck : W.cell? ⟨b, off + k, none⟩ = some (.int .i64 x) := by rw [hx]; exact (HW.out.below.cell (p := ⟨b, off + k, none⟩) hb).trans (Hc.out k hlt)
      have hxr := Hf.out _ (getD_mem hlt)
      rw [← hx] at hxr
      have Hx1 := hid hx
      have hi0 : (0 : Int) ≤ (k : Int) := by omega
      have hi1 : (k : Int) < (xs.length : Int) := by omega
      obtain ⟨f, rfl⟩ : ∃ f : Nat, x = f := ⟨x.toNat, by omega⟩
      have hf : f < 64 := by omega
      clear hx
      gi_wp2_with (first
        | (refine ⟨trivial, ?_⟩; gi_at_call 61; refine (parts_in _ _ trivial rfl _ _).mono ?_; rintro e w' ⟨rfl, rfl⟩))
      have hW2 : FaW w (W.alloc (.cells #[.int .i64 (f : Int)] 2)) 0 (.slice none 0 0) mb (partsL (xs.take k)) Ds := HW.out.turn (World.grownBy_alloc W _ none) (fun r e => by cases e)
      have hsb : (W.alloc (.cells #[.int .i64 (f : Int)] 2)).heap[W.heap.size]? = some (.cells #[.int .i64 (f : Int)] 2 (0, 0)) := heap_alloc_new _ _
      have hDlt : ∀ D ∈ Ds, D < (W.alloc (.cells #[.int .i64 (f : Int)] 2)).heap.size := fun D hD => lt_of_get (hW2.marks D hD).2
      have hLl := partsL_len (xs.take k) (fun y hy => Hf.out y (List.mem_of_mem_take hy))
      have hkl : (xs.take k).length ≤ 1048576 := by simp; omega
      obtain ⟨L0, hL0⟩ : ∃ L0, L0 = partsL (xs.take k) := ⟨_, rfl⟩
      have HL0 := hid hL0
      rw [← hL0] at hW2 hLl HW
      clear hL0
      refine wpIn_rangeFunc_ownG rfl (by decide) (gf := 74) (lb := #[.pointer (some ⟨W.heap.size, 0, none⟩)]) rfl trivial (enters_of Tryd.func74 (by kernel_rfl) rfl)
        (parts_stops Fence.wide 9 trivial rfl (by decide) W.heap.size f hf _ (by simp) hsb) keepB_t (keepB_b (by simp)) (Below.refl _ _) (fun _ => rfl)
        (fun pre W' => FaW w W' 0 (.slice none 0 0) mb (L0 ++ pre.map (fun p => ((p.val : Nat) : Int))) Ds ∧ W'.heap[W.heap.size]? = some (.cells #[.int .i64 (f : Int)] 2 (0, 0)))
        (fun _ _ _ => False)
        (OwnFrom.and (faw_own (by simp; omega) hDlt) (box_own (by simp <;> omega))) (fun _ => ownFrom_pure _ _)
        ⟨by simpa using hW2, hsb⟩
        (fun x => { tmps := #[.int .i64 V, .slice (some ⟨b, off, none⟩) xs.length cap, undef, undef, .pointer (some ⟨w.heap.size, 0, none⟩), .pointer (some ⟨mb + 1, 0, none⟩), undef, .int .i64 f, .int .i64 (x.val : Int),
          .map (some mb), .slice (some ⟨b, off, none⟩) xs.length cap, .int .i64 xs.length,
          .int .i64 k, .bool true, .pointer (some ⟨b, off + k, none⟩), .int .i64 f, .int .i64 f, .func (.func 74) #[] #[.pointer (some ⟨W.heap.size, 0, none⟩)], .int .i64 (x.val : Int), c19, c20, c21, undef, undef, undef, undef, undef], defers := [] }) ?assign ?body ?done ?stop
      case assign =>
        intro l x W3 K hK
        gi_wp2
        exact hK
      case body =>
        rintro l pre x W3 ⟨hW3, hsb3⟩ hpl
        have m3 : W3.cell? ⟨mb + 1, 0, none⟩ = some (.map (some mb)) := (box_cell hW3.mbox).1
        have hxl := x.isLt
        have hwx : (Lit.int .i64 (x.val : Int)).wf = true := WalkArith.wf_i64 (by omega)
        have HW3 := hid hW3
        have Hsb3 := hid hsb3
        have hkm : (L0 ++ pre.map (fun p => ((p.val : Nat) : Int))).length < maxLen := by unfold maxLen; simp; omega
        clear hW3 hsb3
        gi_wp2_with (gi_at_mapUpdate; refine wpListIn_mapUpdate_own _ rfl _ _ _ 77 rfl 2 4 (Maps.int_keyed Tryd.underlying2) Tryd.underlying77 _ mb _ _ rfl HW3.out.own hkm _ _ _ rfl rfl (Maps.keyOf_int_mk Tryd.underlying2 hwx) _ [] (plainElem_bool Tryd.underlying4 true) ?_; intro w4 hown4 hgrow4)
        refine ⟨KeepsFrom.of_grownBy hgrow4 (fun j e => by cases e; first | omega | (simp; omega)), (hgrow4.block _ (lt_of_get Hsb3.out) (fun e => by simp at e; omega)), ?_, (hgrow4.block _ (lt_of_get Hsb3.out) (fun e => by simp at e; omega)).trans Hsb3.out⟩
        rw [List.map_append, ← List.append_assoc]
        exact HW3.out.put hown4 hgrow4
      case done =>
        rintro D ys W3 hD rfl ⟨hW3, _⟩ hK
        have hDb : mb + 2 ≤ D := by simp at hD; omega
        have hDn : D ∉ Ds := fun hm => by have := hDlt D hm; omega
        have HW4 := hid (hW3.mark hK hDb hDn)
        have htk : partsL (xs.take (k + 1)) = L0 ++ (subsF f).map (fun p => ((p.val : Nat) : Int)) := by rw [take_snoc hlt, partsL_snoc, ← Hx1.out, HL0.out, Int.toNat_natCast]; rfl
        have Htk := hid htk
        clear hW3 htk
        gi_wp2
        refine ⟨⟨k + 1, ?_⟩, ?_⟩
        · (repeat apply Exists.intro)
          refine ⟨?e, ?_⟩
          case e =>
            rw [show ((k + 1 : Nat) : Int) = (k : Int) + 1 by omega, show ({ target := .collected D, args := #[] } :: marks Ds : List Deferred) = marks (D :: Ds) from rfl]
          exact ⟨by omega, by rw [Htk.out]; exact HW4.out⟩
        · simp [RowKit.intOf]; omega
      case stop =>
        rintro D c pre W3 hD hpre hF hK
        exact hF.elim
    · obtain rfl : k = xs.length := by omega
      rw [List.take_of_length_le (Nat.le_refl _)] at HW
      have m0 := faw_box HW.out
      have hLr := parts_range Hf.out
      have hLl := partsL_len xs Hf.out
      have hkm : Maps.size (knownD (partsL xs)) ≤ (partsL xs).length := HW.out.own.size_le
      have hmax : Maps.size (knownD (partsL xs)) ≤ maxLen := by unfold maxLen; omega
      have hbytes : Maps.size (knownD (partsL xs)) * 8 ≤ 140737488355328 := by omega
      have hown1 := HW.out.own.alloc (.cells #[.map (some mb)] 77)
      have hseq : SeqGives Fence.wide 6 Tryd.prog 86 #[.pointer (some ⟨W.heap.size, 0, none⟩)] encZ (fun ss => ss.Perm (intKeys (knownD (partsL xs)))) (Maps.size (knownD (partsL xs))) (W.alloc (.cells #[.map (some mb)] 77)) :=
        AnyZI.keys_gives (ρ := keysL_ren) { keysL with } Fence.wide _ trivial rfl (by omega) W.heap.size mb (partsL xs).length (knownD (partsL xs)) _ (by simp) (by simp [go_sem]) hown1
      have cK : ∀ mb' W', CallsIn Fence.wide 9 Tryd.prog 71 #[.map mb'] W' fun e w' => e = .returned (.func (.func 86) #[] #[.pointer (some ⟨W'.heap.size, 0, none⟩)]) ∧ w' = W'.alloc (.cells #[.map mb'] 77) := fun mb' W' => AnyZI.keys_in keysL Fence.wide 9 trivial rfl mb' W'
      have cS := AnyZI.sorted_in sortedL Fence.wide 9 trivial trivial trivial trivial rfl (by omega) (sortsL _) (enters_of Tryd.func85 (by kernel_rfl) rfl) 86 #[.pointer (some ⟨W.heap.size, 0, none⟩)] trivial (enters_of Tryd.func86 (by kernel_rfl) rfl) _ _ hmax hbytes _ hseq
      change CallsIn _ _ Tryd.prog 70 _ _ _ at cS
      have HcS := hid cS
      have HcK := hid cK
      have Hsort := hid (fun (ss : List Int) (h : ss.Perm (intKeys (knownD (partsL xs)))) => sorted_known HW.out.own hLr h)
      clear hkm hmax hbytes hown1 hseq cK cS
      gi_wp2_with (first
        | (refine ⟨trivial, ?_⟩; gi_at_call 71; refine (HcK.out _ _).mono ?_; rintro e w' ⟨rfl, rfl⟩))
      refine ⟨trivial, ?_⟩
      refine HcS.out.mono ?_
      rintro e w2 ⟨v, ss, rfl, hS, hrow, hnil, hB2⟩
      have hrow2 : w2.ownsRow (W.alloc (.cells #[.map (some mb)] 77)).heap.size 2 1 v ss.length ((madeL V xs).map (Value.int .i64)) := by
        have h := hrow
        rw [Hsort.out ss hS, HR.out] at h
        exact h
      have Hrow := hid hrow2
      have HB2 := hid hB2
      obtain ⟨hln, av, cv, rfl, _⟩ := ownsRow_slI hrow2
      have k2 := (hB2.block _ (by simp; exact Nat.lt_succ_of_lt (lt_of_get HW.out.kbox))).trans ((Below.heap_alloc W _ _ (lt_of_get HW.out.kbox)).trans HW.out.kbox)
      obtain ⟨r0, r1, g0, g1⟩ := two_of k2
      clear hrow hnil hB2 hrow2 k2
      gi_wp2
      have k2 : w2.heap[w.heap.size]? = some (.cells #[.int .i64 0, .slice none 0 0] 24 (0, 0)) := (HB2.out.block _ (by simp; exact Nat.lt_succ_of_lt (lt_of_get HW.out.kbox))).trans ((Below.heap_alloc W _ _ (lt_of_get HW.out.kbox)).trans HW.out.kbox)
      have k3 := two_set k2 (.int .i64 V) (.slice av (madeL V xs).length cv)
      have hWsz := HW.out.below.size
      have hB2' : Below W.heap.size W w2 := ((Below.refl _ W).alloc (Nat.le_refl _) _).trans (HB2.out.mono (by simp))
      have hmk : ∀ D ∈ Ds, ((w2.setCell ⟨w.heap.size, 0, none⟩ (.int .i64 V)).setCell ⟨w.heap.size, 1, none⟩ (.slice av (madeL V xs).length cv)).heap[D]? = some (.deferred (some [])) := fun D hD => by
        have h1 := HW.out.marks D hD
        rw [Below.heap_setCell _ _ _ _ (by show D ≠ w.heap.size; omega), Below.heap_setCell _ _ _ _ (by show D ≠ w.heap.size; omega)]
        exact (hB2'.block _ (lt_of_get h1.2)).trans h1.2
      refine leaves_marks (by simp) Ds _ HW.out.nodup hmk (fun w' hw' => ?_)
      have hDw : w.heap.size ∉ Ds := fun hm => by have := (HW.out.marks _ hm).1; omega
      have k4 := (hw'.block w.heap.size hDw).trans k3
      obtain ⟨q0, q1, _, _⟩ := two_of k4
      have hsh : Below w.heap.size ((w2.setCell ⟨w.heap.size, 0, none⟩ (.int .i64 V)).setCell ⟨w.heap.size, 1, none⟩ (.slice av (madeL V xs).length cv)) w' := hw'.below (fun D hD => by have := (HW.out.marks D hD).1; omega)
      have hres : Res w ((w2.setCell ⟨w.heap.size, 0, none⟩ (.int .i64 V)).setCell ⟨w.heap.size, 1, none⟩ (.slice av (madeL V xs).length cv)) (.slice av (madeL V xs).length cv) (madeL V xs) := by
        have hln' : ss.length = (madeL V xs).length := by have := Hrow.out.1; simpa using this.symm
        have h0 : Res W w2 (.slice av (madeL V xs).length cv) (madeL V xs) := ⟨by have h := Hrow.out; rw [hln'] at h; exact ownsRow_base h (by simp), hB2'⟩
        exact (h0.later HW.out.below).set2 k2 (by decide) (Nat.le_refl _) _ _
      have hown : w'.ownsRow w.heap.size 2 1 (.slice av (madeL V xs).length cv) (madeL V xs).length ((madeL V xs).map (Value.int .i64)) := by
        refine ⟨hres.1.1, ?_⟩
        rcases hres.1.2 with hn | ⟨g, cp, cur, he, hg, hh, rest⟩
        · exact .inl hn
        · refine .inr ⟨g, cp, cur, he, hg, (hw'.block g (fun hm => ?_)).trans hh, rest⟩
          rw [hmk g hm] at hh
          simp at hh
      refine ⟨.agg #[.int .i64 V, .slice av (madeL V xs).length cv], ?_, _, rfl, hown, hres.2.trans hsh⟩
      simp [results, Tryd.results52, asAddr, load_cx q0 q1]

/-- madeBy. -/
theorem made_any (V : Int) (a : Option Addr) (cap : Nat) (xs : List Int) (w : World) (hx : SlI w w.heap.size a xs) (hl : xs.length ≤ 1048576) (h2 : V ≤ 6) (hr : ∀ x ∈ xs, 0 ≤ x ∧ x ≤ allV V) :
    Calls Tryd.prog 52 #[.int .i64 V, .slice a xs.length cap] w fun e w' => ∃ v, e = .returned (.agg #[.int .i64 V, v]) ∧ Res w w' v (madeL V xs) :=
  callsIn_wide.1 (made_in V a cap xs w hx hl h2 hr)

end Go.Proofs.YtbgkalkipalndaaDoor

/-! Joins: copies of lists. -/
namespace Go.Proofs.YtbgkalkipalndaaDoor
open Go.RowKit

/-- 'append([]int64{}, list...)' of a list that lies in memory. -/
theorem append_all {w : World} {ops : Array Oper} {rest : List Oper} {o : Oper} {a : Act} {Q : Exit → Act → World → Prop} (hgd : o.guard = none) {s y : Operand}
    (ho : o.op = .call { callee := .builtin .append, args := #[s, y], argTypes := #[22, 22] })
    {b off cap : Nat} {xs : List Int} (hl : xs.length ≤ 1048576) (hc : ∀ i, i < xs.length → w.cell? ⟨b, off + i, none⟩ = some (.int .i64 (xs[i]?.getD 0)))
    (hs : a.eval s = .slice (some ⟨w.heap.size, 0, none⟩) 0 0) (hy : a.eval y = .slice (some ⟨b, off, none⟩) xs.length cap)
    (hK : ∀ v' w', w'.ownsRow w.heap.size 2 1 v' xs.length (xs.map (Value.int .i64)) → Below w.heap.size w w' → (v' = .slice none 0 0 → False) → wpList Tryd.prog ops Q rest (a.put o.dst v') w') :
    wpList Tryd.prog ops Q (o :: rest) a (w.alloc (.cells #[] 2)) := by
  obtain ⟨i0, hi, hz0, hz1, hz2⟩ := info_parts info_i64
  refine wpList_append_own _ hgd s y 22 ho w.heap.size 2 i0 (.int .i64 0) 1 8 Tryd.underlying22 hi hz0 hz1 hz2 rfl (by decide) (.slice (some ⟨w.heap.size, 0, none⟩) 0 0) 0 [] hs (World.ownsRow_made w #[] 0 (Nat.le_refl _) (Nat.zero_le _) rfl) ⟨b, off, none⟩ xs.length cap (xs.map (Value.int .i64)) hy (by simp) ?_ (fun u hu => by obtain ⟨x, _, rfl⟩ := List.mem_map.1 hu; rfl) (by unfold maxLen; omega) (by omega) (by simp) ?_
  · intro j u hj
    have hjn : j < xs.length := by
      have := (List.getElem?_eq_some_iff.1 hj).1
      simpa using this
    rw [Addr.add_lit]
    refine (World.cell?_alloc_some w _ _ (show (w.cell? _).isSome = true by rw [hc j hjn]; rfl)).trans ?_
    rw [hc j hjn, ← hj]
    simp [List.getElem?_eq_getElem hjn]
  · intro v' w1 hown hgrow hnil
    refine hK v' w1 (by simpa using hown) (((Below.refl _ w).alloc (Nat.le_refl _) _).grown hgrow (by simp) (by intro k hk; simp [Value.ownBlock] at hk; omega)) (fun e => ?_)
    have := (hnil.1 e).1
    simp at this


/-- step_append_new in a plain region. -/
theorem plain_append_new {W : World} {H : Nat} {ops : Array Oper} {rest : List Oper} {o : Oper} {a : Act} {Q : Exit → Act → World → Prop} (hgd : o.guard = none) {s y : Operand}
    (ho : o.op = .call { callee := .builtin .append, args := #[s, y], argTypes := #[22, 22] })
    {base : Nat} {v : Value} {xs : List Int} {x : Int} (hown : W.ownsRow base 2 1 v xs.length (xs.map (Value.int .i64))) (hH : W.heap.size = H) (hbase : base ≤ H) (hl : xs.length ≤ 1099511627776)
    (hs : a.eval s = v) (hy : a.eval y = .slice (some ⟨H, 0, none⟩) 1 1)
    (hK : ∀ g cap w', w'.ownsRow base 2 1 (.slice (some ⟨g, 0, none⟩) (xs ++ [x]).length cap) (xs ++ [x]).length ((xs ++ [x]).map (Value.int .i64)) → (W.alloc (.cells #[.int .i64 x] 2)).grownBy w' v.ownBlock →
      wpList Tryd.prog ops Q rest (a.put o.dst (.slice (some ⟨g, 0, none⟩) (xs ++ [x]).length cap)) w') :
    wpList Tryd.prog ops Q (o :: rest) a (W.alloc (.cells #[.int .i64 x] 2)) := by
  subst hH
  obtain ⟨i0, hi, hz0, hz1, hz2⟩ := info_parts info_i64
  refine wpList_append_lies (W.alloc (.cells #[.int .i64 x] 2)) hgd s y 22 ho base 2 i0 (.int .i64 0) 1 8 Tryd.underlying22 hi hz0 hz1 hz2 rfl (by decide) v _ _ hs (hown.alloc _) ⟨W.heap.size, 0, none⟩ 1 1 [.int .i64 x] hy rfl (cell_one_new _ _ _) (by simp [Value.oneCell']) (by decide) (by unfold maxLen; omega) (by omega) (by simp; omega) _ rfl ?_
  intro g cap w1 hown1 hg _ _
  have e : (xs ++ [x]).length = xs.length + 1 := by simp
  have h := hK g cap w1 (by rw [e]; simpa using hown1) hg
  rw [e] at h
  exact h

end Go.Proofs.YtbgkalkipalndaaDoor

/-! Duals: the model's. -/
namespace Go.Proofs.YtbgkalkipalndaaDoor
open Go.RowKit

/-- Is a set in the dual? -/
def dualP (V : Int) (fs : List Int) : Int → Bool := fun x => !decide ((allV V - x) ∈ fs)
/-- The dual's faces. -/
def dualL (V : Int) (fs : List Int) : List Int := pickTo (dualP V fs) ((allV V).toNat - 1)

/-- What DualOf hands back. -/
noncomputable def dualOfR (V : Int) (xs : List Int) : Int × List Int × Int := if isCB V xs then (V, dualL V xs, 0) else (0, [], 1)

theorem dualOfR_len (V : Int) (xs : List Int) (_ : xs.length ≤ 1048576) : (dualOfR V xs).2.1.length ≤ 1048576 := by
  unfold dualOfR
  split
  · next h =>
    have h6 := (isCB_iff.1 h).hi
    have := pickTo_len (dualP V xs) ((allV V).toNat - 1)
    have := allV_le h6
    show (dualL V xs).length ≤ 1048576
    unfold dualL
    omega
  · simp

theorem allV_nat {V : Int} (h1 : 1 ≤ V) (h2 : V ≤ 6) : ∃ A : Nat, (A : Int) = allV V ∧ 1 ≤ A ∧ A ≤ 63 := by
  rcases (show V = 1 ∨ V = 2 ∨ V = 3 ∨ V = 4 ∨ V = 5 ∨ V = 6 by omega) with rfl | rfl | rfl | rfl | rfl | rfl
  · exact ⟨1, rfl, by decide, by decide⟩
  · exact ⟨3, rfl, by decide, by decide⟩
  · exact ⟨7, rfl, by decide, by decide⟩
  · exact ⟨15, rfl, by decide, by decide⟩
  · exact ⟨31, rfl, by decide, by decide⟩
  · exact ⟨63, rfl, by decide, by decide⟩

theorem outW_start2 {w W : World} {V : Int} {sl : Value} (hB : Below w.heap.size w W) (hk : W.heap[w.heap.size]? = some (.cells #[.int .i64 V, sl] 24 (0, 0)))
    (hr : W.heap[w.heap.size + 1]? = some (.cells #[.int .i64 0, .slice none 0 0] 24 (0, 0))) :
    OutW w ((W.alloc (.cells #[.int .i64 V, .slice (some ⟨W.heap.size + 1, 0, none⟩) 0 0] 24)).alloc (.cells #[] 2)) V sl W.heap.size [] (some ⟨W.heap.size + 1, 0, none⟩) 0 where
  below := (hB.alloc hB.size _).alloc (by have := hB.size; simp; omega) _
  kbox := (Below.heap_alloc _ _ _ (by have := lt_get hk; simp; omega)).trans ((Below.heap_alloc _ _ _ (lt_get hk)).trans hk)
  res := (Below.heap_alloc _ _ _ (by have := lt_get hr; simp; omega)).trans ((Below.heap_alloc _ _ _ (lt_get hr)).trans hr)
  out := (Below.heap_alloc _ _ _ (by simp)).trans (heap_alloc_new W _)
  own := by
    have h := World.ownsRow_made (base := w.heap.size) (e := 2) (size := 1) (W.alloc (.cells #[.int .i64 V, .slice (some ⟨W.heap.size + 1, 0, none⟩) 0 0] 24)) #[] 0 (by have := hB.size; simp; omega) (by simp [maxLen]) rfl
    rw [World.size_alloc] at h
    exact h
  bo := by have := lt_get hr; omega

/-- .. where nothing is put in it yet. -/
theorem outW_start0 {w W : World} {V : Int} {sl : Value} (hB : Below w.heap.size w W) (hk : W.heap[w.heap.size]? = some (.cells #[.int .i64 V, sl] 24 (0, 0)))
    (hr : W.heap[w.heap.size + 1]? = some (.cells #[.int .i64 0, .slice none 0 0] 24 (0, 0))) :
    OutW w (W.alloc (.cells #[.int .i64 V, .slice none 0 0] 24)) V sl W.heap.size [] none 0 where
  below := hB.alloc hB.size _
  kbox := (Below.heap_alloc _ _ _ (lt_get hk)).trans hk
  res := (Below.heap_alloc _ _ _ (lt_get hr)).trans hr
  out := heap_alloc_new W _
  own := World.ownsRow_nil _ _ _ _
  bo := by have := lt_get hr; omega



end Go.Proofs.YtbgkalkipalndaaDoor

/-! The complex made by some sets: the model's; ComplexOf. -/
namespace Go.Proofs.YtbgkalkipalndaaDoor
open Go.RowKit Go.Shelf

/-- What the model's loops keep of the world while they build a complex in block Bo, nothing being boxed. -/
structure OutN (w W : World) (V : Int) (Bo : Nat) (xs : List Int) (a : Option Addr) (c : Nat) : Prop where
  below : Below w.heap.size w W
  res : W.heap[w.heap.size]? = some (.cells #[.int .i64 0, .slice none 0 0] 24 (0, 0))
  out : W.heap[Bo]? = some (.cells #[.int .i64 V, .slice a xs.length c] 24 (0, 0))
  own : W.ownsRow w.heap.size 2 1 (.slice a xs.length c) xs.length (xs.map (Value.int .i64))
  bo : w.heap.size < Bo

theorem OutN.drewN {w W : World} {V : Int} {Bo : Nat} {xs : List Int} {a : Option Addr} {c : Nat} (h : OutN w W V Bo xs a c) (n : Nat) : OutN w (W.drewN n) V Bo xs a c :=
  ⟨⟨h.below.os, h.below.tape, h.below.output, h.below.size, h.below.block⟩, h.res, h.out, h.own, h.bo⟩

theorem OutN.step {w W w2 : World} {V : Int} {Bo : Nat} {xs : List Int} {a : Option Addr} {c : Nat} (h : OutN w W V Bo xs a c) {x : Int} {g cap : Nat} {o : Obj}
    (hown : w2.ownsRow w.heap.size 2 1 (.slice (some ⟨g, 0, none⟩) (xs ++ [x]).length cap) (xs ++ [x]).length ((xs ++ [x]).map (Value.int .i64))) (hg : (W.alloc o).grownBy w2 (Value.ownBlock (.slice a xs.length c))) :
    OutN w (w2.setCell ⟨Bo, 1, none⟩ (.slice (some ⟨g, 0, none⟩) (xs ++ [x]).length cap)) V Bo (xs ++ [x]) (some ⟨g, 0, none⟩) cap := by
  have hgr : W.grownBy w2 (Value.ownBlock (.slice a xs.length c)) := (World.grownBy_alloc W o _).trans hg
  have hbo := h.bo
  have r2 := (hgr.block _ (lt_get h.res) (row_ne h.own h.res (by decide))).trans h.res
  have o2 := (hgr.block _ (lt_get h.out) (row_ne h.own h.out (by decide))).trans h.out
  refine ⟨?_, ?_, ?_, ?_, h.bo⟩
  · exact (h.below.grown hgr h.below.size (fun k hk => (h.own.lt k hk).1)).setCell (p := ⟨Bo, 1, none⟩) (by simp only; omega) _
  · exact (Below.heap_setCell _ _ _ _ (by simp only; omega)).trans r2
  · simp only [World.setCell, Array.getElem?_modify, o2]
    simp
  · exact ownsRow_set hown (by
      have := row_ne hown o2 (by decide)
      exact fun e => this e.symm) _

theorem OutN.done {w W : World} {V : Int} {Bo : Nat} {xs : List Int} {a : Option Addr} {c : Nat} (h : OutN w W V Bo xs a c) (u v : Value) :
    Res w ((W.setCell ⟨w.heap.size, 0, none⟩ u).setCell ⟨w.heap.size, 1, none⟩ v) (.slice a xs.length c) xs := by
  have hn := row_ne h.own h.res (by decide)
  exact ⟨ownsRow_set (ownsRow_set h.own (fun e => hn e.symm) _) (fun e => hn e.symm) _, (h.below.setCell (p := ⟨w.heap.size, 0, none⟩) (by simp) _).setCell (p := ⟨w.heap.size, 1, none⟩) (by simp) _⟩

theorem OutN.mid {w W w2 : World} {V : Int} {Bo : Nat} {xs : List Int} {a : Option Addr} {c : Nat} (h : OutN w W V Bo xs a c) {o : Obj} (hg : (W.alloc o).grownBy w2 (Value.ownBlock (.slice a xs.length c))) :
    w2.cell? ⟨Bo, 1, none⟩ = some (.slice a xs.length c) ∧ w2.frozen? ⟨Bo, 1, none⟩ = false := by
  have hgr : W.grownBy w2 (Value.ownBlock (.slice a xs.length c)) := (World.grownBy_alloc _ o _).trans hg
  have o2 := (hgr.block _ (lt_get h.out) (row_ne h.own h.out (by decide))).trans h.out
  constructor <;> simp [World.cell?, World.frozen?, o2]

theorem OutN.start {w : World} {V : Int} : OutN w (((w.alloc (.cells #[.int .i64 0, .slice none 0 0] 24)).alloc (.cells #[] 2)).alloc (.cells #[.int .i64 V, .slice (some ⟨w.heap.size + 1, 0, none⟩) 0 0] 24)) V (w.heap.size + 1 + 1) [] (some ⟨w.heap.size + 1, 0, none⟩) 0 where
  below := (((Below.refl _ w).alloc (Nat.le_refl _) _).alloc (by simp) _).alloc (by simp <;> omega) _
  res := (Below.heap_alloc _ _ _ (by simp; omega)).trans ((Below.heap_alloc _ _ _ (by simp)).trans (heap_alloc_new _ _))
  out := new3 _ _ _ _
  own := by
    have h := World.ownsRow_made (base := w.heap.size) (e := 2) (size := 1) (w.alloc (.cells #[.int .i64 0, .slice none 0 0] 24)) #[] 0 (by simp) (by simp [maxLen]) rfl
    rw [World.size_alloc] at h
    exact h.alloc _
  bo := by omega

theorem madeP_take {xs : List Int} {f j : Nat} (hj : j < xs.length) (h : (xs.take j).any (fun s => decide ((f : Int).toNat &&& s.toNat = (f : Int).toNat)) = false) (c : Bool) (hc : decide (f &&& (xs[j]?.getD 0).toNat = f) = c) :
    (xs.take (j + 1)).any (fun s => decide ((f : Int).toNat &&& s.toNat = (f : Int).toNat)) = c := by
  rw [take_snoc hj, List.any_append, h]
  simpa using hc

theorem madeP_yes {xs : List Int} {f j : Nat} (hj : j < xs.length) (hc : f &&& (xs[j]?.getD 0).toNat = f) : madeP xs (f : Int) = true := by
  unfold madeP
  rw [List.any_eq_true]
  exact ⟨_, getD_mem hj, by simpa using hc⟩

set_option maxRecDepth 100000 in
set_option maxHeartbeats 4000000 in
theorem madeS_any (V : Int) (a0 : Option Addr) (cap : Nat) (xs : List Int) (w : World) (hx : SlI w w.heap.size a0 xs) (hl : xs.length ≤ 1048576) (h1 : 1 ≤ V) (h2 : V ≤ 6) (hr : ∀ x ∈ xs, 1 ≤ x ∧ x ≤ 63) :
    Calls Tryd.prog 48 #[.int .i64 V, .slice a0 xs.length cap] w fun e w' => ∃ v, e = .returned (.agg #[.int .i64 V, v]) ∧ Res w w' v (madeL V xs) := by
  obtain ⟨A, hA, hA1, hA2⟩ := allV_nat h1 h2
  have Hx := hid hx
  have HA := hid hA
  have Hf := hid hr
  have Hall : Hid (∀ W, Calls Tryd.prog 54 #[.int .i64 V] W fun e w' => e = .returned (.int .i64 (A : Int)) ∧ W = w') := hid (fun W => by rw [hA]; exact all_any V W (by omega) h2)
  clear hx hA hr
  go_enter Tryd.func48, Tryd.ntmps48
  go_wp2_with fail
  go_loopw [6] (fun i wr => ∃ (k : Nat) (a : Option Addr) (c : Nat), k ≤ A ∧ i = .int .i64 ((k : Int) + 1) ∧ OutN w wr V (w.heap.size + 1 + 1) (pickTo (madeP xs) k) a c) (fun i _ => A + 1 - (RowKit.intOf i).toNat)
  case atStart => exact ⟨0, some ⟨w.heap.size + 1, 0, none⟩, 0, Nat.zero_le _, rfl, OutN.start⟩
  case round =>
    obtain ⟨k, a, c, hk, rfl, hW⟩ := hrel
    have HW := hid hW
    obtain ⟨o0, o1, f0, f1⟩ := two_of hW.out
    have hbs := hW.below.size
    have hlen := pickTo_len (madeP xs) k
    clear hW
    by_cases hlt : k < A
    · have hd : decide ((k : Int) + 1 ≤ (A : Int)) = true := decide_eq_true (by omega)
      have Hs : Hid (∀ b : Bool, madeP xs ((k : Int) + 1) = b → pickTo (madeP xs) (k + 1) = pickTo (madeP xs) k ++ (if b then [(k : Int) + 1] else [])) := hid (fun b hb => by rw [← hb]; rfl)
      go_wp2_with fail
      refine (Hall.out _).mono ?_
      rintro e w1 ⟨rfl, rfl⟩
      go_wp2_with fail
      go_loop [7] (fun i => ∃ j : Nat, j ≤ xs.length ∧ i = .int .i64 j ∧ Hid ((xs.take j).any (fun s => decide (((k + 1 : Nat) : Int).toNat &&& s.toNat = ((k + 1 : Nat) : Int).toNat)) = false)) (fun i => xs.length - (RowKit.intOf i).toNat)
      case atStart => exact ⟨0, Nat.zero_le _, rfl, hid (by simp)⟩
      case round =>
        obtain ⟨j, hj, rfl, Hj⟩ := hrel
        by_cases hjl : j < xs.length
        · obtain ⟨b, off, hb, rfl, hc⟩ : ∃ b off, b < w.heap.size ∧ a0 = some ⟨b, off, none⟩ ∧ ∀ i, i < xs.length → w.cell? ⟨b, off + i, none⟩ = some (.int .i64 (xs[i]?.getD 0)) := by
            rcases Hx.out with rfl | h
            · simp at hjl
            · exact h
          have Hc := hid hc
          clear hc
          obtain ⟨x, hx⟩ : ∃ x : Nat, (x : Int) = xs[j]?.getD 0 := ⟨(xs[j]?.getD 0).toNat, by have := Hf.out _ (getD_mem hjl); omega⟩
          have hx64 : x < 64 := by have := Hf.out _ (getD_mem hjl); omega
          have hck : wr.cell? ⟨b, off + j, none⟩ = some (.int .i64 (x : Int)) := by rw [hx]; exact (HW.out.below.cell (p := ⟨b, off + j, none⟩) hb).trans (Hc.out j hjl)
          have hi0 : (0 : Int) ≤ (j : Int) := by omega
          have hi1 : (j : Int) < (xs.length : Int) := by omega
          have hxn : (xs[j]?.getD 0).toNat = x := by omega
          have hbits : bits BinOp.and IntKind.i64 ((k : Int) + 1) (x : Int) = (((k + 1) &&& x : Nat) : Int) := (bits_nat .i64 6 (by decide) (fun n h0 h1 => by rw [IntKind.wrap_i64]; omega) (k + 1) x (by omega) (by omega)).1
          have Hxn := hid hxn
          clear hx hxn
          by_cases hp : (k + 1) &&& x = k + 1
          · have hd2 : ((((k + 1) &&& x : Nat) : Int) == (k : Int) + 1) = true := by rw [hp]; simp
            have HP := hid ((Hs.out true (madeP_yes (f := k + 1) hjl (by rw [Hxn.out]; exact hp))).trans (by rw [if_pos rfl]))
            clear hp Hs Hj
            go_wp2_with (at_builtin; refine plain_append_new rfl rfl HW.out.own (by rfl) hbs (by omega) (by rfl) (by rfl) ?_; intro g cp w2 hown2 hgrow2; obtain ⟨o12, o22⟩ := HW.out.mid hgrow2)
            go_roundw
            case rel => exact ⟨k + 1, some ⟨g, 0, none⟩, cp, by omega, by go_num, by rw [HP.out]; simpa using HW.out.step hown2 hgrow2⟩
            case measure => simp [RowKit.intOf]; omega
          · have hd2 : ((((k + 1) &&& x : Nat) : Int) == (k : Int) + 1) = false := by simp; omega
            have He := hid (madeP_take (f := k + 1) hjl Hj.out false (by rw [Hxn.out]; exact decide_eq_false hp))
            clear hp Hs
            go_wp2_with fail
            go_round
            case rel => exact ⟨j + 1, by omega, by go_num, He.out⟩
            case measure => simp [RowKit.intOf]; omega
        · have hjn : j = xs.length := by omega
          have HP := hid (Hs.out false (by have h := Hj.out; rw [hjn, List.take_length] at h; exact h))
          go_wp2_with fail
          go_roundw
          case rel => exact ⟨k + 1, a, c, by omega, by go_num, by rw [HP.out, if_neg (by decide), List.append_nil]; exact HW.out⟩
          case measure => simp [RowKit.intOf]; omega
    · have hd : decide ((k : Int) + 1 ≤ (A : Int)) = false := decide_eq_false (by omega)
      have HE : Hid (pickTo (madeP xs) k = madeL V xs) := hid (by unfold madeL; rw [← HA.out, Int.toNat_natCast, show A = k by omega])
      obtain ⟨r0, r1, g0, g1⟩ := two_of HW.out.res
      go_wp2_with fail
      refine (Hall.out _).mono ?_
      rintro e w1 ⟨rfl, rfl⟩
      go_wp2_with fail
      (try simp only [Exit.inBlock, Exit.then])
      have R2 := two_of (two_set HW.out.res (.int .i64 V) (.slice a (pickTo (madeP xs) k).length c))
      refine done_cx1 (p := 4) (by kernel_rfl) rfl rfl R2.1 R2.2.1 ⟨_, rfl, ?_⟩
      rw [← HE.out]
      exact HW.out.done _ _

/-- What ComplexOf hands back. -/
def setsOk (V : Int) (xs : List Int) : Bool := xs.all fun x => decide (1 ≤ x) && decide (x ≤ allV V)
def complexOfR (V : Int) (xs : List Int) : Int × List Int × Int := if 1 ≤ V ∧ V ≤ 6 then (if xs.length ≤ 64 then (if setsOk V xs = true then (V, madeL V xs, 0) else (0, [], 2)) else (0, [], 2)) else (0, [], 2)

theorem complexOfR_len (V : Int) (xs : List Int) (_ : xs.length ≤ 1048576) : (complexOfR V xs).2.1.length ≤ 1048576 := by
  unfold complexOfR
  split
  · next h =>
    split
    · split
      · have h1 := allV_le h.2
        have h2 := pickTo_len (madeP xs) (allV V).toNat
        show (madeL V xs).length ≤ 1048576
        unfold madeL
        omega
      · simp
    · simp
  · simp

theorem setsOk_iff {V : Int} {xs : List Int} : setsOk V xs = true ↔ ∀ x ∈ xs, 1 ≤ x ∧ x ≤ allV V := by
  unfold setsOk
  rw [List.all_eq_true]
  simp

theorem bad_end {fn : Func} {a : Act} {w W : World} {p u : Tmp} {V : Int} {xs : List Int} (hR : complexOfR V xs = (0, [], 2)) (hr : fn.results = #[.cell p 24, .tmp u]) (hd : a.defers = []) (hp : a.tmps.getD p undef = .pointer (some ⟨w.heap.size, 0, none⟩)) (hu : a.tmps.getD u undef = .int .i64 2)
    (hb : W.heap[w.heap.size]? = some (.cells #[.int .i64 0, .slice none 0 0] 24 (0, 0))) (hB : Below w.heap.size w W) :
    bodyPost Tryd.prog fn (fun e w' => ∃ v, e = .returned (.tuple #[.agg #[.int .i64 (complexOfR V xs).1, v], .int .i64 (complexOfR V xs).2.2]) ∧ Res w w' v (complexOfR V xs).2.1) .ret a ((W.setCell ⟨w.heap.size, 0, none⟩ (.int .i64 0)).setCell ⟨w.heap.size, 1, none⟩ (.slice none 0 0)) := by
  rw [hR]
  have R3 := two_of (two_set hb (.int .i64 0) (.slice none 0 0))
  exact done_cx hr hd hp R3.1 R3.2.1 hu ⟨_, rfl, (res_nil _ _ hB).set2 hb (by decide) (Nat.le_refl _) _ _⟩


end Go.Proofs.YtbgkalkipalndaaDoor

/-! Contracts of the laws' small helpers: sizes, copies, comparisons. -/
namespace Go.Proofs.YtbgkalkipalndaaDoor
open Go.RowKit

theorem fill_step {xs : List Int} {k : Nat} (h : k < xs.length) :
    ((xs.take k ++ List.replicate (xs.length - k) (0 : Int)).map (Value.int .i64)).set k (.int .i64 (xs[k]?.getD 0)) = (xs.take (k + 1) ++ List.replicate (xs.length - (k + 1)) (0 : Int)).map (Value.int .i64) := by
  rw [take_snoc h, ← List.map_set]
  congr 1
  have e : xs.length - k = (xs.length - (k + 1)) + 1 := by omega
  rw [e, List.replicate_succ, List.set_append_right _ _ (by simp <;> omega)]
  simp [Nat.min_eq_left (Nat.le_of_lt h)]

set_option maxHeartbeats 400000 in
theorem toInts (a : Option Addr) (cap : Nat) (xs : List Int) (w : World) (hx : SlI w w.heap.size a xs) (hl : xs.length ≤ 1048576) :
    Calls Tryd.prog 36 #[.slice a xs.length cap] w fun e w' =>
      e = .returned (.slice (some ⟨w.heap.size, 0, none⟩) xs.length xs.length) ∧ w'.ownsRow w.heap.size 2 1 (.slice (some ⟨w.heap.size, 0, none⟩) xs.length xs.length) xs.length (xs.map (Value.int .i64)) ∧ Below w.heap.size w w' := by
  go_enter Tryd.func36, Tryd.ntmps36
  go_wp2_with (at_make; refine make_int rfl rfl rfl rfl (by omega) ?_; intro w1 hown hg hB)
  rcases hx with rfl | ⟨b, off, hb, rfl, hc⟩
  · refine wp_loop_rounds 1 ?_; rw [rounds_succ]
    go_wp2
    go_ret
    exact ⟨rfl, hown, hB⟩
  · go_loopw [4] (fun i wr => ∃ k : Nat, k ≤ xs.length ∧ i = .int .i64 k ∧ wr.ownsRow w.heap.size 2 1 (.slice (some ⟨w.heap.size, 0, none⟩) xs.length xs.length) xs.length ((xs.take k ++ List.replicate (xs.length - k) (0 : Int)).map (Value.int .i64)) ∧ Below w.heap.size w wr) (fun i _ => xs.length - (intOf i).toNat)
    case atStart => exact ⟨0, Nat.zero_le _, rfl, by simpa using hown, hB⟩
    case round =>
      obtain ⟨k, hk, rfl, hown, hB⟩ := hrel
      by_cases hlt : k < xs.length
      · obtain ⟨x, hx⟩ : ∃ x, x = xs[k]?.getD 0 := ⟨_, rfl⟩
        have hck : wr.cell? ⟨b, off + k, none⟩ = some (.int .i64 x) := by rw [hx]; exact (hB.cell (p := ⟨b, off + k, none⟩) hb).trans (hc k hlt)
        have hcg : wr.cell? ⟨w.heap.size, k, none⟩ = some (.int .i64 0) := by
          rw [hown.cellAt k (by omega)]
          rw [List.getElem?_map, List.getElem?_append_right (by simp <;> omega)]
          simp [List.getElem?_replicate, Nat.min_eq_left hk]
          omega
        have hfg := hown.frozenAt k
        have Hx := hid hx
        have Hc := hid hc
        clear hx hc
        have hst := hown.stored k (.int .i64 x)
        have Hst := hid hst.1
        clear hst
        go_wp2
        go_roundw
        case rel =>
          refine ⟨k + 1, by omega, by go_num, ?_, hB.setCell (p := ⟨w.heap.size, k, none⟩) (Nat.le_refl _) _⟩
          have h := Hst.out
          rw [Hx.out, fill_step hlt, ← Hx.out] at h
          exact h
        case measure => simp [intOf]; omega
      · go_wp2
        go_ret
        obtain rfl : k = xs.length := by omega
        exact ⟨rfl, by simpa using hown, hB⟩

/-- What is left of a size. -/
def szR (left : Int) (n : Nat) : Int := if left < n then -1 else left - n
theorem szR_big {left : Int} {n : Nat} (h : left < n) : szR left n = -1 := by unfold szR; rw [if_pos h]
theorem szR_fit {left : Int} {n : Nat} (h : ¬ left < n) : szR left n = left - n := by unfold szR; rw [if_neg h]

set_option maxHeartbeats 400000 in
theorem szInts (a : Option Addr) (n cap : Nat) (left : Int) (w : World) (h1 : 0 ≤ left) (h2 : left ≤ 1048576) (hn : n ≤ 9223372036854775807) :
    Calls Tryd.prog 33 #[.slice a n cap, .int .i64 left] w fun e w' => e = .returned (.int .i64 (szR left n)) ∧ w = w' := by
  by_cases h : left < n
  · have H := hid (szR_big h)
    go_enter Tryd.func33, Tryd.ntmps33
    go_wp2
    go_ret
    exact ⟨ret_int (by rw [H.out]), rfl⟩
  · have H := hid (szR_fit h)
    go_enter Tryd.func33, Tryd.ntmps33
    go_wp2
    go_ret
    exact ⟨ret_int (by rw [H.out]), rfl⟩

set_option maxHeartbeats 400000 in
theorem szCx (V : Int) (a : Option Addr) (n cap : Nat) (left : Int) (w : World) (h1 : 0 ≤ left) (h2 : left ≤ 1048576) (hn : n ≤ 9223372036854775807) :
    Calls Tryd.prog 17 #[.agg #[.int .i64 V, .slice a n cap], .int .i64 left] w fun e w' => e = .returned (.int .i64 (szR left n)) ∧ Below w.heap.size w w' := by
  have hr : szR left n = -1 ∨ 0 ≤ szR left n := by
    by_cases h : left < n
    · exact .inl (szR_big h)
    · rw [szR_fit h]; right; omega
  have hr' : szR left n < 0 ∨ 0 ≤ szR left n := by omega
  have hm : szR left n < 0 → szR left n = -1 := by omega
  have Hm := hid hm
  clear hr hm
  obtain ⟨r, hr0⟩ : ∃ r, r = szR left n := ⟨_, rfl⟩
  rw [← hr0] at hr'
  have hr := hr'
  have H := hid hr0
  clear hr0 hr'
  go_enter Tryd.func17, Tryd.ntmps17
  go_wp2_with fail
  refine (szInts a n cap left _ h1 h2 hn).mono ?_
  rintro e w' ⟨rfl, rfl⟩
  rw [← H.out]
  rcases hr with hr | hr
  · go_wp2
    go_ret
    exact ⟨ret_int (Hm.out (by rw [← H.out]; exact hr)).symm, (Below.refl _ w).alloc (Nat.le_refl _) _⟩
  · go_wp2
    go_ret
    exact ⟨ret_int H.out, (Below.refl _ w).alloc (Nat.le_refl _) _⟩

set_option maxHeartbeats 400000 in
theorem toCx (V : Int) (a : Option Addr) (cap : Nat) (xs : List Int) (w : World) (hx : SlI w w.heap.size a xs) (hl : xs.length ≤ 1048576) :
    Calls Tryd.prog 19 #[.agg #[.int .i64 V, .slice a xs.length cap]] w fun e w' =>
      ∃ g, e = .returned (.agg #[.int .i64 V, .slice (some ⟨g, 0, none⟩) xs.length xs.length]) ∧ w'.ownsRow w.heap.size 2 1 (.slice (some ⟨g, 0, none⟩) xs.length xs.length) xs.length (xs.map (Value.int .i64)) ∧ Below w.heap.size w w' := by
  go_enter Tryd.func19, Tryd.ntmps19
  go_wp2_with fail
  refine (toInts a cap xs _ (SlI.later hx (?hb : Below w.heap.size w _) ?hs) hl).mono ?_
  case hb => repeat (first | exact Below.refl _ _ | refine Below.alloc ?_ (by simp <;> omega) _ | refine Below.setCell ?_ (by simp <;> omega) _)
  case hs => simp <;> omega
  rintro e w1 ⟨rfl, hown, hB⟩
  have hB1 : Below w.heap.size w w1 := Below.trans (by repeat (first | exact Below.refl _ _ | refine Below.alloc ?_ (by simp <;> omega) _ | refine Below.setCell ?_ (by simp <;> omega) _)) (hB.mono (by simp <;> omega))
  have e0 : w1.cell? ⟨w.heap.size + 1 + 1, 0, none⟩ = some (.int .i64 V) := (hB.cell (p := ⟨w.heap.size + 1 + 1, 0, none⟩) (by simp)).trans (by simp [go_sem])
  have e1 : w1.cell? ⟨w.heap.size + 1 + 1, 1, none⟩ = some (.slice none 0 0) := (hB.cell (p := ⟨w.heap.size + 1 + 1, 1, none⟩) (by simp)).trans (by simp [go_sem])
  have e2 : w1.cell? ⟨w.heap.size + 1, 0, none⟩ = some (.int .i64 0) := (hB.cell (p := ⟨w.heap.size + 1, 0, none⟩) (by simp)).trans (by simp [go_sem])
  have e3 : w1.cell? ⟨w.heap.size + 1, 1, none⟩ = some (.slice none 0 0) := (hB.cell (p := ⟨w.heap.size + 1, 1, none⟩) (by simp)).trans (by simp [go_sem])
  have g1 : w1.frozen? ⟨w.heap.size + 1 + 1, 1, none⟩ = false := (hB.frozen (p := ⟨w.heap.size + 1 + 1, 1, none⟩) (by simp)).trans (by simp [go_sem])
  have g2 : w1.frozen? ⟨w.heap.size + 1, 0, none⟩ = false := (hB.frozen (p := ⟨w.heap.size + 1, 0, none⟩) (by simp)).trans (by simp [go_sem])
  have g3 : w1.frozen? ⟨w.heap.size + 1, 1, none⟩ = false := (hB.frozen (p := ⟨w.heap.size + 1, 1, none⟩) (by simp)).trans (by simp [go_sem])
  have hs1 := hB.size
  simp at hs1
  have Hown := hid (hown)
  clear hown
  go_wp2_with fail
  refine bodyPost_ret (v := .agg #[.int .i64 V, .slice (some ⟨w.heap.size + 1 + 1 + 1, 0, none⟩) xs.length xs.length]) (by simp [results, Tryd.results19, go_sem, e2, e3]) rfl ⟨w.heap.size + 1 + 1 + 1, rfl, ?_, ?_⟩
  · have h := Hown.out
    simp only [World.size_alloc] at h
    refine ownsRow_set (ownsRow_set (ownsRow_set (ownsRow_base h (by omega)) ?_ _) ?_ _) ?_ _ <;> (simp [Value.ownBlock] <;> omega)
  · exact ((hB1.setCell (by simp; omega) _).setCell (by simp) _).setCell (by simp) _

set_option maxHeartbeats 400000 in
theorem eqInts_any (a1 a2 : Option Addr) (c1 c2 : Nat) (xs ys : List Int) (w : World) (hx : SlI w w.heap.size a1 xs) (hy : SlI w w.heap.size a2 ys) (hl : xs.length ≤ 1048576) (hl2 : ys.length ≤ 1048576) :
    Calls Tryd.prog 30 #[.slice a1 xs.length c1, .slice a2 ys.length c2] w fun e w' => e = .returned (.bool (decide (xs = ys))) ∧ Below w.heap.size w w' := by
  by_cases hlen : xs.length = ys.length
  · rcases hx with rfl | ⟨b, off, hb, rfl, hc⟩
    · obtain rfl : ys = [] := List.eq_nil_of_length_eq_zero hlen.symm
      go_enter Tryd.func30, Tryd.ntmps30
      go_wp2
      refine wp_loop_rounds 1 ?_; rw [rounds_succ]
      go_wp2
      go_ret
      exact ⟨ret_bool (by simp), Below.refl _ _⟩
    · rcases hy with rfl | ⟨b2, off2, hb2, rfl, hc2⟩
      · obtain rfl : xs = [] := List.eq_nil_of_length_eq_zero hlen
        go_enter Tryd.func30, Tryd.ntmps30
        go_wp2
        refine wp_loop_rounds 1 ?_; rw [rounds_succ]
        go_wp2
        go_ret
        exact ⟨ret_bool (by simp), Below.refl _ _⟩
      · have Hc := hid hc
        have Hc2 := hid hc2
        have hne : ((xs.length : Int) != (ys.length : Int)) = false := by simp [hlen]
        have Hlen := hid hlen
        have hle : xs.length ≤ ys.length := by omega
        clear hc hc2 hlen
        go_enter Tryd.func30, Tryd.ntmps30
        go_wp2
        go_loopw [5] (fun i wr => ∃ k : Nat, k ≤ xs.length ∧ i = .int .i64 k ∧ Hid (∀ j, j < k → xs[j]?.getD 0 = ys[j]?.getD 0) ∧ Below w.heap.size w wr) (fun i _ => xs.length - (intOf i).toNat)
        case atStart => exact ⟨0, Nat.zero_le _, rfl, hid (by omega), Below.refl _ _⟩
        case round =>
          obtain ⟨k, hk, rfl, Hk, hB⟩ := hrel
          by_cases hlt : k < xs.length
          · obtain ⟨x, hx⟩ : ∃ x, x = xs[k]?.getD 0 := ⟨_, rfl⟩
            obtain ⟨y, hy⟩ : ∃ y, y = ys[k]?.getD 0 := ⟨_, rfl⟩
            have hck : wr.cell? ⟨b, off + k, none⟩ = some (.int .i64 x) := by rw [hx]; exact (hB.cell (p := ⟨b, off + k, none⟩) hb).trans (Hc.out k hlt)
            have hck2 : wr.cell? ⟨b2, off2 + k, none⟩ = some (.int .i64 y) := by rw [hy]; exact (hB.cell (p := ⟨b2, off2 + k, none⟩) hb2).trans (Hc2.out k (by omega))
            have Hx := hid hx
            have Hy := hid hy
            clear hx hy
            have hi0 : (0 : Int) ≤ (k : Int) := by omega
            have hi1 : (k : Int) < (xs.length : Int) := by omega
            have hi2 : (k : Int) < (ys.length : Int) := by omega
            by_cases hxy : x = y
            · have hd : (x != y) = false := by simp [hxy]
              have Hxy := hid hxy
              clear hxy
              go_wp2_with fail
              go_quiet (fail)
              go_wp2_with fail
              go_roundw
              case rel =>
                refine ⟨k + 1, by omega, by go_num, hid (fun j hj => ?_), hB.trans ⟨rfl, rfl, rfl, Nat.le_refl _, fun _ _ => rfl⟩⟩
                by_cases hjk : j < k
                · exact Hk.out j hjk
                · obtain rfl : j = k := by omega
                  rw [← Hx.out, ← Hy.out, Hxy.out]
              case measure => simp [intOf]; omega
            · have hd : (x != y) = true := by simp [hxy]
              go_wp2_with fail
              go_quiet (fail)
              go_wp2_with fail
              go_ret
              refine ⟨ret_bool ?_, hB.trans ⟨rfl, rfl, rfl, Nat.le_refl _, fun _ _ => rfl⟩⟩
              symm
              refine decide_eq_false (fun h => hxy ?_)
              rw [Hx.out, Hy.out, h]
          · obtain rfl : k = xs.length := by omega
            go_wp2
            go_ret
            refine ⟨ret_bool ?_, hB⟩
            symm
            refine decide_eq_true (List.ext_getElem Hlen.out (fun j h1 h2 => ?_))
            have := Hk.out j h1
            rw [List.getElem?_eq_getElem h1, List.getElem?_eq_getElem h2] at this
            simpa using this
  · have hne : ((xs.length : Int) != (ys.length : Int)) = true := by simp; omega
    have Hlen := hid hlen
    clear hlen
    go_enter Tryd.func30, Tryd.ntmps30
    go_wp2
    go_ret
    refine ⟨ret_bool ?_, Below.refl _ _⟩
    symm
    exact decide_eq_false (fun h => Hlen.out (by rw [h]))

theorem eqInts_yes (a1 a2 : Option Addr) (c1 c2 : Nat) (xs ys : List Int) (w : World) (hx : SlI w w.heap.size a1 xs) (hy : SlI w w.heap.size a2 ys) (hl : xs.length ≤ 1048576) (hl2 : ys.length ≤ 1048576) (h : xs = ys) :
    Calls Tryd.prog 30 #[.slice a1 xs.length c1, .slice a2 ys.length c2] w fun e w' => e = .returned (.bool true) ∧ Below w.heap.size w w' :=
  (eqInts_any a1 a2 c1 c2 xs ys w hx hy hl hl2).mono fun _ _ ⟨he, hw⟩ => ⟨by rw [he, decide_eq_true h], hw⟩

theorem eqInts_no (a1 a2 : Option Addr) (c1 c2 : Nat) (xs ys : List Int) (w : World) (hx : SlI w w.heap.size a1 xs) (hy : SlI w w.heap.size a2 ys) (hl : xs.length ≤ 1048576) (hl2 : ys.length ≤ 1048576) (h : ¬ xs = ys) :
    Calls Tryd.prog 30 #[.slice a1 xs.length c1, .slice a2 ys.length c2] w fun e w' => e = .returned (.bool false) ∧ Below w.heap.size w w' :=
  (eqInts_any a1 a2 c1 c2 xs ys w hx hy hl hl2).mono fun _ _ ⟨he, hw⟩ => ⟨by rw [he, decide_eq_false h], hw⟩

set_option maxHeartbeats 400000 in
theorem eqCx_yes (V : Int) (a1 a2 : Option Addr) (c1 c2 : Nat) (xs ys : List Int) (w : World) (hx : SlI w w.heap.size a1 xs) (hy : SlI w w.heap.size a2 ys) (hl : xs.length ≤ 1048576) (hl2 : ys.length ≤ 1048576) (h : xs = ys) :
    Calls Tryd.prog 14 #[.agg #[.int .i64 V, .slice a1 xs.length c1], .agg #[.int .i64 V, .slice a2 ys.length c2]] w fun e w' => e = .returned (.bool true) ∧ Below w.heap.size w w' := by
  have H := hid h
  clear h
  have hne : (V != V) = false := by simp
  go_enter Tryd.func14, Tryd.ntmps14
  go_wp2_with fail
  have hB : Below w.heap.size w ((w.alloc (.cells #[.int .i64 V, .slice a1 xs.length c1] 24)).alloc (.cells #[.int .i64 V, .slice a2 ys.length c2] 24)) := ((Below.refl _ w).alloc (Nat.le_refl _) _).alloc (by simp) _
  refine (eqInts_yes a1 a2 c1 c2 xs ys _ (SlI.later hx hB (by simp <;> omega)) (SlI.later hy hB (by simp <;> omega)) hl hl2 H.out).mono ?_
  rintro e w' ⟨rfl, hb⟩
  go_wp2_with fail
  go_ret
  exact ⟨rfl, hB.trans (hb.mono (by simp <;> omega))⟩

end Go.Proofs.YtbgkalkipalndaaDoor

/-! Marks: what the laws write into results, and find again. -/
namespace Go.Proofs.YtbgkalkipalndaaDoor
open Go.RowKit

/-- k, k + 1, .. -/
def count (k : Int) : Nat → List Int
  | 0 => []
  | n + 1 => count k n ++ [k + n]

theorem count_len (k : Int) : ∀ n, (count k n).length = n
  | 0 => rfl
  | n + 1 => by simp [count, count_len k n]

theorem count_get (k : Int) : ∀ n i, i < n → (count k n)[i]?.getD 0 = k + i
  | 0, i, h => by omega
  | n + 1, i, h => by
    unfold count
    by_cases hi : i < n
    · rw [List.getElem?_append_left (by rw [count_len]; exact hi)]
      exact count_get k n i hi
    · obtain rfl : i = n := by omega
      rw [List.getElem?_append_right (by rw [count_len]; omega), count_len]
      simp

theorem mark_step {k : Int} {xs : List Int} {j : Nat} (h : j < xs.length) :
    ((count k j ++ xs.drop j).map (Value.int .i64)).set j (.int .i64 (k + j)) = (count k (j + 1) ++ xs.drop (j + 1)).map (Value.int .i64) := by
  rw [← List.map_set]
  congr 1
  rw [List.set_append_right _ _ (by rw [count_len]; exact Nat.le_refl _), count_len, Nat.sub_self]
  rw [List.drop_eq_getElem_cons h, List.set_cons_zero]
  simp [count]

set_option maxHeartbeats 400000 in
theorem markInts (base : Nat) (a : Option Addr) (cap : Nat) (xs : List Int) (k : Int) (w : World) (hown : w.ownsRow base 2 1 (.slice a xs.length cap) xs.length (xs.map (Value.int .i64))) (hl : xs.length ≤ 1048576) (h0 : 0 ≤ k) (h1 : k ≤ 1099511627776) :
    Calls Tryd.prog 31 #[.slice a xs.length cap, .int .i64 k] w fun e w' => e = .returned (.int .i64 (k + xs.length)) ∧
      w'.ownsRow base 2 1 (.slice a xs.length cap) xs.length ((count k xs.length).map (Value.int .i64)) ∧ w.grownBy w' (Value.ownBlock (.slice a xs.length cap)) := by
  rcases hown.2 with ⟨hv, hn⟩ | ⟨g, cap', cur, hv, hb, hg, rest⟩
  · obtain rfl : xs = [] := List.eq_nil_of_length_eq_zero hn
    have Hown := hid hown
    clear hown hv hn
    go_enter Tryd.func31, Tryd.ntmps31
    go_wp2
    refine wp_loop_rounds 1 ?_; rw [rounds_succ]
    go_wp2
    go_ret
    exact ⟨ret_int (by simp), Hown.out, ⟨rfl, rfl, rfl, Nat.le_refl _, fun _ _ _ => rfl⟩⟩
  · cases hv
    have Hg := hid (And.intro hb hg)
    clear hb hg rest
    go_enter Tryd.func31, Tryd.ntmps31
    go_wp2
    go_loopw [1, 5] (fun m i wr => ∃ j : Nat, j ≤ xs.length ∧ i = .int .i64 j ∧ m = .int .i64 (k + j) ∧ wr.ownsRow base 2 1 (.slice (some ⟨g, 0, none⟩) xs.length cap) xs.length ((count k j ++ xs.drop j).map (Value.int .i64)) ∧ w.grownBy wr (some g)) (fun _ i _ => xs.length - (intOf i).toNat)
    case atStart => exact ⟨0, Nat.zero_le _, rfl, by simp, by simpa [count] using hown, ⟨rfl, rfl, rfl, Nat.le_refl _, fun _ _ _ => rfl⟩⟩
    case round =>
      obtain ⟨j, hj, rfl, rfl, hown, hgr⟩ := hrel
      by_cases hlt : j < xs.length
      · have hcg : ∃ u, wr.cell? ⟨g, j, none⟩ = some (.int .i64 u) := by
          rw [hown.cellAt j (by omega)]
          refine ⟨xs[j]?.getD 0, ?_⟩
          rw [List.getElem?_map, List.getElem?_append_right (by rw [count_len]; exact Nat.le_refl _), count_len, Nat.sub_self]
          simp [hlt]
        obtain ⟨u, hcu⟩ := hcg
        have hfg := hown.frozenAt j
        have hst := hown.stored j (.int .i64 (k + j))
        rw [mark_step hlt] at hst
        have Hst := hid hst
        have Hgr := hid hgr
        clear hst hown hgr
        go_wp2
        go_roundw
        case rel =>
          exact ⟨j + 1, by omega, by go_num, by go_num, Hst.out.1, Hgr.out.trans Hst.out.2⟩
        case measure => simp [intOf]; omega
      · go_wp2
        go_ret
        obtain rfl : j = xs.length := by omega
        exact ⟨rfl, by simpa using hown, hgr⟩

set_option maxHeartbeats 400000 in
theorem heldInts (a : Option Addr) (cap : Nat) (n : Nat) (xs : List Int) (k : Int) (w : World) (hxs : xs = count k n) (hx : SlI w w.heap.size a xs) (hl : n ≤ 1048576) (h0 : 0 ≤ k) (h1 : k ≤ 1099511627776) :
    Calls Tryd.prog 32 #[.slice a n cap, .int .i64 k] w fun e w' => e = .returned (.int .i64 (k + n)) ∧ Below w.heap.size w w' := by
  have hlen : xs.length = n := by rw [hxs, count_len]
  rcases hx with rfl | ⟨b, off, hb, rfl, hc⟩
  · obtain rfl : n = 0 := by simpa using hlen.symm
    clear hxs hlen
    go_enter Tryd.func32, Tryd.ntmps32
    go_wp2
    refine wp_loop_rounds 1 ?_; rw [rounds_succ]
    go_wp2
    go_ret
    exact ⟨ret_int (by simp), Below.refl _ _⟩
  · have Hc := hid hc
    have Hxs := hid hxs
    have Hlen := hid hlen
    clear hc hxs hlen
    go_enter Tryd.func32, Tryd.ntmps32
    go_wp2
    go_loop [1, 5] (fun m i => ∃ j : Nat, j ≤ n ∧ i = .int .i64 j ∧ m = .int .i64 (k + j)) (fun _ i => n - (intOf i).toNat)
    case atStart => exact ⟨0, Nat.zero_le _, rfl, by simp⟩
    case round =>
      obtain ⟨j, hj, rfl, rfl⟩ := hrel
      by_cases hlt : j < n
      · have hck : w.cell? ⟨b, off + j, none⟩ = some (.int .i64 (k + j)) := by
          have := Hc.out j (by rw [Hlen.out]; exact hlt)
          rw [Hxs.out, count_get _ _ _ hlt] at this
          exact this
        go_wp2
        go_round
        case rel => exact ⟨j + 1, by omega, by go_num, by go_num⟩
        case measure => simp [intOf]; omega
      · go_wp2
        go_ret
        obtain rfl : j = n := by omega
        exact ⟨rfl, Below.refl _ _⟩

/-! ### What a law keeps of the world: slices of its own, in the order in which they were made, and blocks -/

/-- A slice of int64 that lies in blocks from lo to hi. -/
structure Sl where
  lo : Nat
  hi : Nat
  v : Value
  xs : List Int

structure OwnI (w : World) (p : Sl) : Prop where
  own : w.ownsRow p.lo 2 1 p.v p.xs.length (p.xs.map (Value.int .i64))
  lt : ∀ g, p.v.ownBlock = some g → g < p.hi
  le : p.hi ≤ w.heap.size

structure Facts (w0 : World) (w : World) (A : List (Option Addr × List Int)) (bs : List (Nat × Obj)) (L : List Sl) : Prop where
  from0 : Below w0.heap.size w0 w
  args : ∀ q ∈ A, SlI w w0.heap.size q.1 q.2
  blocks : ∀ b ∈ bs, w.heap[b.1]? = some b.2
  slices : ∀ p ∈ L, OwnI w p

section
variable {w0 w w' : World} {A : List (Option Addr × List Int)} {bs : List (Nat × Obj)} {L : List Sl}

theorem Facts.ge (h : Facts w0 w A bs L) : w0.heap.size ≤ w.heap.size := h.from0.size

theorem Facts.below (h : Facts w0 w A bs L) (hb : Below w.heap.size w w') : Facts w0 w' A bs L where
  from0 := h.from0.trans (hb.mono h.ge)
  args := fun q hq => (h.args q hq).below (hb.mono h.ge)
  blocks := fun b hbm => (hb.block b.1 (Array.getElem?_eq_some_iff.1 (h.blocks b hbm)).1).trans (h.blocks b hbm)
  slices := fun p hp => ⟨ownsRow_below (h.slices p hp).own hb (fun g hg => Nat.lt_of_lt_of_le ((h.slices p hp).lt g hg) (h.slices p hp).le), (h.slices p hp).lt, Nat.le_trans (h.slices p hp).le hb.size⟩

theorem Facts.drew (h : Facts w0 w A bs L) : Facts w0 w.drew A bs L := h.below (Below.refl _ _).drew

theorem Facts.arg (h : Facts w0 w A bs L) {q : Option Addr × List Int} (hq : q ∈ A) : SlI w w.heap.size q.1 q.2 := (h.args q hq).mono h.ge

/-- A new block. -/
theorem Facts.alloc (h : Facts w0 w A bs L) (o : Obj) : Facts w0 (w.alloc o) A ((w.heap.size, o) :: bs) L where
  from0 := h.from0.alloc h.ge o
  args := fun q hq => (h.args q hq).below ((Below.refl _ w).alloc h.ge _)
  blocks := fun b hb => by
    rcases List.mem_cons.1 hb with rfl | hb
    · exact heap_alloc_new w o
    · exact (Below.heap_alloc w o _ (Array.getElem?_eq_some_iff.1 (h.blocks b hb)).1).trans (h.blocks b hb)
  slices := fun p hp => ⟨(h.slices p hp).own.alloc o, (h.slices p hp).lt, by have := (h.slices p hp).le; simp; omega⟩

/-- A new slice, out of a call. -/
theorem Facts.slice (h : Facts w0 w A bs L) {v : Value} {xs : List Int}
    (hown : w'.ownsRow w.heap.size 2 1 v xs.length (xs.map (Value.int .i64))) (hb : Below w.heap.size w w') : Facts w0 w' A bs (⟨w.heap.size, w'.heap.size, v, xs⟩ :: L) :=
  { h.below hb with
    slices := fun p hp => by
      rcases List.mem_cons.1 hp with rfl | hp
      · exact ⟨hown, fun g hg => (hown.lt g hg).2, Nat.le_refl _⟩
      · exact (h.below hb).slices p hp }

/-- A slice is marked: the others stay. -/
theorem Facts.mark {L' : List Sl} (h : Facts w0 w A bs L) {p : Sl} {ys : List Int} (hp : p ∈ L)
    (hown : w'.ownsRow p.lo 2 1 p.v ys.length (ys.map (Value.int .i64))) (hg : w.grownBy w' p.v.ownBlock)
    (hB : w0.heap.size ≤ p.lo) (hbs : ∀ b ∈ bs, b.1 < p.lo ∨ p.hi ≤ b.1) (hL : ∀ q ∈ L', q = { p with xs := ys } ∨ (q ∈ L ∧ (q.hi ≤ p.lo ∨ p.hi ≤ q.lo))) : Facts w0 w' A bs L' where
  from0 := h.from0.grown hg h.ge (fun k e => Nat.le_trans hB ((h.slices p hp).own.lt k e).1)
  args := fun q hq => (h.args q hq).below ((Below.refl _ w).grown hg h.ge (fun k e => Nat.le_trans hB ((h.slices p hp).own.lt k e).1))
  blocks := fun b hb => (hg.block b.1 (Array.getElem?_eq_some_iff.1 (h.blocks b hb)).1 (fun e => by
    have h1 := ((h.slices p hp).own.lt _ e.symm).1
    have h2 := (h.slices p hp).lt _ e.symm
    rcases hbs b hb with h3 | h3 <;> omega)).trans (h.blocks b hb)
  slices := fun q hq => by
    rcases hL q hq with rfl | ⟨hqm, hap⟩
    · exact ⟨hown, (h.slices p hp).lt, Nat.le_trans (h.slices p hp).le hg.size⟩
    · refine ⟨(h.slices q hqm).own.kept hg ?_, (h.slices q hqm).lt, Nat.le_trans (h.slices q hqm).le hg.size⟩
      cases hv : q.v.ownBlock with
      | none => exact .inl rfl
      | some g =>
        refine .inr (fun e => ?_)
        have h1 := ((h.slices p hp).own.lt _ e.symm).1
        have h2 := (h.slices p hp).lt _ e.symm
        have h3 := ((h.slices q hqm).own.lt _ hv).1
        have h4 := (h.slices q hqm).lt _ hv
        rcases hap with h5 | h5 <;> omega

theorem Facts.slI (h : Facts w0 w A bs L) {lo hi : Nat} {a : Option Addr} {m cap : Nat} {xs : List Int} (hp : (⟨lo, hi, .slice a m cap, xs⟩ : Sl) ∈ L) : SlI w w.heap.size a xs :=
  owned_slI (h.slices _ hp).own

theorem Facts.own (h : Facts w0 w A bs L) {lo hi : Nat} {v : Value} {xs : List Int} (hp : (⟨lo, hi, v, xs⟩ : Sl) ∈ L) : w.ownsRow lo 2 1 v xs.length (xs.map (Value.int .i64)) := (h.slices _ hp).own

theorem Facts.two (h : Facts w0 w A bs L) {b t : Nat} {u v : Value} (hb : (b, Obj.cells #[u, v] t (0, 0)) ∈ bs) : w.cell? ⟨b, 0, none⟩ = some u ∧ w.cell? ⟨b, 1, none⟩ = some v := by
  have := h.blocks _ hb
  constructor <;> simp [World.cell?, this]
end

set_option maxHeartbeats 400000 in
theorem markCx (V : Int) (base : Nat) (a : Option Addr) (cap : Nat) (xs : List Int) (k : Int) (w : World) (hown : w.ownsRow base 2 1 (.slice a xs.length cap) xs.length (xs.map (Value.int .i64))) (hl : xs.length ≤ 1048576) (h0 : 0 ≤ k) (h1 : k ≤ 1099511627776) :
    Calls Tryd.prog 15 #[.agg #[.int .i64 V, .slice a xs.length cap], .int .i64 k] w fun e w' => e = .returned (.int .i64 (k + xs.length)) ∧
      w'.ownsRow base 2 1 (.slice a xs.length cap) xs.length ((count k xs.length).map (Value.int .i64)) ∧ w.grownBy w' (Value.ownBlock (.slice a xs.length cap)) := by
  have Hown := hid (hown.alloc (.cells #[.int .i64 V, .slice a xs.length cap] 24))
  clear hown
  go_enter Tryd.func15, Tryd.ntmps15
  go_wp2_with fail
  refine (markInts base a cap xs k _ Hown.out hl h0 h1).mono ?_
  rintro e w1 ⟨rfl, hown1, hgr⟩
  go_wp2_with fail
  go_ret
  exact ⟨rfl, hown1, (World.grownBy_alloc w _ _).trans hgr⟩

set_option maxHeartbeats 400000 in
theorem heldCx (V : Int) (a : Option Addr) (cap n : Nat) (xs : List Int) (k : Int) (w : World) (hxs : xs = count k n) (hx : SlI w w.heap.size a xs) (hl : n ≤ 1048576) (h0 : 0 ≤ k) (h1 : k ≤ 1099511627776) :
    Calls Tryd.prog 16 #[.agg #[.int .i64 V, .slice a n cap], .int .i64 k] w fun e w' => e = .returned (.int .i64 (k + n)) ∧ Below w.heap.size w w' := by
  have hB : Below w.heap.size w (w.alloc (.cells #[.int .i64 V, .slice a n cap] 24)) := (Below.refl _ w).alloc (Nat.le_refl _) _
  have Hxs := hid hxs
  have Hx := hid (hx.later hB (by simp))
  clear hxs hx
  go_enter Tryd.func16, Tryd.ntmps16
  go_wp2_with fail
  refine (heldInts a cap n xs k _ Hxs.out Hx.out hl h0 h1).mono ?_
  rintro e w1 ⟨rfl, hB1⟩
  go_wp2_with fail
  go_ret
  exact ⟨rfl, hB.trans (hB1.mono (by simp))⟩

end Go.Proofs.YtbgkalkipalndaaDoor
