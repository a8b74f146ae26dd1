import Derived.Shelf.Strings.OnBuilder
import Derived.Shelf.Strconv.Itoa4
import Derived.Shelf.SlLaysM
import Derived.Shelf.SlLaysZI
import Derived.Test.YtbgkalkipalndaaDoorProg
import Derived.Shelf.SlIterI.Nil
import Derived.Shelf.SortM.Plain
import Derived.Shelf.SortM.SortNone
import Derived.Lib.SliceRun
import Derived.Lib.Walk
import Derived.Deep.CutRange
import Derived.Shelf.Strings.Split
import Derived.Lib.IndexLaws
import Derived.Lib.CountLaws
import Derived.Laws.AppendOwn
import Derived.Test.YtbgkalkipalndaaDoorMC1
import Derived.Test.YtbgkalkipalndaaDoorMC2
/-! ComplexText, on both sides. -/
namespace Go.Proofs.YtbgkalkipalndaaDoor
open Go.RowKit Go.Shelf

theorem digL_len {x : Int} (h : 1 ≤ x ∧ x ≤ 63) : (digL x).length ≤ 6 := digK_len x.toNat (by omega)

theorem join_len (c : UInt8) : ∀ (xs : List (List UInt8)), (∀ x ∈ xs, x.length ≤ 6) → (Lib.join xs [c]).length ≤ 7 * xs.length
  | [], _ => by simp [Lib.join_nil]
  | [x], h => by rw [Lib.join_one]; have := h x (by simp); simp; omega
  | x :: y :: r, h => by
    rw [join_cons2]
    have h1 := h x (by simp)
    have h2 := join_len c (y :: r) (fun z hz => h z (by simp [hz]))
    simp only [List.length_append, List.length_cons, List.length_nil] at h2 ⊢
    omega

theorem map_len6 {F : List Int} (hf : ∀ x ∈ F, 1 ≤ x ∧ x ≤ 63) : ∀ d ∈ F.map digL, d.length ≤ 6 := by
  intro d hd
  obtain ⟨x, hx, rfl⟩ := List.mem_map.1 hd
  exact digL_len (hf x hx)

/-- The text of the first facets. -/
def txK (V : Int) (F : List Int) (k : Nat) : List UInt8 := textL V (F.take k)

theorem txK_len {V : Int} {F : List Int} (hf : ∀ x ∈ F, 1 ≤ x ∧ x ≤ 63) (hl : F.length ≤ 63) (k : Nat) : (txK V F k).length ≤ 443 := by
  unfold txK textL
  have h := join_len 44 ((F.take k).map digL) (map_len6 (fun x hx => hf x (List.mem_of_mem_take hx)))
  simp only [List.length_cons, List.length_map, List.length_take] at h ⊢
  omega

theorem txK_one {V : Int} {F : List Int} (h : 0 < F.length) : txK V F 1 = txK V F 0 ++ digL (F[0]?.getD 0) := by
  unfold txK textL
  rw [show (1 : Nat) = 0 + 1 from rfl, take_snoc h]
  simp [Lib.join_one, Lib.join_nil]

theorem txK_next {V : Int} {F : List Int} {k : Nat} (h0 : 0 < k) (h : k < F.length) : txK V F (k + 1) = (txK V F k ++ [44]) ++ digL (F[k]?.getD 0) := by
  unfold txK textL
  rw [take_snoc h, List.map_append, List.map_cons, List.map_nil, join_snoc]
  · simp
  · intro he
    have h2 : ((F.take k).map digL).length = 0 := by rw [he]; rfl
    simp only [List.length_map, List.length_take] at h2
    omega

theorem decD (V : Nat) (h1 : 1 ≤ V) (h6 : V ≤ 6) : Lib.decDigits V = [UInt8.ofNat (48 + V)] := by
  rcases (show V = 1 ∨ V = 2 ∨ V = 3 ∨ V = 4 ∨ V = 5 ∨ V = 6 by omega) with rfl | rfl | rfl | rfl | rfl | rfl <;> decide +kernel

theorem add_str (W : World) (x y : List UInt8) (h : x.length + y.length ≤ 1000000) : (Op.stringOp .add ⟨x.toArray⟩ ⟨y.toArray⟩).run Tryd.prog W = .ok (.string ⟨(x ++ y).toArray⟩) W := by
  rw [run_string_add_sum W _ _ (by simp [ByteArray.size]; omega), ByteArray.mk_append_mk]

set_option maxRecDepth 100000 in
set_option maxHeartbeats 2000000 in
theorem textS_any (V : Int) (a : Option Addr) (cap : Nat) (fs : List Int) (w : World) (hx : SlI w w.heap.size a fs) (hl : fs.length ≤ 1048576) (hC : IsC V fs) :
    Calls Tryd.prog 35 #[.agg #[.int .i64 V, .slice a fs.length cap]] w fun e w' => e = .returned (.string ⟨(textL V (facetsL fs)).toArray⟩) ∧ Below w.heap.size w w' := by
  obtain ⟨vn, rfl⟩ : ∃ vn : Nat, V = (vn : Int) := ⟨V.toNat, by have := hC.lo; omega⟩
  have h1 := hC.lo
  have h6 := hC.hi
  obtain ⟨W0, hW0⟩ : ∃ W0, W0 = w.alloc (.cells #[.int .i64 (vn : Int), .slice a fs.length cap] 24) := ⟨_, rfl⟩
  have hB0 : Below w.heap.size w W0 := by rw [hW0]; exact (Below.refl _ w).alloc (Nat.le_refl _) _
  have HK := hid (show W0.heap[w.heap.size]? = some (.cells #[.int .i64 (vn : Int), .slice a fs.length cap] 24 (0, 0)) by rw [hW0]; exact heap_alloc_new _ _)
  have HB0 := hid hB0
  have HW0 := hid hW0
  have Hx := hid hx
  have Hdec := hid (fun (W : World) => dec_any vn (by omega) W)
  have Hfac := hid (fun (W : World) (h : Below w.heap.size w W) => facets_any (vn : Int) a cap fs W (Hx.out.later h h.size) hl hC.range63)
  obtain ⟨F, hF⟩ : ∃ F, F = facetsL fs := ⟨_, rfl⟩
  have Hf : Hid (∀ x ∈ F, 1 ≤ x ∧ x ≤ 63) := hid (by rw [hF]; exact fun x hx => hC.range63 x (List.mem_filter.1 hx).1)
  have hFl : F.length ≤ 63 := by rw [hF]; exact Nat.le_trans (List.length_filter_le _ _) hC.len63
  rw [← hF] at Hfac ⊢
  obtain ⟨b, hb⟩ : ∃ b : UInt8, b = UInt8.ofNat (48 + vn) := ⟨_, rfl⟩
  have HS0 : Hid ((⟨#[b]⟩ : ByteArray) ++ ⟨#[58]⟩ = ⟨(txK (vn : Int) F 0).toArray⟩) := hid (by rw [hb]; rfl)
  rw [← hb] at Hdec
  have Hlen := hid (txK_len (V := (vn : Int)) Hf.out hFl)
  obtain ⟨q0, q1, _, _⟩ := two_of HK.out
  clear hx hB0 hW0 hC hF hb
  go_enter Tryd.func35, Tryd.ntmps35
  go_wp2_with fail
  rw [← HW0.out]
  have Hlt := hid (lt_get HK.out)
  go_region_with (first
    | (go_at_call 57; refine (Hdec.out _).mono ?_; rintro e w1 ⟨rfl, hB1⟩; have HB1a := hid hB1; have hj := (hB1.block w.heap.size (by first | exact Hlt.out | exact lt_get K2.out)).trans (by first | exact HK.out | exact K2.out); obtain ⟨j0, j1, _, _⟩ := two_of hj; have K1 := hid hj; clear hB1 hj)
    | (go_at_call 58; refine (Hfac.out _ (by first | exact HB0.out | exact HB0.out.drew | exact HB0.out.drew.trans (HB1a.out.mono HB0.out.drew.size) | exact HB0.out.trans (HB1a.out.mono HB0.out.size))).mono ?_; rintro e w2 ⟨v, rfl, hr⟩; obtain ⟨_, av, cv, rfl, _⟩ := ownsRow_slI hr.1; have hj := (hr.2.block w.heap.size (by first | exact Hlt.out | exact lt_get K1.out)).trans (by first | exact HK.out | exact K1.out); obtain ⟨m0, m1, _, _⟩ := two_of hj; have K2 := hid hj; clear hj)
    | fail)
  all_goals
    first
      | (obtain ⟨W, hW⟩ : ∃ W, W = w2 := ⟨_, rfl⟩
         have HR : Hid (Below w.heap.size w W ∧ SlI W W.heap.size av F) := hid (by rw [hW]; exact ⟨(hr.later (HB0.out.drew.trans (HB1a.out.mono HB0.out.drew.size))).2, owned_slI hr.1⟩)
         rw [← hW]
         clear hW)
      | (obtain ⟨W, hW⟩ : ∃ W, W = w1 := ⟨_, rfl⟩
         have HR : Hid (Below w.heap.size w W ∧ SlI W W.heap.size av F) := hid (by rw [hW]; exact ⟨((hr.later HB0.out.drew).after HB1a.out).2, (owned_slI hr.1).later HB1a.out HB1a.out.size⟩)
         rw [← hW]
         clear hW)
    clear q0 q1 j0 j1 m0 m1 K1 K2 HB1a hr Hdec Hfac
    rw [HS0.out]
    go_wp2_with fail
    go_loopw [3, 5] (fun tv iv wr => ∃ k : Nat, k ≤ F.length ∧ tv = .string ⟨(txK (vn : Int) F k).toArray⟩ ∧ iv = .int .i64 k ∧ Below W.heap.size W wr) (fun _ iv _ => F.length - (intOf iv).toNat)
    case atStart => exact ⟨0, Nat.zero_le _, rfl, rfl, Below.refl _ _⟩
    case round =>
      obtain ⟨k, hk, rfl, rfl, hB⟩ := hrel
      have HB := hid hB
      have hsz := hB.size
      by_cases hlt : k < F.length
      · obtain ⟨x, hx⟩ : ∃ x, x = F[k]?.getD 0 := ⟨_, rfl⟩
        have hxr := Hf.out _ (getD_mem hlt)
        rw [← hx] at hxr
        have Hck : Hid (∀ (Q : World), Below W.heap.size W Q → ∃ g off, av = some ⟨g, off, none⟩ ∧ Q.cell? ⟨g, off + k, none⟩ = some (.int .i64 x)) := hid (fun Q hQ => by
          rcases HR.out.2 with h | ⟨g, off, hg, rfl, hc⟩
          · rw [h] at hlt; simp at hlt
          · exact ⟨g, off, rfl, by rw [hx]; exact (hQ.cell (p := ⟨g, off + k, none⟩) hg).trans (hc k hlt)⟩)
        obtain ⟨g, off, rfl, hck⟩ := Hck.out wr hB
        obtain ⟨f, rfl⟩ : ∃ f : Nat, x = (f : Int) := ⟨x.toNat, by omega⟩
        have Hd := hid (fun W => digits_any f (by omega) W)
        have hi0 : (0 : Int) ≤ (k : Int) := by omega
        have hi1 : (k : Int) < (F.length : Int) := by omega
        have h443 := Hlen.out k
        have hd6 := digL_len hxr
        obtain ⟨t, ht⟩ : ∃ t : ByteArray, t = ⟨(txK (vn : Int) F k).toArray⟩ := ⟨_, rfl⟩
        obtain ⟨d, hd⟩ : ∃ d : ByteArray, d = ⟨(digL (f : Int)).toArray⟩ := ⟨_, rfl⟩
        rw [← ht]
        rw [← hd] at Hd
        clear hB Hck
        by_cases h0 : k = 0
        · have hgt : decide (0 < k) = false := decide_eq_false (by omega)
          have hadd : ∀ W : World, (Op.stringOp .add t d).run Tryd.prog W = .ok (.string ⟨(txK (vn : Int) F (k + 1)).toArray⟩) W := fun W => by
            have h1 := txK_one (V := (vn : Int)) (F := F) (by omega)
            rw [ht, hd, hx, h0, h1]
            rw [h0] at h443
            rw [hx, h0] at hd6
            exact add_str W _ _ (by omega)
          clear ht hd hx h443 hd6 hxr h0
          go_wp2_with fail
          refine (Hd.out _).mono ?_
          rintro e w3 ⟨rfl, hB3⟩
          have HB3 := hid (HB.out.trans (hB3.mono hsz))
          clear hB3
          go_wp2_with fail
          go_roundw
          case rel => exact ⟨k + 1, by omega, rfl, by go_num, HB3.out⟩
          case measure => simp [intOf]; omega
        · have hgt : decide (0 < k) = true := decide_eq_true (by omega)
          obtain ⟨t2, ht2⟩ : ∃ t2 : ByteArray, t2 = ⟨(txK (vn : Int) F k ++ [44]).toArray⟩ := ⟨_, rfl⟩
          have hadd1 : ∀ W : World, (Op.stringOp .add t ⟨#[44]⟩).run Tryd.prog W = .ok (.string t2) W := fun W => by
            rw [ht, ht2]
            exact add_str W _ [44] (by simp; omega)
          have hadd : ∀ W : World, (Op.stringOp .add t2 d).run Tryd.prog W = .ok (.string ⟨(txK (vn : Int) F (k + 1)).toArray⟩) W := fun W => by
            rw [ht2, hd, txK_next (by omega) hlt, ← hx]
            exact add_str W _ _ (by simp; omega)
          clear ht hd hx ht2 h443 hd6 hxr
          go_wp2_with fail
          refine (Hd.out _).mono ?_
          rintro e w3 ⟨rfl, hB3⟩
          have HB3 := hid (HB.out.trans (hB3.mono hsz))
          clear hB3
          go_wp2_with fail
          go_roundw
          case rel => exact ⟨k + 1, by omega, rfl, by go_num, HB3.out⟩
          case measure => simp [intOf]; omega
      · obtain rfl : k = F.length := by omega
        have HE : Hid (textL (vn : Int) F = txK (vn : Int) F F.length) := hid (by unfold txK; rw [List.take_length])
        go_wp2_with fail
        go_ret
        exact ⟨by rw [HE.out]; rfl, HR.out.1.trans (HB.out.mono HR.out.1.size)⟩

end Go.Proofs.YtbgkalkipalndaaDoor

/-! The library's sort, slices.Sorted and maps.Keys at int64: that this program holds their very bodies. -/
namespace Go.Proofs.YtbgkalkipalndaaDoor
open Go.Shelf

def sortL_ren : Go.Shelf.Ren := ⟨fun | 5 => 85 | 8 => 101 | 7 => 100 | 19 => 118 | 20 => 89 | 10 => 109 | 11 => 110 | 12 => 111 | 13 => 112 | 14 => 113 | 15 => 114 | 16 => 115 | 17 => 116 | 18 => 117 | 30 => 121 | 31 => 122 | 32 => 123 | 33 => 124 | 34 => 125 | 35 => 126 | 40 => 127 | n => n, fun | 23 => 22 | 25 => 2 | 3 => 3 | 32 => 114 | 22 => 22 | 0 => 0 | 44 => 111 | 46 => 93 | 4 => 4 | 36 => 128 | 35 => 127 | 41 => 133 | 5 => 5 | 9 => 9 | 53 => 143 | 57 => 147 | 63 => 149 | 64 => 150 | n => n, fun | n => n⟩
theorem sortL : Go.Proofs.SlLaysM.n5 Tryd.prog sortL_ren := {
  mixed := by kernel_rfl,
  f5 := ⟨Tryd.f85.name, by decide, Tryd.func85.trans (congrArg some (by kernel_rfl))⟩,
  f7 := ⟨Tryd.f100.name, by decide, Tryd.func100.trans (congrArg some (by kernel_rfl))⟩,
  f8 := Tryd.func101.trans (congrArg some (by kernel_rfl)),
  f10 := ⟨Tryd.f109.name, by decide, Tryd.func109.trans (congrArg some (by kernel_rfl))⟩,
  f11 := ⟨Tryd.f110.name, by decide, Tryd.func110.trans (congrArg some (by kernel_rfl))⟩,
  f12 := ⟨Tryd.f111.name, by decide, Tryd.func111.trans (congrArg some (by kernel_rfl))⟩,
  f13 := ⟨Tryd.f112.name, by decide, Tryd.func112.trans (congrArg some (by kernel_rfl))⟩,
  f14 := ⟨Tryd.f113.name, by decide, Tryd.func113.trans (congrArg some (by kernel_rfl))⟩,
  f15 := ⟨Tryd.f114.name, by decide, Tryd.func114.trans (congrArg some (by kernel_rfl))⟩,
  f16 := ⟨Tryd.f115.name, by decide, Tryd.func115.trans (congrArg some (by kernel_rfl))⟩,
  f17 := ⟨Tryd.f116.name, by decide, Tryd.func116.trans (congrArg some (by kernel_rfl))⟩,
  f18 := ⟨Tryd.f117.name, by decide, Tryd.func117.trans (congrArg some (by kernel_rfl))⟩,
  f19 := Tryd.func118.trans (congrArg some (by kernel_rfl)),
  f20 := Tryd.func89.trans (congrArg some (by kernel_rfl)),
  f30 := ⟨Tryd.f121.name, by decide, Tryd.func121.trans (congrArg some (by kernel_rfl))⟩,
  f31 := Tryd.func122.trans (congrArg some (by kernel_rfl)),
  f32 := Tryd.func123.trans (congrArg some (by kernel_rfl)),
  f33 := ⟨Tryd.f124.name, by decide, Tryd.func124.trans (congrArg some (by kernel_rfl))⟩,
  f34 := ⟨Tryd.f125.name, by decide, Tryd.func125.trans (congrArg some (by kernel_rfl))⟩,
  f35 := ⟨Tryd.f126.name, by decide, Tryd.func126.trans (congrArg some (by kernel_rfl))⟩,
  f40 := ⟨Tryd.f127.name, by decide, Tryd.func127.trans (congrArg some (by kernel_rfl))⟩,
  t0 := Tryd.underlying0,
  a0 := Tryd.isAgg0,
  z0 := Tryd.sizeOf0,
  v0 := Tryd.zeroValue0,
  t3 := Tryd.underlying3,
  a3 := Tryd.isAgg3,
  z3 := Tryd.sizeOf3,
  v3 := Tryd.zeroValue3,
  t4 := Tryd.underlying4,
  a4 := Tryd.isAgg4,
  z4 := Tryd.sizeOf4,
  v4 := Tryd.zeroValue4,
  t5 := Tryd.underlying5,
  a5 := Tryd.isAgg5,
  z5 := Tryd.sizeOf5,
  v5 := Tryd.zeroValue5,
  t9 := Tryd.underlying9,
  a9 := Tryd.isAgg9,
  z9 := Tryd.sizeOf9,
  v9 := Tryd.zeroValue9,
  t22 := Tryd.underlying22,
  a22 := Tryd.isAgg22,
  z22 := Tryd.sizeOf22,
  v22 := Tryd.zeroValue22,
  t23 := Tryd.underlying22,
  a23 := Tryd.isAgg22,
  z23 := Tryd.sizeOf22,
  v23 := Tryd.zeroValue22,
  t25 := Tryd.underlying2,
  a25 := Tryd.isAgg2,
  z25 := Tryd.sizeOf2,
  v25 := Tryd.zeroValue2,
  t32 := Tryd.underlying114,
  a32 := Tryd.isAgg114,
  z32 := Tryd.sizeOf114,
  v32 := Tryd.zeroValue114,
  t35 := Tryd.underlying127,
  a35 := Tryd.isAgg127,
  z35 := Tryd.sizeOf127,
  v35 := Tryd.zeroValue127,
  t36 := Tryd.underlying128,
  a36 := Tryd.isAgg128,
  z36 := Tryd.sizeOf128,
  v36 := Tryd.zeroValue128,
  t41 := Tryd.underlying133,
  a41 := Tryd.isAgg133,
  z41 := Tryd.sizeOf133,
  v41 := Tryd.zeroValue133,
  t44 := Tryd.underlying111,
  a44 := Tryd.isAgg111,
  z44 := Tryd.sizeOf111,
  v44 := Tryd.zeroValue111,
  t46 := Tryd.underlying93,
  a46 := Tryd.isAgg93,
  z46 := Tryd.sizeOf93,
  v46 := Tryd.zeroValue93,
  t53 := Tryd.underlying143,
  a53 := Tryd.isAgg143,
  z53 := Tryd.sizeOf143,
  v53 := Tryd.zeroValue143,
  t57 := Tryd.underlying147,
  a57 := Tryd.isAgg147,
  z57 := Tryd.sizeOf147,
  v57 := Tryd.zeroValue147,
  t63 := Tryd.underlying149,
  a63 := Tryd.isAgg149,
  z63 := Tryd.sizeOf149,
  v63 := Tryd.zeroValue149,
  t64 := Tryd.underlying150,
  a64 := Tryd.isAgg150,
  z64 := Tryd.sizeOf150,
  v64 := Tryd.zeroValue150 }

def sortedL_ren : Go.Shelf.Ren := ⟨fun | 6 => 70 | 8 => 84 | 9 => 85 | 11 => 99 | 13 => 101 | 12 => 100 | 23 => 118 | 24 => 89 | 14 => 109 | 15 => 110 | 16 => 111 | 17 => 112 | 18 => 113 | 19 => 114 | 20 => 115 | 21 => 116 | 22 => 117 | 25 => 121 | 26 => 122 | 27 => 123 | 28 => 124 | 29 => 125 | 30 => 126 | 31 => 127 | n => n, fun | 26 => 2 | 28 => 79 | 24 => 22 | 0 => 0 | 3 => 3 | 37 => 114 | 48 => 111 | 50 => 93 | 4 => 4 | 40 => 128 | 39 => 127 | 45 => 133 | 5 => 5 | 9 => 9 | 51 => 143 | 55 => 147 | 57 => 149 | 58 => 150 | 33 => 70 | n => n, fun | n => n⟩
theorem sortedL : Go.Proofs.SlLaysZI.n6 Tryd.prog sortedL_ren := {
  mixed := by kernel_rfl,
  f6 := ⟨Tryd.f70.name, by decide, Tryd.func70.trans (congrArg some (by kernel_rfl))⟩,
  f8 := ⟨Tryd.f84.name, by decide, Tryd.func84.trans (congrArg some (by kernel_rfl))⟩,
  f11 := ⟨Tryd.f99.name, by decide, Tryd.func99.trans (congrArg some (by kernel_rfl))⟩,
  t0 := Tryd.underlying0,
  a0 := Tryd.isAgg0,
  z0 := Tryd.sizeOf0,
  v0 := Tryd.zeroValue0,
  t24 := Tryd.underlying22,
  a24 := Tryd.isAgg22,
  z24 := Tryd.sizeOf22,
  v24 := Tryd.zeroValue22,
  t26 := Tryd.underlying2,
  a26 := Tryd.isAgg2,
  z26 := Tryd.sizeOf2,
  v26 := Tryd.zeroValue2,
  t28 := Tryd.underlying79,
  a28 := Tryd.isAgg79,
  z28 := Tryd.sizeOf79,
  v28 := Tryd.zeroValue79,
  i26 := by kernel_rfl }

def keysL_ren : Go.Shelf.Ren := ⟨fun | 7 => 71 | 10 => 86 | n => n, fun | 23 => 77 | 26 => 2 | 3 => 4 | 28 => 79 | 0 => 0 | 27 => 78 | 33 => 70 | 4 => 4 | n => n, fun | n => n⟩
theorem keysL : Go.Proofs.SlLaysZI.n7 Tryd.prog keysL_ren := {
  mixed := by kernel_rfl,
  f7 := ⟨Tryd.f71.name, by decide, Tryd.func71.trans (congrArg some (by kernel_rfl))⟩,
  f10 := ⟨Tryd.f86.name, by decide, Tryd.func86.trans (congrArg some (by kernel_rfl))⟩,
  t0 := Tryd.underlying0,
  a0 := Tryd.isAgg0,
  z0 := Tryd.sizeOf0,
  v0 := Tryd.zeroValue0,
  t4 := Tryd.underlying4,
  a4 := Tryd.isAgg4,
  z4 := Tryd.sizeOf4,
  v4 := Tryd.zeroValue4,
  t23 := Tryd.underlying77,
  a23 := Tryd.isAgg77,
  z23 := Tryd.sizeOf77,
  v23 := Tryd.zeroValue77,
  t26 := Tryd.underlying2,
  a26 := Tryd.isAgg2,
  z26 := Tryd.sizeOf2,
  v26 := Tryd.zeroValue2,
  t27 := Tryd.underlying78,
  a27 := Tryd.isAgg78,
  z27 := Tryd.sizeOf78,
  v27 := Tryd.zeroValue78,
  t28 := Tryd.underlying79,
  a28 := Tryd.isAgg79,
  z28 := Tryd.sizeOf79,
  v28 := Tryd.zeroValue79,
  t33 := Tryd.underlying70,
  a33 := Tryd.isAgg70,
  z33 := Tryd.sizeOf70,
  v33 := Tryd.zeroValue70 }

end Go.Proofs.YtbgkalkipalndaaDoor

/-! 'out.Faces = append(out.Faces, x)' in the model's loops, where the complex that is built has a number of vertices of its own (OutW, with that number). -/
namespace Go.Proofs.YtbgkalkipalndaaDoor
open Go.RowKit

/-- The same, where what is built has another number of vertices: B is the heap's size when the call began. -/
structure OutU (w W : World) (V U : Int) (sl : Value) (Bo : Nat) (xs : List Int) (a : Option Addr) (c : Nat) : Prop where
  below : Below w.heap.size w W
  kbox : W.heap[w.heap.size]? = some (.cells #[.int .i64 V, sl] 24 (0, 0))
  res : W.heap[w.heap.size + 1]? = some (.cells #[.int .i64 0, .slice none 0 0] 24 (0, 0))
  out : W.heap[Bo]? = some (.cells #[.int .i64 U, .slice a xs.length c] 24 (0, 0))
  own : W.ownsRow w.heap.size 2 1 (.slice a xs.length c) xs.length (xs.map (Value.int .i64))
  bo : w.heap.size + 1 < Bo

/-- Draws alone. -/
theorem OutU.drew {w W : World} {V U : Int} {sl : Value} {Bo : Nat} {xs : List Int} {a : Option Addr} {c : Nat} (h : OutU w W V U sl Bo xs a c) : OutU w W.drew V U sl Bo xs a c :=
  ⟨⟨h.below.os, h.below.tape, h.below.output, h.below.size, h.below.block⟩, h.kbox, h.res, h.out, h.own, h.bo⟩

theorem OutU.drewN {w W : World} {V U : Int} {sl : Value} {Bo : Nat} {xs : List Int} {a : Option Addr} {c : Nat} (h : OutU w W V U sl Bo xs a c) (n : Nat) : OutU w (W.drewN n) V U sl Bo xs a c :=
  ⟨⟨h.below.os, h.below.tape, h.below.output, h.below.size, h.below.block⟩, h.kbox, h.res, h.out, h.own, h.bo⟩

/-- Whatever keeps all that lay. -/
theorem OutU.later {w W W' : World} {V U : Int} {sl : Value} {Bo : Nat} {xs : List Int} {a : Option Addr} {c : Nat} (h : OutU w W V U sl Bo xs a c) (hb : Below W.heap.size W W') : OutU w W' V U sl Bo xs a c where
  below := h.below.trans (hb.mono h.below.size)
  kbox := (hb.block _ (lt_get h.kbox)).trans h.kbox
  res := (hb.block _ (lt_get h.res)).trans h.res
  out := (hb.block _ (lt_get h.out)).trans h.out
  own := ownsRow_below h.own hb (fun g hg => (h.own.lt g hg).2)
  bo := h.bo

/-- A face more. -/
theorem OutU.step {w W w2 : World} {V U : Int} {sl : Value} {Bo : Nat} {xs : List Int} {a : Option Addr} {c : Nat} (h : OutU w W V U sl Bo xs a c) {x : Int} {g cap : Nat} {o : Obj}
    (hown : w2.ownsRow w.heap.size 2 1 (.slice (some ⟨g, 0, none⟩) (xs ++ [x]).length cap) (xs ++ [x]).length ((xs ++ [x]).map (Value.int .i64))) (hg : (W.alloc o).grownBy w2 (Value.ownBlock (.slice a xs.length c))) :
    OutU w (w2.setCell ⟨Bo, 1, none⟩ (.slice (some ⟨g, 0, none⟩) (xs ++ [x]).length cap)) V U sl Bo (xs ++ [x]) (some ⟨g, 0, none⟩) cap := by
  have hgr : W.grownBy w2 (Value.ownBlock (.slice a xs.length c)) := (World.grownBy_alloc W o _).trans hg
  have hbo := h.bo
  have k2 := (hgr.block _ (lt_get h.kbox) (row_ne h.own h.kbox (by decide))).trans h.kbox
  have r2 := (hgr.block _ (lt_get h.res) (row_ne h.own h.res (by decide))).trans h.res
  have o2 := (hgr.block _ (lt_get h.out) (row_ne h.own h.out (by decide))).trans h.out
  refine ⟨?_, ?_, ?_, ?_, ?_, h.bo⟩
  · exact (h.below.grown hgr h.below.size (fun k hk => (h.own.lt k hk).1)).setCell (p := ⟨Bo, 1, none⟩) (by simp only; omega) _
  · exact (Below.heap_setCell _ _ _ _ (by simp only; omega)).trans k2
  · exact (Below.heap_setCell _ _ _ _ (by simp only; omega)).trans r2
  · simp only [World.setCell, Array.getElem?_modify, o2]
    simp
  · exact ownsRow_set hown (by
      have := row_ne hown o2 (by decide)
      exact fun e => this e.symm) _

/-- The model's loops hand back what they have built. -/
theorem OutU.done {w W : World} {V U : Int} {sl : Value} {Bo : Nat} {xs : List Int} {a : Option Addr} {c : Nat} (h : OutU w W V U sl Bo xs a c) (u v : Value) :
    Res w ((W.setCell ⟨w.heap.size + 1, 0, none⟩ u).setCell ⟨w.heap.size + 1, 1, none⟩ v) (.slice a xs.length c) xs := by
  have hn := row_ne h.own h.res (by decide)
  exact ⟨ownsRow_set (ownsRow_set h.own (fun e => hn e.symm) _) (fun e => hn e.symm) _, (h.below.setCell (p := ⟨w.heap.size + 1, 0, none⟩) (by simp) _).setCell (p := ⟨w.heap.size + 1, 1, none⟩) (by simp) _⟩

theorem OutU.stepN {w W w2 : World} {V U : Int} {sl : Value} {Bo : Nat} {xs : List Int} {a : Option Addr} {c : Nat} (h : OutU w W V U sl Bo xs a c) {x : Int} {g cap : Nat} {o : Obj} {n : Nat}
    (hown : w2.ownsRow w.heap.size 2 1 (.slice (some ⟨g, 0, none⟩) (xs ++ [x]).length cap) (xs ++ [x]).length ((xs ++ [x]).map (Value.int .i64))) (hg : ((W.drewN n).alloc o).grownBy w2 (Value.ownBlock (.slice a xs.length c))) :
    OutU w (w2.setCell ⟨Bo, 1, none⟩ (.slice (some ⟨g, 0, none⟩) (xs ++ [x]).length cap)) V U sl Bo (xs ++ [x]) (some ⟨g, 0, none⟩) cap := (h.drewN n).step hown hg

/-- The out block behind an append. -/
theorem OutU.mid {w W w2 : World} {V U : Int} {sl : Value} {Bo : Nat} {xs : List Int} {a : Option Addr} {c : Nat} (h : OutU w W V U sl Bo xs a c) {n : Nat} {o : Obj} (hg : ((W.drewN n).alloc o).grownBy w2 (Value.ownBlock (.slice a xs.length c))) :
    w2.cell? ⟨Bo, 1, none⟩ = some (.slice a xs.length c) ∧ w2.frozen? ⟨Bo, 1, none⟩ = false := by
  have hgr : (W.drewN n).grownBy w2 (Value.ownBlock (.slice a xs.length c)) := (World.grownBy_alloc _ o _).trans hg
  have o2 := (hgr.block _ (lt_get (h.drewN n).out) (row_ne (h.drewN n).own (h.drewN n).out (by decide))).trans (h.drewN n).out
  constructor <;> simp [World.cell?, World.frozen?, o2]

/-- The given complex's box behind an append. -/
theorem OutU.midK {w W w2 : World} {V U : Int} {sl : Value} {Bo : Nat} {xs : List Int} {a : Option Addr} {c : Nat} (h : OutU w W V U sl Bo xs a c) {n : Nat} {o : Obj} (hg : ((W.drewN n).alloc o).grownBy w2 (Value.ownBlock (.slice a xs.length c))) :
    w2.cell? ⟨w.heap.size, 1, none⟩ = some sl := by
  have hgr : (W.drewN n).grownBy w2 (Value.ownBlock (.slice a xs.length c)) := (World.grownBy_alloc _ o _).trans hg
  have o2 := (hgr.block _ (lt_get (h.drewN n).kbox) (row_ne (h.drewN n).own (h.drewN n).kbox (by decide))).trans (h.drewN n).kbox
  simp [World.cell?, o2]

/-- What lay before the call, behind an append. -/
theorem OutU.midX {w W w2 : World} {V U : Int} {sl : Value} {Bo : Nat} {xs : List Int} {a : Option Addr} {c : Nat} (h : OutU w W V U sl Bo xs a c) {n : Nat} {o : Obj} (hg : ((W.drewN n).alloc o).grownBy w2 (Value.ownBlock (.slice a xs.length c))) {p : Addr} (hp : p.block < w.heap.size) :
    w2.cell? p = W.cell? p := by
  have hgr : (W.drewN n).grownBy w2 (Value.ownBlock (.slice a xs.length c)) := (World.grownBy_alloc _ o _).trans hg
  have hlt : p.block < (W.drewN n).heap.size := Nat.lt_of_lt_of_le hp h.below.size
  have h2 : w2.heap[p.block]? = W.heap[p.block]? := hgr.block _ hlt (by
    intro he
    have := (h.own.lt _ he.symm).1
    omega)
  simp only [World.cell?, h2]

end Go.Proofs.YtbgkalkipalndaaDoor

/-! Finite facts on bits, decided. -/
namespace Go.Proofs.YtbgkalkipalndaaDoor
open Go.RowKit

theorem andNot_fin : ∀ x : Nat, x < 64 → ∀ s : Nat, s < 64 → (bits BinOp.andNot IntKind.i64 (x : Int) (s : Int) == 0) = decide (x &&& s = x) := by
  decide +kernel

end Go.Proofs.YtbgkalkipalndaaDoor

/-! The numbers from 1 to n that are wanted, ascending. -/
namespace Go.Proofs.YtbgkalkipalndaaDoor
open Go.RowKit

/-- The numbers from 1 to k of which p says yes. -/
def pickTo (p : Int → Bool) : Nat → List Int
  | 0 => []
  | k + 1 => pickTo p k ++ (if p ((k : Int) + 1) then [(k : Int) + 1] else [])

theorem pickTo_len (p : Int → Bool) : ∀ k, (pickTo p k).length ≤ k
  | 0 => by simp [pickTo]
  | k + 1 => by
    have := pickTo_len p k
    simp only [pickTo, List.length_append]
    split <;> simp <;> omega

theorem mem_pickTo {p : Int → Bool} {x : Int} : ∀ k : Nat, x ∈ pickTo p k ↔ 1 ≤ x ∧ x ≤ k ∧ p x = true
  | 0 => by simp [pickTo]; omega
  | k + 1 => by
    have ih := mem_pickTo (p := p) (x := x) k
    simp only [pickTo, List.mem_append, ih]
    constructor
    · rintro (⟨h1, h2, h3⟩ | h)
      · exact ⟨h1, by omega, h3⟩
      · split at h
        · rename_i hp
          simp at h
          subst h
          exact ⟨by omega, by omega, hp⟩
        · simp at h
    · rintro ⟨h1, h2, h3⟩
      by_cases he : x = (k : Int) + 1
      · subst he
        right
        rw [if_pos h3]; simp
      · exact .inl ⟨h1, by omega, h3⟩

theorem pickTo_asc (p : Int → Bool) : ∀ k : Nat, (pickTo p k).Pairwise (· < ·)
  | 0 => by simp [pickTo]
  | k + 1 => by
    simp only [pickTo]
    rw [List.pairwise_append]
    refine ⟨pickTo_asc p k, by split <;> simp, fun a ha b hb => ?_⟩
    have h1 := (mem_pickTo k).1 ha
    split at hb
    · simp at hb; omega
    · simp at hb

theorem pickTo_congr {p q : Int → Bool} : ∀ k : Nat, (∀ x : Int, 1 ≤ x → x ≤ k → p x = q x) → pickTo p k = pickTo q k
  | 0, _ => rfl
  | k + 1, h => by
    simp only [pickTo]
    rw [pickTo_congr k (fun x h1 h2 => h x h1 (by omega)), h ((k : Int) + 1) (by omega) (by omega)]

/-- Two ascending lists with the same members are one. -/
theorem asc_ext : ∀ {xs ys : List Int}, xs.Pairwise (· < ·) → ys.Pairwise (· < ·) → (∀ x, x ∈ xs ↔ x ∈ ys) → xs = ys
  | [], [], _, _, _ => rfl
  | [], y :: ys, _, _, h => absurd ((h y).2 (by simp)) (by simp)
  | x :: xs, [], _, _, h => absurd ((h x).1 (by simp)) (by simp)
  | x :: xs, y :: ys, hx, hy, h => by
    have hx' := List.pairwise_cons.1 hx
    have hy' := List.pairwise_cons.1 hy
    have hxy : x = y := by
      have h1 := (h x).1 (by simp)
      have h2 := (h y).2 (by simp)
      rcases List.mem_cons.1 h1 with h1 | h1
      · exact h1
      · rcases List.mem_cons.1 h2 with h2 | h2
        · exact h2.symm
        · have a := hy'.1 _ h1
          have b := hx'.1 _ h2
          omega
    subst hxy
    congr 1
    refine asc_ext hx'.2 hy'.2 fun z => ?_
    have hz := h z
    simp only [List.mem_cons] at hz
    constructor
    · intro hm
      rcases hz.1 (.inr hm) with rfl | h'
      · exact absurd (hx'.1 _ hm) (by omega)
      · exact h'
    · intro hm
      rcases hz.2 (.inr hm) with rfl | h'
      · exact absurd (hy'.1 _ hm) (by omega)
      · exact h'

end Go.Proofs.YtbgkalkipalndaaDoor

/-! The library's sort at int64, and slices.Sorted(maps.Keys(m)) of a set. -/
namespace Go.Proofs.YtbgkalkipalndaaDoor
open Go.RowKit Go.Maps Go.Sort Go.Shelf

/-- slices.Sort's two contracts, as slices.Sorted asks them. -/
theorem sortsL (m : Nat) : AnyZI.SortsIn Tryd.prog sortedL_ren Fence.wide m :=
  ⟨fun blk off cap ss W hH hblk hsz => callsIn_wide.2 (AnyM.slices_Sort_int sortL blk off cap ss W hH hblk hsz),
   fun p cap W => callsIn_wide.2 (AnyM.slices_Sort_int_none sortL p cap W)⟩

theorem has_knownFrom (x : Int) : ∀ (pre : List Int) (D : DataW Unit), Maps.IsMap D → (has (knownFrom D pre) (.int .i64 x) = true ↔ x ∈ pre ∨ has D (.int .i64 x) = true)
  | [], D, _ => by simp [knownFrom]
  | y :: pre, D, hD => by
    have ih := has_knownFrom x pre (D.put (.int .i64 y) (.lit (.bool true))) (hD.put _ _)
    have e : knownFrom D (y :: pre) = knownFrom (D.put (.int .i64 y) (.lit (.bool true))) pre := rfl
    rw [e, ih]
    by_cases hx : x = y
    · subst hx
      rw [has_put_same hD (show WideAt.IsKeyLit (.int .i64 x) from trivial)]
      simp
    · rw [has_put_other (by simpa using hx)]
      simp [hx]

theorem has_knownD (x : Int) (pre : List Int) : has (knownD pre) (.int .i64 x) = true ↔ x ∈ pre := by
  unfold knownD
  rw [has_knownFrom x pre _ Maps.isMap_empty]
  simp [has]

/-- A set's numbers, ascending. -/
def ascOf (L : List Int) : List Int := pickTo (fun x => decide (x ∈ L)) 63

theorem mem_ascOf {L : List Int} (hL : ∀ x ∈ L, 1 ≤ x ∧ x ≤ 63) {x : Int} : x ∈ ascOf L ↔ x ∈ L := by
  unfold ascOf
  rw [mem_pickTo]
  constructor
  · intro h; simpa using h.2.2
  · intro h; exact ⟨(hL x h).1, (hL x h).2, by simpa using h⟩

theorem sorted_known {w : World} {b n : Nat} {L : List Int} (hown : w.ownsMap Tryd.prog 2 (plainElem (H := Unit) Tryd.prog 4) b n (knownD L)) (hL : ∀ x ∈ L, 1 ≤ x ∧ x ≤ 63) {ss : List Int} (hp : ss.Perm (intKeys (knownD L))) :
    ss.mergeSort (fun x y => decide (x ≤ y)) = ascOf L := by
  obtain ⟨es, hD, hpw, _⟩ := hown.entries (Maps.int_keyed Tryd.underlying2)
  obtain ⟨es', hD', hko⟩ := hown.keysOf
  obtain rfl : es = es' := by rw [hD] at hD'; simpa using hD'
  have hasc := pickTo_asc (fun x => decide (x ∈ L)) 63
  have h1 : (ascOf L).Perm (intKeys (knownD L)) := by
    rw [hD]
    refine perm_intKeys hpw (fun p hp => by obtain ⟨v, hv⟩ := hko p hp; obtain ⟨x, _, hx, _⟩ := Maps.keyOf_i64 Tryd.underlying2 hv; exact ⟨x, hx⟩) (hasc.imp fun h e => by omega) (fun x => ?_)
    rw [← hD, has_knownD, mem_ascOf hL]
  have h2 := mergeSort_of_perm_i (hp.trans h1.symm)
  refine h2.trans (List.mergeSort_of_pairwise ?_)
  exact hasc.imp fun h => by simp only [leI, decide_eq_true_eq]; omega

end Go.Proofs.YtbgkalkipalndaaDoor

/-! madeBy: the complex made by some sets. -/
namespace Go.Proofs.YtbgkalkipalndaaDoor
open Go.RowKit Go.Shelf

attribute [local go_sem] Oper.semAt_some

/-- The parts of a set, as they are met. -/
def partsI (f : Nat) : List Int := (subsF f).map fun p => ((p.val : Nat) : Int)
/-- .. of some sets. -/
def partsL (sets : List Int) : List Int := sets.flatMap fun x => partsI x.toNat
/-- The faces of the complex that some sets make. -/
def madeP (sets : List Int) : Int → Bool := fun x => sets.any fun s => decide (x.toNat &&& s.toNat = x.toNat)
def madeL (V : Int) (sets : List Int) : List Int := pickTo (madeP sets) (allV V).toNat

theorem partsI_len (f : Nat) (hf : f < 64) : (partsI f).length ≤ 63 := by
  unfold partsI; rw [List.length_map]; exact subsF_len f hf

theorem partsL_len : ∀ (sets : List Int), (∀ x ∈ sets, 0 ≤ x ∧ x ≤ 63) → (partsL sets).length ≤ 63 * sets.length
  | [], _ => by simp [partsL]
  | x :: sets, h => by
    have ih := partsL_len sets (fun y hy => h y (by simp [hy]))
    have hx := h x (by simp)
    have := partsI_len x.toNat (by omega)
    simp only [partsL, List.flatMap_cons, List.length_append, List.length_cons] at ih ⊢
    omega

theorem partsL_snoc (sets : List Int) (x : Int) : partsL (sets ++ [x]) = partsL sets ++ partsI x.toNat := by simp [partsL]

theorem mem_partsI {f : Nat} (hf : f < 64) {x : Int} : x ∈ partsI f ↔ ∃ p : Nat, x = p ∧ p ≠ 0 ∧ p &&& f = p := by
  unfold partsI
  rw [List.mem_map]
  constructor
  · rintro ⟨p, hp, rfl⟩
    exact ⟨p.val, rfl, (mem_subsF hf).1 hp⟩
  · rintro ⟨p, rfl, h1, h2⟩
    have hle := and_le_left' _ _ h2
    exact ⟨⟨p, by omega⟩, (mem_subsF hf).2 ⟨h1, h2⟩, rfl⟩

theorem mem_partsL {sets : List Int} (hr : ∀ x ∈ sets, 0 ≤ x ∧ x ≤ 63) {x : Int} : x ∈ partsL sets ↔ ∃ y ∈ sets, ∃ p : Nat, x = p ∧ p ≠ 0 ∧ p &&& y.toNat = p := by
  unfold partsL
  rw [List.mem_flatMap]
  constructor
  · rintro ⟨y, hy, h⟩
    exact ⟨y, hy, (mem_partsI (by have := hr y hy; omega)).1 h⟩
  · rintro ⟨y, hy, h⟩
    exact ⟨y, hy, (mem_partsI (by have := hr y hy; omega)).2 h⟩

/-- What is collected is what is made. -/
theorem asc_parts {V : Int} {sets : List Int} (h2 : V ≤ 6) (hr : ∀ x ∈ sets, 0 ≤ x ∧ x ≤ allV V) : ascOf (partsL sets) = madeL V sets := by
  have h63 : ∀ x ∈ sets, 0 ≤ x ∧ x ≤ 63 := fun x hx => ⟨(hr x hx).1, by have := allV_le h2; have := (hr x hx).2; omega⟩
  refine asc_ext (pickTo_asc _ _) (pickTo_asc _ _) fun x => ?_
  unfold ascOf madeL
  rw [mem_pickTo, mem_pickTo]
  simp only [decide_eq_true_eq, mem_partsL h63, madeP, List.any_eq_true]
  constructor
  · rintro ⟨h1, _, y, hy, p, rfl, hp0, hp⟩
    have hle := and_le_left' _ _ hp
    have := hr y hy
    exact ⟨h1, by omega, y, hy, by simpa using hp⟩
  · rintro ⟨h1, h3, y, hy, hp⟩
    have := allV_le h2
    exact ⟨h1, by omega, y, hy, x.toNat, by omega, by omega, hp⟩

theorem parts_range {sets : List Int} (hr : ∀ x ∈ sets, 0 ≤ x ∧ x ≤ 63) : ∀ x ∈ partsL sets, 1 ≤ x ∧ x ≤ 63 := by
  intro x hx
  obtain ⟨y, hy, p, rfl, h0, hp⟩ := (mem_partsL hr).1 hx
  have := and_le_left' _ _ hp
  have := hr y hy
  omega

theorem faw_box {w W : World} {V : Int} {sl : Value} {mb : Nat} {L : List Int} {Ds : List Nat} (h : FaW w W V sl mb L Ds) : W.cell? ⟨mb + 1, 0, none⟩ = some (.map (some mb)) := (box_cell h.mbox).1

set_option maxRecDepth 100000 in
set_option maxHeartbeats 4000000 in
theorem made_in (V : Int) (a : Option Addr) (cap : Nat) (xs : List Int) (w : World) (hx : SlI w w.heap.size a xs) (hl : xs.length ≤ 1048576) (h2 : V ≤ 6) (hr : ∀ x ∈ xs, 0 ≤ x ∧ x ≤ allV V) :
    CallsIn Fence.wide 10 Tryd.prog 52 #[.int .i64 V, .slice a xs.length cap] w fun e w' => ∃ v, e = .returned (.agg #[.int .i64 V, v]) ∧ Res w w' v (madeL V xs) := by
  have hmm := @run_makeMap Tryd.prog
  have hB0 : Below w.heap.size w (w.alloc (.cells #[.int .i64 0, .slice none 0 0] 24)) := (Below.refl _ w).alloc (Nat.le_refl _) _
  have h63 : ∀ x ∈ xs, 0 ≤ x ∧ x ≤ 63 := fun x hx => ⟨(hr x hx).1, by have := allV_le h2; have := (hr x hx).2; omega⟩
  have HR := hid (asc_parts h2 hr)
  have Hx0 := hid hx
  have Hf := hid h63
  have HB0 := hid hB0
  have hF0 : FaW w (((w.alloc (.cells #[.int .i64 0, .slice none 0 0] 24)).alloc (.map #[] 0)).alloc (.cells #[.map (some (w.heap.size + 1))] 77)) 0 (.slice none 0 0) (w.heap.size + 1) [] [] := by
    have e3 := heap_alloc_new ((w.alloc (.cells #[.int .i64 0, .slice none 0 0] 24)).alloc (.map #[] 0)) (.cells #[.map (some (w.heap.size + 1))] 77)
    rw [World.size_alloc, World.size_alloc] at e3
    have e4 := (World.ownsMap_made (w.alloc (.cells #[.int .i64 0, .slice none 0 0] 24)) Tryd.prog 2 (plainElem (H := Unit) Tryd.prog 4)).alloc (.cells #[.map (some (w.heap.size + 1))] 77)
    rw [World.size_alloc] at e4
    exact {
      below := (hB0.alloc (by simp) _).alloc (by simp <;> omega) _
      lo := Nat.le_refl _
      kbox := (Below.heap_alloc _ _ _ (by simp; omega)).trans ((Below.heap_alloc _ _ _ (by simp)).trans (heap_alloc_new _ _))
      own := e4
      mbox := e3
      nodup := by simp
      marks := by simp }
  have HF0 := hid hF0
  clear hF0 hx hr h63 hB0
  refine callsIn_of_wp_marks Tryd.func52 rfl trivial ?_ rfl
  simp only [Tryd.ntmps52, List.size_toArray, List.length_cons, List.length_nil, Nat.reduceAdd, Nat.reduceSub, Array.replicate_succ, Array.replicate_zero, List.push_toArray, List.append_toArray, List.nil_append, List.cons_append]
  gi_wp2
  clear hmm
  obtain ⟨mb, hmb⟩ : ∃ mb, mb = w.heap.size + 1 := ⟨_, rfl⟩
  rw [← hmb] at HF0 ⊢
  clear hmb
  refine wpIn_loop (fun a' W => ∃ (k : Nat) (c7 c8 c13 c14 c15 c16 c17 c18 c19 c20 c21 : Value) (Ds : List Nat),
      a' = { tmps := #[.int .i64 V, .slice a xs.length cap, undef, undef, .pointer (some ⟨w.heap.size, 0, none⟩), .pointer (some ⟨mb + 1, 0, none⟩), undef, c7, c8,
          .map (some mb), .slice a xs.length cap, .int .i64 xs.length,
          .int .i64 k, c13, c14, c15, c16, c17, c18, c19, c20, c21, undef, undef, undef, undef, undef], defers := marks Ds } ∧
      k ≤ xs.length ∧ FaW w W 0 (.slice none 0 0) mb (partsL (xs.take k)) Ds)
    (fun a' _ => xs.length - (RowKit.intOf (a'.tmps.getD 12 undef)).toNat) ?start ?round
  case start => exact ⟨0, _, _, _, _, _, _, _, _, _, _, _, [], rfl, Nat.zero_le _, by simpa [partsL] using HF0.out⟩
  case round =>
    rintro a' W ⟨k, c7, c8, c13, c14, c15, c16, c17, c18, c19, c20, c21, Ds, rfl, hk, hW⟩
    have hsz := hW.size
    have HW := hid hW
    have hlo := hW.lo
    clear hW
    by_cases hlt : k < xs.length
    · obtain ⟨b, off, hb, rfl, hc⟩ : ∃ b off, b < w.heap.size ∧ a = some ⟨b, off, none⟩ ∧ ∀ i, i < xs.length → w.cell? ⟨b, off + i, none⟩ = some (.int .i64 (xs[i]?.getD 0)) := by
        rcases Hx0.out with h | h
        · rw [h] at hlt; simp at hlt
        · exact h
      have Hc := hid hc
      clear hc
      obtain ⟨x, hx⟩ : ∃ x, x = xs[k]?.getD 0 := ⟨_, rfl⟩
      have hck : W.cell? ⟨b, off + k, none⟩ = some (.int .i64 x) := by rw [hx]; exact (HW.out.below.cell (p := ⟨b, off + k, none⟩) hb).trans (Hc.out k hlt)
      have hxr := Hf.out _ (getD_mem hlt)
      rw [← hx] at hxr
      have Hx1 := hid hx
      have hi0 : (0 : Int) ≤ (k : Int) := by omega
      have hi1 : (k : Int) < (xs.length : Int) := by omega
      obtain ⟨f, rfl⟩ : ∃ f : Nat, x = f := ⟨x.toNat, by omega⟩
      have hf : f < 64 := by omega
      clear hx
      gi_wp2_with (first
        | (refine ⟨trivial, ?_⟩; gi_at_call 61; refine (parts_in _ _ trivial rfl _ _).mono ?_; rintro e w' ⟨rfl, rfl⟩))
      have hW2 : FaW w (W.alloc (.cells #[.int .i64 (f : Int)] 2)) 0 (.slice none 0 0) mb (partsL (xs.take k)) Ds := HW.out.turn (World.grownBy_alloc W _ none) (fun r e => by cases e)
      have hsb : (W.alloc (.cells #[.int .i64 (f : Int)] 2)).heap[W.heap.size]? = some (.cells #[.int .i64 (f : Int)] 2 (0, 0)) := heap_alloc_new _ _
      have hDlt : ∀ D ∈ Ds, D < (W.alloc (.cells #[.int .i64 (f : Int)] 2)).heap.size := fun D hD => lt_of_get (hW2.marks D hD).2
      have hLl := partsL_len (xs.take k) (fun y hy => Hf.out y (List.mem_of_mem_take hy))
      have hkl : (xs.take k).length ≤ 1048576 := by simp; omega
      obtain ⟨L0, hL0⟩ : ∃ L0, L0 = partsL (xs.take k) := ⟨_, rfl⟩
      have HL0 := hid hL0
      rw [← hL0] at hW2 hLl HW
      clear hL0
      refine wpIn_rangeFunc_ownG rfl (by decide) (gf := 74) (lb := #[.pointer (some ⟨W.heap.size, 0, none⟩)]) rfl trivial (enters_of Tryd.func74 (by kernel_rfl) rfl)
        (parts_stops Fence.wide 9 trivial rfl (by decide) W.heap.size f hf _ (by simp) hsb) keepB_t (keepB_b (by simp)) (Below.refl _ _) (fun _ => rfl)
        (fun pre W' => FaW w W' 0 (.slice none 0 0) mb (L0 ++ pre.map (fun p => ((p.val : Nat) : Int))) Ds ∧ W'.heap[W.heap.size]? = some (.cells #[.int .i64 (f : Int)] 2 (0, 0)))
        (fun _ _ _ => False)
        (OwnFrom.and (faw_own (by simp; omega) hDlt) (box_own (by simp <;> omega))) (fun _ => ownFrom_pure _ _)
        ⟨by simpa using hW2, hsb⟩
        (fun x => { tmps := #[.int .i64 V, .slice (some ⟨b, off, none⟩) xs.length cap, undef, undef, .pointer (some ⟨w.heap.size, 0, none⟩), .pointer (some ⟨mb + 1, 0, none⟩), undef, .int .i64 f, .int .i64 (x.val : Int),
          .map (some mb), .slice (some ⟨b, off, none⟩) xs.length cap, .int .i64 xs.length,
          .int .i64 k, .bool true, .pointer (some ⟨b, off + k, none⟩), .int .i64 f, .int .i64 f, .func (.func 74) #[] #[.pointer (some ⟨W.heap.size, 0, none⟩)], .int .i64 (x.val : Int), c19, c20, c21, undef, undef, undef, undef, undef], defers := [] }) ?assign ?body ?done ?stop
      case assign =>
        intro l x W3 K hK
        gi_wp2
        exact hK
      case body =>
        rintro l pre x W3 ⟨hW3, hsb3⟩ hpl
        have m3 : W3.cell? ⟨mb + 1, 0, none⟩ = some (.map (some mb)) := (box_cell hW3.mbox).1
        have hxl := x.isLt
        have hwx : (Lit.int .i64 (x.val : Int)).wf = true := WalkArith.wf_i64 (by omega)
        have HW3 := hid hW3
        have Hsb3 := hid hsb3
        have hkm : (L0 ++ pre.map (fun p => ((p.val : Nat) : Int))).length < maxLen := by unfold maxLen; simp; omega
        clear hW3 hsb3
        gi_wp2_with (gi_at_mapUpdate; refine wpListIn_mapUpdate_own _ rfl _ _ _ 77 rfl 2 4 (Maps.int_keyed Tryd.underlying2) Tryd.underlying77 _ mb _ _ rfl HW3.out.own hkm _ _ _ rfl rfl (Maps.keyOf_int_mk Tryd.underlying2 hwx) _ [] (plainElem_bool Tryd.underlying4 true) ?_; intro w4 hown4 hgrow4)
        refine ⟨KeepsFrom.of_grownBy hgrow4 (fun j e => by cases e; first | omega | (simp; omega)), (hgrow4.block _ (lt_of_get Hsb3.out) (fun e => by simp at e; omega)), ?_, (hgrow4.block _ (lt_of_get Hsb3.out) (fun e => by simp at e; omega)).trans Hsb3.out⟩
        rw [List.map_append, ← List.append_assoc]
        exact HW3.out.put hown4 hgrow4
      case done =>
        rintro D ys W3 hD rfl ⟨hW3, _⟩ hK
        have hDb : mb + 2 ≤ D := by simp at hD; omega
        have hDn : D ∉ Ds := fun hm => by have := hDlt D hm; omega
        have HW4 := hid (hW3.mark hK hDb hDn)
        have htk : partsL (xs.take (k + 1)) = L0 ++ (subsF f).map (fun p => ((p.val : Nat) : Int)) := by rw [take_snoc hlt, partsL_snoc, ← Hx1.out, HL0.out, Int.toNat_natCast]; rfl
        have Htk := hid htk
        clear hW3 htk
        gi_wp2
        refine ⟨⟨k + 1, ?_⟩, ?_⟩
        · (repeat apply Exists.intro)
          refine ⟨?e, ?_⟩
          case e =>
            rw [show ((k + 1 : Nat) : Int) = (k : Int) + 1 by omega, show ({ target := .collected D, args := #[] } :: marks Ds : List Deferred) = marks (D :: Ds) from rfl]
          exact ⟨by omega, by rw [Htk.out]; exact HW4.out⟩
        · simp [RowKit.intOf]; omega
      case stop =>
        rintro D c pre W3 hD hpre hF hK
        exact hF.elim
    · obtain rfl : k = xs.length := by omega
      rw [List.take_of_length_le (Nat.le_refl _)] at HW
      have m0 := faw_box HW.out
      have hLr := parts_range Hf.out
      have hLl := partsL_len xs Hf.out
      have hkm : Maps.size (knownD (partsL xs)) ≤ (partsL xs).length := HW.out.own.size_le
      have hmax : Maps.size (knownD (partsL xs)) ≤ maxLen := by unfold maxLen; omega
      have hbytes : Maps.size (knownD (partsL xs)) * 8 ≤ 140737488355328 := by omega
      have hown1 := HW.out.own.alloc (.cells #[.map (some mb)] 77)
      have hseq : SeqGives Fence.wide 6 Tryd.prog 86 #[.pointer (some ⟨W.heap.size, 0, none⟩)] encZ (fun ss => ss.Perm (intKeys (knownD (partsL xs)))) (Maps.size (knownD (partsL xs))) (W.alloc (.cells #[.map (some mb)] 77)) :=
        AnyZI.keys_gives (ρ := keysL_ren) { keysL with } Fence.wide _ trivial rfl (by omega) W.heap.size mb (partsL xs).length (knownD (partsL xs)) _ (by simp) (by simp [go_sem]) hown1
      have cK : ∀ mb' W', CallsIn Fence.wide 9 Tryd.prog 71 #[.map mb'] W' fun e w' => e = .returned (.func (.func 86) #[] #[.pointer (some ⟨W'.heap.size, 0, none⟩)]) ∧ w' = W'.alloc (.cells #[.map mb'] 77) := fun mb' W' => AnyZI.keys_in keysL Fence.wide 9 trivial rfl mb' W'
      have cS := AnyZI.sorted_in sortedL Fence.wide 9 trivial trivial trivial trivial rfl (by omega) (sortsL _) (enters_of Tryd.func85 (by kernel_rfl) rfl) 86 #[.pointer (some ⟨W.heap.size, 0, none⟩)] trivial (enters_of Tryd.func86 (by kernel_rfl) rfl) _ _ hmax hbytes _ hseq
      change CallsIn _ _ Tryd.prog 70 _ _ _ at cS
      have HcS := hid cS
      have HcK := hid cK
      have Hsort := hid (fun (ss : List Int) (h : ss.Perm (intKeys (knownD (partsL xs)))) => sorted_known HW.out.own hLr h)
      clear hkm hmax hbytes hown1 hseq cK cS
      gi_wp2_with (first
        | (refine ⟨trivial, ?_⟩; gi_at_call 71; refine (HcK.out _ _).mono ?_; rintro e w' ⟨rfl, rfl⟩))
      refine ⟨trivial, ?_⟩
      refine HcS.out.mono ?_
      rintro e w2 ⟨v, ss, rfl, hS, hrow, hnil, hB2⟩
      have hrow2 : w2.ownsRow (W.alloc (.cells #[.map (some mb)] 77)).heap.size 2 1 v ss.length ((madeL V xs).map (Value.int .i64)) := by
        have h := hrow
        rw [Hsort.out ss hS, HR.out] at h
        exact h
      have Hrow := hid hrow2
      have HB2 := hid hB2
      obtain ⟨hln, av, cv, rfl, _⟩ := ownsRow_slI hrow2
      have k2 := (hB2.block _ (by simp; exact Nat.lt_succ_of_lt (lt_of_get HW.out.kbox))).trans ((Below.heap_alloc W _ _ (lt_of_get HW.out.kbox)).trans HW.out.kbox)
      obtain ⟨r0, r1, g0, g1⟩ := two_of k2
      clear hrow hnil hB2 hrow2 k2
      gi_wp2
      have k2 : w2.heap[w.heap.size]? = some (.cells #[.int .i64 0, .slice none 0 0] 24 (0, 0)) := (HB2.out.block _ (by simp; exact Nat.lt_succ_of_lt (lt_of_get HW.out.kbox))).trans ((Below.heap_alloc W _ _ (lt_of_get HW.out.kbox)).trans HW.out.kbox)
      have k3 := two_set k2 (.int .i64 V) (.slice av (madeL V xs).length cv)
      have hWsz := HW.out.below.size
      have hB2' : Below W.heap.size W w2 := ((Below.refl _ W).alloc (Nat.le_refl _) _).trans (HB2.out.mono (by simp))
      have hmk : ∀ D ∈ Ds, ((w2.setCell ⟨w.heap.size, 0, none⟩ (.int .i64 V)).setCell ⟨w.heap.size, 1, none⟩ (.slice av (madeL V xs).length cv)).heap[D]? = some (.deferred (some [])) := fun D hD => by
        have h1 := HW.out.marks D hD
        rw [Below.heap_setCell _ _ _ _ (by show D ≠ w.heap.size; omega), Below.heap_setCell _ _ _ _ (by show D ≠ w.heap.size; omega)]
        exact (hB2'.block _ (lt_of_get h1.2)).trans h1.2
      refine leaves_marks (by simp) Ds _ HW.out.nodup hmk (fun w' hw' => ?_)
      have hDw : w.heap.size ∉ Ds := fun hm => by have := (HW.out.marks _ hm).1; omega
      have k4 := (hw'.block w.heap.size hDw).trans k3
      obtain ⟨q0, q1, _, _⟩ := two_of k4
      have hsh : Below w.heap.size ((w2.setCell ⟨w.heap.size, 0, none⟩ (.int .i64 V)).setCell ⟨w.heap.size, 1, none⟩ (.slice av (madeL V xs).length cv)) w' := hw'.below (fun D hD => by have := (HW.out.marks D hD).1; omega)
      have hres : Res w ((w2.setCell ⟨w.heap.size, 0, none⟩ (.int .i64 V)).setCell ⟨w.heap.size, 1, none⟩ (.slice av (madeL V xs).length cv)) (.slice av (madeL V xs).length cv) (madeL V xs) := by
        have hln' : ss.length = (madeL V xs).length := by have := Hrow.out.1; simpa using this.symm
        have h0 : Res W w2 (.slice av (madeL V xs).length cv) (madeL V xs) := ⟨by have h := Hrow.out; rw [hln'] at h; exact ownsRow_base h (by simp), hB2'⟩
        exact (h0.later HW.out.below).set2 k2 (by decide) (Nat.le_refl _) _ _
      have hown : w'.ownsRow w.heap.size 2 1 (.slice av (madeL V xs).length cv) (madeL V xs).length ((madeL V xs).map (Value.int .i64)) := by
        refine ⟨hres.1.1, ?_⟩
        rcases hres.1.2 with hn | ⟨g, cp, cur, he, hg, hh, rest⟩
        · exact .inl hn
        · refine .inr ⟨g, cp, cur, he, hg, (hw'.block g (fun hm => ?_)).trans hh, rest⟩
          rw [hmk g hm] at hh
          simp at hh
      refine ⟨.agg #[.int .i64 V, .slice av (madeL V xs).length cv], ?_, _, rfl, hown, hres.2.trans hsh⟩
      simp [results, Tryd.results52, asAddr, load_cx q0 q1]

/-- madeBy. -/
theorem made_any (V : Int) (a : Option Addr) (cap : Nat) (xs : List Int) (w : World) (hx : SlI w w.heap.size a xs) (hl : xs.length ≤ 1048576) (h2 : V ≤ 6) (hr : ∀ x ∈ xs, 0 ≤ x ∧ x ≤ allV V) :
    Calls Tryd.prog 52 #[.int .i64 V, .slice a xs.length cap] w fun e w' => ∃ v, e = .returned (.agg #[.int .i64 V, v]) ∧ Res w w' v (madeL V xs) :=
  callsIn_wide.1 (made_in V a cap xs w hx hl h2 hr)

end Go.Proofs.YtbgkalkipalndaaDoor

/-! Joins: copies of lists. -/
namespace Go.Proofs.YtbgkalkipalndaaDoor
open Go.RowKit

/-- 'append([]int64{}, list...)' of a list that lies in memory. -/
theorem append_all {w : World} {ops : Array Oper} {rest : List Oper} {o : Oper} {a : Act} {Q : Exit → Act → World → Prop} (hgd : o.guard = none) {s y : Operand}
    (ho : o.op = .call { callee := .builtin .append, args := #[s, y], argTypes := #[22, 22] })
    {b off cap : Nat} {xs : List Int} (hl : xs.length ≤ 1048576) (hc : ∀ i, i < xs.length → w.cell? ⟨b, off + i, none⟩ = some (.int .i64 (xs[i]?.getD 0)))
    (hs : a.eval s = .slice (some ⟨w.heap.size, 0, none⟩) 0 0) (hy : a.eval y = .slice (some ⟨b, off, none⟩) xs.length cap)
    (hK : ∀ v' w', w'.ownsRow w.heap.size 2 1 v' xs.length (xs.map (Value.int .i64)) → Below w.heap.size w w' → (v' = .slice none 0 0 → False) → wpList Tryd.prog ops Q rest (a.put o.dst v') w') :
    wpList Tryd.prog ops Q (o :: rest) a (w.alloc (.cells #[] 2)) := by
  obtain ⟨i0, hi, hz0, hz1, hz2⟩ := info_parts info_i64
  refine wpList_append_own _ hgd s y 22 ho w.heap.size 2 i0 (.int .i64 0) 1 8 Tryd.underlying22 hi hz0 hz1 hz2 rfl (by decide) (.slice (some ⟨w.heap.size, 0, none⟩) 0 0) 0 [] hs (World.ownsRow_made w #[] 0 (Nat.le_refl _) (Nat.zero_le _) rfl) ⟨b, off, none⟩ xs.length cap (xs.map (Value.int .i64)) hy (by simp) ?_ (fun u hu => by obtain ⟨x, _, rfl⟩ := List.mem_map.1 hu; rfl) (by unfold maxLen; omega) (by omega) (by simp) ?_
  · intro j u hj
    have hjn : j < xs.length := by
      have := (List.getElem?_eq_some_iff.1 hj).1
      simpa using this
    rw [Addr.add_lit]
    refine (World.cell?_alloc_some w _ _ (show (w.cell? _).isSome = true by rw [hc j hjn]; rfl)).trans ?_
    rw [hc j hjn, ← hj]
    simp [List.getElem?_eq_getElem hjn]
  · intro v' w1 hown hgrow hnil
    refine hK v' w1 (by simpa using hown) (((Below.refl _ w).alloc (Nat.le_refl _) _).grown hgrow (by simp) (by intro k hk; simp [Value.ownBlock] at hk; omega)) (fun e => ?_)
    have := (hnil.1 e).1
    simp at this


/-- step_append_new in a plain region. -/
theorem plain_append_new {W : World} {H : Nat} {ops : Array Oper} {rest : List Oper} {o : Oper} {a : Act} {Q : Exit → Act → World → Prop} (hgd : o.guard = none) {s y : Operand}
    (ho : o.op = .call { callee := .builtin .append, args := #[s, y], argTypes := #[22, 22] })
    {base : Nat} {v : Value} {xs : List Int} {x : Int} (hown : W.ownsRow base 2 1 v xs.length (xs.map (Value.int .i64))) (hH : W.heap.size = H) (hbase : base ≤ H) (hl : xs.length ≤ 1099511627776)
    (hs : a.eval s = v) (hy : a.eval y = .slice (some ⟨H, 0, none⟩) 1 1)
    (hK : ∀ g cap w', w'.ownsRow base 2 1 (.slice (some ⟨g, 0, none⟩) (xs ++ [x]).length cap) (xs ++ [x]).length ((xs ++ [x]).map (Value.int .i64)) → (W.alloc (.cells #[.int .i64 x] 2)).grownBy w' v.ownBlock →
      wpList Tryd.prog ops Q rest (a.put o.dst (.slice (some ⟨g, 0, none⟩) (xs ++ [x]).length cap)) w') :
    wpList Tryd.prog ops Q (o :: rest) a (W.alloc (.cells #[.int .i64 x] 2)) := by
  subst hH
  obtain ⟨i0, hi, hz0, hz1, hz2⟩ := info_parts info_i64
  refine wpList_append_lies (W.alloc (.cells #[.int .i64 x] 2)) hgd s y 22 ho base 2 i0 (.int .i64 0) 1 8 Tryd.underlying22 hi hz0 hz1 hz2 rfl (by decide) v _ _ hs (hown.alloc _) ⟨W.heap.size, 0, none⟩ 1 1 [.int .i64 x] hy rfl (cell_one_new _ _ _) (by simp [Value.oneCell']) (by decide) (by unfold maxLen; omega) (by omega) (by simp; omega) _ rfl ?_
  intro g cap w1 hown1 hg _ _
  have e : (xs ++ [x]).length = xs.length + 1 := by simp
  have h := hK g cap w1 (by rw [e]; simpa using hown1) hg
  rw [e] at h
  exact h

end Go.Proofs.YtbgkalkipalndaaDoor

/-! Duals: the model's. -/
namespace Go.Proofs.YtbgkalkipalndaaDoor
open Go.RowKit

/-- Is a set in the dual? -/
def dualP (V : Int) (fs : List Int) : Int → Bool := fun x => !decide ((allV V - x) ∈ fs)
/-- The dual's faces. -/
def dualL (V : Int) (fs : List Int) : List Int := pickTo (dualP V fs) ((allV V).toNat - 1)

/-- What DualOf hands back. -/
noncomputable def dualOfR (V : Int) (xs : List Int) : Int × List Int × Int := if isCB V xs then (V, dualL V xs, 0) else (0, [], 1)

theorem dualOfR_len (V : Int) (xs : List Int) (_ : xs.length ≤ 1048576) : (dualOfR V xs).2.1.length ≤ 1048576 := by
  unfold dualOfR
  split
  · next h =>
    have h6 := (isCB_iff.1 h).hi
    have := pickTo_len (dualP V xs) ((allV V).toNat - 1)
    have := allV_le h6
    show (dualL V xs).length ≤ 1048576
    unfold dualL
    omega
  · simp

theorem allV_nat {V : Int} (h1 : 1 ≤ V) (h2 : V ≤ 6) : ∃ A : Nat, (A : Int) = allV V ∧ 1 ≤ A ∧ A ≤ 63 := by
  rcases (show V = 1 ∨ V = 2 ∨ V = 3 ∨ V = 4 ∨ V = 5 ∨ V = 6 by omega) with rfl | rfl | rfl | rfl | rfl | rfl
  · exact ⟨1, rfl, by decide, by decide⟩
  · exact ⟨3, rfl, by decide, by decide⟩
  · exact ⟨7, rfl, by decide, by decide⟩
  · exact ⟨15, rfl, by decide, by decide⟩
  · exact ⟨31, rfl, by decide, by decide⟩
  · exact ⟨63, rfl, by decide, by decide⟩

theorem outW_start2 {w W : World} {V : Int} {sl : Value} (hB : Below w.heap.size w W) (hk : W.heap[w.heap.size]? = some (.cells #[.int .i64 V, sl] 24 (0, 0)))
    (hr : W.heap[w.heap.size + 1]? = some (.cells #[.int .i64 0, .slice none 0 0] 24 (0, 0))) :
    OutW w ((W.alloc (.cells #[.int .i64 V, .slice (some ⟨W.heap.size + 1, 0, none⟩) 0 0] 24)).alloc (.cells #[] 2)) V sl W.heap.size [] (some ⟨W.heap.size + 1, 0, none⟩) 0 where
  below := (hB.alloc hB.size _).alloc (by have := hB.size; simp; omega) _
  kbox := (Below.heap_alloc _ _ _ (by have := lt_get hk; simp; omega)).trans ((Below.heap_alloc _ _ _ (lt_get hk)).trans hk)
  res := (Below.heap_alloc _ _ _ (by have := lt_get hr; simp; omega)).trans ((Below.heap_alloc _ _ _ (lt_get hr)).trans hr)
  out := (Below.heap_alloc _ _ _ (by simp)).trans (heap_alloc_new W _)
  own := by
    have h := World.ownsRow_made (base := w.heap.size) (e := 2) (size := 1) (W.alloc (.cells #[.int .i64 V, .slice (some ⟨W.heap.size + 1, 0, none⟩) 0 0] 24)) #[] 0 (by have := hB.size; simp; omega) (by simp [maxLen]) rfl
    rw [World.size_alloc] at h
    exact h
  bo := by have := lt_get hr; omega

/-- .. where nothing is put in it yet. -/
theorem outW_start0 {w W : World} {V : Int} {sl : Value} (hB : Below w.heap.size w W) (hk : W.heap[w.heap.size]? = some (.cells #[.int .i64 V, sl] 24 (0, 0)))
    (hr : W.heap[w.heap.size + 1]? = some (.cells #[.int .i64 0, .slice none 0 0] 24 (0, 0))) :
    OutW w (W.alloc (.cells #[.int .i64 V, .slice none 0 0] 24)) V sl W.heap.size [] none 0 where
  below := hB.alloc hB.size _
  kbox := (Below.heap_alloc _ _ _ (lt_get hk)).trans hk
  res := (Below.heap_alloc _ _ _ (lt_get hr)).trans hr
  out := heap_alloc_new W _
  own := World.ownsRow_nil _ _ _ _
  bo := by have := lt_get hr; omega



end Go.Proofs.YtbgkalkipalndaaDoor

/-! The complex made by some sets: the model's; ComplexOf. -/
namespace Go.Proofs.YtbgkalkipalndaaDoor
open Go.RowKit Go.Shelf

/-- What the model's loops keep of the world while they build a complex in block Bo, nothing being boxed. -/
structure OutN (w W : World) (V : Int) (Bo : Nat) (xs : List Int) (a : Option Addr) (c : Nat) : Prop where
  below : Below w.heap.size w W
  res : W.heap[w.heap.size]? = some (.cells #[.int .i64 0, .slice none 0 0] 24 (0, 0))
  out : W.heap[Bo]? = some (.cells #[.int .i64 V, .slice a xs.length c] 24 (0, 0))
  own : W.ownsRow w.heap.size 2 1 (.slice a xs.length c) xs.length (xs.map (Value.int .i64))
  bo : w.heap.size < Bo

theorem OutN.drewN {w W : World} {V : Int} {Bo : Nat} {xs : List Int} {a : Option Addr} {c : Nat} (h : OutN w W V Bo xs a c) (n : Nat) : OutN w (W.drewN n) V Bo xs a c :=
  ⟨⟨h.below.os, h.below.tape, h.below.output, h.below.size, h.below.block⟩, h.res, h.out, h.own, h.bo⟩

theorem OutN.step {w W w2 : World} {V : Int} {Bo : Nat} {xs : List Int} {a : Option Addr} {c : Nat} (h : OutN w W V Bo xs a c) {x : Int} {g cap : Nat} {o : Obj}
    (hown : w2.ownsRow w.heap.size 2 1 (.slice (some ⟨g, 0, none⟩) (xs ++ [x]).length cap) (xs ++ [x]).length ((xs ++ [x]).map (Value.int .i64))) (hg : (W.alloc o).grownBy w2 (Value.ownBlock (.slice a xs.length c))) :
    OutN w (w2.setCell ⟨Bo, 1, none⟩ (.slice (some ⟨g, 0, none⟩) (xs ++ [x]).length cap)) V Bo (xs ++ [x]) (some ⟨g, 0, none⟩) cap := by
  have hgr : W.grownBy w2 (Value.ownBlock (.slice a xs.length c)) := (World.grownBy_alloc W o _).trans hg
  have hbo := h.bo
  have r2 := (hgr.block _ (lt_get h.res) (row_ne h.own h.res (by decide))).trans h.res
  have o2 := (hgr.block _ (lt_get h.out) (row_ne h.own h.out (by decide))).trans h.out
  refine ⟨?_, ?_, ?_, ?_, h.bo⟩
  · exact (h.below.grown hgr h.below.size (fun k hk => (h.own.lt k hk).1)).setCell (p := ⟨Bo, 1, none⟩) (by simp only; omega) _
  · exact (Below.heap_setCell _ _ _ _ (by simp only; omega)).trans r2
  · simp only [World.setCell, Array.getElem?_modify, o2]
    simp
  · exact ownsRow_set hown (by
      have := row_ne hown o2 (by decide)
      exact fun e => this e.symm) _

theorem OutN.done {w W : World} {V : Int} {Bo : Nat} {xs : List Int} {a : Option Addr} {c : Nat} (h : OutN w W V Bo xs a c) (u v : Value) :
    Res w ((W.setCell ⟨w.heap.size, 0, none⟩ u).setCell ⟨w.heap.size, 1, none⟩ v) (.slice a xs.length c) xs := by
  have hn := row_ne h.own h.res (by decide)
  exact ⟨ownsRow_set (ownsRow_set h.own (fun e => hn e.symm) _) (fun e => hn e.symm) _, (h.below.setCell (p := ⟨w.heap.size, 0, none⟩) (by simp) _).setCell (p := ⟨w.heap.size, 1, none⟩) (by simp) _⟩

theorem OutN.mid {w W w2 : World} {V : Int} {Bo : Nat} {xs : List Int} {a : Option Addr} {c : Nat} (h : OutN w W V Bo xs a c) {o : Obj} (hg : (W.alloc o).grownBy w2 (Value.ownBlock (.slice a xs.length c))) :
    w2.cell? ⟨Bo, 1, none⟩ = some (.slice a xs.length c) ∧ w2.frozen? ⟨Bo, 1, none⟩ = false := by
  have hgr : W.grownBy w2 (Value.ownBlock (.slice a xs.length c)) := (World.grownBy_alloc _ o _).trans hg
  have o2 := (hgr.block _ (lt_get h.out) (row_ne h.own h.out (by decide))).trans h.out
  constructor <;> simp [World.cell?, World.frozen?, o2]

theorem OutN.start {w : World} {V : Int} : OutN w (((w.alloc (.cells #[.int .i64 0, .slice none 0 0] 24)).alloc (.cells #[] 2)).alloc (.cells #[.int .i64 V, .slice (some ⟨w.heap.size + 1, 0, none⟩) 0 0] 24)) V (w.heap.size + 1 + 1) [] (some ⟨w.heap.size + 1, 0, none⟩) 0 where
  below := (((Below.refl _ w).alloc (Nat.le_refl _) _).alloc (by simp) _).alloc (by simp <;> omega) _
  res := (Below.heap_alloc _ _ _ (by simp; omega)).trans ((Below.heap_alloc _ _ _ (by simp)).trans (heap_alloc_new _ _))
  out := new3 _ _ _ _
  own := by
    have h := World.ownsRow_made (base := w.heap.size) (e := 2) (size := 1) (w.alloc (.cells #[.int .i64 0, .slice none 0 0] 24)) #[] 0 (by simp) (by simp [maxLen]) rfl
    rw [World.size_alloc] at h
    exact h.alloc _
  bo := by omega

theorem madeP_take {xs : List Int} {f j : Nat} (hj : j < xs.length) (h : (xs.take j).any (fun s => decide ((f : Int).toNat &&& s.toNat = (f : Int).toNat)) = false) (c : Bool) (hc : decide (f &&& (xs[j]?.getD 0).toNat = f) = c) :
    (xs.take (j + 1)).any (fun s => decide ((f : Int).toNat &&& s.toNat = (f : Int).toNat)) = c := by
  rw [take_snoc hj, List.any_append, h]
  simpa using hc

theorem madeP_yes {xs : List Int} {f j : Nat} (hj : j < xs.length) (hc : f &&& (xs[j]?.getD 0).toNat = f) : madeP xs (f : Int) = true := by
  unfold madeP
  rw [List.any_eq_true]
  exact ⟨_, getD_mem hj, by simpa using hc⟩

set_option maxRecDepth 100000 in
set_option maxHeartbeats 4000000 in
theorem madeS_any (V : Int) (a0 : Option Addr) (cap : Nat) (xs : List Int) (w : World) (hx : SlI w w.heap.size a0 xs) (hl : xs.length ≤ 1048576) (h1 : 1 ≤ V) (h2 : V ≤ 6) (hr : ∀ x ∈ xs, 1 ≤ x ∧ x ≤ 63) :
    Calls Tryd.prog 48 #[.int .i64 V, .slice a0 xs.length cap] w fun e w' => ∃ v, e = .returned (.agg #[.int .i64 V, v]) ∧ Res w w' v (madeL V xs) := by
  obtain ⟨A, hA, hA1, hA2⟩ := allV_nat h1 h2
  have Hx := hid hx
  have HA := hid hA
  have Hf := hid hr
  have Hall : Hid (∀ W, Calls Tryd.prog 54 #[.int .i64 V] W fun e w' => e = .returned (.int .i64 (A : Int)) ∧ W = w') := hid (fun W => by rw [hA]; exact all_any V W (by omega) h2)
  clear hx hA hr
  go_enter Tryd.func48, Tryd.ntmps48
  go_wp2_with fail
  go_loopw [6] (fun i wr => ∃ (k : Nat) (a : Option Addr) (c : Nat), k ≤ A ∧ i = .int .i64 ((k : Int) + 1) ∧ OutN w wr V (w.heap.size + 1 + 1) (pickTo (madeP xs) k) a c) (fun i _ => A + 1 - (RowKit.intOf i).toNat)
  case atStart => exact ⟨0, some ⟨w.heap.size + 1, 0, none⟩, 0, Nat.zero_le _, rfl, OutN.start⟩
  case round =>
    obtain ⟨k, a, c, hk, rfl, hW⟩ := hrel
    have HW := hid hW
    obtain ⟨o0, o1, f0, f1⟩ := two_of hW.out
    have hbs := hW.below.size
    have hlen := pickTo_len (madeP xs) k
    clear hW
    by_cases hlt : k < A
    · have hd : decide ((k : Int) + 1 ≤ (A : Int)) = true := decide_eq_true (by omega)
      have Hs : Hid (∀ b : Bool, madeP xs ((k : Int) + 1) = b → pickTo (madeP xs) (k + 1) = pickTo (madeP xs) k ++ (if b then [(k : Int) + 1] else [])) := hid (fun b hb => by rw [← hb]; rfl)
      go_wp2_with fail
      refine (Hall.out _).mono ?_
      rintro e w1 ⟨rfl, rfl⟩
      go_wp2_with fail
      go_loop [7] (fun i => ∃ j : Nat, j ≤ xs.length ∧ i = .int .i64 j ∧ Hid ((xs.take j).any (fun s => decide (((k + 1 : Nat) : Int).toNat &&& s.toNat = ((k + 1 : Nat) : Int).toNat)) = false)) (fun i => xs.length - (RowKit.intOf i).toNat)
      case atStart => exact ⟨0, Nat.zero_le _, rfl, hid (by simp)⟩
      case round =>
        obtain ⟨j, hj, rfl, Hj⟩ := hrel
        by_cases hjl : j < xs.length
        · obtain ⟨b, off, hb, rfl, hc⟩ : ∃ b off, b < w.heap.size ∧ a0 = some ⟨b, off, none⟩ ∧ ∀ i, i < xs.length → w.cell? ⟨b, off + i, none⟩ = some (.int .i64 (xs[i]?.getD 0)) := by
            rcases Hx.out with rfl | h
            · simp at hjl
            · exact h
          have Hc := hid hc
          clear hc
          obtain ⟨x, hx⟩ : ∃ x : Nat, (x : Int) = xs[j]?.getD 0 := ⟨(xs[j]?.getD 0).toNat, by have := Hf.out _ (getD_mem hjl); omega⟩
          have hx64 : x < 64 := by have := Hf.out _ (getD_mem hjl); omega
          have hck : wr.cell? ⟨b, off + j, none⟩ = some (.int .i64 (x : Int)) := by rw [hx]; exact (HW.out.below.cell (p := ⟨b, off + j, none⟩) hb).trans (Hc.out j hjl)
          have hi0 : (0 : Int) ≤ (j : Int) := by omega
          have hi1 : (j : Int) < (xs.length : Int) := by omega
          have hxn : (xs[j]?.getD 0).toNat = x := by omega
          have hbits : bits BinOp.and IntKind.i64 ((k : Int) + 1) (x : Int) = (((k + 1) &&& x : Nat) : Int) := (bits_nat .i64 6 (by decide) (fun n h0 h1 => by rw [IntKind.wrap_i64]; omega) (k + 1) x (by omega) (by omega)).1
          have Hxn := hid hxn
          clear hx hxn
          by_cases hp : (k + 1) &&& x = k + 1
          · have hd2 : ((((k + 1) &&& x : Nat) : Int) == (k : Int) + 1) = true := by rw [hp]; simp
            have HP := hid ((Hs.out true (madeP_yes (f := k + 1) hjl (by rw [Hxn.out]; exact hp))).trans (by rw [if_pos rfl]))
            clear hp Hs Hj
            go_wp2_with (at_builtin; refine plain_append_new rfl rfl HW.out.own (by rfl) hbs (by omega) (by rfl) (by rfl) ?_; intro g cp w2 hown2 hgrow2; obtain ⟨o12, o22⟩ := HW.out.mid hgrow2)
            go_roundw
            case rel => exact ⟨k + 1, some ⟨g, 0, none⟩, cp, by omega, by go_num, by rw [HP.out]; simpa using HW.out.step hown2 hgrow2⟩
            case measure => simp [RowKit.intOf]; omega
          · have hd2 : ((((k + 1) &&& x : Nat) : Int) == (k : Int) + 1) = false := by simp; omega
            have He := hid (madeP_take (f := k + 1) hjl Hj.out false (by rw [Hxn.out]; exact decide_eq_false hp))
            clear hp Hs
            go_wp2_with fail
            go_round
            case rel => exact ⟨j + 1, by omega, by go_num, He.out⟩
            case measure => simp [RowKit.intOf]; omega
        · have hjn : j = xs.length := by omega
          have HP := hid (Hs.out false (by have h := Hj.out; rw [hjn, List.take_length] at h; exact h))
          go_wp2_with fail
          go_roundw
          case rel => exact ⟨k + 1, a, c, by omega, by go_num, by rw [HP.out, if_neg (by decide), List.append_nil]; exact HW.out⟩
          case measure => simp [RowKit.intOf]; omega
    · have hd : decide ((k : Int) + 1 ≤ (A : Int)) = false := decide_eq_false (by omega)
      have HE : Hid (pickTo (madeP xs) k = madeL V xs) := hid (by unfold madeL; rw [← HA.out, Int.toNat_natCast, show A = k by omega])
      obtain ⟨r0, r1, g0, g1⟩ := two_of HW.out.res
      go_wp2_with fail
      refine (Hall.out _).mono ?_
      rintro e w1 ⟨rfl, rfl⟩
      go_wp2_with fail
      (try simp only [Exit.inBlock, Exit.then])
      have R2 := two_of (two_set HW.out.res (.int .i64 V) (.slice a (pickTo (madeP xs) k).length c))
      refine done_cx1 (p := 4) (by kernel_rfl) rfl rfl R2.1 R2.2.1 ⟨_, rfl, ?_⟩
      rw [← HE.out]
      exact HW.out.done _ _

/-- What ComplexOf hands back. -/
def setsOk (V : Int) (xs : List Int) : Bool := xs.all fun x => decide (1 ≤ x) && decide (x ≤ allV V)
def complexOfR (V : Int) (xs : List Int) : Int × List Int × Int := if 1 ≤ V ∧ V ≤ 6 then (if xs.length ≤ 64 then (if setsOk V xs = true then (V, madeL V xs, 0) else (0, [], 2)) else (0, [], 2)) else (0, [], 2)

theorem complexOfR_len (V : Int) (xs : List Int) (_ : xs.length ≤ 1048576) : (complexOfR V xs).2.1.length ≤ 1048576 := by
  unfold complexOfR
  split
  · next h =>
    split
    · split
      · have h1 := allV_le h.2
        have h2 := pickTo_len (madeP xs) (allV V).toNat
        show (madeL V xs).length ≤ 1048576
        unfold madeL
        omega
      · simp
    · simp
  · simp

theorem setsOk_iff {V : Int} {xs : List Int} : setsOk V xs = true ↔ ∀ x ∈ xs, 1 ≤ x ∧ x ≤ allV V := by
  unfold setsOk
  rw [List.all_eq_true]
  simp

theorem bad_end {fn : Func} {a : Act} {w W : World} {p u : Tmp} {V : Int} {xs : List Int} (hR : complexOfR V xs = (0, [], 2)) (hr : fn.results = #[.cell p 24, .tmp u]) (hd : a.defers = []) (hp : a.tmps.getD p undef = .pointer (some ⟨w.heap.size, 0, none⟩)) (hu : a.tmps.getD u undef = .int .i64 2)
    (hb : W.heap[w.heap.size]? = some (.cells #[.int .i64 0, .slice none 0 0] 24 (0, 0))) (hB : Below w.heap.size w W) :
    bodyPost Tryd.prog fn (fun e w' => ∃ v, e = .returned (.tuple #[.agg #[.int .i64 (complexOfR V xs).1, v], .int .i64 (complexOfR V xs).2.2]) ∧ Res w w' v (complexOfR V xs).2.1) .ret a ((W.setCell ⟨w.heap.size, 0, none⟩ (.int .i64 0)).setCell ⟨w.heap.size, 1, none⟩ (.slice none 0 0)) := by
  rw [hR]
  have R3 := two_of (two_set hb (.int .i64 0) (.slice none 0 0))
  exact done_cx hr hd hp R3.1 R3.2.1 hu ⟨_, rfl, (res_nil _ _ hB).set2 hb (by decide) (Nat.le_refl _) _ _⟩


end Go.Proofs.YtbgkalkipalndaaDoor

/-! strings.Split by one byte; texts of complexes read by the program. -/
namespace Go.Proofs.YtbgkalkipalndaaDoor
open Go.RowKit Go.Shelf

theorem splB (c : UInt8) : ∀ (m : Nat) (l : List UInt8), l.length ≤ m → Lib.splitB ⟨#[c]⟩ 0 (Lib.countB ⟨l.toArray⟩ ⟨#[c]⟩) ⟨l.toArray⟩ = (spl c l).map fun x => (⟨x.toArray⟩ : ByteArray)
  | m, l, hm => by
    have hi : Lib.indexB ⟨l.toArray⟩ ⟨#[c]⟩ = Lib.indexByte l c := Lib.index_one l c
    by_cases h : Lib.indexByte l c = -1
    · have hfree : ∀ b ∈ l, b ≠ c := by
        intro b hb e
        obtain ⟨k, hk⟩ := List.getElem?_of_mem hb
        exact Lib.indexByte_none h k (by rw [hk, e])
      rw [Lib.splitB_miss _ _ _ _ (hi.trans h), spl_free c l hfree]
      rfl
    · have hge := Lib.indexByte_ge l c
      obtain ⟨i, hie⟩ : ∃ i : Nat, Lib.indexByte l c = i := ⟨(Lib.indexByte l c).toNat, by omega⟩
      obtain ⟨h1, h2⟩ := Lib.indexByte_some hie
      have hlt : i < l.length := (List.getElem?_eq_some_iff.1 h1).1
      have hl : l = l.take i ++ c :: l.drop (i + 1) := by
        have hg : l[i] = c := (List.getElem?_eq_some_iff.1 h1).2
        have hd := List.drop_eq_getElem_cons hlt
        rw [hg] at hd
        rw [← hd, List.take_append_drop]
      have hfree : ∀ b ∈ l.take i, b ≠ c := by
        intro b hb e
        obtain ⟨k, hk⟩ := List.getElem?_of_mem hb
        have hki : k < i := by
          have := (List.getElem?_eq_some_iff.1 hk).1
          simp at this
          omega
        rw [List.getElem?_take, if_pos hki] at hk
        exact h2 k hki (by rw [hk, e])
      have hc := Lib.countB_hit ⟨l.toArray⟩ ⟨#[c]⟩ i (Nat.le_refl 1) (hi.trans hie)
      have hx : (⟨l.toArray⟩ : ByteArray).extract (i + (⟨#[c]⟩ : ByteArray).size) (⟨l.toArray⟩ : ByteArray).size = ⟨(l.drop (i + 1)).toArray⟩ := by
        rw [sp_cut]
        have e1 : (⟨#[c]⟩ : ByteArray).size = 1 := rfl
        have e2 : (⟨l.toArray⟩ : ByteArray).size = l.length := rfl
        rw [e1, e2]
        rw [List.take_of_length_le (by simp)]
      rw [hx] at hc
      rw [hc, Nat.add_comm 1, Lib.splitB_hit _ _ _ _ i (hi.trans hie), hx, splB c (m - 1) (l.drop (i + 1)) (by simp; omega)]
      have hs : spl c l = l.take i :: spl c (l.drop (i + 1)) := by
        conv => lhs; rw [hl]
        exact spl_at c _ _ hfree
      rw [hs, List.map_cons]
      congr 1
      rw [sp_cut]
      simp
  termination_by _ l => l.length
  decreasing_by simp; omega

/-- strings.Split at a comma. -/
theorem splitI_any (l : List UInt8) (m : Int) (w : World) (hl : l.length ≤ 4000000000) (hm : w.cell? ⟨1, 0, none⟩ = some (.int .i64 m)) :
    Calls Tryd.prog 50 #[.string ⟨l.toArray⟩, .string ⟨#[44]⟩] w fun e w' => e = .returned (.slice (some ⟨w.heap.size, 0, none⟩) (spl 44 l).length (spl 44 l).length) ∧ w' = w.alloc (.cells ((spl 44 l).map strV).toArray 9) := by
  have h := Any.strings_Split splitT (by kernel_rfl) ⟨l.toArray⟩ ⟨#[44]⟩ m w (by show l.length < _; omega) hm (by decide)
  have hlen := congrArg List.length (splB 44 l.length l (Nat.le_refl _))
  have hb := Lib.splitB_all ⟨#[44]⟩ (by decide) 0 _ ⟨l.toArray⟩ rfl
  rw [hb, List.length_map] at hlen
  rw [splB 44 l.length l (Nat.le_refl _), hlen, List.map_map] at h
  exact h

/-- A text of a complex, read: digits of a set in any order. -/
def rcR : List UInt8 → Option (Nat × List Int)
  | d :: c :: r => if (49 ≤ d.toNat ∧ d.toNat ≤ 54) ∧ c = 58 then (if r = [] then some (d.toNat - 48, []) else match setsOf (rdSet (d.toNat - 48)) (spl 44 r) with | some S => some (d.toNat - 48, S) | none => none) else none
  | _ => none

/-- What is read so, as a complex. -/
def rcC (l : List UInt8) : Int × List Int × Bool := match rcR l with | some (n, S) => ((n : Int), madeL n S, true) | none => (0, [], false)

theorem setsOf_snoc (rd : List UInt8 → Option Nat) : ∀ (ps : List (List UInt8)) (p : List UInt8), setsOf rd (ps ++ [p]) = match setsOf rd ps, rd p with | some xs, some x => some (xs ++ [(x : Int)]) | _, _ => none
  | [], p => by
    rw [List.nil_append]
    unfold setsOf
    cases rd p <;> rfl
  | q :: ps, p => by
    rw [List.cons_append]
    unfold setsOf
    rw [setsOf_snoc rd ps p]
    cases rd q <;> cases setsOf rd ps <;> cases rd p <;> rfl

theorem setsOf_len {rd : List UInt8 → Option Nat} : ∀ {ps : List (List UInt8)} {S : List Int}, setsOf rd ps = some S → S.length = ps.length
  | [], S, h => by cases h; rfl
  | p :: ps, S, h => by
    unfold setsOf at h
    cases h1 : rd p with
    | none => rw [h1] at h; cases h
    | some x =>
      cases h2 : setsOf rd ps with
      | none => rw [h1, h2] at h; cases h
      | some ys => rw [h1, h2] at h; cases h; simp [setsOf_len h2]

theorem setsOf_none_app {rd : List UInt8 → Option Nat} : ∀ {ps : List (List UInt8)}, setsOf rd ps = none → ∀ qs, setsOf rd (ps ++ qs) = none
  | [], h, _ => by cases h
  | p :: ps, h, qs => by
    unfold setsOf at h
    rw [List.cons_append, setsOf]
    cases h1 : rd p with
    | none => rfl
    | some x =>
      cases h2 : setsOf rd ps with
      | none => rw [setsOf_none_app h2 qs]
      | some ys => rw [h1, h2] at h; cases h

theorem rdF_lt {n : Nat} (hn : n ≤ 6) : ∀ (l : List UInt8) (x y : Nat), x < 2 ^ n → rdF n x l = some y → y < 2 ^ n
  | [], x, y, hx, h => by cases h; exact hx
  | b :: l, x, y, hx, h => by
    unfold rdF at h
    by_cases hb : 48 ≤ b.toNat ∧ b.toNat < 48 + n
    · rw [if_pos hb] at h
      refine rdF_lt hn l _ y (Nat.or_lt_two_pow hx ?_) h
      exact Nat.pow_lt_pow_right (by decide) (by omega)
    · rw [if_neg hb] at h; cases h

theorem rdSet_lt {n : Nat} (hn : n ≤ 6) {l : List UInt8} {y : Nat} (h : rdSet n l = some y) : 1 ≤ y ∧ y < 2 ^ n := by
  unfold rdSet at h
  cases hr : rdF n 0 l with
  | none => rw [hr] at h; cases h
  | some x =>
    rw [hr] at h
    have h : (if x = 0 then none else some x) = some y := h
    have := rdF_lt hn l 0 x (Nat.two_pow_pos n) hr
    by_cases hx : x = 0
    · rw [if_pos hx] at h; cases h
    · rw [if_neg hx] at h
      cases h
      omega

theorem setsOf_rd_range {n : Nat} (hn : n ≤ 6) : ∀ {ps : List (List UInt8)} {S : List Int}, setsOf (rdSet n) ps = some S → ∀ x ∈ S, 1 ≤ x ∧ x ≤ allV (n : Int)
  | [], S, h => by cases h; simp
  | p :: ps, S, h => by
    unfold setsOf at h
    cases h1 : rdSet n p with
    | none => rw [h1] at h; cases h
    | some x =>
      cases h2 : setsOf (rdSet n) ps with
      | none => rw [h1, h2] at h; cases h
      | some ys =>
        rw [h1, h2] at h
        cases h
        intro z hz
        rcases List.mem_cons.1 hz with rfl | hz
        · have hx := rdSet_lt hn h1
          have ha : allV (n : Int) = ((2 ^ n : Nat) : Int) - 1 := by
            rcases (show n = 0 ∨ n = 1 ∨ n = 2 ∨ n = 3 ∨ n = 4 ∨ n = 5 ∨ n = 6 by omega) with rfl | rfl | rfl | rfl | rfl | rfl | rfl <;> decide
          rw [ha]
          generalize 2 ^ n = q at *
          omega
        · exact setsOf_rd_range hn h2 z hz

end Go.Proofs.YtbgkalkipalndaaDoor

/-! readComplex. -/
namespace Go.Proofs.YtbgkalkipalndaaDoor
open Go.RowKit Go.Shelf

theorem spl_len (c : UInt8) : ∀ l : List UInt8, (spl c l).length ≤ l.length + 1
  | [] => by simp [spl]
  | b :: l => by
    have ih := spl_len c l
    unfold spl
    by_cases h : b = c
    · rw [if_pos h]; simp; omega
    · rw [if_neg h]
      cases hs : spl c l with
      | nil => simp
      | cons x t => rw [hs] at ih; simp at ih ⊢; omega

theorem spl_piece (c : UInt8) : ∀ l : List UInt8, ∀ p ∈ spl c l, p.length ≤ l.length
  | [], p, hp => by simp [spl] at hp; rw [hp]; exact Nat.le_refl _
  | b :: l, p, hp => by
    have ih := spl_piece c l
    unfold spl at hp
    by_cases h : b = c
    · rw [if_pos h] at hp
      rcases List.mem_cons.1 hp with rfl | hp
      · simp
      · have := ih p hp; simp; omega
    · rw [if_neg h] at hp
      cases hs : spl c l with
      | nil => rw [hs] at hp; simp at hp; rw [hp]; simp
      | cons x t =>
        rw [hs] at hp ih
        rcases List.mem_cons.1 hp with rfl | hp
        · have := ih x (by simp); simp; omega
        · have := ih p (by simp [hp]); simp; omega

theorem rcR_cons (d c : UInt8) (r : List UInt8) : rcR (d :: c :: r) = if (49 ≤ d.toNat ∧ d.toNat ≤ 54) ∧ c = 58 then (if r = [] then some (d.toNat - 48, []) else match setsOf (rdSet (d.toNat - 48)) (spl 44 r) with | some S => some (d.toNat - 48, S) | none => none) else none := rfl

theorem made_nil (n : Nat) : madeL (n : Int) [] = [] := by
  unfold madeL
  refine List.eq_nil_iff_forall_not_mem.2 fun x hx => ?_
  rw [mem_pickTo] at hx
  have := hx.2.2
  simp [madeP] at this

/-- A result that is no complex. -/
theorem none_end {fn : Func} {a : Act} {w W : World} {p u : Tmp} {l : List UInt8} (hR : rcC l = (0, [], false)) (hr : fn.results = #[.cell p 24, .tmp u]) (hd : a.defers = []) (hp : a.tmps.getD p undef = .pointer (some ⟨w.heap.size, 0, none⟩)) (hu : a.tmps.getD u undef = .bool false)
    (hb : W.heap[w.heap.size]? = some (.cells #[.int .i64 0, .slice none 0 0] 24 (0, 0))) (hB : Below w.heap.size w W) :
    bodyPost Tryd.prog fn (fun e w' => ∃ v, e = .returned (.tuple #[.agg #[.int .i64 (rcC l).1, v], .bool (rcC l).2.2]) ∧ Res w w' v (rcC l).2.1) .ret a ((W.setCell ⟨w.heap.size, 0, none⟩ (.int .i64 0)).setCell ⟨w.heap.size, 1, none⟩ (.slice none 0 0)) := by
  rw [hR]
  have R3 := two_of (two_set hb (.int .i64 0) (.slice none 0 0))
  exact done_cx hr hd hp R3.1 R3.2.1 hu ⟨_, rfl, (res_nil _ _ hB).set2 hb (by decide) (Nat.le_refl _) _ _⟩

set_option maxRecDepth 100000 in
set_option maxHeartbeats 4000000 in
theorem readC_any (l : List UInt8) (m : Int) (w : World) (hl : l.length ≤ 1048576) (hm : w.cell? ⟨1, 0, none⟩ = some (.int .i64 m)) :
    Calls Tryd.prog 28 #[.string ⟨l.toArray⟩] w fun e w' => ∃ v, e = .returned (.tuple #[.agg #[.int .i64 (rcC l).1, v], .bool (rcC l).2.2]) ∧ Res w w' v (rcC l).2.1 := by
  obtain ⟨W0, hW0⟩ : ∃ W0, W0 = w.alloc (.cells #[.int .i64 0, .slice none 0 0] 24) := ⟨_, rfl⟩
  have hB0 : Below w.heap.size w W0 := by rw [hW0]; exact (Below.refl _ w).alloc (Nat.le_refl _) _
  have HK := hid (show W0.heap[w.heap.size]? = some (.cells #[.int .i64 0, .slice none 0 0] 24 (0, 0)) by rw [hW0]; exact heap_alloc_new _ _)
  have hz0 : Hid (W0.heap.size = w.heap.size + 1) := hid (by rw [hW0]; simp)
  have HB0 := hid hB0
  have HW0 := hid hW0
  obtain ⟨q0, q1, f0, f1⟩ := two_of HK.out
  obtain ⟨s, hs⟩ : ∃ s : ByteArray, s = ⟨l.toArray⟩ := ⟨_, rfl⟩
  have hsz : s.size = l.length := by rw [hs]; rfl
  have Hcut : Hid (∀ a b, s.extract a b = ⟨((l.drop a).take (b - a)).toArray⟩) := hid (fun a b => by rw [hs]; exact sp_cut l a b)
  rw [← hs]
  clear hs hW0 hB0
  by_cases h2 : l.length < 2
  · have HR : Hid (rcC l = (0, [], false)) := hid (by
      match l, h2 with
      | [], _ => rfl
      | [x], _ => rfl)
    have hd : decide ((l.length : Int) < 2) = true := decide_eq_true (by omega)
    clear h2
    go_enter Tryd.func28, Tryd.ntmps28
    go_wp2_with fail
    rw [← HW0.out]
    go_wp2_with fail
    (try simp only [Exit.inBlock, Exit.then])
    exact done_cx (p := 2) (u := 3) (by kernel_rfl) rfl rfl q0 q1 rfl ⟨_, by rw [HR.out]; rfl, by rw [HR.out]; exact res_nil _ _ HB0.out⟩
  · obtain ⟨d, c, r, rfl⟩ : ∃ d c r, l = d :: c :: r := by
      match l, h2 with
      | [], h2 => exact absurd (by simp) h2
      | [x], h2 => exact absurd (by simp) h2
      | d :: c :: r, _ => exact ⟨d, c, r, rfl⟩
    have hd2 : decide (((d :: c :: r).length : Int) < 2) = false := decide_eq_false (by omega)
    obtain ⟨L, hL⟩ : ∃ L : Nat, L = (d :: c :: r).length := ⟨_, rfl⟩
    have hL2 : L = r.length + 2 := by rw [hL]; simp
    have HcR := hid (rfl : rcC (d :: c :: r) = rcC (d :: c :: r))
    rw [← hL] at hsz hd2 hl
    obtain ⟨cap, W1, hconv, hB1, hcells⟩ := bytes_made [d, c] W0
    have hc2 : s.extract 0 2 = ⟨[d, c].toArray⟩ := by rw [Hcut.out]; rfl
    rw [← hc2, hz0.out, HW0.out] at hconv
    have hcd0 := hcells 0 (by simp)
    have hcc0 := hcells 1 (by simp)
    rw [hz0.out] at hcd0 hcc0
    obtain ⟨dn, hdn⟩ : ∃ dn : Nat, dn = d.toNat := ⟨_, rfl⟩
    obtain ⟨cn, hcn⟩ : ∃ cn : Nat, cn = c.toNat := ⟨_, rfl⟩
    have Hdn := hid hdn
    have Hcn := hid hcn
    have hcd : W1.cell? ⟨w.heap.size + 1, 0, none⟩ = some (.int .u8 (dn : Int)) := by rw [hdn]; exact hcd0
    have hcc : W1.cell? ⟨w.heap.size + 1, 1, none⟩ = some (.int .u8 (cn : Int)) := by rw [hcn]; exact hcc0
    have hdn256 : dn < 256 := by rw [hdn]; exact d.toNat_lt
    have hap : ∀ W : World, (Instr.arrayAt 68 (.slice (some ⟨w.heap.size + 1, 0, none⟩) 2 cap)).run Tryd.prog W = .ok (.pointer (some ⟨w.heap.size + 1, 0, none⟩)) W := fun _ => by kernel_rfl
    have HB1 := hid (HB0.out.trans (hB1.mono HB0.out.size))
    have HK1 := hid ((hB1.block _ (lt_get HK.out)).trans HK.out)
    have hlen2 : ([d, c] : List UInt8).length = 2 := rfl
    rw [hlen2] at hconv
    have HL := hid hL
    have HL2 := hid hL2
    have hL2i : (2 : Int) ≤ (L : Int) := by omega
    have hL2n : 2 ≤ L := by omega
    have hdn0 : (0 : Int) ≤ (dn : Int) := by omega
    have hdn1 : (dn : Int) < 256 := by omega
    have hmlt := World.block_lt_of_cell? w _ hm
    have Hend := hid (fun (W2 : World) (h : W1.alloc (.cells #[.int .u8 (dn : Int), .int .u8 (cn : Int)] 68) = W2) => (show Below w.heap.size w W2 ∧ W2.heap[w.heap.size]? = some (.cells #[.int .i64 0, .slice none 0 0] 24 (0, 0)) ∧ W2.cell? ⟨W1.heap.size, 1, none⟩ = some (.int .u8 (cn : Int)) by
      rw [← h]
      refine ⟨HB1.out.alloc HB1.out.size _, (Below.heap_alloc _ _ _ (lt_get HK1.out)).trans HK1.out, ?_⟩
      exact (two_of (heap_alloc_new W1 (.cells #[.int .u8 (dn : Int), .int .u8 (cn : Int)] 68))).2.1))
    clear hcells hB1 hc2 hlen2 hL hL2 hdn hcn hcd0 hcc0
    by_cases hgood : 49 ≤ dn ∧ dn ≤ 54
    · obtain ⟨n, rfl⟩ : ∃ n, dn = 48 + n := ⟨dn - 48, by omega⟩
      have hn1 : 1 ≤ n := by omega
      have hn6 : n ≤ 6 := by omega
      have hcast : ((48 + n : Nat) : Int) = 48 + (n : Int) := by omega
      rw [hcast] at hcd
      have Hend2 := Hend
      simp only [hcast] at Hend2
      have hsub : (48 : Int) + (n : Int) - 48 = (n : Int) := by omega
      have hv1 : (1 : Int) ≤ (n : Int) := by omega
      have hv6 : (n : Int) ≤ 6 := by omega
      have HV := hid (fun W => vc_yes (n : Int) W hv1 hv6)
      clear hgood Hend hcast hdn0 hdn1 hdn256
      by_cases hc58 : cn = 58
      · have hne : ((cn : Int) != 58) = false := by rw [hc58]; rfl
        have HG : Hid (rcR (d :: c :: r) = if r = [] then some (n, []) else match setsOf (rdSet n) (spl 44 r) with | some S => some (n, S) | none => none) := hid (by
          rw [rcR_cons, if_pos ⟨⟨by have := Hdn.out; omega, by have := Hdn.out; omega⟩, UInt8.toNat_inj.1 (by rw [← Hcn.out, hc58]; rfl)⟩, ← Hdn.out, Nat.add_sub_cancel_left])
        clear hc58
        by_cases hr : r = []
        · have HR : Hid (rcC (d :: c :: r) = ((n : Int), [], true)) := hid (by
            unfold rcC
            rw [HG.out, if_pos hr]
            show ((n : Int), madeL (n : Int) [], true) = _
            rw [made_nil])
          have hLe : ((L : Int) == 2) = true := by rw [HL2.out, hr]; rfl
          clear hr
          go_enter Tryd.func28, Tryd.ntmps28
          go_wp2_with fail
          refine (HV.out _).mono ?_
          rintro e w2 ⟨rfl, hw2⟩
          obtain ⟨hb2, hk2, hcc2⟩ := Hend2.out w2 hw2
          obtain ⟨k0, k1, g0, g1⟩ := two_of hk2
          have HK2 := hid hk2
          have HB2 := hid hb2
          clear hw2 hb2 hk2 q0 q1 f0 f1 hcd hcc hconv hap
          go_wp2_with fail
          (try simp only [Exit.inBlock, Exit.then])
          have R3 := two_of (two_set HK2.out (.int .i64 (n : Int)) (.slice none 0 0))
          exact done_cx (p := 2) (u := 3) (by kernel_rfl) rfl rfl R3.1 R3.2.1 rfl ⟨_, by rw [HR.out]; rfl, by rw [HR.out]; exact (res_nil _ _ HB2.out).set2 HK2.out (by decide) (Nat.le_refl _) _ _⟩
        · obtain ⟨P, hP⟩ : ∃ P, P = spl 44 r := ⟨_, rfl⟩
          have hPl : P.length ≤ 1048576 := by rw [hP]; have := spl_len 44 r; have := HL2.out; omega
          have HPp : Hid (∀ p ∈ P, p.length ≤ 9223372036854775807) := hid (fun p hp => by rw [hP] at hp; have := spl_piece 44 r p hp; have := HL2.out; omega)
          have HGP : Hid (∀ R, setsOf (rdSet n) P = R → rcC (d :: c :: r) = match R with | some S => ((n : Int), madeL (n : Int) S, true) | none => (0, [], false)) := hid (fun R hR => by
            unfold rcC
            rw [HG.out, if_neg hr, ← hP, hR]
            cases R <;> rfl)
          have hcut2 : s.extract 2 L = ⟨r.toArray⟩ := by
            rw [Hcut.out]
            show (⟨(r.take (L - 2)).toArray⟩ : ByteArray) = _
            rw [List.take_of_length_le (by have := HL2.out; omega)]
          have hLe : ((L : Int) == 2) = false := by
            rw [beq_eq_false_iff_ne]
            have := HL2.out
            have : r.length ≠ 0 := fun h => hr (List.eq_nil_of_length_eq_zero h)
            omega
          have hrl : r.length ≤ 4000000000 := by have := HL2.out; omega
          have HSp := hid (fun (W : World) (h : W.cell? ⟨1, 0, none⟩ = some (.int .i64 m)) => splitI_any r m W hrl h)
          rw [← hP, ← hcut2] at HSp
          clear hr hP hcut2 hrl HG
          go_enter Tryd.func28, Tryd.ntmps28
          go_wp2_with fail
          refine (HV.out _).mono ?_
          rintro e w2 ⟨rfl, hw2⟩
          obtain ⟨hb2, hk2, hcc2⟩ := Hend2.out w2 hw2
          obtain ⟨k0, k1, g0, g1⟩ := two_of hk2
          have HK2 := hid hk2
          have HB2 := hid hb2
          clear hw2 hb2 hk2 q0 q1 f0 f1 hcd hcc hconv hap
          go_wp2_with fail
          refine (HSp.out _ ((HB2.out.cell (p := ⟨1, 0, none⟩) hmlt).trans hm)).mono ?_
          rintro e w3 ⟨rfl, hw3⟩
          have HB3 : Hid (Below w.heap.size w w3) := hid (by rw [hw3]; exact HB2.out.alloc HB2.out.size _)
          have HK3 : Hid (w3.heap[w.heap.size]? = some (.cells #[.int .i64 0, .slice none 0 0] 24 (0, 0))) := hid (by rw [hw3]; exact (Below.heap_alloc _ _ _ (lt_get HK2.out)).trans HK2.out)
          have HC3 : Hid (∀ k, k < P.length → w3.cell? ⟨w2.heap.size, k, none⟩ = some (strV (P[k]?.getD []))) := hid (fun k hk => by
            rw [hw3]
            rw [World.cell?_alloc_mark]
            simp [List.getElem?_eq_getElem hk])
          have hs3 : Hid (w3.heap.size = w2.heap.size + 1) := hid (by rw [hw3]; simp)
          clear hw3 k0 k1 g0 g1 hcc2
          go_wp2_with fail
          go_loopw [6, 42] (fun v iv wr => ∃ (k : Nat) (S : List Int), k ≤ P.length ∧ iv = .int .i64 k ∧ wr.ownsRow w3.heap.size 2 1 v S.length (S.map (Value.int .i64)) ∧ Hid (setsOf (rdSet n) (P.take k) = some S) ∧ Below w3.heap.size w3 wr) (fun _ iv _ => P.length - (RowKit.intOf iv).toNat)
          case atStart => exact ⟨0, [], Nat.zero_le _, rfl, World.ownsRow_nil _ _ _ _, hid rfl, Below.refl _ _⟩
          case round =>
            obtain ⟨k, S, hk, rfl, hown, HS, hB⟩ := hrel
            have HB := hid hB
            have hsz3 := hB.size
            have hSl : S.length ≤ 1048576 := by have := setsOf_len HS.out; simp at this; omega
            by_cases hlt : k < P.length
            · obtain ⟨p, hp⟩ : ∃ p, p = P[k]?.getD [] := ⟨_, rfl⟩
              have hpm : p ∈ P := by rw [hp, List.getElem?_eq_getElem hlt]; exact List.getElem_mem hlt
              have hck : wr.cell? ⟨w2.heap.size, k, none⟩ = some (strV p) := by rw [hp]; exact (hB.cell (p := ⟨w2.heap.size, k, none⟩) (by have := hs3.out; show w2.heap.size < w3.heap.size; omega)).trans (HC3.out k hlt)
              have Hset := hid (fun W => readSet_any p n hn6 (HPp.out p hpm) W)
              have Hsn : Hid (setsOf (rdSet n) (P.take (k + 1)) = match rdSet n p with | some x => some (S ++ [(x : Int)]) | none => none) := hid (by
                rw [List.take_succ_eq_append_getElem hlt, setsOf_snoc, HS.out]
                rw [hp, List.getElem?_eq_getElem hlt]
                simp only [Option.getD_some]
                cases rdSet n P[k] <;> rfl)
              have hi0 : (0 : Int) ≤ (k : Int) := by omega
              have hi1 : (k : Int) < (P.length : Int) := by omega
              have HX : Hid (strV p = Value.string ⟨p.toArray⟩) := hid rfl
              rw [HX.out] at hck
              clear hB hp hpm
              cases hrd : rdSet n p with
              | none =>
                rw [hrd] at Hset Hsn
                have HR : Hid (rcC (d :: c :: r) = (0, [], false)) := hid (by
                  rw [HGP.out none]
                  have h := setsOf_none_app Hsn.out (P.drop (k + 1))
                  rwa [List.take_append_drop] at h)
                have hk4 := (HB.out.block _ (lt_get HK3.out)).trans HK3.out
                clear hrd
                go_wp2_with fail
                refine (Hset.out _).mono ?_
                rintro e w5 ⟨rfl, hB5⟩
                have hk5 := (hB5.block _ (lt_get hk4)).trans hk4
                obtain ⟨k0, k1, g0, g1⟩ := two_of hk5
                have HB5 := hid ((HB3.out.trans (HB.out.mono HB3.out.size)).trans (hB5.mono (Nat.le_trans HB3.out.size HB.out.size)))
                have HK5 := hid hk5
                clear hk5 hk4 hB5
                go_wp2_with fail
                (try simp only [Exit.inBlock, Exit.then])
                exact none_end (p := 2) (u := 3) HR.out (by kernel_rfl) rfl rfl rfl HK5.out HB5.out
              | some x =>
                rw [hrd] at Hset Hsn
                clear hrd
                go_wp2_with fail
                refine (Hset.out _).mono ?_
                rintro e w5 ⟨rfl, hB5⟩
                have HB5 := hid (HB.out.trans (hB5.mono hsz3))
                have hsz5 := HB5.out.size
                have hown5 := ownsRow_below hown hB5 (fun g hg => (hown.lt g hg).2)
                clear hB5 hown
                go_wp2_with (first
                  | (at_builtin; refine append_int rfl rfl hown5 hsz5 (by omega) rfl rfl ?_; intro v' w6 hown6 hgrow6 hB6)
                  | fail)
                go_roundw
                case rel => exact ⟨k + 1, _, by omega, by go_num, hown6, hid Hsn.out, HB5.out.trans hB6⟩
                case measure => simp [RowKit.intOf]; omega
            · obtain rfl : k = P.length := by omega
              have HT : Hid (setsOf (rdSet n) P = some S) := hid (by have h := HS.out; rwa [List.take_length] at h)
              have HR := hid (HGP.out _ HT.out)
              have Hrg := hid (setsOf_rd_range hn6 HT.out)
              obtain ⟨_, av, cv, rfl, hS⟩ := ownsRow_slI hown
              have hk4 := (HB.out.block _ (lt_get HK3.out)).trans HK3.out
              have HB4 := hid (HB3.out.trans (HB.out.mono HB3.out.size))
              go_wp2_with fail
              refine (made_any (n : Int) av cv S wr hS hSl hv6 (fun x hx => ⟨by have := (Hrg.out x hx).1; omega, (Hrg.out x hx).2⟩)).mono ?_
              rintro e w5 ⟨v5, rfl, hr5⟩
              obtain ⟨_, av5, cv5, rfl, _⟩ := ownsRow_slI hr5.1
              have hk5 := (hr5.2.block _ (lt_get hk4)).trans hk4
              obtain ⟨k0, k1, g0, g1⟩ := two_of hk5
              have HK5 := hid hk5
              clear hk5 hk4
              go_wp2_with fail
              (try simp only [Exit.inBlock, Exit.then])
              have R3 := two_of (two_set HK5.out (.int .i64 (n : Int)) (.slice av5 (madeL (n : Int) S).length cv5))
              exact done_cx (p := 2) (u := 3) (by kernel_rfl) rfl rfl R3.1 R3.2.1 rfl ⟨_, by rw [HR.out]; rfl, by rw [HR.out]; exact (hr5.later HB4.out).set2 HK5.out (by decide) (Nat.le_refl _) _ _⟩
      · have hne : ((cn : Int) != 58) = true := by simp; omega
        have HR : Hid (rcC (d :: c :: r) = (0, [], false)) := hid (by
          unfold rcC
          rw [rcR_cons, if_neg]
          rintro ⟨_, h⟩
          exact hc58 (by rw [Hcn.out, h]; rfl))
        clear hc58
        go_enter Tryd.func28, Tryd.ntmps28
        go_wp2_with fail
        refine (HV.out _).mono ?_
        rintro e w2 ⟨rfl, hw2⟩
        obtain ⟨hb2, hk2, hcc2⟩ := Hend2.out w2 hw2
        obtain ⟨k0, k1, g0, g1⟩ := two_of hk2
        have HK2 := hid hk2
        have HB2 := hid hb2
        clear hw2 hb2 hk2 q0 q1 f0 f1 hcd hcc hconv hap
        go_wp2_with fail
        (try simp only [Exit.inBlock, Exit.then])
        exact none_end (p := 2) (u := 3) HR.out (by kernel_rfl) rfl rfl rfl HK2.out HB2.out
    · have HR : Hid (rcC (d :: c :: r) = (0, [], false)) := hid (by
        unfold rcC
        rw [rcR_cons, if_neg]
        rintro ⟨h, _⟩
        exact hgood (by rw [Hdn.out]; exact h))
      have HV := hid (fun W => vc_no ((dn : Int) - 48) W (by omega))
      clear hgood
      go_enter Tryd.func28, Tryd.ntmps28
      go_wp2_with fail
      refine (HV.out _).mono ?_
      rintro e w2 ⟨rfl, hw2⟩
      obtain ⟨hb2, hk2, hcc2⟩ := Hend.out w2 hw2
      obtain ⟨k0, k1, g0, g1⟩ := two_of hk2
      have HK2 := hid hk2
      have HB2 := hid hb2
      clear hw2 hb2 hk2 q0 q1 f0 f1 hcd hcc hconv hap
      go_wp2_with fail
      (try simp only [Exit.inBlock, Exit.then])
      exact none_end (p := 2) (u := 3) HR.out (by kernel_rfl) rfl rfl rfl HK2.out HB2.out

end Go.Proofs.YtbgkalkipalndaaDoor

/-! Complexes with names, on both sides. -/
namespace Go.Proofs.YtbgkalkipalndaaDoor
open Go.RowKit Go.Shelf

/-- The names, and the texts of their sets. -/
def nameL : List (List UInt8) := [[112, 111, 105, 110, 116], [99, 105, 114, 99, 108, 101], [115, 113, 117, 97, 114, 101], [115, 112, 104, 101, 114, 101], [98, 97, 108, 108], [98, 105, 112, 121, 114, 97, 109, 105, 100], [111, 99, 116, 97, 104, 101, 100, 114, 111, 110], [109, 111, 101, 98, 105, 117, 115], [112, 114, 111, 106, 101, 99, 116, 105, 118, 101], [119, 101, 100, 103, 101], [116, 114, 101, 101]]
def knowL : List (List UInt8) := [[49, 58, 48], [51, 58, 48, 49, 44, 48, 50, 44, 49, 50], [52, 58, 48, 49, 44, 49, 50, 44, 50, 51, 44, 48, 51], [52, 58, 48, 49, 50, 44, 48, 49, 51, 44, 48, 50, 51, 44, 49, 50, 51], [52, 58, 48, 49, 50, 51], [53, 58, 48, 49, 51, 44, 48, 49, 52, 44, 48, 50, 51, 44, 48, 50, 52, 44, 49, 50, 51, 44, 49, 50, 52], [54, 58, 48, 50, 52, 44, 48, 50, 53, 44, 48, 51, 52, 44, 48, 51, 53, 44, 49, 50, 52, 44, 49, 50, 53, 44, 49, 51, 52, 44, 49, 51, 53], [53, 58, 48, 49, 50, 44, 49, 50, 51, 44, 50, 51, 52, 44, 48, 51, 52, 44, 48, 49, 52], [54, 58, 48, 49, 50, 44, 48, 50, 51, 44, 48, 51, 52, 44, 48, 52, 53, 44, 48, 49, 53, 44, 49, 50, 52, 44, 50, 51, 53, 44, 49, 51, 52, 44, 50, 52, 53, 44, 49, 51, 53], [53, 58, 48, 49, 44, 48, 50, 44, 49, 50, 44, 48, 51, 44, 48, 52, 44, 51, 52], [54, 58, 48, 49, 44, 49, 50, 44, 49, 51, 44, 51, 52, 44, 51, 53]]
/-- The text of a name. -/
def nameT (l : List UInt8) : List UInt8 := match nameL.findIdx? (· = l) with | some i => knowL[i]?.getD [] | none => []

theorem know_ok : ∀ i < 11, ∃ n S, rcR (knowL[i]?.getD []) = some (n, S) ∧ 1 ≤ n ∧ n ≤ 6 ∧ ((knowL[i]?.getD [])[0]?.getD 0).toNat = 48 + n ∧ (spl 44 ((knowL[i]?.getD []).drop 2)).map (fun p => (((stSet n p).getD 0 : Nat) : Int)) = S ∧
    (∀ x ∈ S, 1 ≤ x ∧ x ≤ allV (n : Int)) ∧ S.length ≤ 20 ∧ 2 ≤ (knowL[i]?.getD []).length ∧ (knowL[i]?.getD []).length ≤ 60 := by
  intro i hi
  have hall : ∀ i : Fin 11, ∃ n : Fin 7, ∃ S, rcR (knowL[i.val]?.getD []) = some (n.val, S) ∧ 1 ≤ n.val ∧ ((knowL[i.val]?.getD [])[0]?.getD 0).toNat = 48 + n.val ∧ (spl 44 ((knowL[i.val]?.getD []).drop 2)).map (fun p => (((stSet n.val p).getD 0 : Nat) : Int)) = S ∧
    (∀ x ∈ S, 1 ≤ x ∧ x ≤ allV (n.val : Int)) ∧ S.length ≤ 20 ∧ 2 ≤ (knowL[i.val]?.getD []).length ∧ (knowL[i.val]?.getD []).length ≤ 60 := by
    intro i
    refine ⟨⟨(((knowL[i.val]?.getD [])[0]?.getD 0).toNat - 48) % 7, Nat.mod_lt _ (by decide)⟩, (spl 44 ((knowL[i.val]?.getD []).drop 2)).map (fun p => (((stSet ((((knowL[i.val]?.getD [])[0]?.getD 0).toNat - 48) % 7) p).getD 0 : Nat) : Int)), ?_⟩
    revert i
    decide +kernel
  obtain ⟨n, S, h1, h2, h3, h4, h5, h6, h7, h8⟩ := hall ⟨i, hi⟩
  exact ⟨n.val, S, h1, h2, by omega, h3, h4, h5, h6, h7, h8⟩

theorem str_beq (l m : List UInt8) : ((⟨l.toArray⟩ : ByteArray).toList == m) = decide (l = m) := by
  rw [ByteArray.toList_eq]
  by_cases h : l = m <;> simp [h]

theorem nameT_at : ∀ i < 11, nameT (nameL[i]?.getD []) = knowL[i]?.getD [] := by decide +kernel
theorem nameT_no {l : List UInt8} (h : ∀ i < 11, nameL[i]?.getD [] ≠ l) : nameT l = [] := by
  unfold nameT
  have : nameL.findIdx? (· = l) = none := by
    rw [List.findIdx?_eq_none_iff]
    intro x hx
    obtain ⟨i, hi⟩ := List.getElem?_of_mem hx
    have hlt : i < 11 := (List.getElem?_eq_some_iff.1 hi).1
    have := h i hlt
    rw [hi] at this
    simpa using this
  rw [this]

set_option maxRecDepth 100000 in
set_option maxHeartbeats 2000000 in
theorem namedSets_any (l : List UInt8) (w : World) : Calls Tryd.prog 29 #[.string ⟨l.toArray⟩] w fun e w' => e = .returned (.string ⟨(nameT l).toArray⟩) ∧ w = w' := by
  obtain ⟨s, hs⟩ : ∃ s : ByteArray, s = ⟨l.toArray⟩ := ⟨_, rfl⟩
  have hq0 : (s.toList == ([112, 111, 105, 110, 116] : List UInt8)) = decide (l = [112, 111, 105, 110, 116]) := by rw [hs]; exact str_beq l [112, 111, 105, 110, 116]
  have hq1 : (s.toList == ([99, 105, 114, 99, 108, 101] : List UInt8)) = decide (l = [99, 105, 114, 99, 108, 101]) := by rw [hs]; exact str_beq l [99, 105, 114, 99, 108, 101]
  have hq2 : (s.toList == ([115, 113, 117, 97, 114, 101] : List UInt8)) = decide (l = [115, 113, 117, 97, 114, 101]) := by rw [hs]; exact str_beq l [115, 113, 117, 97, 114, 101]
  have hq3 : (s.toList == ([115, 112, 104, 101, 114, 101] : List UInt8)) = decide (l = [115, 112, 104, 101, 114, 101]) := by rw [hs]; exact str_beq l [115, 112, 104, 101, 114, 101]
  have hq4 : (s.toList == ([98, 97, 108, 108] : List UInt8)) = decide (l = [98, 97, 108, 108]) := by rw [hs]; exact str_beq l [98, 97, 108, 108]
  have hq5 : (s.toList == ([98, 105, 112, 121, 114, 97, 109, 105, 100] : List UInt8)) = decide (l = [98, 105, 112, 121, 114, 97, 109, 105, 100]) := by rw [hs]; exact str_beq l [98, 105, 112, 121, 114, 97, 109, 105, 100]
  have hq6 : (s.toList == ([111, 99, 116, 97, 104, 101, 100, 114, 111, 110] : List UInt8)) = decide (l = [111, 99, 116, 97, 104, 101, 100, 114, 111, 110]) := by rw [hs]; exact str_beq l [111, 99, 116, 97, 104, 101, 100, 114, 111, 110]
  have hq7 : (s.toList == ([109, 111, 101, 98, 105, 117, 115] : List UInt8)) = decide (l = [109, 111, 101, 98, 105, 117, 115]) := by rw [hs]; exact str_beq l [109, 111, 101, 98, 105, 117, 115]
  have hq8 : (s.toList == ([112, 114, 111, 106, 101, 99, 116, 105, 118, 101] : List UInt8)) = decide (l = [112, 114, 111, 106, 101, 99, 116, 105, 118, 101]) := by rw [hs]; exact str_beq l [112, 114, 111, 106, 101, 99, 116, 105, 118, 101]
  have hq9 : (s.toList == ([119, 101, 100, 103, 101] : List UInt8)) = decide (l = [119, 101, 100, 103, 101]) := by rw [hs]; exact str_beq l [119, 101, 100, 103, 101]
  have hq10 : (s.toList == ([116, 114, 101, 101] : List UInt8)) = decide (l = [116, 114, 101, 101]) := by rw [hs]; exact str_beq l [116, 114, 101, 101]
  rw [← hs]
  clear hs
  by_cases h0 : l = [112, 111, 105, 110, 116]
  · have HT : Hid (nameT l = [49, 58, 48]) := hid (by rw [h0]; rfl)
    rw [decide_eq_true h0] at hq0
    clear h0 hq1 hq2 hq3 hq4 hq5 hq6 hq7 hq8 hq9 hq10
    go_enter Tryd.func29, Tryd.ntmps29
    go_wp2_with fail
    go_ret
    exact ⟨by rw [HT.out]; rfl, rfl⟩
  rw [decide_eq_false h0] at hq0
  by_cases h1 : l = [99, 105, 114, 99, 108, 101]
  · have HT : Hid (nameT l = [51, 58, 48, 49, 44, 48, 50, 44, 49, 50]) := hid (by rw [h1]; rfl)
    rw [decide_eq_true h1] at hq1
    clear h0 h1 hq2 hq3 hq4 hq5 hq6 hq7 hq8 hq9 hq10
    go_enter Tryd.func29, Tryd.ntmps29
    go_wp2_with fail
    go_ret
    exact ⟨by rw [HT.out]; rfl, rfl⟩
  rw [decide_eq_false h1] at hq1
  by_cases h2 : l = [115, 113, 117, 97, 114, 101]
  · have HT : Hid (nameT l = [52, 58, 48, 49, 44, 49, 50, 44, 50, 51, 44, 48, 51]) := hid (by rw [h2]; rfl)
    rw [decide_eq_true h2] at hq2
    clear h0 h1 h2 hq3 hq4 hq5 hq6 hq7 hq8 hq9 hq10
    go_enter Tryd.func29, Tryd.ntmps29
    go_wp2_with fail
    go_ret
    exact ⟨by rw [HT.out]; rfl, rfl⟩
  rw [decide_eq_false h2] at hq2
  by_cases h3 : l = [115, 112, 104, 101, 114, 101]
  · have HT : Hid (nameT l = [52, 58, 48, 49, 50, 44, 48, 49, 51, 44, 48, 50, 51, 44, 49, 50, 51]) := hid (by rw [h3]; rfl)
    rw [decide_eq_true h3] at hq3
    clear h0 h1 h2 h3 hq4 hq5 hq6 hq7 hq8 hq9 hq10
    go_enter Tryd.func29, Tryd.ntmps29
    go_wp2_with fail
    go_ret
    exact ⟨by rw [HT.out]; rfl, rfl⟩
  rw [decide_eq_false h3] at hq3
  by_cases h4 : l = [98, 97, 108, 108]
  · have HT : Hid (nameT l = [52, 58, 48, 49, 50, 51]) := hid (by rw [h4]; rfl)
    rw [decide_eq_true h4] at hq4
    clear h0 h1 h2 h3 h4 hq5 hq6 hq7 hq8 hq9 hq10
    go_enter Tryd.func29, Tryd.ntmps29
    go_wp2_with fail
    go_ret
    exact ⟨by rw [HT.out]; rfl, rfl⟩
  rw [decide_eq_false h4] at hq4
  by_cases h5 : l = [98, 105, 112, 121, 114, 97, 109, 105, 100]
  · have HT : Hid (nameT l = [53, 58, 48, 49, 51, 44, 48, 49, 52, 44, 48, 50, 51, 44, 48, 50, 52, 44, 49, 50, 51, 44, 49, 50, 52]) := hid (by rw [h5]; rfl)
    rw [decide_eq_true h5] at hq5
    clear h0 h1 h2 h3 h4 h5 hq6 hq7 hq8 hq9 hq10
    go_enter Tryd.func29, Tryd.ntmps29
    go_wp2_with fail
    go_ret
    exact ⟨by rw [HT.out]; rfl, rfl⟩
  rw [decide_eq_false h5] at hq5
  by_cases h6 : l = [111, 99, 116, 97, 104, 101, 100, 114, 111, 110]
  · have HT : Hid (nameT l = [54, 58, 48, 50, 52, 44, 48, 50, 53, 44, 48, 51, 52, 44, 48, 51, 53, 44, 49, 50, 52, 44, 49, 50, 53, 44, 49, 51, 52, 44, 49, 51, 53]) := hid (by rw [h6]; rfl)
    rw [decide_eq_true h6] at hq6
    clear h0 h1 h2 h3 h4 h5 h6 hq7 hq8 hq9 hq10
    go_enter Tryd.func29, Tryd.ntmps29
    go_wp2_with fail
    go_ret
    exact ⟨by rw [HT.out]; rfl, rfl⟩
  rw [decide_eq_false h6] at hq6
  by_cases h7 : l = [109, 111, 101, 98, 105, 117, 115]
  · have HT : Hid (nameT l = [53, 58, 48, 49, 50, 44, 49, 50, 51, 44, 50, 51, 52, 44, 48, 51, 52, 44, 48, 49, 52]) := hid (by rw [h7]; rfl)
    rw [decide_eq_true h7] at hq7
    clear h0 h1 h2 h3 h4 h5 h6 h7 hq8 hq9 hq10
    go_enter Tryd.func29, Tryd.ntmps29
    go_wp2_with fail
    go_ret
    exact ⟨by rw [HT.out]; rfl, rfl⟩
  rw [decide_eq_false h7] at hq7
  by_cases h8 : l = [112, 114, 111, 106, 101, 99, 116, 105, 118, 101]
  · have HT : Hid (nameT l = [54, 58, 48, 49, 50, 44, 48, 50, 51, 44, 48, 51, 52, 44, 48, 52, 53, 44, 48, 49, 53, 44, 49, 50, 52, 44, 50, 51, 53, 44, 49, 51, 52, 44, 50, 52, 53, 44, 49, 51, 53]) := hid (by rw [h8]; rfl)
    rw [decide_eq_true h8] at hq8
    clear h0 h1 h2 h3 h4 h5 h6 h7 h8 hq9 hq10
    go_enter Tryd.func29, Tryd.ntmps29
    go_wp2_with fail
    go_ret
    exact ⟨by rw [HT.out]; rfl, rfl⟩
  rw [decide_eq_false h8] at hq8
  by_cases h9 : l = [119, 101, 100, 103, 101]
  · have HT : Hid (nameT l = [53, 58, 48, 49, 44, 48, 50, 44, 49, 50, 44, 48, 51, 44, 48, 52, 44, 51, 52]) := hid (by rw [h9]; rfl)
    rw [decide_eq_true h9] at hq9
    clear h0 h1 h2 h3 h4 h5 h6 h7 h8 h9 hq10
    go_enter Tryd.func29, Tryd.ntmps29
    go_wp2_with fail
    go_ret
    exact ⟨by rw [HT.out]; rfl, rfl⟩
  rw [decide_eq_false h9] at hq9
  by_cases h10 : l = [116, 114, 101, 101]
  · have HT : Hid (nameT l = [54, 58, 48, 49, 44, 49, 50, 44, 49, 51, 44, 51, 52, 44, 51, 53]) := hid (by rw [h10]; rfl)
    rw [decide_eq_true h10] at hq10
    clear h0 h1 h2 h3 h4 h5 h6 h7 h8 h9 h10
    go_enter Tryd.func29, Tryd.ntmps29
    go_wp2_with fail
    go_ret
    exact ⟨by rw [HT.out]; rfl, rfl⟩
  rw [decide_eq_false h10] at hq10
  have HT : Hid (nameT l = []) := hid (nameT_no (fun i hi => by
    rcases (show i = 0 ∨ i = 1 ∨ i = 2 ∨ i = 3 ∨ i = 4 ∨ i = 5 ∨ i = 6 ∨ i = 7 ∨ i = 8 ∨ i = 9 ∨ i = 10 by omega) with rfl | rfl | rfl | rfl | rfl | rfl | rfl | rfl | rfl | rfl | rfl
    · exact fun h => h0 h.symm
    · exact fun h => h1 h.symm
    · exact fun h => h2 h.symm
    · exact fun h => h3 h.symm
    · exact fun h => h4 h.symm
    · exact fun h => h5 h.symm
    · exact fun h => h6 h.symm
    · exact fun h => h7 h.symm
    · exact fun h => h8 h.symm
    · exact fun h => h9 h.symm
    · exact fun h => h10 h.symm))
  clear h0 h1 h2 h3 h4 h5 h6 h7 h8 h9 h10
  go_enter Tryd.func29, Tryd.ntmps29
  go_wp2_with fail
  go_ret
  exact ⟨by rw [HT.out]; rfl, rfl⟩

end Go.Proofs.YtbgkalkipalndaaDoor

/-! 'append', and where the row lies afterwards. -/
namespace Go.Proofs.YtbgkalkipalndaaDoor
open Go.RowKit

/-- 'append' of a number; where the row lies afterwards. -/
theorem app_at {w : World} {ops : Array Oper} {rest : List Oper} {o : Oper} {a : Act} {Q : Exit → Act → World → Prop} (hgd : o.guard = none) {s y : Operand}
    (ho : o.op = .call { callee := .builtin .append, args := #[s, y], argTypes := #[22, 22] })
    {base : Nat} {v : Value} {xs : List Int} {x : Int} (hown : w.ownsRow base 2 1 v xs.length (xs.map (Value.int .i64))) (hbase : base ≤ w.heap.size) (hl : xs.length ≤ 1099511627776)
    (hs : a.eval s = v) (hy : a.eval y = .slice (some ⟨w.heap.size, 0, none⟩) 1 1)
    (hK : ∀ v' w', w'.ownsRow base 2 1 v' (xs ++ [x]).length ((xs ++ [x]).map (Value.int .i64)) → w.grownBy w' v.ownBlock → (v'.ownBlock = v.ownBlock ∨ v'.ownBlock = some (w.heap.size + 1)) → Below base w w' → wpList Tryd.prog ops Q rest (a.put o.dst v') w') :
    wpList Tryd.prog ops Q (o :: rest) a (w.alloc (.cells #[.int .i64 x] 2)) := by
  obtain ⟨i0, hi, hz0, hz1, hz2⟩ := info_parts info_i64
  refine wpList_append_own_at _ hgd s y 22 ho base 2 i0 (.int .i64 0) 1 8 Tryd.underlying22 hi hz0 hz1 hz2 rfl (by decide) v _ _ hs (hown.alloc _) ⟨w.heap.size, 0, none⟩ 1 1 [.int .i64 x] hy rfl (cell_one_new _ _ _) (by simp [Value.oneCell']) (by unfold maxLen; omega) (by omega) (by simp; omega) ?_
  intro v' w1 hown1 hgrow1 _ hat
  have hg : w.grownBy w1 v.ownBlock := (World.grownBy_alloc w _ _).trans hgrow1
  exact hK v' w1 (by simpa using hown1) hg (by simpa using hat) ((Below.refl base w).grown hg hbase (fun k hk => (hown.lt k hk).1))

end Go.Proofs.YtbgkalkipalndaaDoor
