import Derived.Lib.SmallJoins
import Derived.Shelf.Lays
import Derived.Shelf.LaysM
import Derived.Test.YtbgkalkipalndaaDoorProg
import Derived.Deep.RegionHeld3
import Derived.Deep.AppendLies
import Derived.Deep.RegionLaw
import Derived.Laws.ResultCell
import Derived.Test.YtbgkalkipalndaaDoorMC1
/-! The program's small functions on texts: setText, readSet. -/
namespace Go.Proofs.YtbgkalkipalndaaDoor
open Go.RowKit

/-- A byte's cell. -/
def byV (b : UInt8) : Value := .int .u8 (b.toNat : Int)

theorem info_u8 : (Tryd.prog.info? 5).map (fun i => (i.zero, i.size, i.bytes)) = some (some (.int .u8 0), 1, 1) := by kernel_rfl

/-- 'out = append(out, b)' on a slice of bytes that the call itself has made. -/
theorem append_u8 {w : World} {ops : Array Oper} {rest : List Oper} {o : Oper} {a : Act} {Q : Exit → Act → World → Prop} (hgd : o.guard = none) {s y : Operand}
    (ho : o.op = .call { callee := .builtin .append, args := #[s, y], argTypes := #[69, 69] })
    {base : Nat} {v : Value} {xs : List UInt8} {x : UInt8} (hown : w.ownsRow base 5 1 v xs.length (xs.map byV)) (hbase : base ≤ w.heap.size) (hl : xs.length ≤ 1099511627776)
    (hs : a.eval s = v) (hy : a.eval y = .slice (some ⟨w.heap.size, 0, none⟩) 1 1)
    (hK : ∀ v' w', w'.ownsRow base 5 1 v' (xs ++ [x]).length ((xs ++ [x]).map byV) → w.grownBy w' v.ownBlock → Below base w w' → wpList Tryd.prog ops Q rest (a.put o.dst v') w') :
    wpList Tryd.prog ops Q (o :: rest) a (w.alloc (.cells #[byV x] 5)) := by
  obtain ⟨i0, hi, hz0, hz1, hz2⟩ := info_parts info_u8
  refine wpList_append_own _ hgd s y 69 ho base 5 i0 (.int .u8 0) 1 1 Tryd.underlying69 hi hz0 hz1 hz2 rfl (by decide) v _ _ hs (hown.alloc _) ⟨w.heap.size, 0, none⟩ 1 1 [byV x] hy rfl (cell_one_new _ _ _) (by simp [Value.oneCell', byV]) (by unfold maxLen; omega) (by omega) (by simp; omega) ?_
  intro v' w1 hown1 hgrow1 _
  have hg : w.grownBy w1 v.ownBlock := (World.grownBy_alloc w _ _).trans hgrow1
  refine hK v' w1 (by simpa using hown1) hg ((Below.refl base w).grown hg hbase (fun k hk => (hown.lt k hk).1))

/-- Owned bytes, made a string. -/
theorem bytes_str {w : World} {base : Nat} {v : Value} {xs : List UInt8} (h : w.ownsRow base 5 1 v xs.length (xs.map byV)) : (convert 69 9 v).run Tryd.prog w = .ok (.string ⟨xs.toArray⟩) w := by
  rcases h.2 with ⟨rfl, hn⟩ | ⟨g, cap, cur, rfl, _, hg, _⟩
  · have hx : xs = [] := List.eq_nil_of_length_eq_zero hn
    subst hx
    exact run_convert_bytes_nil w 69 5 Tryd.underlying69 Tryd.underlying5 0 0 9 Tryd.underlying9
  · refine run_convert_bytes_back w 69 9 5 ⟨g, 0, none⟩ cap xs Tryd.underlying69 Tryd.underlying5 Tryd.underlying9 (fun j hj => ?_)
    have := h.cells (g := g) rfl j (byV xs[j]) (by simp [hj])
    exact this

theorem arr6 (k : Nat) (hk : k < 6) (w : World) : (Instr.index 82 (.agg #[.int .u8 48, .int .u8 49, .int .u8 50, .int .u8 51, .int .u8 52, .int .u8 53]) (.int .i64 (k : Int))).run Tryd.prog w = .ok (.int .u8 (48 + (k : Int))) w := by
  rcases (show k = 0 ∨ k = 1 ∨ k = 2 ∨ k = 3 ∨ k = 4 ∨ k = 5 by omega) with rfl | rfl | rfl | rfl | rfl | rfl <;> kernel_rfl

theorem dig_val {k : Nat} (hk : k < 6) : byV (UInt8.ofNat (48 + k)) = .int .u8 (48 + (k : Int)) := by
  rcases (show k = 0 ∨ k = 1 ∨ k = 2 ∨ k = 3 ∨ k = 4 ∨ k = 5 by omega) with rfl | rfl | rfl | rfl | rfl | rfl <;> rfl

set_option maxRecDepth 100000 in
set_option maxHeartbeats 2000000 in
theorem setText_any (f : Nat) (hf : f < 64) (w : World) : Calls Tryd.prog 38 #[.int .i64 (f : Int)] w fun e w' => e = .returned (.string ⟨(digL (f : Int)).toArray⟩) ∧ Below w.heap.size w w' := by
  have hcv := Lib.run_convert_bytes_const (P := Tryd.prog) w 69 5 #[.int .u8 48, .int .u8 49, .int .u8 50, .int .u8 51, .int .u8 52, .int .u8 53] 6 6 Tryd.underlying69 Tryd.underlying5
  have hap : ∀ W : World, (Instr.arrayAt 82 (.slice (some ⟨w.heap.size, 0, none⟩) 6 6)).run Tryd.prog W = .ok (.pointer (some ⟨w.heap.size, 0, none⟩)) W := fun _ => by kernel_rfl
  have hm0 : (w.alloc (.cells #[.int .u8 48, .int .u8 49, .int .u8 50, .int .u8 51, .int .u8 52, .int .u8 53] 5 (6, 7))).cell? ⟨w.heap.size, 0, none⟩ = some (.int .u8 48) := World.cell?_alloc_mark w #[.int .u8 48, .int .u8 49, .int .u8 50, .int .u8 51, .int .u8 52, .int .u8 53] 5 (6, 7) 0
  have hm1 : (w.alloc (.cells #[.int .u8 48, .int .u8 49, .int .u8 50, .int .u8 51, .int .u8 52, .int .u8 53] 5 (6, 7))).cell? ⟨w.heap.size, 1, none⟩ = some (.int .u8 49) := World.cell?_alloc_mark w #[.int .u8 48, .int .u8 49, .int .u8 50, .int .u8 51, .int .u8 52, .int .u8 53] 5 (6, 7) 1
  have hm2 : (w.alloc (.cells #[.int .u8 48, .int .u8 49, .int .u8 50, .int .u8 51, .int .u8 52, .int .u8 53] 5 (6, 7))).cell? ⟨w.heap.size, 2, none⟩ = some (.int .u8 50) := World.cell?_alloc_mark w #[.int .u8 48, .int .u8 49, .int .u8 50, .int .u8 51, .int .u8 52, .int .u8 53] 5 (6, 7) 2
  have hm3 : (w.alloc (.cells #[.int .u8 48, .int .u8 49, .int .u8 50, .int .u8 51, .int .u8 52, .int .u8 53] 5 (6, 7))).cell? ⟨w.heap.size, 3, none⟩ = some (.int .u8 51) := World.cell?_alloc_mark w #[.int .u8 48, .int .u8 49, .int .u8 50, .int .u8 51, .int .u8 52, .int .u8 53] 5 (6, 7) 3
  have hm4 : (w.alloc (.cells #[.int .u8 48, .int .u8 49, .int .u8 50, .int .u8 51, .int .u8 52, .int .u8 53] 5 (6, 7))).cell? ⟨w.heap.size, 4, none⟩ = some (.int .u8 52) := World.cell?_alloc_mark w #[.int .u8 48, .int .u8 49, .int .u8 50, .int .u8 51, .int .u8 52, .int .u8 53] 5 (6, 7) 4
  have hm5 : (w.alloc (.cells #[.int .u8 48, .int .u8 49, .int .u8 50, .int .u8 51, .int .u8 52, .int .u8 53] 5 (6, 7))).cell? ⟨w.heap.size, 5, none⟩ = some (.int .u8 53) := World.cell?_alloc_mark w #[.int .u8 48, .int .u8 49, .int .u8 50, .int .u8 51, .int .u8 52, .int .u8 53] 5 (6, 7) 5
  have HE : Hid (digL (f : Int) = digK f 6) := hid (by unfold digL; rw [Int.toNat_natCast])
  have HL : Hid (∀ k, k ≤ 6 → (digK f k).length ≤ 10) := hid (fun k hk => by
    unfold digK
    rw [List.length_map]
    exact Nat.le_trans (List.length_filter_le _ _) (by simp; omega))
  rw [HE.out]
  go_enter Tryd.func38, Tryd.ntmps38
  go_wp2_with fail
  go_loopw [4, 12] (fun tv iv wr => ∃ k : Nat, k ≤ 6 ∧ iv = .int .i64 k ∧ wr.ownsRow w.heap.size 5 1 tv (digK f k).length ((digK f k).map byV) ∧ Below w.heap.size w wr) (fun _ iv _ => 6 - (intOf iv).toNat)
  case atStart =>
    refine ⟨0, by omega, rfl, World.ownsRow_nil _ _ _ _, ?_⟩
    repeat (first | exact Below.refl _ _ | refine Below.alloc ?_ (by simp <;> omega) _ | refine Below.setCell ?_ (by simp <;> omega) _)
  case round =>
    obtain ⟨k, hk, rfl, hown, hB⟩ := hrel
    have HB := hid hB
    have hsz := hB.size
    clear hB
    by_cases hlt : k < 6
    · have hbit := bit_one (v := k) hf
      have hi0 : (0 : Int) ≤ (k : Int) := by omega
      have hi1 : (k : Int) < 6 := by omega
      have hix := arr6 k hlt
      have Hs := hid (digK_succ f k)
      have hll := Nat.le_trans (HL.out k hk) (show 10 ≤ 1099511627776 by decide)
      have Hd := hid (dig_val hlt)
      cases hb1 : bitN f k
      · rw [hb1] at hbit Hs
        simp only [Bool.false_eq_true, if_false] at hbit
        clear hb1
        go_wp2_with fail
        go_roundw
        case rel => exact ⟨k + 1, by omega, by go_num, by rw [Hs.out]; simpa using hown, HB.out⟩
        case measure => simp [intOf]; omega
      · rw [hb1] at hbit Hs
        simp only [if_true] at hbit
        clear hb1
        go_wp2_with (first
          | (at_builtin; rw [← Hd.out]; refine append_u8 rfl rfl hown hsz hll rfl rfl ?_; intro v' w2 hown2 hgrow2 hB2)
          | fail)
        go_roundw
        case rel => exact ⟨k + 1, by omega, by go_num, by rw [Hs.out]; exact hown2, HB.out.trans hB2⟩
        case measure => simp [intOf]; omega
    · obtain rfl : k = 6 := by omega
      have hbs := bytes_str hown
      go_wp2_with fail
      go_ret
      exact ⟨rfl, HB.out⟩

theorem bytesRow_get (l : List UInt8) (cap k : Nat) (hk : k < l.length) : (bytesRow ⟨l.toArray⟩ cap)[k]? = some (.int .u8 ((l[k]?.getD 0).toNat : Int)) := by
  have := bytesRow_at ⟨l.toArray⟩ cap k (by simpa using hk)
  rw [this]
  simp [List.getElem?_eq_getElem hk]

/-- '[]byte(s)'. -/
theorem bytes_made (l : List UInt8) (w : World) : ∃ cap W1, (convert 9 69 (.string ⟨l.toArray⟩)).run Tryd.prog w = .ok (.slice (some ⟨w.heap.size, 0, none⟩) l.length cap) W1 ∧ Below w.heap.size w W1 ∧
    ∀ k (_ : k < l.length), W1.cell? ⟨w.heap.size, k, none⟩ = some (.int .u8 ((l[k]?.getD 0).toNat : Int)) := by
  refine ⟨_, _, run_bytes_of_string w 9 69 5 ⟨l.toArray⟩ Tryd.underlying9 Tryd.underlying69 Tryd.underlying5, ?_, fun k hk => ?_⟩
  · exact (Below.refl _ w).drew.alloc (Nat.le_refl _) _
  · exact (World.cell?_alloc_mark w.drew _ _ _ k).trans (bytesRow_get l _ k hk)

set_option maxRecDepth 100000 in
set_option maxHeartbeats 2000000 in
theorem readSet_any (l : List UInt8) (n : Nat) (h6 : n ≤ 6) (hl : l.length ≤ 9223372036854775807) (w : World) :
    Calls Tryd.prog 51 #[.string ⟨l.toArray⟩, .int .i64 (n : Int)] w fun e w' => e = .returned (.tuple #[.int .i64 (((rdSet n l).getD 0 : Nat) : Int), .bool (rdSet n l).isSome]) ∧ Below w.heap.size w w' := by
  obtain ⟨cap, W1, hconv, hB1, hcells⟩ := bytes_made l w
  have Hcells := hid hcells
  have HB1 := hid hB1
  obtain ⟨s, hs⟩ : ∃ s : ByteArray, s = ⟨l.toArray⟩ := ⟨_, rfl⟩
  rw [← hs] at hconv ⊢
  clear hs hcells hB1
  go_enter Tryd.func51, Tryd.ntmps51
  go_wp2_with fail
  go_loop [6, 13] (fun ov iv => ∃ k x : Nat, k ≤ l.length ∧ iv = .int .i64 k ∧ ov = .int .i64 (x : Int) ∧ Hid (x < 64 ∧ rdF n 0 l = rdF n x (l.drop k))) (fun _ iv => l.length - (intOf iv).toNat)
  case atStart => exact ⟨0, 0, Nat.zero_le _, rfl, rfl, hid ⟨by decide, rfl⟩⟩
  case round =>
    clear hconv
    obtain ⟨k, x, hk, rfl, rfl, HS⟩ := hrel
    by_cases hlt : k < l.length
    · have hck := Hcells.out k hlt
      obtain ⟨b, hb⟩ : ∃ b : UInt8, b = l[k]?.getD 0 := ⟨_, rfl⟩
      have Hdr : Hid (l.drop k = b :: l.drop (k + 1)) := hid (by
        rw [List.drop_eq_getElem_cons hlt, hb, List.getElem?_eq_getElem hlt]; rfl)
      rw [← hb] at hck
      clear hb
      obtain ⟨c, hc⟩ : ∃ c : Nat, c = b.toNat := ⟨_, rfl⟩
      have hc256 : c < 256 := by rw [hc]; exact b.toNat_lt
      rw [← hc] at hck
      have hi0 : (0 : Int) ≤ (k : Int) := by omega
      have hi1 : (k : Int) < (l.length : Int) := by omega
      by_cases hin : 48 ≤ c ∧ c < 48 + n
      · obtain ⟨v, rfl⟩ : ∃ v, c = 48 + v := ⟨c - 48, by omega⟩
        have hv6 : v < 6 := by omega
        have hor := or_bitsX ⟨x, HS.out.1⟩ ⟨v, hv6⟩
        simp only at hor
        have HN : Hid (x ||| 2 ^ v < 64 ∧ rdF n 0 l = rdF n (x ||| 2 ^ v) (l.drop (k + 1))) := hid ⟨by
          have h2 : 2 ^ v < 2 ^ 6 := Nat.pow_lt_pow_right (by decide) hv6
          exact Nat.or_lt_two_pow (n := 6) HS.out.1 h2, by
          rw [HS.out.2, Hdr.out, rdF, ← hc, if_pos hin, Nat.add_sub_cancel_left]⟩
        have hd1 : ((48 + v : Nat) : Int) = 48 + (v : Int) := by omega
        rw [hd1] at hck
        have hsub : (48 : Int) + (v : Int) - 48 = (v : Int) := by omega
        have hv0 : (0 : Int) ≤ (v : Int) := by omega
        have hv1 : (v : Int) < 6 := by omega
        have hvn : (v : Int) < (n : Int) := by omega
        clear hd1 hc hin
        go_wp2_with fail
        go_round
        case rel => exact ⟨k + 1, x ||| 2 ^ v, by omega, by go_num, rfl, HN.out⟩
        case measure => simp [intOf]; omega
      · have HR : Hid (rdSet n l = none) := hid (by
          unfold rdSet
          rw [HS.out.2, Hdr.out, rdF, ← hc, if_neg hin])
        have hc0 : (0 : Int) ≤ (c : Int) := by omega
        have hc1 : (c : Int) < 256 := by omega
        by_cases hlo : c < 48
        · have hda : decide ((c : Int) - 48 < 0) = true := decide_eq_true (by omega)
          clear hc hin hlo
          go_wp2_with fail
          go_ret2
          exact ⟨by rw [HR.out]; rfl, HB1.out⟩
        · have hda : decide ((c : Int) - 48 < 0) = false := decide_eq_false (by omega)
          have hdb : decide ((n : Int) ≤ (c : Int) - 48) = true := decide_eq_true (by omega)
          clear hc hin hlo
          go_wp2_with fail
          go_ret2
          exact ⟨by rw [HR.out]; rfl, HB1.out⟩
    · obtain rfl : k = l.length := by omega
      have HE : Hid (rdSet n l = if x = 0 then none else some x) := hid (by
        unfold rdSet
        rw [HS.out.2, List.drop_length, rdF])
      by_cases hx0 : x = 0
      · subst hx0
        go_wp2_with fail
        go_ret2
        exact ⟨by rw [HE.out]; rfl, HB1.out⟩
      · have hgt : ((x : Int) != 0) = true := by simp; omega
        go_wp2_with fail
        go_ret2
        exact ⟨by rw [HE.out, if_neg hx0]; rfl, HB1.out⟩

end Go.Proofs.YtbgkalkipalndaaDoor

/-! The library's strings.Split, strings.Join, strconv.FormatInt: that this program holds their very bodies. -/
namespace Go.Proofs.YtbgkalkipalndaaDoor
open Go.Shelf

def splitT_ren : Go.Shelf.Ren := ⟨fun | 146 => 50 | 221 => 69 | 268 => 81 | 138 => 82 | 143 => 83 | 195 => 95 | 197 => 96 | 218 => 97 | 219 => 98 | 260 => 104 | 217 => 105 | 225 => 106 | 224 => 107 | 267 => 108 | 266 => 119 | 314 => 120 | n => n, fun | 9 => 9 | 31 => 55 | 3 => 3 | 4 => 4 | 0 => 0 | 105 => 120 | 21 => 21 | 5 => 5 | 46 => 114 | 119 => 137 | 139 => 140 | 138 => 139 | 146 => 141 | 51 => 111 | n => n, fun | 1 => 1 | 3 => 4 | 4 => 5 | n => n⟩
theorem splitT : Go.Proofs.Lays.n146 Tryd.prog splitT_ren := {
  mixed := by kernel_rfl,
  f138 := Tryd.func82.trans (congrArg some (by kernel_rfl)),
  f143 := Tryd.func83.trans (congrArg some (by kernel_rfl)),
  f146 := Tryd.func50.trans (congrArg some (by kernel_rfl)),
  f195 := Tryd.func95.trans (congrArg some (by kernel_rfl)),
  f197 := Tryd.func96.trans (congrArg some (by kernel_rfl)),
  f217 := Tryd.func105.trans (congrArg some (by kernel_rfl)),
  f218 := Tryd.func97.trans (congrArg some (by kernel_rfl)),
  f219 := Tryd.func98.trans (congrArg some (by kernel_rfl)),
  f221 := Tryd.func69.trans (congrArg some (by kernel_rfl)),
  f224 := Tryd.func107.trans (congrArg some (by kernel_rfl)),
  f225 := Tryd.func106.trans (congrArg some (by kernel_rfl)),
  f260 := Tryd.func104.trans (congrArg some (by kernel_rfl)),
  f266 := Tryd.func119.trans (congrArg some (by kernel_rfl)),
  f267 := Tryd.func108.trans (congrArg some (by kernel_rfl)),
  f268 := Tryd.func81.trans (congrArg some (by kernel_rfl)),
  f314 := Tryd.func120.trans (congrArg some (by kernel_rfl)),
  t0 := Tryd.underlying0,
  a0 := Tryd.isAgg0,
  z0 := Tryd.sizeOf0,
  v0 := Tryd.zeroValue0,
  t3 := Tryd.underlying3,
  a3 := Tryd.isAgg3,
  z3 := Tryd.sizeOf3,
  v3 := Tryd.zeroValue3,
  t4 := Tryd.underlying4,
  a4 := Tryd.isAgg4,
  z4 := Tryd.sizeOf4,
  v4 := Tryd.zeroValue4,
  t5 := Tryd.underlying5,
  a5 := Tryd.isAgg5,
  z5 := Tryd.sizeOf5,
  v5 := Tryd.zeroValue5,
  t9 := Tryd.underlying9,
  a9 := Tryd.isAgg9,
  z9 := Tryd.sizeOf9,
  v9 := Tryd.zeroValue9,
  t21 := Tryd.underlying21,
  a21 := Tryd.isAgg21,
  z21 := Tryd.sizeOf21,
  v21 := Tryd.zeroValue21,
  t31 := Tryd.underlying55,
  a31 := Tryd.isAgg55,
  z31 := Tryd.sizeOf55,
  v31 := Tryd.zeroValue55,
  t46 := Tryd.underlying114,
  a46 := Tryd.isAgg114,
  z46 := Tryd.sizeOf114,
  v46 := Tryd.zeroValue114,
  t51 := Tryd.underlying111,
  a51 := Tryd.isAgg111,
  z51 := Tryd.sizeOf111,
  v51 := Tryd.zeroValue111,
  t105 := Tryd.underlying120,
  a105 := Tryd.isAgg120,
  z105 := Tryd.sizeOf120,
  v105 := Tryd.zeroValue120,
  t119 := Tryd.underlying137,
  a119 := Tryd.isAgg137,
  z119 := Tryd.sizeOf137,
  t138 := Tryd.underlying139,
  a138 := Tryd.isAgg139,
  z138 := Tryd.sizeOf139,
  v138 := Tryd.zeroValue139,
  t139 := Tryd.underlying140,
  a139 := Tryd.isAgg140,
  z139 := Tryd.sizeOf140,
  v139 := Tryd.zeroValue140,
  t146 := Tryd.underlying141,
  a146 := Tryd.isAgg141,
  z146 := Tryd.sizeOf141,
  v146 := Tryd.zeroValue141,
  g1 := by kernel_rfl,
  g3 := by kernel_rfl,
  g4 := by kernel_rfl }

def joinT_ren : Go.Shelf.Ren := ⟨fun | 156 => 40 | 165 => 65 | 166 => 66 | 169 => 67 | 240 => 79 | 241 => 80 | 276 => 93 | 277 => 94 | n => n, fun | 31 => 55 | 9 => 9 | 3 => 3 | 4 => 4 | 0 => 0 | 20 => 20 | 72 => 85 | 76 => 89 | 70 => 83 | 37 => 69 | 75 => 88 | 127 => 104 | 164 => 116 | 5 => 5 | 80 => 91 | n => n, fun | n => n⟩
theorem joinT : Go.Proofs.Lays.n156 Tryd.prog joinT_ren := {
  mixed := by kernel_rfl,
  f156 := Tryd.func40.trans (congrArg some (by kernel_rfl)),
  f165 := Tryd.func65.trans (congrArg some (by kernel_rfl)),
  f166 := Tryd.func66.trans (congrArg some (by kernel_rfl)),
  f169 := Tryd.func67.trans (congrArg some (by kernel_rfl)),
  f240 := Tryd.func79.trans (congrArg some (by kernel_rfl)),
  f241 := Tryd.func80.trans (congrArg some (by kernel_rfl)),
  f276 := Tryd.func93.trans (congrArg some (by kernel_rfl)),
  f277 := Tryd.func94.trans (congrArg some (by kernel_rfl)),
  t0 := Tryd.underlying0,
  a0 := Tryd.isAgg0,
  z0 := Tryd.sizeOf0,
  v0 := Tryd.zeroValue0,
  t3 := Tryd.underlying3,
  a3 := Tryd.isAgg3,
  z3 := Tryd.sizeOf3,
  v3 := Tryd.zeroValue3,
  t4 := Tryd.underlying4,
  a4 := Tryd.isAgg4,
  z4 := Tryd.sizeOf4,
  v4 := Tryd.zeroValue4,
  t9 := Tryd.underlying9,
  a9 := Tryd.isAgg9,
  z9 := Tryd.sizeOf9,
  v9 := Tryd.zeroValue9,
  t20 := Tryd.underlying20,
  a20 := Tryd.isAgg20,
  z20 := Tryd.sizeOf20,
  v20 := Tryd.zeroValue20,
  t31 := Tryd.underlying55,
  a31 := Tryd.isAgg55,
  z31 := Tryd.sizeOf55,
  v31 := Tryd.zeroValue55,
  t37 := Tryd.underlying69,
  a37 := Tryd.isAgg69,
  z37 := Tryd.sizeOf69,
  v37 := Tryd.zeroValue69,
  t70 := Tryd.underlying83,
  a70 := Tryd.isAgg83,
  z70 := Tryd.sizeOf83,
  v70 := Tryd.zeroValue83,
  t72 := Tryd.underlying85,
  a72 := Tryd.isAgg85,
  z72 := Tryd.sizeOf85,
  v72 := Tryd.zeroValue85,
  t75 := Tryd.underlying88,
  a75 := Tryd.isAgg88,
  z75 := Tryd.sizeOf88,
  v75 := Tryd.zeroValue88,
  t76 := Tryd.underlying89,
  a76 := Tryd.isAgg89,
  z76 := Tryd.sizeOf89,
  v76 := Tryd.zeroValue89,
  t127 := Tryd.underlying104,
  a127 := Tryd.isAgg104,
  z127 := Tryd.sizeOf104,
  v127 := Tryd.zeroValue104,
  t164 := Tryd.underlying116,
  a164 := Tryd.isAgg116,
  z164 := Tryd.sizeOf116,
  v164 := Tryd.zeroValue116 }

def fmtT_ren : Go.Shelf.Ren := ⟨fun | 173 => 39 | 246 => 64 | 283 => 75 | 284 => 76 | 285 => 77 | 286 => 78 | 129 => 89 | 317 => 88 | 318 => 90 | 319 => 91 | 320 => 92 | 337 => 102 | 338 => 103 | n => n, fun | 2 => 2 | 3 => 3 | 9 => 9 | 4 => 4 | 171 => 99 | 0 => 0 | 53 => 93 | 37 => 69 | 5 => 5 | 173 => 102 | 212 => 110 | 51 => 111 | 20 => 20 | 213 => 112 | 46 => 114 | 232 => 135 | 233 => 136 | n => n, fun | 17 => 0 | 18 => 2 | 19 => 3 | n => n⟩
theorem fmtT : Go.Proofs.Lays.n173 Tryd.prog fmtT_ren := {
  mixed := by kernel_rfl,
  f129 := Tryd.func89.trans (congrArg some (by kernel_rfl)),
  f173 := Tryd.func39.trans (congrArg some (by kernel_rfl)),
  f246 := Tryd.func64.trans (congrArg some (by kernel_rfl)),
  f283 := Tryd.func75.trans (congrArg some (by kernel_rfl)),
  f284 := Tryd.func76.trans (congrArg some (by kernel_rfl)),
  f285 := Tryd.func77.trans (congrArg some (by kernel_rfl)),
  f286 := Tryd.func78.trans (congrArg some (by kernel_rfl)),
  f317 := Tryd.func88.trans (congrArg some (by kernel_rfl)),
  f318 := Tryd.func90.trans (congrArg some (by kernel_rfl)),
  f319 := Tryd.func91.trans (congrArg some (by kernel_rfl)),
  f320 := Tryd.func92.trans (congrArg some (by kernel_rfl)),
  f337 := Tryd.func102.trans (congrArg some (by kernel_rfl)),
  f338 := Tryd.func103.trans (congrArg some (by kernel_rfl)),
  t0 := Tryd.underlying0,
  a0 := Tryd.isAgg0,
  z0 := Tryd.sizeOf0,
  v0 := Tryd.zeroValue0,
  t2 := Tryd.underlying2,
  a2 := Tryd.isAgg2,
  z2 := Tryd.sizeOf2,
  v2 := Tryd.zeroValue2,
  t3 := Tryd.underlying3,
  a3 := Tryd.isAgg3,
  z3 := Tryd.sizeOf3,
  v3 := Tryd.zeroValue3,
  t4 := Tryd.underlying4,
  a4 := Tryd.isAgg4,
  z4 := Tryd.sizeOf4,
  v4 := Tryd.zeroValue4,
  t5 := Tryd.underlying5,
  a5 := Tryd.isAgg5,
  z5 := Tryd.sizeOf5,
  v5 := Tryd.zeroValue5,
  t9 := Tryd.underlying9,
  a9 := Tryd.isAgg9,
  z9 := Tryd.sizeOf9,
  v9 := Tryd.zeroValue9,
  t20 := Tryd.underlying20,
  a20 := Tryd.isAgg20,
  z20 := Tryd.sizeOf20,
  v20 := Tryd.zeroValue20,
  t37 := Tryd.underlying69,
  a37 := Tryd.isAgg69,
  z37 := Tryd.sizeOf69,
  v37 := Tryd.zeroValue69,
  t46 := Tryd.underlying114,
  a46 := Tryd.isAgg114,
  z46 := Tryd.sizeOf114,
  v46 := Tryd.zeroValue114,
  t51 := Tryd.underlying111,
  a51 := Tryd.isAgg111,
  z51 := Tryd.sizeOf111,
  v51 := Tryd.zeroValue111,
  t53 := Tryd.underlying93,
  a53 := Tryd.isAgg93,
  z53 := Tryd.sizeOf93,
  v53 := Tryd.zeroValue93,
  t171 := Tryd.underlying99,
  a171 := Tryd.isAgg99,
  z171 := Tryd.sizeOf99,
  v171 := Tryd.zeroValue99,
  t173 := Tryd.underlying102,
  a173 := Tryd.isAgg102,
  z173 := Tryd.sizeOf102,
  v173 := Tryd.zeroValue102,
  t212 := Tryd.underlying110,
  a212 := Tryd.isAgg110,
  z212 := Tryd.sizeOf110,
  v212 := Tryd.zeroValue110,
  t213 := Tryd.underlying112,
  a213 := Tryd.isAgg112,
  z213 := Tryd.sizeOf112,
  t232 := Tryd.underlying135,
  a232 := Tryd.isAgg135,
  z232 := Tryd.sizeOf135,
  v232 := Tryd.zeroValue135,
  t233 := Tryd.underlying136,
  a233 := Tryd.isAgg136,
  z233 := Tryd.sizeOf136,
  v233 := Tryd.zeroValue136,
  g17 := by kernel_rfl,
  g18 := by kernel_rfl,
  g19 := by kernel_rfl }

end Go.Proofs.YtbgkalkipalndaaDoor

/-! The model's test whether something is a complex. -/
namespace Go.Proofs.YtbgkalkipalndaaDoor
open Go.RowKit

theorem below_int (x : Int) (w : World) (h0 : 0 ≤ x) (h1 : x < 64) :
    Calls Tryd.prog 55 #[.int .i64 x] w fun e w' => ∃ v, e = .returned v ∧ w'.ownsRow w.heap.size 2 1 v (belowR x.toNat 63).length ((belowR x.toNat 63).map (Value.int .i64)) ∧ Below w.heap.size w w' := by
  have := below_any x.toNat w (by omega)
  rwa [Int.toNat_of_nonneg h0] at this

theorem below_as (x : Int) (ys : List Int) (w : World) (h0 : 0 ≤ x) (h1 : x < 64) (hys : ys = belowR x.toNat 63) :
    Calls Tryd.prog 55 #[.int .i64 x] w fun e w' => ∃ a cap, e = .returned (.slice a ys.length cap) ∧ SlI w' w'.heap.size a ys ∧ Below w.heap.size w w' := by
  have h := below_int x w h0 h1
  rw [← hys] at h
  refine h.mono ?_
  rintro e w' ⟨v, rfl, hown, hb⟩
  obtain ⟨_, a, cap, rfl, hs⟩ := ownsRow_slI hown
  exact ⟨a, cap, rfl, hs, hb⟩

theorem is_no_range (V : Int) (a : Option Addr) (cap : Nat) (fs : List Int) (w : World) (h : ¬ (1 ≤ V ∧ V ≤ 6)) :
    Calls Tryd.prog 34 #[.agg #[.int .i64 V, .slice a fs.length cap]] w fun e w' => e = .returned (.bool false) ∧ Below w.heap.size w w' := by
  go_enter Tryd.func34, Tryd.ntmps34
  go_wp2_with (go_at_call 53; refine (in_no _ _ _ _ h).mono ?_; rintro e w' ⟨rfl, rfl⟩)
  go_ret
  exact ⟨rfl, (Below.refl _ w).alloc (Nat.le_refl _) _⟩

set_option maxHeartbeats 1000000 in
theorem is_any (V : Int) (b off : Nat) (cap : Nat) (fs : List Int) (w : World) (h1 : 1 ≤ V) (h2 : V ≤ 6) (hb : b < w.heap.size)
    (hc : ∀ i, i < fs.length → w.cell? ⟨b, off + i, none⟩ = some (.int .i64 (fs[i]?.getD 0))) (hl : fs.length ≤ 1048576) :
    Calls Tryd.prog 34 #[.agg #[.int .i64 V, .slice (some ⟨b, off, none⟩) fs.length cap]] w fun e w' => e = .returned (.bool (isCB V fs)) ∧ Below w.heap.size w w' := by
  have hV0 : 0 ≤ V := by omega
  have hW1 : Below w.heap.size w (w.alloc (.cells #[.int .i64 V, .slice (some ⟨b, off, none⟩) fs.length cap] 24)) := (Below.refl _ w).alloc (Nat.le_refl _) _
  go_enter Tryd.func34, Tryd.ntmps34
  go_wp2_with (go_at_call 53; refine (in_yes _ _ _ _ h1 h2).mono ?_; rintro e w' ⟨rfl, rfl⟩)
  go_loopw [3] (fun i wr => ∃ k : Nat, k ≤ fs.length ∧ i = .int .i64 k ∧ Hid (∀ j, j < k → (1 ≤ fs[j]?.getD 0 ∧ fs[j]?.getD 0 ≤ allV V) ∧ (0 < j → fs[j - 1]?.getD 0 < fs[j]?.getD 0)) ∧
      Below (w.heap.size + 1) (w.alloc (.cells #[.int .i64 V, .slice (some ⟨b, off, none⟩) fs.length cap] 24)) wr) (fun i _ => fs.length - (intOf i).toNat)
  case atStart => exact ⟨0, Nat.zero_le _, rfl, hid (by omega), Below.refl _ _⟩
  case round =>
    obtain ⟨k, hk, rfl, Hl, hB⟩ := hrel
    have c0 : wr.cell? ⟨w.heap.size, 0, none⟩ = some (.int .i64 V) := (hB.cell (p := ⟨w.heap.size, 0, none⟩) (by simp)).trans (by simp [go_sem])
    have c1 : wr.cell? ⟨w.heap.size, 1, none⟩ = some (.slice (some ⟨b, off, none⟩) fs.length cap) := (hB.cell (p := ⟨w.heap.size, 1, none⟩) (by simp)).trans (by simp [go_sem])
    by_cases hlt : k < fs.length
    · have hck : wr.cell? ⟨b, off + k, none⟩ = some (.int .i64 (fs[k]?.getD 0)) := (hB.cell (p := ⟨b, off + k, none⟩) (by simp; omega)).trans ((hW1.cell (p := ⟨b, off + k, none⟩) hb).trans (hc k hlt))
      obtain ⟨x, hx⟩ : ∃ x, x = fs[k]?.getD 0 := ⟨_, rfl⟩
      rw [← hx] at hck
      have Hx := hid hx
      clear hx
      have hi0 : (0 : Int) ≤ (k : Int) := by omega
      have hi1 : (k : Int) < (fs.length : Int) := by omega
      by_cases hr : 1 ≤ x ∧ x ≤ allV V
      · by_cases hk0 : 0 < k
        rotate_left
        · have hd : decide (0 < k) = false := decide_eq_false hk0
          have Hk := hid hk0
          clear hk0
          go_wp2_with fail
          go_quiet (first
            | (go_at_call 54; exact quiet_of_eq (all_any _ _ hV0 h2))
            | (go_at_call 53; exact quiet_of_eq (in_yes _ _ _ _ hr.1 hr.2)))
          go_wp2_with fail
          go_roundw
          case rel =>
            have hk0 := Hk.out
            have hx := Hx.out
            exact ⟨k + 1, by omega, by go_num, fun j hj => (by by_cases hjk : j < k
                                                               · exact Hl.out j hjk
                                                               · obtain rfl : j = k := by omega
                                                                 exact ⟨hx ▸ hr, fun h => absurd h hk0⟩), hB.trans ⟨rfl, rfl, rfl, Nat.le_refl _, fun _ _ => rfl⟩⟩
          case measure => simp [intOf]; omega
        · have hd : decide (0 < k) = true := decide_eq_true hk0
          obtain ⟨y, hy⟩ : ∃ y, y = fs[k - 1]?.getD 0 := ⟨_, rfl⟩
          have hck1 : wr.cell? ⟨b, off + (k - 1), none⟩ = some (.int .i64 y) := by rw [hy]; exact (hB.cell (p := ⟨b, off + (k - 1), none⟩) (by simp; omega)).trans ((hW1.cell (p := ⟨b, off + (k - 1), none⟩) hb).trans (hc (k - 1) (by omega)))
          have Hy := hid hy
          clear hy
          have hi2 : (0 : Int) ≤ (k : Int) - 1 := by omega
          have hi3 : (k : Int) - 1 < (fs.length : Int) := by omega
          by_cases hxy : x ≤ y
          · have hxd : decide (x ≤ y) = true := decide_eq_true hxy
            go_wp2_with fail
            go_quiet (first
              | (go_at_call 54; exact quiet_of_eq (all_any _ _ hV0 h2))
              | (go_at_call 53; exact quiet_of_eq (in_yes _ _ _ _ hr.1 hr.2)))
            go_wp2_with fail
            go_ret
            refine ⟨ret_bool ?_, ?_⟩
            · symm
              refine isCB_false (fun h => ?_)
              have := isC_looks_asc h hk0 hlt
              have hx := Hx.out
              have hy := Hy.out
              omega
            · exact (hW1.trans (hB.mono (by simp))).trans ⟨rfl, rfl, rfl, Nat.le_refl _, fun _ _ => rfl⟩
          · have hxd : decide (x ≤ y) = false := decide_eq_false hxy
            go_wp2_with fail
            go_quiet (first
              | (go_at_call 54; exact quiet_of_eq (all_any _ _ hV0 h2))
              | (go_at_call 53; exact quiet_of_eq (in_yes _ _ _ _ hr.1 hr.2)))
            go_wp2_with fail
            go_roundw
            case rel =>
              have hx := Hx.out
              have hy := Hy.out
              exact ⟨k + 1, by omega, by go_num, fun j hj => (by by_cases hjk : j < k
                                                                 · exact Hl.out j hjk
                                                                 · obtain rfl : j = k := by omega
                                                                   exact ⟨hx ▸ hr, fun _ => by omega⟩), hB.trans ⟨rfl, rfl, rfl, Nat.le_refl _, fun _ _ => rfl⟩⟩
            case measure => simp [intOf]; omega
      · go_wp2_with fail
        go_quiet (first
          | (go_at_call 54; exact quiet_of_eq (all_any _ _ hV0 h2))
          | (go_at_call 53; exact quiet_of_eq (in_no _ _ _ _ hr)))
        go_wp2_with fail
        go_ret
        refine ⟨ret_bool ?_, ?_⟩
        · symm
          refine isCB_false (fun h => hr ?_)
          have hx := Hx.out
          rw [hx]
          exact isC_looks_range h hlt
        · exact (hW1.trans (hB.mono (by simp))).trans ⟨rfl, rfl, rfl, Nat.le_refl _, fun _ _ => rfl⟩
    · go_wp2_with fail
      obtain rfl : k = fs.length := by omega
      have hall := Hl.out
      have Hall := hid hall
      clear hall Hl c0 c1
      have hsz0 := hB.size
      simp only [World.size_alloc] at hsz0
      obtain ⟨wo, rfl⟩ : ∃ wo : World, wo = wr := ⟨_, rfl⟩
      go_loopw [4] (fun i wr => ∃ k : Nat, k ≤ fs.length ∧ i = .int .i64 k ∧ Hid (∀ j, j < k → ∀ y ∈ belowR (fs[j]?.getD 0).toNat 63, y ∈ fs) ∧
          Below (w.heap.size + 1) wo wr) (fun i _ => fs.length - (intOf i).toNat)
      case atStart => exact ⟨0, Nat.zero_le _, rfl, hid (by omega), Below.refl _ _⟩
      case round =>
        obtain ⟨k, hk, rfl, Hl, hB2⟩ := hrel
        have hBB := hB.trans hB2
        have c0 : wr.cell? ⟨w.heap.size, 0, none⟩ = some (.int .i64 V) := (hBB.cell (p := ⟨w.heap.size, 0, none⟩) (by simp)).trans (by simp [go_sem])
        have c1 : wr.cell? ⟨w.heap.size, 1, none⟩ = some (.slice (some ⟨b, off, none⟩) fs.length cap) := (hBB.cell (p := ⟨w.heap.size, 1, none⟩) (by simp)).trans (by simp [go_sem])
        have hBW : Below w.heap.size w wr := hW1.trans (hBB.mono (by simp))
        have hsz2 := hB2.size
        by_cases hlt2 : k < fs.length
        · have hck : wr.cell? ⟨b, off + k, none⟩ = some (.int .i64 (fs[k]?.getD 0)) := (hBW.cell (p := ⟨b, off + k, none⟩) hb).trans (hc k hlt2)
          obtain ⟨x, hx⟩ : ∃ x, x = fs[k]?.getD 0 := ⟨_, rfl⟩
          have hr := (Hall.out k hlt2).1
          have h63 := allV_le h2
          rw [← hx] at hck hr
          have hx0 : 0 ≤ x := by omega
          have hx1 : x < 64 := by omega
          have Hx := hid hx
          clear hx hr h63
          have hi0 : (0 : Int) ≤ (k : Int) := by omega
          have hi1 : (k : Int) < (fs.length : Int) := by omega
          obtain ⟨ys, hys⟩ : ∃ ys, ys = belowR x.toNat 63 := ⟨_, rfl⟩
          have hyl : ys.length ≤ 63 := by rw [hys]; exact belowR_len _ _
          have Hys := hid hys
          clear hys
          have h0w := hBW.size
          go_wp2_with (go_at_call 55; refine (below_as x ys _ hx0 hx1 Hys.out).mono ?_; rintro e w2 ⟨a2, cap2, rfl, hsl, hb2⟩)
          have hB3 := hBB.trans (hb2.mono (by omega))
          have hb2s := hb2.size
          clear c0 c1 hck
          have c0 : w2.cell? ⟨w.heap.size, 0, none⟩ = some (.int .i64 V) := (hB3.cell (p := ⟨w.heap.size, 0, none⟩) (by simp)).trans (by simp [go_sem])
          have c1 : w2.cell? ⟨w.heap.size, 1, none⟩ = some (.slice (some ⟨b, off, none⟩) fs.length cap) := (hB3.cell (p := ⟨w.heap.size, 1, none⟩) (by simp)).trans (by simp [go_sem])
          have hfs : ∀ wz, Below w2.heap.size w2 wz → SlI wz wz.heap.size (some ⟨b, off, none⟩) fs := fun wz hz => by
            have hz0 := hz.size
            exact .inr ⟨b, off, by omega, rfl, fun i hi => ((hW1.trans ((hB3.trans (hz.mono (by omega))).mono (by simp))).cell (p := ⟨b, off + i, none⟩) hb).trans (hc i hi)⟩
          have Hfs := hid hfs
          clear hfs
          have hend : ∀ wz, Below w2.heap.size w2 wz → Below w.heap.size w wz := fun wz hz => (hW1.trans ((hB3.trans (hz.mono (by omega))).mono (by simp)))
          have Hend := hid hend
          have hrnd : ∀ wz, Below w2.heap.size w2 wz → Below (w.heap.size + 1) wo wz := fun wz hz => hB2.trans ((hb2.mono (by omega)).trans (hz.mono (by omega)))
          have Hrnd := hid hrnd
          have Hc := hid hc
          clear hend hrnd hB hB2 hBB hBW hB3 hb2 hc hW1
          rcases hsl with rfl | ⟨b2, off2, hb2, rfl, hc2⟩
          · refine wp_loop_rounds 1 ?_; rw [rounds_succ]
            go_wp2
            go_roundw
            case rel =>
              refine ⟨k + 1, by omega, by go_num, hid (fun j hj => ?_), Hrnd.out _ (Below.refl _ _)⟩
              by_cases hjk : j < k
              · exact Hl.out j hjk
              · obtain rfl : j = k := by omega
                rw [← Hx.out, ← Hys.out]; simp
            case measure => simp [intOf]; omega
          · obtain ⟨wq, rfl⟩ : ∃ wq : World, wq = w2 := ⟨_, rfl⟩
            obtain ⟨wp, rfl⟩ : ∃ wp : World, wp = wr := ⟨_, rfl⟩
            have Hc2 := hid hc2
            clear hc2
            go_loopw [6] (fun i wr => ∃ m : Nat, m ≤ ys.length ∧ i = .int .i64 m ∧ Hid (∀ j, j < m → ys[j]?.getD 0 ∈ fs) ∧
              Below wq.heap.size wq wr) (fun i _ => ys.length - (intOf i).toNat)
            case atStart => exact ⟨0, Nat.zero_le _, rfl, hid (by omega), Below.refl _ _⟩
            case round =>
              obtain ⟨m, hm, rfl, Hm, hB5⟩ := hrel
              have Hend5 := hid (Hend.out _ hB5)
              have Hrnd5 := hid (Hrnd.out _ hB5)
              have d0 := (hB5.cell (p := ⟨w.heap.size, 0, none⟩) (by simp; omega)).trans c0
              have d1 := (hB5.cell (p := ⟨w.heap.size, 1, none⟩) (by simp; omega)).trans c1
              by_cases hlt3 : m < ys.length
              · obtain ⟨y, hy⟩ : ∃ y, y = ys[m]?.getD 0 := ⟨_, rfl⟩
                have hcm : wr.cell? ⟨b2, off2 + m, none⟩ = some (.int .i64 y) := by rw [hy]; exact (hB5.cell (p := ⟨b2, off2 + m, none⟩) hb2).trans (Hc2.out m hlt3)
                have Hy := hid hy
                clear hy
                have hj0 : (0 : Int) ≤ (m : Int) := by omega
                have hj1 : (m : Int) < (ys.length : Int) := by omega
                have hsl5 : SlI wr wr.heap.size (some ⟨b, off, none⟩) fs := Hfs.out _ hB5
                have hsl5' : SlI wr.drew wr.drew.heap.size (some ⟨b, off, none⟩) fs := hsl5
                have Hs5 := hid hsl5'
                clear hsl5 hsl5'
                by_cases hyf : y ∈ fs
                · go_wp2_with fail
                  go_region_with (go_at_call 56; refine (has_yes V y _ cap fs _ Hs5.out hl hyf).mono ?_; rintro e w6 ⟨rfl, hb6⟩)
                  all_goals go_wp2_with fail
                  all_goals
                    have hy := Hy.out
                    have hB6 : Below wq.heap.size wq w6 := hB5.trans (Below.mono (w := wr) ⟨hb6.os, hb6.tape, hb6.output, hb6.size, hb6.block⟩ hB5.size)
                    go_roundw
                    case rel =>
                      refine ⟨m + 1, by omega, by go_num, hid (fun j hj => ?_), hB6⟩
                      by_cases hjm : j < m
                      · exact Hm.out j hjm
                      · obtain rfl : j = m := by omega
                        rw [← hy]; exact hyf
                    case measure => simp [intOf]; omega
                · go_wp2_with fail
                  go_region_with (go_at_call 56; refine (has_no V y _ cap fs _ Hs5.out hl hyf).mono ?_; rintro e w6 ⟨rfl, hb6⟩)
                  all_goals go_wp2_with fail
                  all_goals
                    have hy := Hy.out
                    have hB6 : Below wq.heap.size wq w6 := hB5.trans (Below.mono (w := wr) ⟨hb6.os, hb6.tape, hb6.output, hb6.size, hb6.block⟩ hB5.size)
                    go_ret
                    refine ⟨ret_bool ?_, Hend.out _ hB6⟩
                    symm
                    refine isCB_false (fun h => hyf ?_)
                    refine isC_looks_below h hlt2 ?_
                    rw [← Hx.out, ← Hys.out, hy]
                    exact getD_mem hlt3
              · go_wp2_with fail
                go_roundw
                case rel =>
                  refine ⟨k + 1, by omega, by go_num, hid (fun j hj => ?_), Hrnd5.out⟩
                  by_cases hjk : j < k
                  · exact Hl.out j hjk
                  · obtain rfl : j = k := by omega
                    rw [← Hx.out, ← Hys.out]
                    intro z hz
                    obtain ⟨i, hi, e⟩ := mem_getD hz
                    rw [← e]
                    exact Hm.out i (by omega)
                case measure => simp [intOf]; omega
        · go_wp2
          go_ret
          refine ⟨ret_bool ?_, hBW⟩
          symm
          refine isCB_true (isC_of_looks h1 h2 (fun j hj => (Hall.out j hj).1) (fun j h0 hj => (Hall.out j hj).2 h0) (fun j hj => Hl.out j (by omega)))
end Go.Proofs.YtbgkalkipalndaaDoor

/-! The model's test whether something is a complex, at whatever comes in. -/
namespace Go.Proofs.YtbgkalkipalndaaDoor
open Go.RowKit

set_option maxHeartbeats 400000 in
theorem is_nil (V : Int) (a : Option Addr) (cap : Nat) (w : World) (h1 : 1 ≤ V) (h2 : V ≤ 6) :
    Calls Tryd.prog 34 #[.agg #[.int .i64 V, .slice a 0 cap]] w fun e w' => e = .returned (.bool true) ∧ Below w.heap.size w w' := by
  go_enter Tryd.func34, Tryd.ntmps34
  go_wp2_with (go_at_call 53; refine (in_yes _ _ _ _ h1 h2).mono ?_; rintro e w' ⟨rfl, rfl⟩)
  refine wp_loop_rounds 1 ?_; rw [rounds_succ]
  go_wp2
  refine wp_loop_rounds 1 ?_; rw [rounds_succ]
  go_wp2
  go_ret
  exact ⟨rfl, (Below.refl _ w).alloc (Nat.le_refl _) _⟩

/-- l01Is, whatever comes in. -/
theorem is_all (V : Int) (a : Option Addr) (cap : Nat) (fs : List Int) (w : World) (hx : SlI w w.heap.size a fs) (hl : fs.length ≤ 1048576) :
    Calls Tryd.prog 34 #[.agg #[.int .i64 V, .slice a fs.length cap]] w fun e w' => e = .returned (.bool (isCB V fs)) ∧ Below w.heap.size w w' := by
  by_cases hV : 1 ≤ V ∧ V ≤ 6
  · rcases hx with rfl | ⟨b, off, hb, rfl, hc⟩
    · exact (is_nil V a cap w hV.1 hV.2).mono fun _ _ ⟨he, hw⟩ => ⟨by rw [he, isCB_true (isC_nil hV.1 hV.2)], hw⟩
    · exact is_any V b off cap fs w hV.1 hV.2 hb hc hl
  · exact (is_no_range V a cap fs w hV).mono fun _ _ ⟨he, hw⟩ => ⟨by rw [he, isCB_false (fun h => hV ⟨h.lo, h.hi⟩)], hw⟩

theorem is_yes (V : Int) (a : Option Addr) (cap : Nat) (fs : List Int) (w : World) (hx : SlI w w.heap.size a fs) (hl : fs.length ≤ 1048576) (h : IsC V fs) :
    Calls Tryd.prog 34 #[.agg #[.int .i64 V, .slice a fs.length cap]] w fun e w' => e = .returned (.bool true) ∧ Below w.heap.size w w' :=
  (is_all V a cap fs w hx hl).mono fun _ _ ⟨he, hw⟩ => ⟨by rw [he, isCB_true h], hw⟩

theorem is_no (V : Int) (a : Option Addr) (cap : Nat) (fs : List Int) (w : World) (hx : SlI w w.heap.size a fs) (hl : fs.length ≤ 1048576) (h : ¬ IsC V fs) :
    Calls Tryd.prog 34 #[.agg #[.int .i64 V, .slice a fs.length cap]] w fun e w' => e = .returned (.bool false) ∧ Below w.heap.size w w' :=
  (is_all V a cap fs w hx hl).mono fun _ _ ⟨he, hw⟩ => ⟨by rw [he, isCB_false h], hw⟩


end Go.Proofs.YtbgkalkipalndaaDoor

/-! The program's test whether something is a complex, at whatever comes in. -/
namespace Go.Proofs.YtbgkalkipalndaaDoor
open Go.RowKit Go.Shelf

attribute [local go_sem] Oper.semAt_some

set_option maxRecDepth 100000 in
set_option maxHeartbeats 400000 in
theorem isc_bad (V : Int) (a : Option Addr) (n cap : Nat) (w : World) (h : ¬ (1 ≤ V ∧ V ≤ 6)) :
    CallsIn Fence.wide 10 Tryd.prog 60 #[.agg #[.int .i64 V, .slice a n cap]] w fun e w' => e = .returned (.bool false) ∧ Below w.heap.size w w' := by
  refine callsIn_of_wp_marks Tryd.func60 rfl trivial ?_ rfl
  simp only [Tryd.ntmps60, List.size_toArray, List.length_cons, List.length_nil, Nat.reduceAdd, Nat.reduceSub, Array.replicate_succ, Array.replicate_zero, List.push_toArray, List.append_toArray, List.nil_append, List.cons_append]
  gi_wp2_with (first
    | (refine ⟨trivial, ?_⟩; gi_at_call 49; refine (callsIn_wide.2 (vc_no V _ h)).mono ?_; rintro e w' ⟨rfl, rfl⟩))
  refine ⟨.bool false, ?_, rfl, ?_⟩
  · simp [results, Tryd.results60, go_sem]
  · exact ((Below.refl _ w).alloc (Nat.le_refl _) _).alloc (by simp) _

set_option maxRecDepth 100000 in
set_option maxHeartbeats 400000 in
theorem isc_nil (V : Int) (a : Option Addr) (cap : Nat) (w : World) (h1 : 1 ≤ V) (h2 : V ≤ 6) :
    CallsIn Fence.wide 10 Tryd.prog 60 #[.agg #[.int .i64 V, .slice a 0 cap]] w fun e w' => e = .returned (.bool true) ∧ Below w.heap.size w w' := by
  have hmm := @run_makeMap Tryd.prog
  refine callsIn_of_wp_marks Tryd.func60 rfl trivial ?_ rfl
  simp only [Tryd.ntmps60, List.size_toArray, List.length_cons, List.length_nil, Nat.reduceAdd, Nat.reduceSub, Array.replicate_succ, Array.replicate_zero, List.push_toArray, List.append_toArray, List.nil_append, List.cons_append]
  gi_wp2_with (first
    | (refine ⟨trivial, ?_⟩; gi_at_call 49; refine (callsIn_wide.2 (vc_yes V _ h1 h2)).mono ?_; rintro e w' ⟨rfl, rfl⟩))
  refine wpIn_loop_rounds 1 ?_
  rw [roundsIn_succ]
  gi_wp2
  refine ⟨.bool true, ?_, rfl, ?_⟩
  · simp [results, Tryd.results60, go_sem]
  · repeat (first | exact Below.refl _ _ | refine Below.alloc ?_ (by simp <;> omega) _ | refine Below.setCell ?_ (by simp <;> omega) _)

/-- impl.IsComplex, whatever comes in. -/
theorem implIsComplex (V : Int) (a : Option Addr) (cap : Nat) (fs : List Int) (w : World) (hx : SlI w w.heap.size a fs) (hl : fs.length ≤ 1048576) :
    Calls Tryd.prog 60 #[.agg #[.int .i64 V, .slice a fs.length cap]] w fun e w' => e = .returned (.bool (isCB V fs)) ∧ Below w.heap.size w w' := by
  by_cases hV : 1 ≤ V ∧ V ≤ 6
  · rcases hx with rfl | ⟨b, off, hb, rfl, hc⟩
    · exact (callsIn_wide.1 (isc_nil V a cap w hV.1 hV.2)).mono fun _ _ ⟨he, hw⟩ => ⟨by rw [he, isCB_true (isC_nil hV.1 hV.2)], hw⟩
    · exact callsIn_wide.1 (isc_in V b off cap fs w hV.1 hV.2 hb hc hl)
  · exact (callsIn_wide.1 (isc_bad V a fs.length cap w hV)).mono fun _ _ ⟨he, hw⟩ => ⟨by rw [he, isCB_false (fun h => hV ⟨h.lo, h.hi⟩)], hw⟩

theorem isc_yes (V : Int) (a : Option Addr) (cap : Nat) (fs : List Int) (w : World) (hx : SlI w w.heap.size a fs) (hl : fs.length ≤ 1048576) (h : IsC V fs) :
    Calls Tryd.prog 60 #[.agg #[.int .i64 V, .slice a fs.length cap]] w fun e w' => e = .returned (.bool true) ∧ Below w.heap.size w w' :=
  (implIsComplex V a cap fs w hx hl).mono fun _ _ ⟨he, hw⟩ => ⟨by rw [he, isCB_true h], hw⟩

theorem isc_no (V : Int) (a : Option Addr) (cap : Nat) (fs : List Int) (w : World) (hx : SlI w w.heap.size a fs) (hl : fs.length ≤ 1048576) (h : ¬ IsC V fs) :
    Calls Tryd.prog 60 #[.agg #[.int .i64 V, .slice a fs.length cap]] w fun e w' => e = .returned (.bool false) ∧ Below w.heap.size w w' :=
  (implIsComplex V a cap fs w hx hl).mono fun _ _ ⟨he, hw⟩ => ⟨by rw [he, isCB_false h], hw⟩

end Go.Proofs.YtbgkalkipalndaaDoor

/-! Faces that are wanted: the program's loop over them, whatever it asks. -/
namespace Go.Proofs.YtbgkalkipalndaaDoor
open Go.RowKit

/-- A result: a slice of int64 in new memory. -/
def Res (w w' : World) (v : Value) (xs : List Int) : Prop := w'.ownsRow w.heap.size 2 1 v xs.length (xs.map (Value.int .i64)) ∧ Below w.heap.size w w'

theorem Res.later {w0 w w' : World} {v : Value} {xs : List Int} (h : Res w w' v xs) (h0 : Below w0.heap.size w0 w) : Res w0 w' v xs :=
  ⟨ownsRow_base h.1 h0.size, h0.trans (h.2.mono h0.size)⟩

theorem Res.after {w w' w2 : World} {v : Value} {xs : List Int} (h : Res w w' v xs) (h2 : Below w'.heap.size w' w2) : Res w w2 v xs :=
  ⟨ownsRow_below h.1 h2 (fun g hg => (h.1.lt g hg).2), h.2.trans (h2.mono h.2.size)⟩

theorem res_nil (w w' : World) (h : Below w.heap.size w w') : Res w w' (.slice none 0 0) [] := ⟨World.ownsRow_nil _ _ _ _, h⟩

set_option maxHeartbeats 1000000 in
theorem fw_any (V : Int) (a : Option Addr) (cap : Nat) (fs : List Int) (w : World) (fid : Nat) (c1 : Value) (p : Int → Bool) (hx : SlI w w.heap.size a fs) (hl : fs.length ≤ 1048576)
    (hent : ∀ args w, (callFunc fid args).run Tryd.prog w = .ok (.enter fid args) w)
    (hcl : ∀ W' x, Below w.heap.size w W' → x ∈ fs → Calls Tryd.prog fid #[.int .i64 x, c1] W' fun e w' => e = .returned (.bool (p x)) ∧ Below W'.heap.size W' w') :
    Calls Tryd.prog 62 #[.agg #[.int .i64 V, .slice a fs.length cap], .func (.func fid) #[] #[c1]] w fun e w' => ∃ v, e = .returned v ∧ Res w w' v (fs.filter p) := by
  have hB0 : Below w.heap.size w (w.alloc (.cells #[.int .i64 V, .slice a fs.length cap] 24)) := (Below.refl _ w).alloc (Nat.le_refl _) _
  rcases hx with rfl | ⟨b, off, hb, rfl, hc⟩
  · clear hcl
    go_enter Tryd.func62, Tryd.ntmps62
    go_wp2
    refine wp_loop_rounds 1 ?_; rw [rounds_succ]
    go_wp2
    go_ret
    exact ⟨_, rfl, res_nil _ _ hB0⟩
  · have Hcl := hid hcl
    have Hc := hid hc
    clear hcl hc
    go_enter Tryd.func62, Tryd.ntmps62
    go_wp2
    go_loopw [5, 11] (fun v i wr => ∃ k : Nat, k ≤ fs.length ∧ i = .int .i64 k ∧ wr.ownsRow w.heap.size 2 1 v ((fs.take k).filter p).length (((fs.take k).filter p).map (Value.int .i64)) ∧
        Below w.heap.size w wr) (fun _ i _ => fs.length - (intOf i).toNat)
    case atStart => exact ⟨0, Nat.zero_le _, rfl, World.ownsRow_nil _ _ _ _, hB0⟩
    case round =>
      obtain ⟨k, hk, rfl, hown, hB⟩ := hrel
      by_cases hlt : k < fs.length
      · obtain ⟨x, hx⟩ : ∃ x, x = fs[k]?.getD 0 := ⟨_, rfl⟩
        have hck : wr.cell? ⟨b, off + k, none⟩ = some (.int .i64 x) := by rw [hx]; exact (hB.cell (p := ⟨b, off + k, none⟩) hb).trans (Hc.out k hlt)
        have hxm : x ∈ fs := by rw [hx]; exact getD_mem hlt
        have Hx := hid hx
        have hi0 : (0 : Int) ≤ (k : Int) := by omega
        have hi1 : (k : Int) < (fs.length : Int) := by omega
        have hcall := Hcl.out wr x hB hxm
        have Hcall := hid hcall
        clear hx hcall hxm
        have hsz := hB.size
        have hfl : ((fs.take k).filter p).length ≤ 1048576 := Nat.le_trans (List.length_filter_le _ _) (by simp; omega)
        go_wp2_with fail
        refine Hcall.out.mono ?_
        rintro e w1 ⟨rfl, hB1⟩
        have hB1' : Below w.heap.size w w1 := hB.trans (hB1.mono hsz)
        have hsz1 := hB1'.size
        have hown1 := ownsRow_below hown hB1 (fun g hg => (hown.lt g hg).2)
        have Hp : Hid (∀ c, p x = c → (fs.take (k + 1)).filter p = (fs.take k).filter p ++ (if c then [x] else [])) := hid (fun c hc => by
          rw [take_snoc hlt, List.filter_append, ← Hx.out]
          cases c <;> simp [hc])
        clear hown hck
        by_cases hpx : p x = true
        · have HP := hid (Hp.out true hpx)
          go_wp2_with (at_builtin; refine append_int rfl rfl hown1 hsz1 (by omega) rfl rfl ?_; intro v' w2 hown2 hgrow2 hB2)
          go_roundw
          case rel => exact ⟨k + 1, by omega, by go_num, by rw [HP.out]; exact hown2, hB1'.trans hB2⟩
          case measure => simp [intOf]; omega
        · have hpf : p x = false := by simpa using hpx
          have HP := hid (Hp.out false hpf)
          go_wp2_with fail
          go_roundw
          case rel => exact ⟨k + 1, by omega, by go_num, by rw [HP.out]; simpa using hown1, hB1'⟩
          case measure => simp [intOf]; omega
      · go_wp2
        go_ret
        obtain rfl : k = fs.length := by omega
        exact ⟨_, rfl, by simpa using hown, hB⟩

set_option maxHeartbeats 1000000 in
theorem fw_any2 (V : Int) (a : Option Addr) (cap : Nat) (fs : List Int) (w : World) (fid : Nat) (c1 c2 : Value) (p : Int → Bool) (hx : SlI w w.heap.size a fs) (hl : fs.length ≤ 1048576)
    (hent : ∀ args w, (callFunc fid args).run Tryd.prog w = .ok (.enter fid args) w)
    (hcl : ∀ W' x, Below w.heap.size w W' → x ∈ fs → Calls Tryd.prog fid #[.int .i64 x, c1, c2] W' fun e w' => e = .returned (.bool (p x)) ∧ Below W'.heap.size W' w') :
    Calls Tryd.prog 62 #[.agg #[.int .i64 V, .slice a fs.length cap], .func (.func fid) #[] #[c1, c2]] w fun e w' => ∃ v, e = .returned v ∧ Res w w' v (fs.filter p) := by
  have hB0 : Below w.heap.size w (w.alloc (.cells #[.int .i64 V, .slice a fs.length cap] 24)) := (Below.refl _ w).alloc (Nat.le_refl _) _
  rcases hx with rfl | ⟨b, off, hb, rfl, hc⟩
  · clear hcl
    go_enter Tryd.func62, Tryd.ntmps62
    go_wp2
    refine wp_loop_rounds 1 ?_; rw [rounds_succ]
    go_wp2
    go_ret
    exact ⟨_, rfl, res_nil _ _ hB0⟩
  · have Hcl := hid hcl
    have Hc := hid hc
    clear hcl hc
    go_enter Tryd.func62, Tryd.ntmps62
    go_wp2
    go_loopw [5, 11] (fun v i wr => ∃ k : Nat, k ≤ fs.length ∧ i = .int .i64 k ∧ wr.ownsRow w.heap.size 2 1 v ((fs.take k).filter p).length (((fs.take k).filter p).map (Value.int .i64)) ∧
        Below w.heap.size w wr) (fun _ i _ => fs.length - (intOf i).toNat)
    case atStart => exact ⟨0, Nat.zero_le _, rfl, World.ownsRow_nil _ _ _ _, hB0⟩
    case round =>
      obtain ⟨k, hk, rfl, hown, hB⟩ := hrel
      by_cases hlt : k < fs.length
      · obtain ⟨x, hx⟩ : ∃ x, x = fs[k]?.getD 0 := ⟨_, rfl⟩
        have hck : wr.cell? ⟨b, off + k, none⟩ = some (.int .i64 x) := by rw [hx]; exact (hB.cell (p := ⟨b, off + k, none⟩) hb).trans (Hc.out k hlt)
        have hxm : x ∈ fs := by rw [hx]; exact getD_mem hlt
        have Hx := hid hx
        have hi0 : (0 : Int) ≤ (k : Int) := by omega
        have hi1 : (k : Int) < (fs.length : Int) := by omega
        have hcall := Hcl.out wr x hB hxm
        have Hcall := hid hcall
        clear hx hcall hxm
        have hsz := hB.size
        have hfl : ((fs.take k).filter p).length ≤ 1048576 := Nat.le_trans (List.length_filter_le _ _) (by simp; omega)
        go_wp2_with fail
        refine Hcall.out.mono ?_
        rintro e w1 ⟨rfl, hB1⟩
        have hB1' : Below w.heap.size w w1 := hB.trans (hB1.mono hsz)
        have hsz1 := hB1'.size
        have hown1 := ownsRow_below hown hB1 (fun g hg => (hown.lt g hg).2)
        have Hp : Hid (∀ c, p x = c → (fs.take (k + 1)).filter p = (fs.take k).filter p ++ (if c then [x] else [])) := hid (fun c hc => by
          rw [take_snoc hlt, List.filter_append, ← Hx.out]
          cases c <;> simp [hc])
        clear hown hck
        by_cases hpx : p x = true
        · have HP := hid (Hp.out true hpx)
          go_wp2_with (at_builtin; refine append_int rfl rfl hown1 hsz1 (by omega) rfl rfl ?_; intro v' w2 hown2 hgrow2 hB2)
          go_roundw
          case rel => exact ⟨k + 1, by omega, by go_num, by rw [HP.out]; exact hown2, hB1'.trans hB2⟩
          case measure => simp [intOf]; omega
        · have hpf : p x = false := by simpa using hpx
          have HP := hid (Hp.out false hpf)
          go_wp2_with fail
          go_roundw
          case rel => exact ⟨k + 1, by omega, by go_num, by rw [HP.out]; simpa using hown1, hB1'⟩
          case measure => simp [intOf]; omega
      · go_wp2
        go_ret
        obtain rfl : k = fs.length := by omega
        exact ⟨_, rfl, by simpa using hown, hB⟩

end Go.Proofs.YtbgkalkipalndaaDoor

/-! Numbers of vertices. -/
namespace Go.Proofs.YtbgkalkipalndaaDoor
open Go.RowKit

set_option maxHeartbeats 400000 in
theorem ones_any (f : Nat) (w : World) (hf : f < 64) :
    Calls Tryd.prog 87 #[.int .i64 (f : Int)] w fun e w' => e = .returned (.int .i64 (ones f : Int)) ∧ w = w' := by
  go_enter Tryd.func87, Tryd.ntmps87
  go_wp2
  go_loop [0, 3] (fun x c => ∃ r n : Nat, r ≤ 63 ∧ x = .int .i64 r ∧ c = .int .i64 n ∧ n ≤ 6 ∧ Hid (n + ones r = ones f)) (fun x _ => (intOf x).toNat)
  case atStart => exact ⟨f, 0, by omega, rfl, rfl, by omega, hid (by omega)⟩
  case round =>
    obtain ⟨r, n, hr, rfl, rfl, hn, Hn⟩ := hrel
    by_cases h0 : 0 < r
    · have h1 := ones_half (r := r) (by omega)
      have h2 := ones_le f
      have hn' : n + r % 2 ≤ 6 := by have := Hn.out; omega
      have Hn' : Hid (n + r % 2 + ones (r / 2) = ones f) := hid (by have := Hn.out; omega)
      clear h1 h2 Hn
      go_wp2
      go_round
      case rel => exact ⟨r / 2, n + r % 2, by omega, by go_num, by go_num, hn', Hn'⟩
      case measure => simp [intOf]; omega
    · obtain rfl : r = 0 := by omega
      have Hn' : Hid (n = ones f) := hid (by have := Hn.out; rw [ones_zero] at this; omega)
      go_wp2
      go_ret
      exact ⟨ret_int (by rw [← Hn'.out]), rfl⟩



end Go.Proofs.YtbgkalkipalndaaDoor

/-! FacetsOf, the model's. -/
namespace Go.Proofs.YtbgkalkipalndaaDoor
open Go.RowKit

/-- The faces with one vertex more than a face that have all of it. -/
def aboveL (fs : List Int) (f : Nat) : List Int := fs.filter fun x => decide (x.toNat &&& f = f ∧ ones x.toNat = ones f + 1)
/-- The facets. -/
def facetsL (fs : List Int) : List Int := fs.filter fun x => decide ((aboveL fs x.toNat).length = 0)

theorem pair_mono' {P : Program} {f : FuncId} {args : Array Value} {w : World} {r : List Int × Int} {xs : List Int} {c : Int} (hr : r = (xs, c))
    (h : Calls P f args w fun e w' => ∃ v, e = .returned (.tuple #[v, .int .i64 c]) ∧ Res w w' v xs) : Calls P f args w fun e w' => ∃ v, e = .returned (.tuple #[v, .int .i64 r.2]) ∧ Res w w' v r.1 := by
  subst hr; exact h

set_option maxHeartbeats 2000000 in
theorem above_any (V : Int) (a : Option Addr) (cap : Nat) (fs : List Int) (f : Nat) (w : World) (hx : SlI w w.heap.size a fs) (hl : fs.length ≤ 1048576) (hf : ∀ x ∈ fs, 1 ≤ x ∧ x ≤ 63) (hf64 : f < 64) :
    Calls Tryd.prog 72 #[.agg #[.int .i64 V, .slice a fs.length cap], .int .i64 (f : Int)] w fun e w' => ∃ v, e = .returned v ∧ Res w w' v (aboveL fs f) := by
  have hB0 : Below w.heap.size w (w.alloc (.cells #[.int .i64 V, .slice a fs.length cap] 24)) := (Below.refl _ w).alloc (Nat.le_refl _) _
  have hB00 := (hB0.alloc (by simp) (.cells #[] 2))
  have hown0 := World.ownsRow_made (base := w.heap.size + 1) (e := 2) (size := 1) (w.alloc (.cells #[.int .i64 V, .slice a fs.length cap] 24)) #[] 0 (by simp) (by simp [maxLen]) rfl
  rw [World.size_alloc] at hown0
  rcases hx with rfl | ⟨b, off, hb, rfl, hc⟩
  · have Hown0 := hid hown0
    clear hown0
    go_enter Tryd.func72, Tryd.ntmps72
    go_wp2
    refine wp_loop_rounds 1 ?_; rw [rounds_succ]
    go_wp2
    go_ret
    exact ⟨_, rfl, ownsRow_base (by simpa [aboveL] using Hown0.out) (Nat.le_succ _), hB00⟩
  · have Hc := hid hc
    have Hf := hid hf
    have Hown0 := hid hown0
    clear hc hf hown0
    go_enter Tryd.func72, Tryd.ntmps72
    go_wp2
    go_loopw [5, 6] (fun v i wr => ∃ k : Nat, k ≤ fs.length ∧ i = .int .i64 k ∧ wr.ownsRow (w.heap.size + 1) 2 1 v (aboveL (fs.take k) f).length ((aboveL (fs.take k) f).map (Value.int .i64)) ∧
        Below (w.heap.size + 1) (w.alloc (.cells #[.int .i64 V, .slice (some ⟨b, off, none⟩) fs.length cap] 24)) wr) (fun _ i _ => fs.length - (intOf i).toNat)
    case atStart => exact ⟨0, Nat.zero_le _, rfl, Hown0.out, (Below.refl _ _).alloc (by simp) _⟩
    case round =>
      obtain ⟨k, hk, rfl, hown, hB⟩ := hrel
      have c0 : wr.cell? ⟨w.heap.size, 0, none⟩ = some (.int .i64 V) := (hB.cell (p := ⟨w.heap.size, 0, none⟩) (by simp)).trans (by simp [go_sem])
      have c1 : wr.cell? ⟨w.heap.size, 1, none⟩ = some (.slice (some ⟨b, off, none⟩) fs.length cap) := (hB.cell (p := ⟨w.heap.size, 1, none⟩) (by simp)).trans (by simp [go_sem])
      have hBW := hB0.trans (hB.mono (by simp))
      have hsz := hB.size
      simp only [World.size_alloc] at hsz
      by_cases hlt : k < fs.length
      · obtain ⟨x, hx⟩ : ∃ x : Nat, (x : Int) = fs[k]?.getD 0 := ⟨(fs[k]?.getD 0).toNat, by have := Hf.out _ (getD_mem hlt); omega⟩
        have hx64 : x < 64 := by have := Hf.out _ (getD_mem hlt); omega
        have hck : wr.cell? ⟨b, off + k, none⟩ = some (.int .i64 (x : Int)) := by rw [hx]; exact (hBW.cell (p := ⟨b, off + k, none⟩) hb).trans (Hc.out k hlt)
        have hi0 : (0 : Int) ≤ (k : Int) := by omega
        have hi1 : (k : Int) < (fs.length : Int) := by omega
        have hfl : (aboveL (fs.take k) f).length ≤ 1048576 := Nat.le_trans (List.length_filter_le _ _) (by simp; omega)
        have Hp : Hid (∀ c, decide (x &&& f = f ∧ ones x = ones f + 1) = c → aboveL (fs.take (k + 1)) f = aboveL (fs.take k) f ++ (if c then [(x : Int)] else [])) := hid (fun c hc => by
          unfold aboveL
          rw [take_snoc hlt, List.filter_append, ← hx]
          cases c <;> simpa using hc)
        have hbits : bits BinOp.and IntKind.i64 (x : Int) (f : Int) = ((x &&& f : Nat) : Int) := (bits_nat .i64 6 (by decide) (fun n h0 h1 => by rw [IntKind.wrap_i64]; omega) x f (by omega) (by omega)).1
        clear hx hB0 hB00
        have ho := ones_le x
        have ho' := ones_le f
        by_cases hpx : x &&& f = f
        · have hd : (((x &&& f : Nat) : Int) == (f : Int)) = true := by simp; omega
          by_cases hox : ones x = ones f + 1
          · have hd2 : ((ones x : Int) == (ones f : Int) + 1) = true := by simp; omega
            have HP := hid (Hp.out true (decide_eq_true ⟨hpx, hox⟩))
            clear hpx hox Hp
            go_wp2_with (first
              | (go_at_call 87; refine (ones_any _ _ (by assumption)).mono ?_; rintro e w' ⟨rfl, rfl⟩)
              | (at_builtin; refine append_int rfl rfl hown hsz (by omega) rfl rfl ?_; intro v' w2 hown2 hgrow2 hB2))
            go_roundw
            case rel => exact ⟨k + 1, by omega, by go_num, by rw [HP.out]; exact hown2, hB.trans hB2⟩
            case measure => simp [intOf]; omega
          · have hd2 : ((ones x : Int) == (ones f : Int) + 1) = false := by simp; omega
            have HP := hid (Hp.out false (decide_eq_false (fun h => hox h.2)))
            clear hpx hox Hp
            go_wp2_with (first
              | (go_at_call 87; refine (ones_any _ _ (by assumption)).mono ?_; rintro e w' ⟨rfl, rfl⟩))
            go_roundw
            case rel => exact ⟨k + 1, by omega, by go_num, by rw [HP.out]; simpa using hown, hB⟩
            case measure => simp [intOf]; omega
        · have hd : (((x &&& f : Nat) : Int) == (f : Int)) = false := by simp; omega
          have HP := hid (Hp.out false (decide_eq_false (fun h => hpx h.1)))
          clear hpx Hp
          go_wp2_with fail
          go_roundw
          case rel => exact ⟨k + 1, by omega, by go_num, by rw [HP.out]; simpa using hown, hB⟩
          case measure => simp [intOf]; omega
      · go_wp2
        go_ret
        obtain rfl : k = fs.length := by omega
        rw [List.take_of_length_le (Nat.le_refl _)] at hown
        exact ⟨_, rfl, ownsRow_base hown (by omega), hBW⟩

set_option maxHeartbeats 2000000 in
theorem facets_any (V : Int) (a : Option Addr) (cap : Nat) (fs : List Int) (w : World) (hx : SlI w w.heap.size a fs) (hl : fs.length ≤ 1048576) (hf : ∀ x ∈ fs, 1 ≤ x ∧ x ≤ 63) :
    Calls Tryd.prog 58 #[.agg #[.int .i64 V, .slice a fs.length cap]] w fun e w' => ∃ v, e = .returned v ∧ Res w w' v (facetsL fs) := by
  have hB0 : Below w.heap.size w (w.alloc (.cells #[.int .i64 V, .slice a fs.length cap] 24)) := (Below.refl _ w).alloc (Nat.le_refl _) _
  have hB00 := (hB0.alloc (by simp) (.cells #[] 2))
  have hown0 := World.ownsRow_made (base := w.heap.size + 1) (e := 2) (size := 1) (w.alloc (.cells #[.int .i64 V, .slice a fs.length cap] 24)) #[] 0 (by simp) (by simp [maxLen]) rfl
  rw [World.size_alloc] at hown0
  have Hx0 := hid hx
  rcases hx with rfl | ⟨b, off, hb, rfl, hc⟩
  · have Hown0 := hid hown0
    clear hown0
    go_enter Tryd.func58, Tryd.ntmps58
    go_wp2
    refine wp_loop_rounds 1 ?_; rw [rounds_succ]
    go_wp2
    go_ret
    exact ⟨_, rfl, ownsRow_base (by simpa [facetsL] using Hown0.out) (Nat.le_succ _), hB00⟩
  · have Hc := hid hc
    have Hf := hid hf
    have Hown0 := hid hown0
    clear hc hf hown0
    go_enter Tryd.func58, Tryd.ntmps58
    go_wp2
    go_loopw [3, 4] (fun v i wr => ∃ k : Nat, k ≤ fs.length ∧ i = .int .i64 k ∧ wr.ownsRow (w.heap.size + 1) 2 1 v ((fs.take k).filter fun x => decide ((aboveL fs x.toNat).length = 0)).length (((fs.take k).filter fun x => decide ((aboveL fs x.toNat).length = 0)).map (Value.int .i64)) ∧
        Below (w.heap.size + 1) (w.alloc (.cells #[.int .i64 V, .slice (some ⟨b, off, none⟩) fs.length cap] 24)) wr) (fun _ i _ => fs.length - (intOf i).toNat)
    case atStart => exact ⟨0, Nat.zero_le _, rfl, Hown0.out, (Below.refl _ _).alloc (by simp) _⟩
    case round =>
      obtain ⟨k, hk, rfl, hown, hB⟩ := hrel
      have c0 : wr.cell? ⟨w.heap.size, 0, none⟩ = some (.int .i64 V) := (hB.cell (p := ⟨w.heap.size, 0, none⟩) (by simp)).trans (by simp [go_sem])
      have c1 : wr.cell? ⟨w.heap.size, 1, none⟩ = some (.slice (some ⟨b, off, none⟩) fs.length cap) := (hB.cell (p := ⟨w.heap.size, 1, none⟩) (by simp)).trans (by simp [go_sem])
      have hBW := hB0.trans (hB.mono (by simp))
      have hsz := hB.size
      simp only [World.size_alloc] at hsz
      by_cases hlt : k < fs.length
      · obtain ⟨x, hx⟩ : ∃ x : Nat, (x : Int) = fs[k]?.getD 0 := ⟨(fs[k]?.getD 0).toNat, by have := Hf.out _ (getD_mem hlt); omega⟩
        have hx64 : x < 64 := by have := Hf.out _ (getD_mem hlt); omega
        have hck : wr.cell? ⟨b, off + k, none⟩ = some (.int .i64 (x : Int)) := by rw [hx]; exact (hBW.cell (p := ⟨b, off + k, none⟩) hb).trans (Hc.out k hlt)
        have hi0 : (0 : Int) ≤ (k : Int) := by omega
        have hi1 : (k : Int) < (fs.length : Int) := by omega
        have hfl : ((fs.take k).filter fun x => decide ((aboveL fs x.toNat).length = 0)).length ≤ 1048576 := Nat.le_trans (List.length_filter_le _ _) (by simp; omega)
        have Hp : Hid (∀ c, decide ((aboveL fs x).length = 0) = c → ((fs.take (k + 1)).filter fun x => decide ((aboveL fs x.toNat).length = 0)) = ((fs.take k).filter fun x => decide ((aboveL fs x.toNat).length = 0)) ++ (if c then [(x : Int)] else [])) := hid (fun c hc => by
          rw [take_snoc hlt, List.filter_append, ← hx]
          cases c <;> simpa using hc)
        have Hxr := hid (Hx0.out.later hBW (by omega))
        have hal : (aboveL fs x).length ≤ 1048576 := Nat.le_trans (List.length_filter_le _ _) hl
        have Hown := hid hown
        have HB := hid hB
        obtain ⟨us, hus⟩ : ∃ us, us = ((fs.take k).filter fun x => decide ((aboveL fs x.toNat).length = 0)) := ⟨_, rfl⟩
        obtain ⟨bs, hbs⟩ : ∃ bs, bs = aboveL fs x := ⟨_, rfl⟩
        have Hbs := hid hbs
        rw [← hus] at hfl Hown Hp
        rw [← hbs] at Hp hal
        clear hx hB0 hB00 hown hB hBW hus hbs
        go_wp2_with fail
        go_region_with (go_at_call 72; refine (above_any V _ cap fs x wr.drew Hxr.out hl Hf.out hx64).mono ?_; rintro e w2 ⟨v2, rfl, hr2⟩; rw [← Hbs.out] at hr2; obtain ⟨_, a2, cp2, rfl, _⟩ := ownsRow_slI hr2.1)
        all_goals
          have hs2 : wr.heap.size ≤ w2.heap.size := hr2.2.size
          have hB2 : Below wr.heap.size wr w2 := ⟨hr2.2.os, hr2.2.tape, hr2.2.output, hr2.2.size, hr2.2.block⟩
          have hBt := HB.out.trans (hB2.mono hsz)
          have c02 := (hBt.cell (p := ⟨w.heap.size, 0, none⟩) (by simp)).trans (show (w.alloc (.cells #[.int .i64 V, .slice (some ⟨b, off, none⟩) fs.length cap] 24)).cell? ⟨w.heap.size, 0, none⟩ = some (.int .i64 V) by simp [go_sem])
          have c12 := (hBt.cell (p := ⟨w.heap.size, 1, none⟩) (by simp)).trans (show (w.alloc (.cells #[.int .i64 V, .slice (some ⟨b, off, none⟩) fs.length cap] 24)).cell? ⟨w.heap.size, 1, none⟩ = some (.slice (some ⟨b, off, none⟩) fs.length cap) by simp [go_sem])
          have hck2 := (hB2.cell (p := ⟨b, off + k, none⟩) (by show b < wr.heap.size; omega)).trans hck
          have hown2 := ownsRow_below Hown.out hB2 (fun g hg => (Hown.out.lt g hg).2)
          have hsz2 : w.heap.size + 1 ≤ w2.heap.size := by omega
          have HBt := hid hBt
          have hbl : (bs.length : Int) ≤ 1048576 := by omega
          clear hr2 hB2 hBt c0 c1 hck
          by_cases hpx : bs.length = 0
          · have hd : ((bs.length : Int) == 0) = true := by simp [hpx]
            have HP := hid (Hp.out true (decide_eq_true hpx))
            clear hpx Hp
            go_wp2_with (at_builtin; refine append_int rfl rfl hown2 hsz2 (by omega) rfl rfl ?_; intro v' w3 hown3 hgrow3 hB3)
            go_roundw
            case rel => exact ⟨k + 1, by omega, by go_num, by rw [HP.out]; exact hown3, HBt.out.trans hB3⟩
            case measure => simp [intOf]; omega
          · have hd : ((bs.length : Int) == 0) = false := by simp; intro h; exact hpx (by rw [h]; rfl)
            have HP := hid (Hp.out false (decide_eq_false hpx))
            clear hpx Hp
            go_wp2_with fail
            go_roundw
            case rel => exact ⟨k + 1, by omega, by go_num, by rw [HP.out]; simpa using hown2, HBt.out⟩
            case measure => simp [intOf]; omega
      · go_wp2
        go_ret
        obtain rfl : k = fs.length := by omega
        rw [List.take_of_length_le (Nat.le_refl _)] at hown
        exact ⟨_, rfl, ownsRow_base hown (by omega), hBW⟩

/-- What FacetsOf hands back. -/
noncomputable def facetsOfR (V : Int) (fs : List Int) : List Int × Int := if isCB V fs then (facetsL fs, 0) else ([], 1)

theorem facetsOfR_len (V : Int) (fs : List Int) (h : fs.length ≤ 1048576) : (facetsOfR V fs).1.length ≤ 1048576 := by
  unfold facetsOfR
  split
  · exact Nat.le_trans (List.length_filter_le _ _) h
  · simp

end Go.Proofs.YtbgkalkipalndaaDoor

/-! 'out.Faces = append(out.Faces, x)' in the model's loops. -/
namespace Go.Proofs.YtbgkalkipalndaaDoor
open Go.RowKit

theorem cell_alloc_drew {W : World} {p : Addr} {v : Value} (h : W.cell? p = some v) (n : Nat) (o : Obj) : ((W.drewN n).alloc o).cell? p = some v :=
  (World.cell?_alloc_some (W.drewN n) p o (show (W.cell? p).isSome = true by rw [h]; rfl)).trans h

theorem step_append_int {w : World} {ops : Array Oper} {o : Oper} {a : Act} {K : Act → World → Prop} {Q : Exit → Act → World → Prop} {E : Prop} (hgd : o.guard = none) {s y : Operand}
    (ho : o.op = .call { callee := .builtin .append, args := #[s, y], argTypes := #[22, 22] })
    {base : Nat} {v : Value} {xs : List Int} {x : Int} {ad : Addr} (hown : w.ownsRow base 2 1 v xs.length (xs.map (Value.int .i64))) (hbase : base ≤ w.heap.size) (hl : xs.length ≤ 1099511627776)
    (hs : a.eval s = v) (hy : a.eval y = .slice (some ad) 1 1) (hc : w.cell? (ad.add 0) = some (.int .i64 x))
    (hK : ∀ g cap w', w'.ownsRow base 2 1 (.slice (some ⟨g, 0, none⟩) (xs ++ [x]).length cap) (xs ++ [x]).length ((xs ++ [x]).map (Value.int .i64)) → w.grownBy w' v.ownBlock →
      K (a.put o.dst (.slice (some ⟨g, 0, none⟩) (xs ++ [x]).length cap)) w') :
    if Region.wanted o (yielded ops a.tmps) = true then Oper.wp Tryd.prog o a w K Q else E := by
  obtain ⟨i0, hi, hz0, hz1, hz2⟩ := info_parts info_i64
  refine step_append_lies w hgd s y 22 ho base 2 i0 (.int .i64 0) 1 8 Tryd.underlying22 hi hz0 hz1 hz2 rfl (by decide) v _ _ hs hown ad 1 1 [.int .i64 x] hy rfl ?_ (by simp [Value.oneCell']) (by decide) (by unfold maxLen; omega) (by omega) hbase _ rfl ?_
  · intro j u hu
    match j, hu with
    | 0, hu => simp at hu; subst hu; exact hc
  · intro g cap w1 hown1 hg _ _
    have e : (xs ++ [x]).length = xs.length + 1 := by simp
    have h := hK g cap w1 (by rw [e]; simpa using hown1) hg
    rw [e] at h
    exact h

/-- What the model's loops keep of the world while they build a complex in block Bo: B is the heap's size when the call began. -/
structure OutW (w W : World) (V : Int) (sl : Value) (Bo : Nat) (xs : List Int) (a : Option Addr) (c : Nat) : Prop where
  below : Below w.heap.size w W
  kbox : W.heap[w.heap.size]? = some (.cells #[.int .i64 V, sl] 24 (0, 0))
  res : W.heap[w.heap.size + 1]? = some (.cells #[.int .i64 0, .slice none 0 0] 24 (0, 0))
  out : W.heap[Bo]? = some (.cells #[.int .i64 V, .slice a xs.length c] 24 (0, 0))
  own : W.ownsRow w.heap.size 2 1 (.slice a xs.length c) xs.length (xs.map (Value.int .i64))
  bo : w.heap.size + 1 < Bo

/-- A block of another type is none of an owned row's. -/
theorem row_ne {W : World} {base e t : Nat} {v : Value} {n : Nat} {xs : List Value} {b : Nat} {cs : Array Value} {fz : Nat × Nat} (h : W.ownsRow base e 1 v n xs) (hb : W.heap[b]? = some (.cells cs t fz)) (hne : e ≠ t) : some b ≠ v.ownBlock := by
  intro he
  rcases h.2 with ⟨rfl, _⟩ | ⟨g, cap, cur, rfl, _, hg, _⟩
  · simp [Value.ownBlock] at he
  · simp [Value.ownBlock] at he
    subst he
    rw [hb] at hg
    simp at hg
    exact hne hg.2.1.symm

theorem lt_get {W : World} {b : Nat} {o : Obj} (h : W.heap[b]? = some o) : b < W.heap.size := (Array.getElem?_eq_some_iff.1 h).1

/-- Draws alone. -/
theorem OutW.drew {w W : World} {V : Int} {sl : Value} {Bo : Nat} {xs : List Int} {a : Option Addr} {c : Nat} (h : OutW w W V sl Bo xs a c) : OutW w W.drew V sl Bo xs a c :=
  ⟨⟨h.below.os, h.below.tape, h.below.output, h.below.size, h.below.block⟩, h.kbox, h.res, h.out, h.own, h.bo⟩

theorem OutW.drewN {w W : World} {V : Int} {sl : Value} {Bo : Nat} {xs : List Int} {a : Option Addr} {c : Nat} (h : OutW w W V sl Bo xs a c) (n : Nat) : OutW w (W.drewN n) V sl Bo xs a c :=
  ⟨⟨h.below.os, h.below.tape, h.below.output, h.below.size, h.below.block⟩, h.kbox, h.res, h.out, h.own, h.bo⟩

/-- Whatever keeps all that lay. -/
theorem OutW.later {w W W' : World} {V : Int} {sl : Value} {Bo : Nat} {xs : List Int} {a : Option Addr} {c : Nat} (h : OutW w W V sl Bo xs a c) (hb : Below W.heap.size W W') : OutW w W' V sl Bo xs a c where
  below := h.below.trans (hb.mono h.below.size)
  kbox := (hb.block _ (lt_get h.kbox)).trans h.kbox
  res := (hb.block _ (lt_get h.res)).trans h.res
  out := (hb.block _ (lt_get h.out)).trans h.out
  own := ownsRow_below h.own hb (fun g hg => (h.own.lt g hg).2)
  bo := h.bo

/-- A face more. -/
theorem OutW.step {w W w2 : World} {V : Int} {sl : Value} {Bo : Nat} {xs : List Int} {a : Option Addr} {c : Nat} (h : OutW w W V sl Bo xs a c) {x : Int} {g cap : Nat} {o : Obj}
    (hown : w2.ownsRow w.heap.size 2 1 (.slice (some ⟨g, 0, none⟩) (xs ++ [x]).length cap) (xs ++ [x]).length ((xs ++ [x]).map (Value.int .i64))) (hg : (W.alloc o).grownBy w2 (Value.ownBlock (.slice a xs.length c))) :
    OutW w (w2.setCell ⟨Bo, 1, none⟩ (.slice (some ⟨g, 0, none⟩) (xs ++ [x]).length cap)) V sl Bo (xs ++ [x]) (some ⟨g, 0, none⟩) cap := by
  have hgr : W.grownBy w2 (Value.ownBlock (.slice a xs.length c)) := (World.grownBy_alloc W o _).trans hg
  have hbo := h.bo
  have k2 := (hgr.block _ (lt_get h.kbox) (row_ne h.own h.kbox (by decide))).trans h.kbox
  have r2 := (hgr.block _ (lt_get h.res) (row_ne h.own h.res (by decide))).trans h.res
  have o2 := (hgr.block _ (lt_get h.out) (row_ne h.own h.out (by decide))).trans h.out
  refine ⟨?_, ?_, ?_, ?_, ?_, h.bo⟩
  · exact (h.below.grown hgr h.below.size (fun k hk => (h.own.lt k hk).1)).setCell (p := ⟨Bo, 1, none⟩) (by simp only; omega) _
  · exact (Below.heap_setCell _ _ _ _ (by simp only; omega)).trans k2
  · exact (Below.heap_setCell _ _ _ _ (by simp only; omega)).trans r2
  · simp only [World.setCell, Array.getElem?_modify, o2]
    simp
  · exact ownsRow_set hown (by
      have := row_ne hown o2 (by decide)
      exact fun e => this e.symm) _

theorem outW_start {w W : World} {V : Int} {sl : Value} (hB : Below w.heap.size w W) (hk : W.heap[w.heap.size]? = some (.cells #[.int .i64 V, sl] 24 (0, 0)))
    (hr : W.heap[w.heap.size + 1]? = some (.cells #[.int .i64 0, .slice none 0 0] 24 (0, 0))) :
    OutW w ((W.alloc (.cells #[] 2)).alloc (.cells #[.int .i64 V, .slice (some ⟨W.heap.size, 0, none⟩) 0 0] 24)) V sl (W.heap.size + 1) [] (some ⟨W.heap.size, 0, none⟩) 0 where
  below := (hB.alloc hB.size _).alloc (by have := hB.size; simp; omega) _
  kbox := (Below.heap_alloc _ _ _ (by have := lt_get hk; simp; omega)).trans ((Below.heap_alloc _ _ _ (lt_get hk)).trans hk)
  res := (Below.heap_alloc _ _ _ (by have := lt_get hr; simp; omega)).trans ((Below.heap_alloc _ _ _ (lt_get hr)).trans hr)
  out := by have := heap_alloc_new (W.alloc (.cells #[] 2)) (.cells #[.int .i64 V, .slice (some ⟨W.heap.size, 0, none⟩) 0 0] 24); rwa [World.size_alloc] at this
  own := by
    have h := World.ownsRow_made (base := w.heap.size) (e := 2) (size := 1) W #[] 0 hB.size (by simp [maxLen]) rfl
    exact h.alloc _
  bo := by have := lt_get hr; omega

/-- The model's loops hand back what they have built. -/
theorem OutW.done {w W : World} {V : Int} {sl : Value} {Bo : Nat} {xs : List Int} {a : Option Addr} {c : Nat} (h : OutW w W V sl Bo xs a c) (u v : Value) :
    Res w ((W.setCell ⟨w.heap.size + 1, 0, none⟩ u).setCell ⟨w.heap.size + 1, 1, none⟩ v) (.slice a xs.length c) xs := by
  have hn := row_ne h.own h.res (by decide)
  exact ⟨ownsRow_set (ownsRow_set h.own (fun e => hn e.symm) _) (fun e => hn e.symm) _, (h.below.setCell (p := ⟨w.heap.size + 1, 0, none⟩) (by simp) _).setCell (p := ⟨w.heap.size + 1, 1, none⟩) (by simp) _⟩

/-- .. where the new element has just been laid. -/
theorem step_append_new {W : World} {H : Nat} {ops : Array Oper} {o : Oper} {a : Act} {K : Act → World → Prop} {Q : Exit → Act → World → Prop} {E : Prop} (hgd : o.guard = none) {s y : Operand}
    (ho : o.op = .call { callee := .builtin .append, args := #[s, y], argTypes := #[22, 22] })
    {base : Nat} {v : Value} {xs : List Int} {x : Int} (hown : W.ownsRow base 2 1 v xs.length (xs.map (Value.int .i64))) (hH : W.heap.size = H) (hbase : base ≤ H) (hl : xs.length ≤ 1099511627776)
    (hs : a.eval s = v) (hy : a.eval y = .slice (some ⟨H, 0, none⟩) 1 1)
    (hK : ∀ g cap w', w'.ownsRow base 2 1 (.slice (some ⟨g, 0, none⟩) (xs ++ [x]).length cap) (xs ++ [x]).length ((xs ++ [x]).map (Value.int .i64)) → (W.alloc (.cells #[.int .i64 x] 2)).grownBy w' v.ownBlock →
      K (a.put o.dst (.slice (some ⟨g, 0, none⟩) (xs ++ [x]).length cap)) w') :
    if Region.wanted o (yielded ops a.tmps) = true then Oper.wp Tryd.prog o a (W.alloc (.cells #[.int .i64 x] 2)) K Q else E := by
  subst hH
  exact step_append_int hgd ho (hown.alloc _) (by simp; omega) hl hs hy (by simp [go_sem, Addr.add]) hK

theorem OutW.stepN {w W w2 : World} {V : Int} {sl : Value} {Bo : Nat} {xs : List Int} {a : Option Addr} {c : Nat} (h : OutW w W V sl Bo xs a c) {x : Int} {g cap : Nat} {o : Obj} {n : Nat}
    (hown : w2.ownsRow w.heap.size 2 1 (.slice (some ⟨g, 0, none⟩) (xs ++ [x]).length cap) (xs ++ [x]).length ((xs ++ [x]).map (Value.int .i64))) (hg : ((W.drewN n).alloc o).grownBy w2 (Value.ownBlock (.slice a xs.length c))) :
    OutW w (w2.setCell ⟨Bo, 1, none⟩ (.slice (some ⟨g, 0, none⟩) (xs ++ [x]).length cap)) V sl Bo (xs ++ [x]) (some ⟨g, 0, none⟩) cap := (h.drewN n).step hown hg

/-- The out block behind an append. -/
theorem OutW.mid {w W w2 : World} {V : Int} {sl : Value} {Bo : Nat} {xs : List Int} {a : Option Addr} {c : Nat} (h : OutW w W V sl Bo xs a c) {n : Nat} {o : Obj} (hg : ((W.drewN n).alloc o).grownBy w2 (Value.ownBlock (.slice a xs.length c))) :
    w2.cell? ⟨Bo, 1, none⟩ = some (.slice a xs.length c) ∧ w2.frozen? ⟨Bo, 1, none⟩ = false := by
  have hgr : (W.drewN n).grownBy w2 (Value.ownBlock (.slice a xs.length c)) := (World.grownBy_alloc _ o _).trans hg
  have o2 := (hgr.block _ (lt_get (h.drewN n).out) (row_ne (h.drewN n).own (h.drewN n).out (by decide))).trans (h.drewN n).out
  constructor <;> simp [World.cell?, World.frozen?, o2]

/-- The given complex's box behind an append. -/
theorem OutW.midK {w W w2 : World} {V : Int} {sl : Value} {Bo : Nat} {xs : List Int} {a : Option Addr} {c : Nat} (h : OutW w W V sl Bo xs a c) {n : Nat} {o : Obj} (hg : ((W.drewN n).alloc o).grownBy w2 (Value.ownBlock (.slice a xs.length c))) :
    w2.cell? ⟨w.heap.size, 1, none⟩ = some sl := by
  have hgr : (W.drewN n).grownBy w2 (Value.ownBlock (.slice a xs.length c)) := (World.grownBy_alloc _ o _).trans hg
  have o2 := (hgr.block _ (lt_get (h.drewN n).kbox) (row_ne (h.drewN n).own (h.drewN n).kbox (by decide))).trans (h.drewN n).kbox
  simp [World.cell?, o2]

/-- What lay before the call, behind an append. -/
theorem OutW.midX {w W w2 : World} {V : Int} {sl : Value} {Bo : Nat} {xs : List Int} {a : Option Addr} {c : Nat} (h : OutW w W V sl Bo xs a c) {n : Nat} {o : Obj} (hg : ((W.drewN n).alloc o).grownBy w2 (Value.ownBlock (.slice a xs.length c))) {p : Addr} (hp : p.block < w.heap.size) :
    w2.cell? p = W.cell? p := by
  have hgr : (W.drewN n).grownBy w2 (Value.ownBlock (.slice a xs.length c)) := (World.grownBy_alloc _ o _).trans hg
  have hlt : p.block < (W.drewN n).heap.size := Nat.lt_of_lt_of_le hp h.below.size
  have h2 : w2.heap[p.block]? = W.heap[p.block]? := hgr.block _ hlt (by
    intro he
    have := (h.own.lt _ he.symm).1
    omega)
  simp only [World.cell?, h2]

end Go.Proofs.YtbgkalkipalndaaDoor

/-! Complexes that are handed back: the ends of bodies with a result in a block, and the program's complexWith. -/
namespace Go.Proofs.YtbgkalkipalndaaDoor
open Go.RowKit

theorem cell_alloc_drew1 {W : World} {p : Addr} {v : Value} (h : W.cell? p = some v) (o : Obj) : (W.alloc o).cell? p = some v := cell_alloc_drew h 0 o

theorem two_of {W : World} {b : Nat} {x y : Value} {t : Nat} (h : W.heap[b]? = some (.cells #[x, y] t (0, 0))) : W.cell? ⟨b, 0, none⟩ = some x ∧ W.cell? ⟨b, 1, none⟩ = some y ∧ W.frozen? ⟨b, 0, none⟩ = false ∧ W.frozen? ⟨b, 1, none⟩ = false := by
  refine ⟨?_, ?_, ?_, ?_⟩ <;> simp [World.cell?, World.frozen?, h]

theorem two_set {W : World} {b : Nat} {x y : Value} {t : Nat} (h : W.heap[b]? = some (.cells #[x, y] t (0, 0))) (u v : Value) : ((W.setCell ⟨b, 0, none⟩ u).setCell ⟨b, 1, none⟩ v).heap[b]? = some (.cells #[u, v] t (0, 0)) := by
  simp only [World.setCell, Array.getElem?_modify, h]
  simp

/-- A result stays where a block of another type is written. -/
theorem Res.set2 {w W : World} {sv : Value} {xs : List Int} (h : Res w W sv xs) {b : Nat} {cs : Array Value} {t : Nat} {fz : Nat × Nat} (hb : W.heap[b]? = some (.cells cs t fz)) (hne : 2 ≠ t) (hw : w.heap.size ≤ b) (u v : Value) :
    Res w ((W.setCell ⟨b, 0, none⟩ u).setCell ⟨b, 1, none⟩ v) sv xs := by
  have hn := row_ne h.1 hb hne
  exact ⟨ownsRow_set (ownsRow_set h.1 (fun e => hn e.symm) _) (fun e => hn e.symm) _, (h.2.setCell (p := ⟨b, 0, none⟩) hw _).setCell (p := ⟨b, 1, none⟩) hw _⟩

theorem new2 (w : World) (A B : Obj) : ((w.alloc A).alloc B).heap[w.heap.size + 1]? = some B := by
  have := heap_alloc_new (w.alloc A) B
  rwa [World.size_alloc] at this

theorem new3 (w : World) (A B C : Obj) : (((w.alloc A).alloc B).alloc C).heap[w.heap.size + 1 + 1]? = some C := by
  have := new2 (w.alloc A) B C
  rwa [World.size_alloc] at this

set_option maxRecDepth 100000 in
theorem load_cx {w : World} {b o : Nat} {x y : Value} (h0 : w.cell? ⟨b, o, none⟩ = some x) (h1 : w.cell? ⟨b, o + 1, none⟩ = some y) :
    (loadVar 24 ⟨b, o, none⟩).run Tryd.prog w = .ok (.agg #[x, y]) w := by
  go_simp

set_option maxRecDepth 100000 in
theorem done_cx {fn : Func} {R : Ending → World → Prop} {a : Act} {w : World} {p u : Tmp} (hr : fn.results = #[.cell p 24, .tmp u]) (hd : a.defers = []) {b o : Nat} {x y c : Value}
    (hp : a.tmps.getD p undef = .pointer (some ⟨b, o, none⟩)) (h0 : w.cell? ⟨b, o, none⟩ = some x) (h1 : w.cell? ⟨b, o + 1, none⟩ = some y) (hu : a.tmps.getD u undef = c) (hR : R (.returned (.tuple #[.agg #[x, y], c])) w) : bodyPost Tryd.prog fn R .ret a w := by
  refine bodyPost_ret (v := .tuple #[.agg #[x, y], c]) ?_ hd hR
  rw [results_cell_tmp hr, hp, hu]
  show ((loadVar 24 ⟨b, o, none⟩).run Tryd.prog w).andThen _ = _
  rw [load_cx h0 h1]
  rfl

set_option maxRecDepth 100000 in
theorem done_cx1 {fn : Func} {R : Ending → World → Prop} {a : Act} {w : World} {p : Tmp} (hr : fn.results = #[.cell p 24]) (hd : a.defers = []) {b o : Nat} {x y : Value}
    (hp : a.tmps.getD p undef = .pointer (some ⟨b, o, none⟩)) (h0 : w.cell? ⟨b, o, none⟩ = some x) (h1 : w.cell? ⟨b, o + 1, none⟩ = some y) (hR : R (.returned (.agg #[x, y])) w) : bodyPost Tryd.prog fn R .ret a w := by
  refine bodyPost_ret (v := .agg #[x, y]) ?_ hd hR
  have hp' : a.tmps[p]?.getD undef = .pointer (some ⟨b, o, none⟩) := by simpa using hp
  simp [results, hr, hp', asAddr, load_cx h0 h1]

theorem cx_mono {P : Program} {f : FuncId} {args : Array Value} {w : World} {r : Int × List Int × Int} {U : Int} {xs : List Int} {c : Int} (hr : r = (U, xs, c))
    (h : Calls P f args w fun e w' => ∃ v, e = .returned (.tuple #[.agg #[.int .i64 U, v], .int .i64 c]) ∧ Res w w' v xs) : Calls P f args w fun e w' => ∃ v, e = .returned (.tuple #[.agg #[.int .i64 r.1, v], .int .i64 r.2.2]) ∧ Res w w' v r.2.1 := by
  subst hr; exact h


end Go.Proofs.YtbgkalkipalndaaDoor

/-! The faces as keys of a map: the program's facesHaving. -/
namespace Go.Proofs.YtbgkalkipalndaaDoor
open Go.RowKit

theorem wf_face {x : Int} (h0 : 1 ≤ x) (h1 : x ≤ 63) : (Lit.int .i64 x).wf = true := WalkArith.wf_i64 (by omega)

/-- The map of faces. -/
def MapW (w' : World) (b n : Nat) (fs : List Int) : Prop := w'.ownsMap Tryd.prog 2 (plainElem (H := Unit) Tryd.prog 4) b n (knownD fs)

theorem MapW.later {w w' : World} {b n : Nat} {fs : List Int} (h : MapW w b n fs) (hB : Below w.heap.size w w') : MapW w' b n fs :=
  World.ownsMap.kept h (row := none) ⟨hB.os, hB.tape, hB.output, hB.size, fun k hk _ => hB.block k hk⟩ (by simp)

theorem MapW.lt {w : World} {b n : Nat} {fs : List Int} (h : MapW w b n fs) : b < w.heap.size := World.ownsMap.lt h


/-! The model's test of a face. -/

end Go.Proofs.YtbgkalkipalndaaDoor

/-! A face that is in another one is in one with a vertex more. -/
namespace Go.Proofs.YtbgkalkipalndaaDoor

theorem above_step : ∀ x f : Fin 64, x.val ≠ 0 → x.val &&& f.val = x.val → x.val ≠ f.val → ∃ y : Fin 64, y.val ≠ 0 ∧ y.val &&& f.val = y.val ∧ y.val &&& x.val = x.val ∧ ones y.val = ones x.val + 1 := by decide +kernel

end Go.Proofs.YtbgkalkipalndaaDoor

/-! How many faces a complex has at most. -/
namespace Go.Proofs.YtbgkalkipalndaaDoor

theorem asc_len : ∀ (fs : List Int) (lo : Int), fs.Pairwise (· < ·) → (∀ x ∈ fs, lo ≤ x ∧ x ≤ 63) → fs.length ≤ (64 - lo).toNat
  | [], lo, _, _ => by simp
  | x :: fs, lo, hp, hr => by
    have h1 := hr x (by simp)
    have h2 := asc_len fs (x + 1) (List.pairwise_cons.1 hp).2 (fun y hy => ⟨by have := (List.pairwise_cons.1 hp).1 y hy; omega, (hr y (by simp [hy])).2⟩)
    rw [List.length_cons]
    omega

theorem IsC.len63 {V : Int} {fs : List Int} (h : IsC V fs) : fs.length ≤ 63 := by
  have := asc_len fs 1 h.asc h.range63
  omega

end Go.Proofs.YtbgkalkipalndaaDoor

/-! FacetsOf, the program's. -/
namespace Go.Proofs.YtbgkalkipalndaaDoor
open Go.RowKit Go.Shelf

attribute [local go_sem] Oper.semAt_some

/-- The parts of one face that are not itself, as they are met. -/
def innerOf (f : Nat) (pre : List (Fin 64)) : List Int := (pre.filter fun p => decide (p.val ≠ f)).map fun p => ((p.val : Nat) : Int)
/-- All parts of faces that are not the faces themselves. -/
def innerL (fs : List Int) : List Int := fs.flatMap fun x => innerOf x.toNat (subsF x.toNat)

theorem innerOf_len (f : Nat) (pre : List (Fin 64)) : (innerOf f pre).length ≤ pre.length := by
  unfold innerOf; rw [List.length_map]; exact List.length_filter_le _ _

theorem innerOf_snoc (f : Nat) (pre : List (Fin 64)) (p : Fin 64) (c : Bool) (h : decide (p.val ≠ f) = c) : innerOf f (pre ++ [p]) = innerOf f pre ++ (if c then [((p.val : Nat) : Int)] else []) := by
  unfold innerOf
  rw [List.filter_append, List.map_append]
  cases c <;> simp only [List.filter_cons, h, List.filter_nil] <;> simp

theorem subsF_len (f : Nat) (hf : f < 64) : (subsF f).length ≤ 63 := by
  have h := subs_len' ⟨f, hf⟩
  have e := congrArg List.length (subsF_map hf)
  rw [List.length_map] at e
  simp only at h
  omega

theorem innerL_len : ∀ (fs : List Int), (∀ x ∈ fs, 1 ≤ x ∧ x ≤ 63) → (innerL fs).length ≤ 63 * fs.length
  | [], _ => by simp [innerL]
  | x :: fs, h => by
    have h1 := innerL_len fs (fun y hy => h y (by simp [hy]))
    have h2 := innerOf_len x.toNat (subsF x.toNat)
    have h3 := subsF_len x.toNat (by have := h x (by simp); omega)
    unfold innerL at h1 ⊢
    rw [List.flatMap_cons, List.length_append, List.length_cons]
    omega

theorem innerL_snoc (fs : List Int) (x : Int) : innerL (fs ++ [x]) = innerL fs ++ innerOf x.toNat (subsF x.toNat) := by simp [innerL]

theorem mem_innerL {fs : List Int} (hr : ∀ x ∈ fs, 1 ≤ x ∧ x ≤ 63) {x : Int} : x ∈ innerL fs ↔ ∃ y ∈ fs, ∃ p : Nat, x = p ∧ p ≠ 0 ∧ p &&& y.toNat = p ∧ p ≠ y.toNat := by
  unfold innerL innerOf
  simp only [List.mem_flatMap, List.mem_map, List.mem_filter]
  constructor
  · rintro ⟨y, hy, p, ⟨hp, hne⟩, rfl⟩
    have := hr y hy
    have hm := (mem_subsF (show y.toNat < 64 by omega)).1 hp
    exact ⟨y, hy, p.val, rfl, hm.1, hm.2, by simpa using hne⟩
  · rintro ⟨y, hy, p, rfl, h0, h1, h2⟩
    have := hr y hy
    have hle := and_le_left' _ _ h1
    exact ⟨y, hy, ⟨p, by omega⟩, ⟨(mem_subsF (show y.toNat < 64 by omega)).2 ⟨h0, h1⟩, by simpa using h2⟩, rfl⟩

/-- The facets are the faces that are no such parts. -/
theorem facets_inner {V : Int} {fs : List Int} (h : IsC V fs) : facetsL fs = fs.filter fun x => !decide (x ∈ innerL fs) := by
  unfold facetsL
  refine List.filter_congr (fun x hx => ?_)
  have hxr := h.range63 x hx
  rw [← decide_not]
  refine decide_eq_decide.2 ?_
  rw [List.length_eq_zero_iff]
  unfold aboveL
  rw [List.filter_eq_nil_iff, mem_innerL h.range63]
  constructor
  · rintro ha ⟨y, hy, p, rfl, h0, h1, h2⟩
    have hyr := h.range63 y hy
    rw [Int.toNat_natCast] at ha
    obtain ⟨z, z0, z1, z2, z3⟩ := above_step ⟨p, by omega⟩ ⟨y.toNat, by omega⟩ h0 h1 h2
    have hz := h.closed y hy z.val z0 z1
    refine ha _ hz ?_
    rw [Int.toNat_natCast]
    exact decide_eq_true ⟨z2, z3⟩
  · intro hn y hy hd
    have hyr := h.range63 y hy
    have hd' := of_decide_eq_true hd
    refine hn ⟨y, hy, x.toNat, by omega, by omega, by rw [Nat.and_comm]; exact hd'.1, fun e => ?_⟩
    rw [← e] at hd'
    omega

/-- What the walk keeps of the world. -/
structure FaW (w W : World) (V : Int) (sl : Value) (mb : Nat) (L : List Int) (Ds : List Nat) : Prop where
  below : Below w.heap.size w W
  lo : w.heap.size + 1 ≤ mb
  kbox : W.heap[w.heap.size]? = some (.cells #[.int .i64 V, sl] 24 (0, 0))
  own : W.ownsMap Tryd.prog 2 (plainElem (H := Unit) Tryd.prog 4) mb L.length (knownD L)
  mbox : W.heap[mb + 1]? = some (.cells #[.map (some mb)] 77 (0, 0))
  nodup : Ds.Nodup
  marks : ∀ D ∈ Ds, mb + 2 ≤ D ∧ W.heap[D]? = some (.deferred (some []))

theorem FaW.size {w W : World} {V : Int} {sl : Value} {mb : Nat} {L : List Int} {Ds : List Nat} (h : FaW w W V sl mb L Ds) : mb + 2 ≤ W.heap.size := by
  have := lt_of_get h.mbox; omega

theorem FaW.turn {w W W' : World} {V : Int} {sl : Value} {mb : Nat} {L : List Int} {Ds : List Nat} (h : FaW w W V sl mb L Ds) {row : Option Nat} (hg : W.grownBy W' row)
    (hr : ∀ r, row = some r → mb + 2 ≤ r ∧ r ∉ Ds) : FaW w W' V sl mb L Ds where
  below := h.below.grown hg h.below.size (fun k e => by have := (hr k e).1; have := h.lo; omega)
  lo := h.lo
  kbox := (hg.block _ (lt_of_get h.kbox) (fun e => by have := (hr _ e.symm).1; have := h.lo; omega)).trans h.kbox
  own := h.own.kept hg (fun e => by have := (hr _ e.symm).1; omega)
  mbox := (hg.block _ (lt_of_get h.mbox) (fun e => by have := (hr _ e.symm).1; omega)).trans h.mbox
  nodup := h.nodup
  marks := fun D hD => ⟨(h.marks D hD).1, (hg.block _ (lt_of_get (h.marks D hD).2) (fun e => (hr _ e.symm).2 hD)).trans (h.marks D hD).2⟩

theorem faw_own {w : World} {V : Int} {sl : Value} {mb : Nat} {g : List (Fin 64) → List Int} {Ds : List Nat} {B : Nat} (hB : mb + 2 ≤ B) (hD : ∀ D ∈ Ds, D < B) : OwnFrom B (fun (pre : List (Fin 64)) W => FaW w W V sl mb (g pre) Ds) :=
  fun _ _ _ _ hs hg hr => hs.turn hg (fun r e => ⟨by have := (hr r e).1; omega, fun hm => by have := hD r hm; have := (hr r e).1; omega⟩)

theorem box_own {β : Type} {B fb : Nat} {o : Obj} (hB : fb < B) : OwnFrom B (fun (_ : β) (W : World) => W.heap[fb]? = some o) :=
  fun _ _ _ _ hs hg hr => (hg.block _ (lt_of_get hs) (fun e => by have := (hr _ e.symm).1; omega)).trans hs

/-- A further mark. -/
theorem FaW.mark {w W : World} {V : Int} {sl : Value} {mb : Nat} {L : List Int} {Ds : List Nat} (h : FaW w W V sl mb L Ds) {D : Nat} (hD : W.heap[D]? = some (.deferred (some []))) (hb : mb + 2 ≤ D) (hn : D ∉ Ds) : FaW w W V sl mb L (D :: Ds) where
  below := h.below
  lo := h.lo
  kbox := h.kbox
  own := h.own
  mbox := h.mbox
  nodup := List.nodup_cons.2 ⟨hn, h.nodup⟩
  marks := fun E hE => by
    rcases List.mem_cons.1 hE with rfl | hE
    · exact ⟨hb, hD⟩
    · exact h.marks E hE

/-- A part more in the map. -/
theorem FaW.put {w W w1 : World} {V : Int} {sl : Value} {mb : Nat} {L : List Int} {Ds : List Nat} (h : FaW w W V sl mb L Ds) {x : Int}
    (hown : w1.ownsMap Tryd.prog 2 (plainElem (H := Unit) Tryd.prog 4) mb (L.length + 1) ((knownD L).put (.int .i64 x) (.lit (.bool true)))) (hg : W.grownBy w1 (some mb)) : FaW w w1 V sl mb (L ++ [x]) Ds where
  below := h.below.grown hg h.below.size (fun k e => by cases e; have := h.lo; omega)
  lo := h.lo
  kbox := (hg.block _ (lt_of_get h.kbox) (fun e => by have := h.lo; simp at e; omega)).trans h.kbox
  own := by rw [knownD_snoc]; simpa using hown
  mbox := (hg.block _ (lt_of_get h.mbox) (fun e => by simp at e)).trans h.mbox
  nodup := h.nodup
  marks := fun D hD => ⟨(h.marks D hD).1, (hg.block _ (lt_of_get (h.marks D hD).2) (fun e => by have := (h.marks D hD).1; simp at e; omega)).trans (h.marks D hD).2⟩

theorem facetWanted (L : List Int) (bm b n : Nat) (x : Int) (w : World) (hx0 : 1 ≤ x) (hx1 : x ≤ 63) (hm : w.cell? ⟨bm, 0, none⟩ = some (.map (some b))) (hM : w.ownsMap Tryd.prog 2 (plainElem (H := Unit) Tryd.prog 4) b n (knownD L)) :
    Calls Tryd.prog 63 #[.int .i64 x, .pointer (some ⟨bm, 0, none⟩)] w fun e w' => e = .returned (.bool (!decide (x ∈ L))) ∧ Below w.heap.size w w' := by
  have hlook := lookup_known hM (p := x) (WalkArith.wf_i64 (by omega))
  clear hM
  obtain ⟨c, hc⟩ : ∃ c, c = decide (x ∈ L) := ⟨_, rfl⟩
  rw [← hc] at hlook ⊢
  clear hc
  cases c
  · go_enter Tryd.func63, Tryd.ntmps63
    go_wp2_with fail
    go_ret
    exact ⟨rfl, Below.refl _ _⟩
  · go_enter Tryd.func63, Tryd.ntmps63
    go_wp2_with fail
    go_ret
    exact ⟨rfl, Below.refl _ _⟩

set_option maxRecDepth 100000 in
set_option maxHeartbeats 4000000 in
theorem fac_in (V : Int) (b off : Nat) (cap : Nat) (fs : List Int) (w : World) (hb : b < w.heap.size)
    (hc : ∀ i, i < fs.length → w.cell? ⟨b, off + i, none⟩ = some (.int .i64 (fs[i]?.getD 0))) (hC : IsC V fs) :
    CallsIn Fence.wide 10 Tryd.prog 37 #[.agg #[.int .i64 V, .slice (some ⟨b, off, none⟩) fs.length cap]] w fun e w' => ∃ v, e = .returned (.tuple #[v, .int .i64 0]) ∧ Res w w' v (facetsL fs) := by
  have hmm := @run_makeMap Tryd.prog
  have hl63 : fs.length ≤ 63 := hC.len63
  have hB0 : Below w.heap.size w (w.alloc (.cells #[.int .i64 V, .slice (some ⟨b, off, none⟩) fs.length cap] 24)) := (Below.refl _ w).alloc (Nat.le_refl _) _
  have hx : SlI w w.heap.size (some ⟨b, off, none⟩) fs := .inr ⟨b, off, hb, rfl, hc⟩
  have Hx := hid (hx.later hB0 hB0.size)
  have Hx0 := hid hx
  have Hf := hid hC.range63
  have HC := hid hC
  have Hc := hid hc
  have HB0 := hid hB0
  clear hC hx hc hB0
  refine callsIn_of_wp_marks Tryd.func37 rfl trivial ?_ rfl
  simp only [Tryd.ntmps37, List.size_toArray, List.length_cons, List.length_nil, Nat.reduceAdd, Nat.reduceSub, Array.replicate_succ, Array.replicate_zero, List.push_toArray, List.append_toArray, List.nil_append, List.cons_append]
  gi_wp2_with (first
    | (refine ⟨trivial, ?_⟩; gi_at_call 60; refine (callsIn_wide.2 (isc_yes V _ cap fs _ Hx.out (by omega) HC.out)).mono ?_; rintro e w1 ⟨rfl, hB1⟩; have k0 : w1.cell? ⟨w.heap.size, 0, none⟩ = some (.int .i64 V) := (hB1.cell (p := ⟨w.heap.size, 0, none⟩) (by simp)).trans (by simp [go_sem]); have k1 : w1.cell? ⟨w.heap.size, 1, none⟩ = some (.slice (some ⟨b, off, none⟩) fs.length cap) := (hB1.cell (p := ⟨w.heap.size, 1, none⟩) (by simp)).trans (by simp [go_sem]); have hs1 : w.heap.size < w1.heap.size := (by have := hB1.size; simp at this; omega)))
  clear hmm
  have hB01 := HB0.out.trans (hB1.mono (by simp))
  have q1 : w1.heap[w.heap.size]? = some (.cells #[.int .i64 V, .slice (some ⟨b, off, none⟩) fs.length cap] 24 (0, 0)) := (hB1.block _ (by simp)).trans (heap_alloc_new _ _)
  have hF0 : FaW w ((w1.alloc (.map #[] 0)).alloc (.cells #[.map (some w1.heap.size)] 77)) V (.slice (some ⟨b, off, none⟩) fs.length cap) w1.heap.size [] [] := by
    have e3 := heap_alloc_new (w1.alloc (.map #[] 0)) (.cells #[.map (some w1.heap.size)] 77)
    rw [World.size_alloc] at e3
    exact {
      below := (hB01.alloc (by omega) _).alloc (by simp <;> omega) _
      lo := by omega
      kbox := (Below.heap_alloc _ _ _ (by simp; omega)).trans ((Below.heap_alloc _ _ _ (by omega)).trans q1)
      own := (World.ownsMap_made w1 Tryd.prog 2 (plainElem (H := Unit) Tryd.prog 4)).alloc _
      mbox := e3
      nodup := by simp
      marks := by simp }
  have HF0 := hid hF0
  obtain ⟨mb, hmb⟩ : ∃ mb, mb = w1.heap.size := ⟨_, rfl⟩
  rw [← hmb] at HF0 ⊢
  clear hF0 q1 hB01 hB1 k0 k1 hmb hs1
  refine wpIn_loop (fun a' W => ∃ (k : Nat) (c6 c7 c16 c17 c18 c19 c20 c21 c22 c23 c24 c25 c26 c27 : Value) (Ds : List Nat),
      a' = { tmps := #[.agg #[.int .i64 V, .slice (some ⟨b, off, none⟩) fs.length cap], .pointer (some ⟨w.heap.size, 0, none⟩), .slice none 0 0, .int .i64 0, .pointer (some ⟨mb + 1, 0, none⟩), undef, c6, c7,
          .agg #[.int .i64 V, .slice (some ⟨b, off, none⟩) fs.length cap], .bool true, .bool false, .map (some mb), .pointer (some ⟨w.heap.size, 1, none⟩), .slice (some ⟨b, off, none⟩) fs.length cap, .int .i64 fs.length,
          .int .i64 k, c16, c17, c18, c19, c20, c21, c22, c23, c24, c25, c26, c27, undef, undef, undef], defers := marks Ds } ∧
      k ≤ fs.length ∧ FaW w W V (.slice (some ⟨b, off, none⟩) fs.length cap) mb (innerL (fs.take k)) Ds)
    (fun a' _ => fs.length - (intOf (a'.tmps.getD 15 undef)).toNat) ?start ?round
  case start => exact ⟨0, _, _, _, _, _, _, _, _, _, _, _, _, _, _, [], rfl, Nat.zero_le _, by simpa [innerL] using HF0.out⟩
  case round =>
    rintro a W ⟨k, c6, c7, c16, c17, c18, c19, c20, c21, c22, c23, c24, c25, c26, c27, Ds, rfl, hk, hW⟩
    have hsz := hW.size
    have k0 : W.cell? ⟨w.heap.size, 0, none⟩ = some (.int .i64 V) := by simp [World.cell?, hW.kbox]
    have k1 : W.cell? ⟨w.heap.size, 1, none⟩ = some (.slice (some ⟨b, off, none⟩) fs.length cap) := by simp [World.cell?, hW.kbox]
    have HW := hid hW
    have hlo := hW.lo
    clear hW
    by_cases hlt : k < fs.length
    · obtain ⟨x, hx⟩ : ∃ x, x = fs[k]?.getD 0 := ⟨_, rfl⟩
      have hck : W.cell? ⟨b, off + k, none⟩ = some (.int .i64 x) := by rw [hx]; exact (HW.out.below.cell (p := ⟨b, off + k, none⟩) hb).trans (Hc.out k hlt)
      have hxr := Hf.out _ (getD_mem hlt)
      rw [← hx] at hxr
      have Hx1 := hid hx
      have hi0 : (0 : Int) ≤ (k : Int) := by omega
      have hi1 : (k : Int) < (fs.length : Int) := by omega
      obtain ⟨f, rfl⟩ : ∃ f : Nat, x = f := ⟨x.toNat, by omega⟩
      have hf : f < 64 := by omega
      clear hx
      gi_wp2_with (first
        | (refine ⟨trivial, ?_⟩; gi_at_call 61; refine (parts_in _ _ trivial rfl _ _).mono ?_; rintro e w' ⟨rfl, rfl⟩))
      have hW2 : FaW w ((W.alloc (.cells #[.int .i64 (f : Int)] 2)).alloc (.cells #[.int .i64 (f : Int)] 2)) V (.slice (some ⟨b, off, none⟩) fs.length cap) mb (innerL (fs.take k)) Ds := (HW.out.turn (World.grownBy_alloc W _ none) (fun r e => by cases e)).turn (World.grownBy_alloc _ _ none) (fun r e => by cases e)
      have hfb : ((W.alloc (.cells #[.int .i64 (f : Int)] 2)).alloc (.cells #[.int .i64 (f : Int)] 2)).heap[W.heap.size]? = some (.cells #[.int .i64 (f : Int)] 2 (0, 0)) := (Below.heap_alloc _ _ _ (by simp)).trans (heap_alloc_new _ _)
      have hsb : ((W.alloc (.cells #[.int .i64 (f : Int)] 2)).alloc (.cells #[.int .i64 (f : Int)] 2)).heap[W.heap.size + 1]? = some (.cells #[.int .i64 (f : Int)] 2 (0, 0)) := new2 _ _ _
      have hDlt : ∀ D ∈ Ds, D < ((W.alloc (.cells #[.int .i64 (f : Int)] 2)).alloc (.cells #[.int .i64 (f : Int)] 2)).heap.size := fun D hD => lt_of_get (hW2.marks D hD).2
      have hLl := innerL_len (fs.take k) (fun y hy => Hf.out y (List.mem_of_mem_take hy))
      have hkl : (fs.take k).length ≤ 63 := by simp; omega
      obtain ⟨L0, hL0⟩ : ∃ L0, L0 = innerL (fs.take k) := ⟨_, rfl⟩
      have HL0 := hid hL0
      rw [← hL0] at hW2 hLl HW
      clear hL0
      refine wpIn_rangeFunc_ownG rfl (by decide) (gf := 74) (lb := #[.pointer (some ⟨W.heap.size + 1, 0, none⟩)]) rfl trivial (enters_of Tryd.func74 (by kernel_rfl) rfl)
        (parts_stops Fence.wide 9 trivial rfl (by decide) (W.heap.size + 1) f hf _ (by simp) hsb) keepB_t (keepB_b (by simp)) (Below.refl _ _) (fun _ => rfl)
        (fun pre W' => FaW w W' V (.slice (some ⟨b, off, none⟩) fs.length cap) mb (L0 ++ innerOf f pre) Ds ∧ W'.heap[W.heap.size]? = some (.cells #[.int .i64 (f : Int)] 2 (0, 0)) ∧ W'.heap[W.heap.size + 1]? = some (.cells #[.int .i64 (f : Int)] 2 (0, 0)))
        (fun _ _ _ => False)
        (OwnFrom.and (faw_own (by simp; omega) hDlt) (OwnFrom.and (box_own (by simp <;> omega)) (box_own (by simp <;> omega)))) (fun _ => ownFrom_pure _ _)
        ⟨by simpa [innerOf] using hW2, hfb, hsb⟩
        (fun x => { tmps := #[.agg #[.int .i64 V, .slice (some ⟨b, off, none⟩) fs.length cap], .pointer (some ⟨w.heap.size, 0, none⟩), .slice none 0 0, .int .i64 0, .pointer (some ⟨mb + 1, 0, none⟩), undef, .pointer (some ⟨W.heap.size, 0, none⟩), .int .i64 (x.val : Int),
          .agg #[.int .i64 V, .slice (some ⟨b, off, none⟩) fs.length cap], .bool true, .bool false, .map (some mb), .pointer (some ⟨w.heap.size, 1, none⟩), .slice (some ⟨b, off, none⟩) fs.length cap, .int .i64 fs.length,
          .int .i64 k, .bool true, .pointer (some ⟨b, off + k, none⟩), .int .i64 f, .int .i64 f, .func (.func 74) #[] #[.pointer (some ⟨W.heap.size + 1, 0, none⟩)], .int .i64 (x.val : Int), c22, c23, c24, c25, c26, c27, undef, undef, undef], defers := [] }) ?assign ?body ?done ?stop
      case assign =>
        intro l x W3 K hK
        gi_wp2
        exact hK
      case body =>
        rintro l pre x W3 ⟨hW3, hfb3, hsb3⟩ hpl
        have m3 : W3.cell? ⟨mb + 1, 0, none⟩ = some (.map (some mb)) := (box_cell hW3.mbox).1
        have f3 : W3.cell? ⟨W.heap.size, 0, none⟩ = some (.int .i64 (f : Int)) := (box_cell hfb3).1
        have hxl := x.isLt
        have hwx : (Lit.int .i64 (x.val : Int)).wf = true := WalkArith.wf_i64 (by omega)
        have HW3 := hid hW3
        have Hfb3 := hid hfb3
        have Hsb3 := hid hsb3
        have hpre := innerOf_len f pre
        clear hW3 hfb3 hsb3
        by_cases hm : x.val = f
        · have hd : (((x.val : Nat) : Int) != (f : Int)) = false := by simp; omega
          have Hs := hid (innerOf_snoc f pre x false (by simpa using hm))
          clear hm
          gi_wp2
          refine ⟨KeepsFrom.refl _ _, rfl, ?_, Hfb3.out, Hsb3.out⟩
          rw [Hs.out]
          simpa using HW3.out
        · have hd : (((x.val : Nat) : Int) != (f : Int)) = true := by simp; omega
          have Hs := hid (innerOf_snoc f pre x true (by simpa using hm))
          clear hm
          have hkm : (L0 ++ innerOf f pre).length < maxLen := by unfold maxLen; simp; omega
          gi_wp2_with (gi_at_mapUpdate; refine wpListIn_mapUpdate_own _ rfl _ _ _ 77 rfl 2 4 (Maps.int_keyed Tryd.underlying2) Tryd.underlying77 _ mb _ _ rfl HW3.out.own hkm _ _ _ rfl rfl (Maps.keyOf_int_mk Tryd.underlying2 hwx) _ [] (plainElem_bool Tryd.underlying4 true) ?_; intro w4 hown4 hgrow4)
          refine ⟨KeepsFrom.of_grownBy hgrow4 (fun j e => by cases e; first | omega | (simp; omega)), (hgrow4.block _ (lt_of_get Hsb3.out) (fun e => by simp at e; omega)), ?_, (hgrow4.block _ (lt_of_get Hfb3.out) (fun e => by simp at e; omega)).trans Hfb3.out, (hgrow4.block _ (lt_of_get Hsb3.out) (fun e => by simp at e; omega)).trans Hsb3.out⟩
          rw [Hs.out, ← List.append_assoc]
          exact HW3.out.put hown4 hgrow4
      case done =>
        rintro D ys W3 hD rfl ⟨hW3, _, _⟩ hK
        have hDb : mb + 2 ≤ D := by simp at hD; omega
        have hDn : D ∉ Ds := fun hm => by have := hDlt D hm; omega
        have HW4 := hid (hW3.mark hK hDb hDn)
        have htk : innerL (fs.take (k + 1)) = L0 ++ innerOf f (subsF f) := by rw [take_snoc hlt, innerL_snoc, ← Hx1.out, HL0.out, Int.toNat_natCast]
        have Htk := hid htk
        clear hW3 htk
        gi_wp2
        refine ⟨⟨k + 1, ?_⟩, ?_⟩
        · (repeat apply Exists.intro)
          refine ⟨?e, ?_⟩
          case e =>
            rw [show ((k + 1 : Nat) : Int) = (k : Int) + 1 by omega, show ({ target := .collected D, args := #[] } :: marks Ds : List Deferred) = marks (D :: Ds) from rfl]
          exact ⟨by omega, by rw [Htk.out]; exact HW4.out⟩
        · simp [intOf]; omega
      case stop =>
        rintro D c pre W3 hD hpre hF hK
        exact hF.elim
    · obtain rfl : k = fs.length := by omega
      rw [List.take_of_length_le (Nat.le_refl _)] at HW
      have hxW := Hx0.out.later HW.out.below HW.out.below.size
      have HFW : Hid (Calls Tryd.prog 62 #[.agg #[.int .i64 V, .slice (some ⟨b, off, none⟩) fs.length cap], .func (.func 63) #[] #[.pointer (some ⟨mb + 1, 0, none⟩)]] W fun e w' => ∃ v, e = .returned v ∧ Res W w' v (facetsL fs)) := hid (by
        rw [facets_inner HC.out]
        refine fw_any V _ cap fs W 63 _ (fun x => !decide (x ∈ innerL fs)) hxW (by omega) (enters_of Tryd.func63 (by kernel_rfl) rfl) ?_
        intro W' x hW' hxm
        have hr := Hf.out x hxm
        have hkeep : W.grownBy W' none := ⟨hW'.os, hW'.tape, hW'.output, hW'.size, fun k hk _ => hW'.block k hk⟩
        exact facetWanted (innerL fs) _ mb _ x W' hr.1 hr.2 ((hW'.cell (p := ⟨mb + 1, 0, none⟩) (lt_of_get HW.out.mbox)).trans (box_cell HW.out.mbox).1) (HW.out.own.kept hkeep (by simp)))
      clear hxW
      gi_wp2_with (refine ⟨trivial, ?_⟩; gi_at_call 62; refine (callsIn_wide.2 HFW.out).mono ?_; rintro e w2 ⟨v, rfl, hr⟩)
      have hB2 : Below W.heap.size W w2 := hr.2
      refine leaves_marks (by simp) Ds _ HW.out.nodup (fun D hD => (hB2.block _ (lt_of_get (HW.out.marks D hD).2)).trans (HW.out.marks D hD).2) (fun w' hw' => ?_)
      have hsh : Below w.heap.size w2 w' := hw'.below (fun D hD => by have := (HW.out.marks D hD).1; omega)
      have hown : w'.ownsRow W.heap.size 2 1 v (facetsL fs).length ((facetsL fs).map (Value.int .i64)) := by
        refine ⟨hr.1.1, ?_⟩
        rcases hr.1.2 with hn | ⟨g, cp, cur, rfl, hg, hh, rest⟩
        · exact .inl hn
        · exact .inr ⟨g, cp, cur, rfl, hg, (hw'.block g (fun hm => by have := lt_of_get (HW.out.marks g hm).2; omega)).trans hh, rest⟩
      refine ⟨.tuple #[v, .int .i64 0], ?_, v, rfl, ownsRow_base hown HW.out.below.size, (HW.out.below.trans (hB2.mono HW.out.below.size)).trans hsh⟩
      simp [results, Tryd.results37, go_sem]

set_option maxRecDepth 100000 in
set_option maxHeartbeats 1000000 in
theorem fac_nil (V : Int) (a : Option Addr) (cap : Nat) (w : World) (hC : IsC V []) :
    CallsIn Fence.wide 10 Tryd.prog 37 #[.agg #[.int .i64 V, .slice a 0 cap]] w fun e w' => ∃ v, e = .returned (.tuple #[v, .int .i64 0]) ∧ Res w w' v [] := by
  have hmm := @run_makeMap Tryd.prog
  have hB0 : Below w.heap.size w (w.alloc (.cells #[.int .i64 V, .slice a 0 cap] 24)) := (Below.refl _ w).alloc (Nat.le_refl _) _
  have HB0 := hid hB0
  have HC := hid hC
  have HFW : Hid (∀ (W : World) (bm : Nat), Calls Tryd.prog 62 #[.agg #[.int .i64 V, .slice a 0 cap], .func (.func 63) #[] #[.pointer (some ⟨bm, 0, none⟩)]] W fun e w' => ∃ v, e = .returned v ∧ Res W w' v []) := hid (fun W bm => by
    have h := fw_any V a cap [] W 63 (.pointer (some ⟨bm, 0, none⟩)) (fun _ => false) (.inl rfl) (by simp) (enters_of Tryd.func63 (by kernel_rfl) rfl) (by intro _ x _ hx; simp at hx)
    simpa using h)
  clear hC hB0
  refine callsIn_of_wp_marks Tryd.func37 rfl trivial ?_ rfl
  simp only [Tryd.ntmps37, List.size_toArray, List.length_cons, List.length_nil, Nat.reduceAdd, Nat.reduceSub, Array.replicate_succ, Array.replicate_zero, List.push_toArray, List.append_toArray, List.nil_append, List.cons_append]
  gi_wp2_with (first
    | (refine ⟨trivial, ?_⟩; gi_at_call 60; refine (callsIn_wide.2 (isc_yes V a cap [] _ (.inl rfl) (by simp) HC.out)).mono ?_; rintro e w1 ⟨rfl, hB1⟩; have k0 : w1.cell? ⟨w.heap.size, 0, none⟩ = some (.int .i64 V) := (hB1.cell (p := ⟨w.heap.size, 0, none⟩) (by simp)).trans (by simp [go_sem]); have k1 : w1.cell? ⟨w.heap.size, 1, none⟩ = some (.slice a 0 cap) := (hB1.cell (p := ⟨w.heap.size, 1, none⟩) (by simp)).trans (by simp [go_sem]); have hs1 : w.heap.size < w1.heap.size := (by have := hB1.size; simp at this; omega)))
  clear hmm
  refine wpIn_loop_rounds 1 ?_
  rw [roundsIn_succ]
  gi_wp2_with (refine ⟨trivial, ?_⟩; gi_at_call 62; refine (callsIn_wide.2 (HFW.out _ _)).mono ?_; rintro e w2 ⟨v, rfl, hr⟩)
  refine ⟨.tuple #[v, .int .i64 0], ?_, v, rfl, hr.later ?_⟩
  · simp [results, Tryd.results37, go_sem]
  · exact ((HB0.out.trans (hB1.mono (by simp))).alloc (by omega) _).alloc (by simp <;> omega) _

set_option maxRecDepth 100000 in
set_option maxHeartbeats 1000000 in
theorem fac_no (V : Int) (a : Option Addr) (cap : Nat) (fs : List Int) (w : World) (hx : SlI w w.heap.size a fs) (hl : fs.length ≤ 1048576) (hC : ¬ IsC V fs) :
    CallsIn Fence.wide 10 Tryd.prog 37 #[.agg #[.int .i64 V, .slice a fs.length cap]] w fun e w' => ∃ v, e = .returned (.tuple #[v, .int .i64 1]) ∧ Res w w' v [] := by
  have hB0 : Below w.heap.size w (w.alloc (.cells #[.int .i64 V, .slice a fs.length cap] 24)) := (Below.refl _ w).alloc (Nat.le_refl _) _
  have HB0 := hid hB0
  have HC := hid hC
  have Hx := hid (hx.later hB0 hB0.size)
  clear hC hB0 hx
  refine callsIn_of_wp_marks Tryd.func37 rfl trivial ?_ rfl
  simp only [Tryd.ntmps37, List.size_toArray, List.length_cons, List.length_nil, Nat.reduceAdd, Nat.reduceSub, Array.replicate_succ, Array.replicate_zero, List.push_toArray, List.append_toArray, List.nil_append, List.cons_append]
  gi_wp2_with (first
    | (refine ⟨trivial, ?_⟩; gi_at_call 60; refine (callsIn_wide.2 (isc_no V a cap fs _ Hx.out hl HC.out)).mono ?_; rintro e w1 ⟨rfl, hB1⟩))
  refine ⟨.tuple #[.slice none 0 0, .int .i64 1], ?_, _, rfl, res_nil _ _ (HB0.out.trans (hB1.mono (by simp)))⟩
  simp [results, Tryd.results37, go_sem]

theorem facets_nil : facetsL [] = [] := rfl

/-- impl.FacetsOf, whatever comes in. -/
theorem implFacetsOf (V : Int) (a : Option Addr) (cap : Nat) (fs : List Int) (w : World) (hx : SlI w w.heap.size a fs) (hl : fs.length ≤ 1048576) :
    Calls Tryd.prog 37 #[.agg #[.int .i64 V, .slice a fs.length cap]] w fun e w' => ∃ v, e = .returned (.tuple #[v, .int .i64 (facetsOfR V fs).2]) ∧ Res w w' v (facetsOfR V fs).1 := by
  by_cases hC : IsC V fs
  · refine pair_mono' (show facetsOfR V fs = (facetsL fs, 0) by unfold facetsOfR; rw [isCB_true hC, if_pos rfl]) ?_
    rcases hx with rfl | ⟨b, off, hb, rfl, hc⟩
    · rw [facets_nil]
      exact callsIn_wide.1 (fac_nil V a cap w hC)
    · exact callsIn_wide.1 (fac_in V b off cap fs w hb hc hC)
  · refine pair_mono' (show facetsOfR V fs = ([], 1) by unfold facetsOfR; rw [isCB_false hC, if_neg (by simp)]) ?_
    exact callsIn_wide.1 (fac_no V a cap fs w hx hl hC)

end Go.Proofs.YtbgkalkipalndaaDoor
