import Derived.RangeFuncNested
import Derived.BigQuiet
import Derived.Test.YtplcbiconfpmlaaMB1
import Derived.Test.YtplcbiconfpmlaaMB2
import Derived.Test.YtplcbiconfpmlaaMB3
import Derived.Test.YtplcbiconfpmlaaMB4
import Derived.Test.YtplcbiconfpmlaaMB5
import Derived.Test.YtplcbiconfpmlaaMB6
/-! FacetsOf, the model's. -/
namespace Go.Proofs.Ytplcbiconfpmlaa
open Go.RowKit

/-- The faces with one vertex more than a face that have all of it. -/
def aboveL (fs : List Int) (f : Nat) : List Int := fs.filter fun x => decide (x.toNat &&& f = f ∧ ones x.toNat = ones f + 1)
/-- The facets. -/
def facetsL (fs : List Int) : List Int := fs.filter fun x => decide ((aboveL fs x.toNat).length = 0)

theorem pair_mono' {P : Program} {f : FuncId} {args : Array Value} {w : World} {r : List Int × Int} {xs : List Int} {c : Int} (hr : r = (xs, c))
    (h : Calls P f args w fun e w' => ∃ v, e = .returned (.tuple #[v, .int .i64 c]) ∧ Res w w' v xs) : Calls P f args w fun e w' => ∃ v, e = .returned (.tuple #[v, .int .i64 r.2]) ∧ Res w w' v r.1 := by
  subst hr; exact h

set_option maxHeartbeats 2000000 in
theorem above_any (V : Int) (a : Option Addr) (cap : Nat) (fs : List Int) (f : Nat) (w : World) (hx : SlI w w.heap.size a fs) (hl : fs.length ≤ 1048576) (hf : ∀ x ∈ fs, 1 ≤ x ∧ x ≤ 63) (hf64 : f < 64) :
    Calls Try.prog 178 #[.agg #[.int .i64 V, .slice a fs.length cap], .int .i64 (f : Int)] w fun e w' => ∃ v, e = .returned v ∧ Res w w' v (aboveL fs f) := by
  have hB0 : Below w.heap.size w (w.alloc (.cells #[.int .i64 V, .slice a fs.length cap] 28)) := (Below.refl _ w).alloc (Nat.le_refl _) _
  have hB00 := (hB0.alloc (by simp) (.cells #[] 2))
  have hown0 := World.ownsRow_made (base := w.heap.size + 1) (e := 2) (size := 1) (w.alloc (.cells #[.int .i64 V, .slice a fs.length cap] 28)) #[] 0 (by simp) (by simp [maxLen]) rfl
  rw [World.size_alloc] at hown0
  rcases hx with rfl | ⟨b, off, hb, rfl, hc⟩
  · have Hown0 := hid hown0
    clear hown0
    go_enter Try.func178, Try.ntmps178
    go_wp2
    refine wp_loop_rounds 1 ?_; rw [rounds_succ]
    go_wp2
    go_ret
    exact ⟨_, rfl, ownsRow_base (by simpa [aboveL] using Hown0.out) (Nat.le_succ _), hB00⟩
  · have Hc := hid hc
    have Hf := hid hf
    have Hown0 := hid hown0
    clear hc hf hown0
    go_enter Try.func178, Try.ntmps178
    go_wp2
    go_loopw [5, 6] (fun v i wr => ∃ k : Nat, k ≤ fs.length ∧ i = .int .i64 k ∧ wr.ownsRow (w.heap.size + 1) 2 1 v (aboveL (fs.take k) f).length ((aboveL (fs.take k) f).map (Value.int .i64)) ∧
        Below (w.heap.size + 1) (w.alloc (.cells #[.int .i64 V, .slice (some ⟨b, off, none⟩) fs.length cap] 28)) wr) (fun _ i _ => fs.length - (intOf i).toNat)
    case atStart => exact ⟨0, Nat.zero_le _, rfl, Hown0.out, (Below.refl _ _).alloc (by simp) _⟩
    case round =>
      obtain ⟨k, hk, rfl, hown, hB⟩ := hrel
      have c0 : wr.cell? ⟨w.heap.size, 0, none⟩ = some (.int .i64 V) := (hB.cell (p := ⟨w.heap.size, 0, none⟩) (by simp)).trans (by simp [go_sem])
      have c1 : wr.cell? ⟨w.heap.size, 1, none⟩ = some (.slice (some ⟨b, off, none⟩) fs.length cap) := (hB.cell (p := ⟨w.heap.size, 1, none⟩) (by simp)).trans (by simp [go_sem])
      have hBW := hB0.trans (hB.mono (by simp))
      have hsz := hB.size
      simp only [World.size_alloc] at hsz
      by_cases hlt : k < fs.length
      · obtain ⟨x, hx⟩ : ∃ x : Nat, (x : Int) = fs[k]?.getD 0 := ⟨(fs[k]?.getD 0).toNat, by have := Hf.out _ (getD_mem hlt); omega⟩
        have hx64 : x < 64 := by have := Hf.out _ (getD_mem hlt); omega
        have hck : wr.cell? ⟨b, off + k, none⟩ = some (.int .i64 (x : Int)) := by rw [hx]; exact (hBW.cell (p := ⟨b, off + k, none⟩) hb).trans (Hc.out k hlt)
        have hi0 : (0 : Int) ≤ (k : Int) := by omega
        have hi1 : (k : Int) < (fs.length : Int) := by omega
        have hfl : (aboveL (fs.take k) f).length ≤ 1048576 := Nat.le_trans (List.length_filter_le _ _) (by simp; omega)
        have Hp : Hid (∀ c, decide (x &&& f = f ∧ ones x = ones f + 1) = c → aboveL (fs.take (k + 1)) f = aboveL (fs.take k) f ++ (if c then [(x : Int)] else [])) := hid (fun c hc => by
          unfold aboveL
          rw [take_snoc hlt, List.filter_append, ← hx]
          cases c <;> simpa using hc)
        have hbits : bits BinOp.and IntKind.i64 (x : Int) (f : Int) = ((x &&& f : Nat) : Int) := (bits_nat .i64 6 (by decide) (fun n h0 h1 => by rw [IntKind.wrap_i64]; omega) x f (by omega) (by omega)).1
        clear hx hB0 hB00
        have ho := ones_le x
        have ho' := ones_le f
        by_cases hpx : x &&& f = f
        · have hd : (((x &&& f : Nat) : Int) == (f : Int)) = true := by simp; omega
          by_cases hox : ones x = ones f + 1
          · have hd2 : ((ones x : Int) == (ones f : Int) + 1) = true := by simp; omega
            have HP := hid (Hp.out true (decide_eq_true ⟨hpx, hox⟩))
            clear hpx hox Hp
            go_wp2_with (first
              | (go_at_call 130; refine (ones_any _ _ (by assumption)).mono ?_; rintro e w' ⟨rfl, rfl⟩)
              | (at_builtin; refine append_int rfl rfl hown hsz (by omega) rfl rfl ?_; intro v' w2 hown2 hgrow2 hB2))
            go_roundw
            case rel => exact ⟨k + 1, by omega, by go_num, by rw [HP.out]; exact hown2, hB.trans hB2⟩
            case measure => simp [intOf]; omega
          · have hd2 : ((ones x : Int) == (ones f : Int) + 1) = false := by simp; omega
            have HP := hid (Hp.out false (decide_eq_false (fun h => hox h.2)))
            clear hpx hox Hp
            go_wp2_with (first
              | (go_at_call 130; refine (ones_any _ _ (by assumption)).mono ?_; rintro e w' ⟨rfl, rfl⟩))
            go_roundw
            case rel => exact ⟨k + 1, by omega, by go_num, by rw [HP.out]; simpa using hown, hB⟩
            case measure => simp [intOf]; omega
        · have hd : (((x &&& f : Nat) : Int) == (f : Int)) = false := by simp; omega
          have HP := hid (Hp.out false (decide_eq_false (fun h => hpx h.1)))
          clear hpx Hp
          go_wp2_with fail
          go_roundw
          case rel => exact ⟨k + 1, by omega, by go_num, by rw [HP.out]; simpa using hown, hB⟩
          case measure => simp [intOf]; omega
      · go_wp2
        go_ret
        obtain rfl : k = fs.length := by omega
        rw [List.take_of_length_le (Nat.le_refl _)] at hown
        exact ⟨_, rfl, ownsRow_base hown (by omega), hBW⟩

/-- What FacetsOf hands back. -/
noncomputable def facetsOfR (V : Int) (fs : List Int) : List Int × Int := if isCB V fs then (facetsL fs, 0) else ([], 1)

theorem facetsOfR_len (V : Int) (fs : List Int) (h : fs.length ≤ 1048576) : (facetsOfR V fs).1.length ≤ 1048576 := by
  unfold facetsOfR
  split
  · exact Nat.le_trans (List.length_filter_le _ _) h
  · simp

end Go.Proofs.Ytplcbiconfpmlaa

/-! All pairs of a complex, in order. -/
namespace Go.Proofs.Ytplcbiconfpmlaa
open Go.RowKit

theorem asc_ext2 : ∀ {a b : List Int}, a.Pairwise (· < ·) → b.Pairwise (· < ·) → (∀ x, x ∈ a ↔ x ∈ b) → a = b
  | [], [], _, _, _ => rfl
  | [], y :: b, _, _, h => by have := (h y).2 (by simp); simp at this
  | x :: a, [], _, _, h => by have := (h x).1 (by simp); simp at this
  | x :: a, y :: b, ha, hb, h => by
    obtain ⟨ha1, ha2⟩ := List.pairwise_cons.1 ha
    obtain ⟨hb1, hb2⟩ := List.pairwise_cons.1 hb
    have hxy : x = y := by
      rcases List.mem_cons.1 ((h x).1 (by simp)) with e | hx
      · exact e
      · rcases List.mem_cons.1 ((h y).2 (by simp)) with e | hy
        · exact e.symm
        · have h1 := hb1 _ hx; have h2 := ha1 _ hy; omega
    subst hxy
    have : a = b := asc_ext2 ha2 hb2 (fun z => by
      have hz := h z
      simp only [List.mem_cons] at hz
      constructor
      · intro hm
        rcases hz.1 (.inr hm) with e | hm'
        · subst e; have := ha1 _ hm; omega
        · exact hm'
      · intro hm
        rcases hz.2 (.inr hm) with e | hm'
        · subst e; have := hb1 _ hm; omega
        · exact hm')
    rw [this]
theorem insP_end {x y : Int} {L : List (Int × Int)} (h : ∀ p ∈ L, lessP x y p.1 p.2 = false) : insP (flatP L) L.length x y = flatP (L ++ [(x, y)]) := by
  have hp : placeP (flatP L) x y L.length = L.length := by
    obtain ⟨n, hn⟩ : ∃ n, n = L.length := ⟨_, rfl⟩
    rw [← hn]
    cases n with
    | zero => rfl
    | succ k =>
      have hk : k < L.length := by omega
      obtain ⟨e1, e2⟩ := flatP_at L k hk
      unfold placeP
      rw [e1, e2, h _ (by rw [List.getElem?_eq_getElem hk]; exact List.getElem_mem hk)]
      simp
  unfold insP
  rw [hp, flatP_snoc, List.take_of_length_le (by rw [flatP_len]; exact Nat.le_refl _), List.drop_of_length_le (by rw [flatP_len]; exact Nat.le_refl _)]
theorem less_first {x y a b : Int} (h : a < x) : lessP x y a b = false := by
  unfold lessP
  simp
  omega
theorem less_second {x y b : Int} (h : b < y) : lessP x y x b = false := by
  unfold lessP
  simp
  omega
theorem up_asc : ∀ x : Fin 64, ∀ u v : Fin 6, u.val < v.val → x.val ||| 2 ^ u.val ≠ x.val → x.val ||| 2 ^ v.val ≠ x.val → x.val ||| 2 ^ u.val < x.val ||| 2 ^ v.val := by decide +kernel
theorem upS_eq {V : Int} {fs : List Int} (hC : IsC V fs) {x : Int} (hx : x ∈ fs) : upS fs x.toNat V.toNat = (aboveL fs x.toNat).map fun h => (x, h) := by
  have hr := hC.range63 x hx
  have hhi := hC.hi
  have hxe : ((x.toNat : Nat) : Int) = x := Int.toNat_of_nonneg (by omega)
  have h1 : upS fs x.toNat V.toNat = ((upS fs x.toNat V.toNat).map Prod.snd).map fun h => (x, h) := by
    unfold upS
    rw [List.map_map, List.map_map]
    refine List.map_congr_left (fun v _ => ?_)
    simp only [Function.comp]
    rw [hxe]
  rw [h1]
  congr 1
  refine asc_ext2 ?_ (hC.asc.sublist List.filter_sublist) (fun y => ?_)
  · unfold upS
    rw [List.map_map, List.pairwise_map]
    have hs : (List.range V.toNat).Pairwise fun a b => a < b := List.pairwise_lt_range
    have h3 := (hs.sublist (List.filter_sublist (p := fun v => decide (x.toNat ||| 2 ^ v ≠ x.toNat) && decide (((x.toNat ||| 2 ^ v : Nat) : Int) ∈ fs))))
    refine List.Pairwise.imp_of_mem ?_ h3
    intro a b ha hb hab
    simp only [List.mem_filter, List.mem_range, Bool.and_eq_true, decide_eq_true_eq] at ha hb
    simp only [Function.comp]
    have := up_asc ⟨x.toNat, by omega⟩ ⟨a, by omega⟩ ⟨b, by omega⟩ hab ha.2.1 hb.2.1
    simp only at this
    exact_mod_cast this
  · have hm := mem_pairsL hC x y
    have h2 : y ∈ (upS fs x.toNat V.toNat).map Prod.snd ↔ (x, y) ∈ pairsL fs V.toNat fs.length := by
      unfold pairsL
      rw [List.take_of_length_le (Nat.le_refl _)]
      constructor
      · intro h
        obtain ⟨p, hp, rfl⟩ := List.mem_map.1 h
        refine List.mem_flatMap.2 ⟨x, hx, ?_⟩
        have e : p.1 = x := by
          unfold upS at hp
          obtain ⟨v, _, rfl⟩ := List.mem_map.1 hp
          exact hxe
        rw [show (x, p.2) = p from Prod.ext e.symm rfl]
        exact hp
      · intro h
        obtain ⟨z, hz, hp⟩ := List.mem_flatMap.1 h
        have hrz := hC.range63 z hz
        have e : z = x := by
          unfold upS at hp
          obtain ⟨v, _, he⟩ := List.mem_map.1 hp
          injection he with he _
          omega
        subst e
        exact List.mem_map.2 ⟨_, hp, rfl⟩
    rw [h2, hm]
    unfold pairB aboveL
    simp only [List.mem_filter, Bool.and_eq_true, decide_eq_true_eq]
    constructor
    · rintro ⟨⟨⟨_, h3⟩, h4⟩, h5⟩
      exact ⟨h3, by rw [Nat.and_comm]; exact h4, h5⟩
    · rintro ⟨h3, h4, h5⟩
      exact ⟨⟨⟨hx, h3⟩, by rw [Nat.and_comm]; exact h4⟩, h5⟩

/-- The pairs of one face. -/
def upP (fs : List Int) (x : Int) : List (Int × Int) := (aboveL fs x.toNat).map fun h => (x, h)
/-- The pairs of the first k faces. -/
def allP (fs : List Int) (k : Nat) : List (Int × Int) := (fs.take k).flatMap (upP fs)
theorem allP_succ {fs : List Int} {k : Nat} (hk : k < fs.length) : allP fs (k + 1) = allP fs k ++ upP fs (fs[k]?.getD 0) := by
  unfold allP
  rw [take_snoc hk, List.flatMap_append]
  simp
theorem allP_pairs {V : Int} {fs : List Int} (hC : IsC V fs) : pairsL fs V.toNat fs.length = allP fs fs.length := by
  unfold pairsL allP
  rw [List.take_of_length_le (Nat.le_refl _), List.flatMap_def, List.flatMap_def]
  congr 1
  exact List.map_congr_left (fun x hx => upS_eq hC hx)
theorem upP_len (fs : List Int) (x : Int) : (upP fs x).length ≤ fs.length := by
  unfold upP
  rw [List.length_map]
  exact List.length_filter_le _ _
theorem allP_len {fs : List Int} (h : fs.length ≤ 63) : ∀ k, k ≤ fs.length → (allP fs k).length ≤ k * 63
  | 0, _ => by simp [allP]
  | k + 1, hk => by
    have := allP_len h k (by omega)
    rw [allP_succ (by omega), List.length_append]
    have := upP_len fs (fs[k]?.getD 0)
    omega
/-- What stands ahead of the pairs of a face. -/
theorem allP_ahead {V : Int} {fs : List Int} (hC : IsC V fs) {k j : Nat} (hk : k < fs.length) (hj : j < (aboveL fs (fs[k]?.getD 0).toNat).length) :
    ∀ p ∈ allP fs k ++ (upP fs (fs[k]?.getD 0)).take j, lessP (fs[k]?.getD 0) ((aboveL fs (fs[k]?.getD 0).toNat)[j]?.getD 0) p.1 p.2 = false := by
  intro p hp
  rcases List.mem_append.1 hp with hp | hp
  · refine less_first ?_
    unfold allP at hp
    obtain ⟨x, hx, hp⟩ := List.mem_flatMap.1 hp
    unfold upP at hp
    obtain ⟨h, _, rfl⟩ := List.mem_map.1 hp
    have hft : ∀ x ∈ fs.take k, x < fs[k]?.getD 0 := by
      have h2 := hC.asc.sublist (List.take_sublist (k + 1) fs)
      rw [take_snoc hk] at h2
      exact fun y hm => (List.pairwise_append.1 h2).2.2 y hm _ (by simp)
    exact hft x hx
  · unfold upP at hp
    rw [← List.map_take] at hp
    obtain ⟨h, hm, rfl⟩ := List.mem_map.1 hp
    refine less_second ?_
    have hh : (aboveL fs (fs[k]?.getD 0).toNat).Pairwise (· < ·) := hC.asc.sublist List.filter_sublist
    have h2 := hh.sublist (List.take_sublist (j + 1) _)
    rw [take_snoc hj] at h2
    exact (List.pairwise_append.1 h2).2.2 h hm _ (by simp)

end Go.Proofs.Ytplcbiconfpmlaa

/-! A pairing, filled: the mathematics. -/
namespace Go.Proofs.Ytplcbiconfpmlaa
open Go.RowKit

noncomputable def stepF (fs q : List Int) (p : Int × Int) : List Int := if withB fs q (q.length / 2) p.1 p.2 = true then insP q (q.length / 2) p.1 p.2 else q
noncomputable def fillF (fs q : List Int) (L : List (Int × Int)) : List Int := L.foldl (stepF fs) q
theorem fillF_snoc (fs q : List Int) (L : List (Int × Int)) (p : Int × Int) : fillF fs q (L ++ [p]) = stepF fs (fillF fs q L) p := by simp [fillF]
theorem stepF_yes {fs q : List Int} {n : Nat} {p : Int × Int} (hq : q.length = 2 * n) (h : withB fs q n p.1 p.2 = true) : stepF fs q p = insP q n p.1 p.2 := by
  unfold stepF
  rw [show q.length / 2 = n by omega, if_pos h]
theorem stepF_no {fs q : List Int} {n : Nat} {p : Int × Int} (hq : q.length = 2 * n) (h : withB fs q n p.1 p.2 = false) : stepF fs q p = q := by
  unfold stepF
  rw [show q.length / 2 = n by omega, if_neg (by rw [h]; simp)]

/-- A pairing has few pairs. -/
theorem okTo_len {V : Int} {fs ps : List Int} {n : Nat} (hC : IsC V fs) (h : OkTo fs ps n) : n ≤ 64 := by
  have h1 := nodup_le 64 ((List.range n).map fun i => (at0 ps (i * 2)).toNat) (by
    refine List.nodup_iff_pairwise_ne.2 (List.pairwise_map.2 ?_)
    refine List.Pairwise.imp_of_mem ?_ (List.pairwise_lt_range (n := n))
    intro i j hi hj hij e
    have hj := List.mem_range.1 hj
    have a := okTo_lows hC h i (by omega)
    have b := okTo_lows hC h j hj
    exact okTo_apart h i j hij hj (by omega)) (fun i hi => by
    obtain ⟨j, hj, rfl⟩ := List.mem_map.1 hi
    have := okTo_lows hC h j (List.mem_range.1 hj)
    omega)
  simpa using h1

/-- A pairing stays one. -/
theorem stepF_ok {fs q : List Int} {n : Nat} {p : Int × Int} (hq : q.length = 2 * n) (h : OkTo fs q n) : ∃ m, (stepF fs q p).length = 2 * m ∧ OkTo fs (stepF fs q p) m ∧ n ≤ m := by
  cases hb : withB fs q n p.1 p.2
  · rw [stepF_no hq hb]
    exact ⟨n, hq, h, Nat.le_refl _⟩
  · rw [stepF_yes hq hb]
    exact ⟨n + 1, insP_len hq _ _, withB_ok hb, by omega⟩
theorem fillF_ok {fs : List Int} : ∀ (L : List (Int × Int)) {q : List Int} {n : Nat}, q.length = 2 * n → OkTo fs q n → ∃ m, (fillF fs q L).length = 2 * m ∧ OkTo fs (fillF fs q L) m ∧ n ≤ m
  | [], q, n, hq, h => ⟨n, hq, h, Nat.le_refl _⟩
  | p :: L, q, n, hq, h => by
    obtain ⟨m, h1, h2, h3⟩ := stepF_ok (p := p) hq h
    obtain ⟨m', h4, h5, h6⟩ := fillF_ok L h1 h2
    exact ⟨m', h4, h5, by omega⟩
/-- Nothing fits exactly if it stays as it is. -/
theorem fillF_same {fs : List Int} : ∀ (L : List (Int × Int)) {q : List Int} {n : Nat}, q.length = 2 * n → OkTo fs q n → ((fillF fs q L).length = q.length ↔ ∀ p ∈ L, withB fs q n p.1 p.2 = false)
  | [], q, n, _, _ => by simp [fillF]
  | p :: L, q, n, hq, h => by
    cases hb : withB fs q n p.1 p.2
    · have e : fillF fs q (p :: L) = fillF fs q L := by
        show fillF fs (stepF fs q p) L = _
        rw [stepF_no hq hb]
      rw [e, fillF_same L hq h]
      simp [hb]
    · have e : fillF fs q (p :: L) = fillF fs (insP q n p.1 p.2) L := by
        show fillF fs (stepF fs q p) L = _
        rw [stepF_yes hq hb]
      obtain ⟨m, h1, _, h3⟩ := fillF_ok L (insP_len hq p.1 p.2) (withB_ok hb)
      rw [e]
      constructor
      · intro he
        omega
      · intro hall
        have := hall p (by simp)
        rw [hb] at this
        cases this

end Go.Proofs.Ytplcbiconfpmlaa

/-! l02All. -/
namespace Go.Proofs.Ytplcbiconfpmlaa
open Go.RowKit

/-- A row of pairs in the call's own memory. -/
def RowP (w : World) (base : Nat) (b c : Nat) (L : List (Int × Int)) : Prop := w.ownsRow base 49 2 (.slice (some ⟨b, 0, none⟩) L.length c) L.length ((flatP L).map (Value.int .i64))

set_option maxRecDepth 1000000 in
set_option maxHeartbeats 8000000 in
theorem allP_any (V : Int) (a0 : Option Addr) (cap : Nat) (fs : List Int) (w : World) (hx : SlI w w.heap.size a0 fs) (hC : IsC V fs) :
    Calls Try.prog 125 #[.agg #[.int .i64 V, .slice a0 fs.length cap]] w fun e w' => ∃ b c, e = .returned (.slice (some ⟨b, 0, none⟩) (allP fs fs.length).length c) ∧ RowP w' w.heap.size b c (allP fs fs.length) ∧ Below w.heap.size w w' := by
  have h63 := hC.len63
  have hl : fs.length ≤ 1048576 := by omega
  have Hf := hid hC.range63
  have hB0 : Below w.heap.size w (w.alloc (.cells #[.int .i64 V, .slice a0 fs.length cap] 28)) := (Below.refl _ w).alloc (Nat.le_refl _) _
  have hB00 : Below w.heap.size w ((w.alloc (.cells #[.int .i64 V, .slice a0 fs.length cap] 28)).alloc (.cells #[] 49)) := hB0.alloc (by simp) _
  have hown0 := World.ownsRow_made (base := w.heap.size + 1) (e := 49) (size := 2) (w.alloc (.cells #[.int .i64 V, .slice a0 fs.length cap] 28)) #[] 0 (by simp) (by simp [maxLen]) rfl
  rw [World.size_alloc] at hown0
  have HB0 := hid hB0
  have Hown0 := hid hown0
  have HB00 := hid hB00
  have Hx := hid hx
  have HAll := hid (fun k => allP_len (fs := fs) h63 k)
  have HC := hid hC
  clear hx hB0 hB00 hown0 hC
  go_enter Try.func125, Try.ntmps125
  go_wp2_with fail
  obtain ⟨W0, hW0⟩ : ∃ W0, W0 = w.alloc (.cells #[.int .i64 V, .slice a0 fs.length cap] 28) := ⟨_, rfl⟩
  have hs0 : W0.heap.size = w.heap.size + 1 := by rw [hW0]; simp
  have Hk0 : Hid (W0.cell? ⟨w.heap.size, 0, none⟩ = some (.int .i64 V)) := hid (by rw [hW0]; simp [go_sem])
  have Hk1 : Hid (W0.cell? ⟨w.heap.size, 1, none⟩ = some (.slice a0 fs.length cap)) := hid (by rw [hW0]; simp [go_sem])
  rw [← hW0] at HB0 Hown0 HB00 ⊢
  clear hW0
  go_loopw [3, 4] (fun v i wr => ∃ (k b c : Nat), k ≤ fs.length ∧ i = .int .i64 k ∧ v = .slice (some ⟨b, 0, none⟩) (allP fs k).length c ∧ Hid (RowP wr (w.heap.size + 1) b c (allP fs k)) ∧ Below W0.heap.size W0 wr) (fun _ i _ => fs.length - (intOf i).toNat)
  case atStart => exact ⟨0, _, 0, Nat.zero_le _, rfl, rfl, Hown0, (Below.refl _ _).alloc (Nat.le_refl _) _⟩
  case round =>
    obtain ⟨k, b, c, hk, rfl, rfl, Hown, hB⟩ := hrel
    by_cases hlt : k < fs.length
    · obtain ⟨b0, off0, hb0, rfl, hc0⟩ : ∃ b off, b < w.heap.size ∧ a0 = some ⟨b, off, none⟩ ∧ ∀ i, i < fs.length → w.cell? ⟨b, off + i, none⟩ = some (.int .i64 (fs[i]?.getD 0)) := by
        rcases Hx.out with h | h
        · rw [h] at hlt; simp at hlt
        · exact h
      have hbw := HB0.out.trans (hB.mono HB0.out.size)
      obtain ⟨fn, hfn⟩ : ∃ fn : Nat, fs[k]?.getD 0 = (fn : Int) := ⟨(fs[k]?.getD 0).toNat, by have := Hf.out _ (getD_mem hlt); omega⟩
      have hf64 : fn < 64 := by have := Hf.out _ (getD_mem hlt); omega
      obtain ⟨hs, hhs⟩ : ∃ hs, hs = aboveL fs fn := ⟨_, rfl⟩
      have hH : hs.length ≤ 63 := by rw [hhs]; exact Nat.le_trans (List.length_filter_le _ _) h63
      obtain ⟨L, hL⟩ : ∃ L, L = allP fs k := ⟨_, rfl⟩
      have HPk : Hid (allP fs (k + 1) = L ++ hs.map fun h => ((fn : Int), h)) := hid (by rw [allP_succ hlt, ← hL, hhs, hfn]; rfl)
      have HAh : Hid (∀ j, j < hs.length → ∀ p ∈ L ++ (hs.map fun h => ((fn : Int), h)).take j, lessP (fn : Int) (hs[j]?.getD 0) p.1 p.2 = false) := hid (by
        intro j hj
        have := allP_ahead HC.out hlt (j := j) (by rw [hfn, Int.toNat_natCast, ← hhs]; exact hj)
        rw [hfn, Int.toNat_natCast, ← hhs, ← hL] at this
        have e : upP fs ((fn : Nat) : Int) = hs.map fun h => ((fn : Int), h) := by unfold upP; rw [Int.toNat_natCast, ← hhs]
        rw [e] at this
        exact this)
      have HLl : Hid (L.length ≤ 63 * 63) := hid (by rw [hL]; exact Nat.le_trans (HAll.out k hk) (Nat.mul_le_mul (by omega) (Nat.le_refl _)))
      rw [← hL] at Hown ⊢
      have k0 := (hB.cell (p := ⟨w.heap.size, 0, none⟩) (by simp only; omega)).trans Hk0.out
      have k1 := (hB.cell (p := ⟨w.heap.size, 1, none⟩) (by simp only; omega)).trans Hk1.out
      have d0 := (hbw.cell (p := ⟨b0, off0 + k, none⟩) hb0).trans (hc0 k hlt)
      rw [hfn] at d0
      have HAb := hid (above_any V (some ⟨b0, off0, none⟩) cap fs fn wr.drew (Hx.out.later (hbw.trans (below_drewN (Below.refl _ wr) 1 |>.mono hbw.size)) (hbw.trans (below_drewN (Below.refl _ wr) 1 |>.mono hbw.size)).size) (by omega) Hf.out hf64)
      rw [← hhs] at HAb
      have hi0 : (0 : Int) ≤ (k : Int) := by omega
      have hi1 : (k : Int) < (fs.length : Int) := by omega
      have hsz0 := hB.size
      have HBr := hid hB
      have HBw := hid hbw
      have Hc0 := hid hc0
      have Hfn := hid hfn
      clear hB hbw hc0 hfn hhs hL
      go_wp2_with fail
      go_region_held3 (fun w' => w'.cell? ⟨w.heap.size, 0, none⟩ = some (.int .i64 V) ∧ w'.cell? ⟨w.heap.size, 1, none⟩ = some (.slice (some ⟨b0, off0, none⟩) fs.length cap) ∧ w'.cell? ⟨b0, off0 + k, none⟩ = some (.int .i64 (fn : Int))) (go_keep) (first
        | (go_at_call 178; refine HAb.out.mono ?_; rintro e w2 ⟨v2, rfl, hr2⟩; obtain ⟨_, a2, c2, rfl, hs2⟩ := ownsRow_slI hr2.1; have m0 := (hr2.2.cell (p := ⟨w.heap.size, 0, none⟩) (by show w.heap.size < wr.heap.size; omega)).trans k0; have m1 := (hr2.2.cell (p := ⟨w.heap.size, 1, none⟩) (by show w.heap.size < wr.heap.size; omega)).trans k1; have m2 := (hr2.2.cell (p := ⟨b0, off0 + k, none⟩) (by show b0 < wr.heap.size; omega)).trans d0; have HS2 := hid hs2; have HB2 := hid hr2.2; clear hr2 hs2))
      have hB2 : Below wr.heap.size wr w2 := (below_drewN (Below.refl _ wr) 1).trans HB2.out
      have HBr2 := hid (HBr.out.trans (hB2.mono HBr.out.size))
      have hs2z : wr.heap.size ≤ w2.heap.size := HB2.out.size
      have hw2z : w.heap.size < w2.heap.size := by omega
      have hb0z : b0 < w2.heap.size := by omega
      have M0 := hid m0
      have M1 := hid m1
      have M2 := hid m2
      have HBw2 := hid (HBw.out.trans (hB2.mono HBw.out.size))
      have Hown2 : Hid (RowP w2 (w.heap.size + 1) b c L) := hid (row_later (B := 0) Hown.out hB2 rfl)
      clear m0 m1 m2 k0 k1 d0 HAb hB2
      go_wp2_with fail
      go_loopw [3, 6] (fun v j wx => ∃ (jj b' c' : Nat), jj ≤ hs.length ∧ j = .int .i64 jj ∧ v = .slice (some ⟨b', 0, none⟩) (L ++ (hs.map fun h => ((fn : Int), h)).take jj).length c' ∧ Hid (RowP wx (w.heap.size + 1) b' c' (L ++ (hs.map fun h => ((fn : Int), h)).take jj)) ∧ Below w2.heap.size w2 wx) (fun _ j _ => hs.length - (intOf j).toNat)
      case atStart => exact ⟨0, b, c, Nat.zero_le _, rfl, by simp, hid (by simpa using Hown2.out), Below.refl _ _⟩
      case round =>
        obtain ⟨j, b', c', hj, rfl, rfl, Hown', hBx⟩ := hrel
        have k0 := (hBx.cell (p := ⟨w.heap.size, 0, none⟩) (by simp only; omega)).trans M0.out
        have k1 := (hBx.cell (p := ⟨w.heap.size, 1, none⟩) (by simp only; omega)).trans M1.out
        have d0 := (hBx.cell (p := ⟨b0, off0 + k, none⟩) (by simp only; omega)).trans M2.out
        obtain ⟨L', hL'⟩ : ∃ L', L' = L ++ (hs.map fun h => ((fn : Int), h)).take j := ⟨_, rfl⟩
        rw [← hL'] at Hown' ⊢
        have HLj : Hid (L'.length ≤ 63 * 64) := hid (by rw [hL', List.length_append, List.length_take, List.length_map]; have := HLl.out; omega)
        by_cases hjl : j < hs.length
        · obtain ⟨b2, off2, hb2, rfl, hcs⟩ : ∃ b off, b < w2.heap.size ∧ a2 = some ⟨b, off, none⟩ ∧ ∀ i, i < hs.length → w2.cell? ⟨b, off + i, none⟩ = some (.int .i64 (hs[i]?.getD 0)) := by
            rcases HS2.out with h | h
            · rw [h] at hjl; simp at hjl
            · exact h
          obtain ⟨h, hh⟩ : ∃ h, h = hs[j]?.getD 0 := ⟨_, rfl⟩
          have e0 := (hBx.cell (p := ⟨b2, off2 + j, none⟩) hb2).trans (hcs j hjl)
          rw [← hh] at e0
          have hbx := HBw2.out.trans (hBx.mono HBw2.out.size)
          have hj0 : (0 : Int) ≤ (j : Int) := by omega
          have hj1 : (j : Int) < (hs.length : Int) := by omega
          have hwx : w.heap.size < wr.heap.size := by have := hBx.size; omega
          have hb0x : b0 < wr.heap.size := by have := hBx.size; omega
          have hb2x : b2 < wr.heap.size := by have := hBx.size; omega
          have HIn : Hid (insP (flatP L') L'.length (fn : Int) h = flatP (L' ++ [((fn : Int), h)])) := hid (insP_end (by rw [hL', hh]; exact HAh.out j hjl))
          have HIs : Hid (L ++ (hs.map fun h => ((fn : Int), h)).take (j + 1) = L' ++ [((fn : Int), h)]) := hid (by
            rw [hL', List.append_assoc]
            congr 1
            rw [← List.map_take, take_snoc hjl, List.map_append, ← hh, List.map_take]
            rfl)
          obtain ⟨o1, o2, o3⟩ := own_pairs Hown'.out
          have hbd3 := hbx.trans (below_drewN (Below.refl _ wr) 1 |>.mono hbx.size)
          have HWi := hid (with_any V (some ⟨b0, off0, none⟩) cap fs b' 0 L'.length c' (flatP L') (fn : Int) h wr.drew (Hx.out.later hbd3 hbd3.size) o1 o3 (by omega) Hf.out (flatP_len _) (by have := HLj.out; omega) o2)
          rw [HIn.out] at HWi
          have HBx := hid hBx
          clear hcs hbx hBx hh hbd3 o1 o2 o3 hL'
          go_wp2_with fail
          go_region_held3 (fun w' => w'.cell? ⟨w.heap.size, 0, none⟩ = some (.int .i64 V) ∧ w'.cell? ⟨w.heap.size, 1, none⟩ = some (.slice (some ⟨b0, off0, none⟩) fs.length cap) ∧ w'.cell? ⟨b0, off0 + k, none⟩ = some (.int .i64 (fn : Int)) ∧ w'.cell? ⟨b2, off2 + j, none⟩ = some (.int .i64 h)) (go_keep) (first
            | (go_at_call 76; refine HWi.out.mono ?_; rintro e w4 ⟨v4, rfl, ho4, hB4⟩; obtain ⟨g4, c4, rfl⟩ : ∃ g c, v4 = .slice (some ⟨g, 0, none⟩) (L'.length + 1) c := (by rcases ho4.2 with ⟨_, h0⟩ | ⟨g, cp, cur, h1, _⟩; omega; exact ⟨g, cp, h1⟩); have q0 := (hB4.cell (p := ⟨w.heap.size, 0, none⟩) hwx).trans k0; have q1 := (hB4.cell (p := ⟨w.heap.size, 1, none⟩) hwx).trans k1; have q2 := (hB4.cell (p := ⟨b0, off0 + k, none⟩) hb0x).trans d0; have q3 := (hB4.cell (p := ⟨b2, off2 + j, none⟩) hb2x).trans e0; have HO4 := hid ho4; have HB4 := hid hB4; clear hB4 ho4))
          have HB4x := hid (HBx.out.trans (((below_drewN (Below.refl _ wr) 1).trans HB4.out).mono HBx.out.size))
          go_wp2_with fail
          go_roundw
          case rel => exact ⟨j + 1, g4, c4, by omega, by go_num, by rw [HIs.out, List.length_append]; rfl, hid (by rw [HIs.out]; unfold RowP; rw [List.length_append]; exact ownsRow_base HO4.out (by have := HBx.out.size; simp; omega)), HB4x.out⟩
          case measure => simp [intOf]; omega
        · obtain rfl : j = hs.length := by omega
          have e : L' = allP fs (k + 1) := by rw [hL', HPk.out, List.take_of_length_le (by simp)]
          rw [e] at Hown' ⊢
          have HBx := hid hBx
          clear hBx hL' e HLj
          go_wp2_with fail
          go_roundw
          case rel => exact ⟨k + 1, b', c', by omega, by go_num, rfl, Hown', HBr2.out.trans (HBx.out.mono HBr2.out.size)⟩
          case measure => simp [intOf]; omega
    · obtain rfl : k = fs.length := by omega
      have hbw := HB0.out.trans (hB.mono HB0.out.size)
      have k1 := (hB.cell (p := ⟨w.heap.size, 1, none⟩) (by simp only; omega)).trans Hk1.out
      have HBw := hid hbw
      clear hbw hB
      go_wp2_with fail
      go_ret
      exact ⟨b, c, rfl, ownsRow_base Hown.out (by omega), HBw.out⟩

end Go.Proofs.Ytplcbiconfpmlaa

/-! l02Fill. -/
namespace Go.Proofs.Ytplcbiconfpmlaa
open Go.RowKit

/-- A row of pairs from a block's head on. -/
def RowQ (w : World) (g n c : Nat) (qs : List Int) : Prop := g < w.heap.size ∧ n ≤ c ∧ ∀ i, i < qs.length → w.cell? ⟨g, 0 + i, none⟩ = some (.int .i64 (qs[i]?.getD 0))
theorem RowQ.later {w w' : World} {g n c : Nat} {qs : List Int} (h : RowQ w g n c qs) (hB : Below w.heap.size w w') : RowQ w' g n c qs :=
  ⟨Nat.lt_of_lt_of_le h.1 hB.size, h.2.1, fun i hi => (hB.cell (p := ⟨g, 0 + i, none⟩) h.1).trans (h.2.2 i hi)⟩
theorem RowQ.slI {w : World} {g n c : Nat} {qs : List Int} (h : RowQ w g n c qs) : SlI w w.heap.size (some ⟨g, 0, none⟩) qs := .inr ⟨g, 0, h.1, rfl, h.2.2⟩
theorem rowQ_of {w : World} {base b n c : Nat} {qs : List Int} (h : w.ownsRow base 49 2 (.slice (some ⟨b, 0, none⟩) n c) n (qs.map (Value.int .i64))) : RowQ w b n c qs := own_pairs h

/-- The call's own row, or the one that came in. -/
def RowE (w0 w : World) (g0 n0 c0 : Nat) (q0 : List Int) (g n c : Nat) (q : List Int) : Prop :=
  RowQ w g n c q ∧ (w.ownsRow w0.heap.size 49 2 (.slice (some ⟨g, 0, none⟩) n c) n (q.map (Value.int .i64)) ∨ (g = g0 ∧ n = n0 ∧ c = c0 ∧ q = q0))
theorem RowE.later {w0 w w' : World} {g0 n0 c0 : Nat} {q0 : List Int} {g n c : Nat} {q : List Int} (h : RowE w0 w g0 n0 c0 q0 g n c q) (hB : Below w.heap.size w w') : RowE w0 w' g0 n0 c0 q0 g n c q :=
  ⟨h.1.later hB, h.2.imp (fun h => row_later (B := 0) h hB rfl) id⟩

theorem take_snocP {L : List (Int × Int)} {k : Nat} (h : k < L.length) : L.take (k + 1) = L.take k ++ [L[k]?.getD (0, 0)] := by
  rw [List.take_add_one, List.getElem?_eq_getElem h]
  rfl
theorem pairingB_ok {fs ps : List Int} {n : Nat} (h : pairingB fs ps n = true) : OkTo fs ps n := Classical.byContradiction fun hn => by
  rw [pairingB_false hn] at h
  cases h

set_option maxRecDepth 1000000 in
set_option maxHeartbeats 8000000 in
theorem fillS_any (V : Int) (a0 : Option Addr) (cap : Nat) (fs : List Int) (g n c : Nat) (qs : List Int) (w : World) (hx : SlI w w.heap.size a0 fs) (hC : IsC V fs) (hq : qs.length = 2 * n) (hr : RowQ w g n c qs) (hO : OkTo fs qs n) :
    Calls Try.prog 69 #[.agg #[.int .i64 V, .slice a0 fs.length cap], .slice (some ⟨g, 0, none⟩) n c] w fun e w' => ∃ g' n' c', e = .returned (.slice (some ⟨g', 0, none⟩) n' c') ∧ (fillF fs qs (allP fs fs.length)).length = 2 * n' ∧ RowE w w' g n c qs g' n' c' (fillF fs qs (allP fs fs.length)) ∧ Below w.heap.size w w' := by
  have h63 := hC.len63
  have hl : fs.length ≤ 1048576 := by omega
  have Hf := hid hC.range63
  obtain ⟨W0, hW0⟩ : ∃ W0, W0 = w.alloc (.cells #[.int .i64 V, .slice a0 fs.length cap] 28) := ⟨_, rfl⟩
  have hB0 : Below w.heap.size w W0 := by rw [hW0]; exact (Below.refl _ w).alloc (Nat.le_refl _) _
  have hs0 : W0.heap.size = w.heap.size + 1 := by rw [hW0]; simp
  have q0 : W0.heap[w.heap.size]? = some (.cells #[.int .i64 V, .slice a0 fs.length cap] 28 (0, 0)) := by rw [hW0]; exact heap_alloc_new w _
  obtain ⟨k0, k1, _, _⟩ := two_of q0
  have HA := hid (allP_any V a0 cap fs W0 (hx.later hB0 hB0.size) hC)
  have HB0 := hid hB0
  have Q0 := hid q0
  have Hx := hid hx
  have Hr := hid hr
  have HC := hid hC
  have HO := hid hO
  have Hq := hid hq
  have HLl : Hid ((allP fs fs.length).length ≤ 63 * 63) := hid (Nat.le_trans (allP_len h63 _ (Nat.le_refl _)) (Nat.mul_le_mul (by omega) (Nat.le_refl _)))
  obtain ⟨L, hL⟩ : ∃ L, L = allP fs fs.length := ⟨_, rfl⟩
  rw [← hL] at HA HLl ⊢
  clear hx hB0 q0 hr hC hO hq hL
  go_enter Try.func69, Try.ntmps69
  go_wp2_with fail
  rw [← hW0]
  clear hW0
  go_wp2_with fail
  refine HA.out.mono ?_
  rintro e w1 ⟨ba, ca, rfl, hRa, hB1⟩
  have HRa := hid hRa
  have HB1 := hid (HB0.out.trans (hB1.mono HB0.out.size))
  have Q1 := hid ((hB1.block _ (lt_of_get Q0.out)).trans Q0.out)
  clear hRa hB1 k0 k1 HA
  go_wp2_with fail
  go_loopw [1, 6] (fun v i wr => ∃ (k g' n' c' : Nat), k ≤ L.length ∧ i = .int .i64 k ∧ v = .slice (some ⟨g', 0, none⟩) n' c' ∧ Hid ((fillF fs qs (L.take k)).length = 2 * n' ∧ OkTo fs (fillF fs qs (L.take k)) n') ∧ Hid (RowE w wr g n c qs g' n' c' (fillF fs qs (L.take k))) ∧ Hid (Below w1.heap.size w1 wr)) (fun _ i _ => L.length - (intOf i).toNat)
  case atStart => exact ⟨0, g, n, c, Nat.zero_le _, rfl, rfl, hid ⟨by simpa [fillF] using Hq.out, by simpa [fillF] using HO.out⟩, hid ⟨by simpa [fillF] using Hr.out.later HB1.out, .inr ⟨rfl, rfl, rfl, by simp [fillF]⟩⟩, hid (Below.refl _ _)⟩
  case round =>
    obtain ⟨k, g', n', c', hk, rfl, rfl, Hn', HR', HB⟩ := hrel
    obtain ⟨q, hq⟩ : ∃ q, q = fillF fs qs (L.take k) := ⟨_, rfl⟩
    have Hqe := hid hq
    rw [← hq] at Hn' HR'
    clear hq
    have hpw := (HB.out.block _ (lt_of_get Q1.out)).trans Q1.out
    obtain ⟨k0, k1, _, _⟩ := two_of hpw
    by_cases hlt : k < L.length
    · have hBw := HB1.out.trans (HB.out.mono HB1.out.size)
      have hra := row_later (B := 0) HRa.out HB.out rfl
      obtain ⟨o1, o2, o3⟩ := own_pairs hra
      obtain ⟨⟨x, y⟩, hxy⟩ : ∃ p : Int × Int, p = L[k]?.getD (0, 0) := ⟨_, rfl⟩
      obtain ⟨e0, e1⟩ := flatP_at L k hlt
      rw [← hxy] at e0 e1
      have c0 := o3 (k * 2) (by rw [flatP_len]; omega)
      have c1 := o3 (k * 2 + 1) (by rw [flatP_len]; omega)
      unfold at0 at e0 e1
      rw [e0] at c0
      rw [e1] at c1
      simp only [Nat.zero_add] at c0 c1
      have HSt : Hid (fillF fs qs (L.take (k + 1)) = stepF fs q (x, y)) := hid (by rw [take_snocP hlt, fillF_snoc, ← Hqe.out, hxy])
      have hn64 := okTo_len HC.out Hn'.out.2
      have hBd := hBw.trans (below_drewN (Below.refl _ wr) 1 |>.mono hBw.size)
      have HWi := hid (with_any V a0 cap fs g' 0 n' c' q x y wr.drew (Hx.out.later hBd hBd.size) HR'.out.1.1 HR'.out.1.2.2 hl Hf.out Hn'.out.1 (by omega) HR'.out.1.2.1)
      have hi0 : (0 : Int) ≤ (k : Int) := by omega
      have hi1 : (k : Int) < (L.length : Int) := by omega
      have hgp : w.heap.size < wr.heap.size := lt_of_get hpw
      have Hlt := hid hlt
      have hLl := HLl.out
      have hba : ba < wr.heap.size := o1
      have HBw := hid hBw
      clear hxy e0 e1 o1 o2 o3 hra hBd hBw hpw
      go_wp2_with fail
      go_region_held3 (fun w' => w'.cell? ⟨w.heap.size, 0, none⟩ = some (.int .i64 V) ∧ w'.cell? ⟨w.heap.size, 1, none⟩ = some (.slice a0 fs.length cap) ∧ w'.cell? ⟨ba, k * 2, none⟩ = some (.int .i64 x) ∧ w'.cell? ⟨ba, k * 2 + 1, none⟩ = some (.int .i64 y)) (go_keep) (first
        | (go_at_call 76; refine HWi.out.mono ?_; rintro e w4 ⟨v4, rfl, ho4, hB4⟩; obtain ⟨g4, c4, rfl⟩ : ∃ g c, v4 = .slice (some ⟨g, 0, none⟩) (n' + 1) c := (by rcases ho4.2 with ⟨_, h0⟩ | ⟨g, cp, cur, h1, _⟩; omega; exact ⟨g, cp, h1⟩); have q0 := (hB4.cell (p := ⟨w.heap.size, 0, none⟩) hgp).trans k0; have q1 := (hB4.cell (p := ⟨w.heap.size, 1, none⟩) hgp).trans k1; have q2 := (hB4.cell (p := ⟨ba, k * 2, none⟩) hba).trans c0; have q3 := (hB4.cell (p := ⟨ba, k * 2 + 1, none⟩) hba).trans c1; have HO4 := hid ho4; have HB4 := hid hB4; clear hB4 ho4))
      have hb4 : Below wr.heap.size wr w4 := (below_drewN (Below.refl _ wr) 1).trans HB4.out
      have HB4x := hid (HB.out.trans (hb4.mono HB.out.size))
      have HRo := hid (HR'.out.later hb4)
      have HIl := hid (insP_len Hn'.out.1 x y)
      have HOw := hid (ownsRow_base HO4.out (show w.heap.size ≤ wr.heap.size by omega))
      clear hb4
      obtain ⟨pb, hpb⟩ : ∃ pb, pb = pairingB fs (insP q n' x y) (n' + 1) := ⟨_, rfl⟩
      have Hpb := hid hpb
      rw [← hpb]
      clear hpb
      cases pb
      · have HN : Hid (stepF fs q (x, y) = q) := hid (stepF_no Hn'.out.1 (by unfold withB; rw [← Hpb.out]; rfl))
        go_wp2_with fail
        go_roundw
        case rel => exact ⟨k + 1, g', n', c', by have := Hlt.out; omega, by go_num, rfl, hid (by rw [HSt.out, HN.out]; exact Hn'.out), hid (by rw [HSt.out, HN.out]; exact HRo.out), HB4x⟩
        case measure => have := Hlt.out; simp [intOf]; omega
      · have HOk := hid (pairingB_ok Hpb.out.symm)
        have HAy := hid (acyclicS_any (some ⟨g4, 0, none⟩) (n' + 1) c4 (insP q n' x y) w4 (rowQ_of HOw.out).slI HIl.out (by omega) (okTo_highs HC.out HOk.out) (okTo_lows HC.out HOk.out))
        obtain ⟨ab, hab⟩ : ∃ ab, ab = acyB (insP q n' x y) (n' + 1) := ⟨_, rfl⟩
        have Hab := hid hab
        rw [← hab] at HAy
        clear hab
        have HWb : Hid (withB fs q n' x y = ab) := hid (by unfold withB; rw [← Hpb.out, ← Hab.out]; rfl)
        cases ab
        · have HN : Hid (stepF fs q (x, y) = q) := hid (stepF_no Hn'.out.1 HWb.out)
          go_wp2_with (go_at_call 77; refine HAy.out.mono ?_; rintro e w5 ⟨rfl, hB5⟩; have HB5 := hid hB5; clear hB5)
          go_roundw
          case rel => exact ⟨k + 1, g', n', c', by have := Hlt.out; omega, by go_num, rfl, hid (by rw [HSt.out, HN.out]; exact Hn'.out), hid (by rw [HSt.out, HN.out]; exact HRo.out.later HB5.out), hid (HB4x.out.trans (HB5.out.mono HB4x.out.size))⟩
          case measure => have := Hlt.out; simp [intOf]; omega
        · have HN : Hid (stepF fs q (x, y) = insP q n' x y) := hid (stepF_yes Hn'.out.1 HWb.out)
          go_wp2_with (go_at_call 77; refine HAy.out.mono ?_; rintro e w5 ⟨rfl, hB5⟩; have HB5 := hid hB5; clear hB5)
          go_roundw
          case rel => exact ⟨k + 1, g4, n' + 1, c4, by have := Hlt.out; omega, by go_num, rfl, hid (by rw [HSt.out, HN.out]; exact ⟨HIl.out, HOk.out⟩), hid (by rw [HSt.out, HN.out]; have h := row_later (B := 0) HOw.out HB5.out rfl; exact ⟨rowQ_of h, .inl h⟩), hid (HB4x.out.trans (HB5.out.mono HB4x.out.size))⟩
          case measure => have := Hlt.out; simp [intOf]; omega
    · obtain rfl : k = L.length := by omega
      rw [List.take_of_length_le (Nat.le_refl _)] at Hqe
      have HBw := hid (HB1.out.trans (HB.out.mono HB1.out.size))
      clear hpw k0 k1
      go_wp2_with fail
      go_ret
      exact ⟨g', n', c', rfl, by rw [← Hqe.out]; exact Hn'.out.1, by rw [← Hqe.out]; exact HR'.out, HBw.out⟩

end Go.Proofs.Ytplcbiconfpmlaa

/-! withPair. -/
namespace Go.Proofs.Ytplcbiconfpmlaa
open Go.RowKit

theorem ins_mem {ps : List Int} {n : Nat} {x y z : Int} (h : z ∈ insP ps n x y) : z ∈ ps ∨ z = x ∨ z = y := by
  unfold insP at h
  rcases List.mem_append.1 h with h | h
  · exact .inl (List.mem_of_mem_take h)
  · rcases List.mem_cons.1 h with rfl | h
    · exact .inr (.inl rfl)
    · rcases List.mem_cons.1 h with rfl | h
      · exact .inr (.inr rfl)
      · exact .inl (List.mem_of_mem_drop h)
theorem noT_step {ps : List Int} {k : Nat} {x y : Int} (h : NoT ps k x y) (hc : clashB x y (at0 ps (k * 2)) (at0 ps (k * 2 + 1)) = false) : NoT ps (k + 1) x y := fun j hj => by
  by_cases e : j = k
  · rw [e]; exact hc
  · exact h j (by omega)

set_option maxRecDepth 1000000 in
set_option maxHeartbeats 4000000 in
theorem wp_with (V : Int) (fs : List Int) (a1 : Option Addr) (n cap1 : Nat) (ps : List Int) (x y : Int) (w : World) (hx1 : SlI w w.heap.size a1 ps) (hp : ps.length = 2 * n) (hn : n ≤ 1048575) (hw : ∀ x ∈ ps, (Lit.int .i64 x).wf = true)
    (wx : (Lit.int .i64 x).wf = true) (wy : (Lit.int .i64 y).wf = true) (hC : IsC V fs) (hO : OkTo fs ps n) (hxy : pairB fs x y = true) :
    Calls Try.prog 73 #[.slice a1 n cap1, .agg #[.int .i64 x, .int .i64 y]] w fun e w' => ∃ v, e = .returned (.tuple #[v, .bool (withB fs ps n x y)]) ∧ (withB fs ps n x y = true → w'.ownsRow w.heap.size 49 2 v (n + 1) ((insP ps n x y).map (Value.int .i64))) ∧ Below w.heap.size w w' := by
  obtain ⟨W0, hW0⟩ : ∃ W0, W0 = w.alloc (.cells #[.int .i64 x, .int .i64 y] 49) := ⟨_, rfl⟩
  have hB0 : Below w.heap.size w W0 := by rw [hW0]; exact (Below.refl _ w).alloc (Nat.le_refl _) _
  have hpb : W0.heap[w.heap.size]? = some (.cells #[.int .i64 x, .int .i64 y] 49 (0, 0)) := by rw [hW0]; exact heap_alloc_new w _
  have hs0 : W0.heap.size = w.heap.size + 1 := by rw [hW0]; simp
  have Hc : Hid (0 < n → ∃ b off, b < w.heap.size ∧ a1 = some ⟨b, off, none⟩ ∧ ∀ i, i < ps.length → w.cell? ⟨b, off + i, none⟩ = some (.int .i64 (at0 ps i))) := hid (fun h0 => by
    rcases hx1 with rfl | h
    · simp at hp; omega
    · obtain ⟨b, off, h1, h2, h3⟩ := h
      exact ⟨b, off, h1, h2, h3⟩)
  have HCl := hid (fun (W : World) (h : Below w.heap.size w W) => clone_any a1 n cap1 ps W (hx1.later h h.size) hp (by omega))
  have HBin := hid (fun (W : World) (h : Below w.heap.size w W) => bin_any a1 n cap1 ps x y W (hx1.later h h.size) hp (by omega) (okTo_mono hO))
  have HNo := hid (fun (hT : ¬ NoT ps n x y) => withB_no hp hO hxy hT)
  have HYes := hid (fun (hT : NoT ps n x y) => withB_yes hp hO hxy hT)
  have HPl := hid (fun (hT : NoT ps n x y) (k : Nat) (h : k ≤ n ∧ (∀ j, j < k → lessP (at0 ps (j * 2)) (at0 ps (j * 2 + 1)) x y = true) ∧ (∀ j, k ≤ j → j < n → lessP (at0 ps (j * 2)) (at0 ps (j * 2 + 1)) x y = false)) => (by
    rw [← insAt_eq, place_eq h.1 h.2.1 h.2.2 hT] : insP ps n x y = insAt ps k x y))
  have HAc := hid (fun (hT : NoT ps n x y) (v : Option Addr) (c : Nat) (W : World) (h : SlI W W.heap.size v (insP ps n x y)) => isAcy_any v (n + 1) c (insP ps n x y) W h (insP_len hp x y) (by omega) (fun z hz => by
    rcases ins_mem hz with h | rfl | rfl
    · exact hw z h
    · exact wx
    · exact wy) (okTo_apart ((pairing_ins hp hO hxy).2 hT)) (okTo_highs hC ((pairing_ins hp hO hxy).2 hT)))
  have Hp := hid hp
  have HB0 := hid hB0
  have Hpb := hid hpb
  have Hs0 := hid hs0
  clear hp hB0 hpb hx1 hw wx wy hC hO hxy hs0
  obtain ⟨r, hr⟩ : ∃ r, r = withB fs ps n x y := ⟨_, rfl⟩
  rw [← hr] at HNo HYes ⊢
  clear hr
  go_enter Try.func73, Try.ntmps73
  go_wp2_with fail
  rw [← hW0]
  clear hW0
  go_loopw [13] (fun i wr => ∃ k : Nat, k ≤ n ∧ i = .int .i64 k ∧ Hid (NoT ps k x y) ∧ Hid (Below W0.heap.size W0 wr)) (fun i _ => n - (intOf i).toNat)
  case atStart => exact ⟨0, Nat.zero_le _, rfl, hid (fun j h => by omega), hid (Below.refl _ _)⟩
  case round =>
    obtain ⟨k, hk, rfl, Hk, HB⟩ := hrel
    have hBw := HB0.out.trans (HB.out.mono HB0.out.size)
    have hpw := (HB.out.block _ (lt_of_get Hpb.out)).trans Hpb.out
    have Hpw := hid hpw
    by_cases hlt : k < n
    · obtain ⟨b, off, hb, rfl, hc⟩ := Hc.out (by omega)
      have c0 : wr.cell? ⟨b, off + k * 2, none⟩ = some (.int .i64 (at0 ps (k * 2))) := (hBw.cell (p := ⟨b, off + k * 2, none⟩) hb).trans (hc _ (by have := Hp.out; omega))
      have c1 : wr.cell? ⟨b, off + k * 2 + 1, none⟩ = some (.int .i64 (at0 ps (k * 2 + 1))) := (hBw.cell (p := ⟨b, off + (k * 2 + 1), none⟩) hb).trans (hc _ (by have := Hp.out; omega))
      obtain ⟨u, hu⟩ : ∃ u, u = at0 ps (k * 2) := ⟨_, rfl⟩
      obtain ⟨v, hv⟩ : ∃ v, v = at0 ps (k * 2 + 1) := ⟨_, rfl⟩
      rw [← hu] at c0
      rw [← hv] at c1
      have Hst : Hid ((clashB x y u v = false → NoT ps (k + 1) x y) ∧ (clashB x y u v = true → ¬ NoT ps n x y)) := hid ⟨fun h => noT_step Hk.out (by rw [← hu, ← hv]; exact h), fun h hT => by
        have := hT k hlt
        rw [← hu, ← hv, h] at this
        cases this⟩
      have hi0 : (0 : Int) ≤ (k : Int) := by omega
      have hi1 : (k : Int) < (n : Int) := by omega
      obtain ⟨W1, hW1⟩ : ∃ W1, W1 = wr.alloc (.cells #[.int .i64 u, .int .i64 v] 49) := ⟨_, rfl⟩
      have hB1 : Below wr.heap.size wr W1 := by rw [hW1]; exact (Below.refl _ wr).alloc (Nat.le_refl _) _
      have q0 : W1.heap[wr.heap.size]? = some (.cells #[.int .i64 u, .int .i64 v] 49 (0, 0)) := by rw [hW1]; exact heap_alloc_new wr _
      have hpw1 := (hB1.block _ (lt_of_get hpw)).trans hpw
      have HCo := hid (fun (z : Int) (W : World) (h : Below wr.heap.size wr W) => contains_any (some ⟨w.heap.size, 0, none⟩) 2 [x, y] z W (.inr ⟨w.heap.size, 0, Nat.lt_of_lt_of_le (lt_of_get hpw) h.size, rfl, fun i hi => by
        obtain ⟨p0, p1, _, _⟩ := two_of ((h.block _ (lt_of_get Hpw.out)).trans Hpw.out)
        rcases (show i = 0 ∨ i = 1 by simp at hi; omega) with rfl | rfl
        · exact p0
        · exact p1⟩) (by simp))
      have HB1 := hid hB1
      have Hxy : Hid ((decide (u ∈ [x, y]) || decide (v ∈ [x, y])) = clashB x y u v) := hid (by
        unfold clashB
        rw [Bool.eq_iff_iff]
        simp only [Bool.or_eq_true, decide_eq_true_eq, List.mem_cons, List.not_mem_nil, or_false]
        omega)
      obtain ⟨r1, hr1⟩ : ∃ r1, r1 = decide (u ∈ [x, y]) := ⟨_, rfl⟩
      obtain ⟨r2, hr2⟩ : ∃ r2, r2 = decide (v ∈ [x, y]) := ⟨_, rfl⟩
      have Hr1 := hid hr1
      have Hr2 := hid hr2
      rw [← hr1, ← hr2] at Hxy
      obtain ⟨p0, p1, _, _⟩ := two_of hpw1
      obtain ⟨d0, d1, _, _⟩ := two_of q0
      have HU : Hid (∀ m : Nat, Calls Try.prog 126 #[.slice (some ⟨w.heap.size, 0, none⟩) 2 2, .int .i64 u] (W1.drewN m) fun e w' => e = .returned (.bool (decide (u ∈ [x, y]))) ∧ W1.drewN m = w') := hid (fun (m : Nat) => HCo.out u (W1.drewN m) (HB1.out.trans ((below_drewN (Below.refl _ W1) m).mono HB1.out.size)))
      have HV : Hid (∀ m : Nat, Calls Try.prog 126 #[.slice (some ⟨w.heap.size, 0, none⟩) 2 2, .int .i64 v] (W1.drewN m) fun e w' => e = .returned (.bool (decide (v ∈ [x, y]))) ∧ W1.drewN m = w') := hid (fun (m : Nat) => HCo.out v (W1.drewN m) (HB1.out.trans ((below_drewN (Below.refl _ W1) m).mono HB1.out.size)))
      rw [← Hr1.out] at HU
      rw [← Hr2.out] at HV
      have HB2 := hid (HB.out.trans (HB1.out.mono HB.out.size))
      clear hu hv hc hBw hpw hpw1 hB1 q0 hr1 hr2
      go_wp2_with fail
      rw [← hW1]
      clear hW1
      cases r1 <;> cases r2
      case false.false =>
        have He := hid (Hst.out.1 Hxy.symm)
        go_quiet (first
          | (go_at_call 126; with_reducible exact quiet_of_eq (HU.out _))
          | (go_at_call 126; with_reducible exact quiet_of_eq (HV.out _))
          | fail)
        go_wp2_with fail
        go_roundw
        case rel => exact ⟨k + 1, by omega, by go_num, He, hid (HB2.out.trans ((below_drewN (Below.refl _ W1) _).mono HB2.out.size))⟩
        case measure => simp [intOf]; omega
      all_goals
        have He : Hid (r = false) := hid (HNo.out (Hst.out.2 Hxy.symm))
        go_quiet (first
          | (go_at_call 126; with_reducible exact quiet_of_eq (HU.out _))
          | (go_at_call 126; with_reducible exact quiet_of_eq (HV.out _))
          | fail)
        go_wp2_with fail
        go_ret2
        exact ⟨.slice none 0 0, by rw [He.out]; rfl, fun h => absurd h (by rw [He.out]; simp), HB0.out.trans ((HB2.out.trans ((below_drewN (Below.refl _ W1) _).mono HB2.out.size)).mono HB0.out.size)⟩
    · obtain rfl : k = n := by omega
      obtain ⟨p0, p1, _, _⟩ := two_of hpw
      have HBw := hid hBw
      have Hr : Hid (r = acyB (insP ps k x y) (k + 1)) := hid (HYes.out Hk.out)
      clear hBw hpw
      go_wp2_with fail
      refine (HBin.out wr HBw.out).mono ?_
      rintro e wq ⟨m, f, rfl, hm, hBq⟩
      have HIe := hid (HPl.out Hk.out m hm)
      have hmk := hm.1
      have HBq := hid (HBw.out.trans (hBq.mono HBw.out.size))
      have hpq := (hBq.block _ (lt_of_get Hpw.out)).trans Hpw.out
      have HPq := hid hpq
      obtain ⟨s0, s1, _, _⟩ := two_of hpq
      clear hm hBq hpq p0 p1
      have HBd : Hid (Below w.heap.size w wq.drew) := hid (HBq.out.trans ((below_drewN (Below.refl _ wq) 1).mono HBq.out.size))
      have HBe : Hid (Below w.heap.size w (wq.alloc (.cells #[.int .i64 x, .int .i64 y] 49)).drew) := hid (by have h := HBq.out.alloc HBq.out.size (.cells #[.int .i64 x, .int .i64 y] 49); exact ⟨h.os, h.tape, h.output, h.size, h.block⟩)
      go_wp2_with fail
      go_region_with (first
        | (go_at_call 72; first
            | ((with_reducible refine (HCl.out _ HBd.out).mono ?_); rintro e w2 ⟨v2, rfl, hown2, hB2⟩; have t0 := (hB2.cell (p := ⟨w.heap.size, 0, none⟩) (lt_of_get HPq.out)).trans s0; have t1 := (hB2.cell (p := ⟨w.heap.size, 1, none⟩) (lt_of_get HPq.out)).trans s1; have HO2 := hid hown2; have HB2 := hid hB2; have HBW := hid ((HBd.out.trans (HB2.out.mono HBd.out.size)).alloc (HBd.out.trans (HB2.out.mono HBd.out.size)).size (.cells #[.int .i64 x, .int .i64 y] 49)); have HIns := hid (ins_any w.heap.size v2 k m w2.heap.size ps x y (w2.alloc (.cells #[.int .i64 x, .int .i64 y] 49)) ((ownsRow_base HO2.out HBq.out.size).alloc _) (by have := HBq.out.size; have := HB2.out.size; simp at *; omega) hn hmk (heap_alloc_new _ _) (fun e => absurd (HO2.out.lt _ e).2 (Nat.lt_irrefl _))); clear hown2 hB2)
            | ((with_reducible refine (HCl.out _ HBe.out).mono ?_); rintro e w2 ⟨v2, rfl, hown2, hB2⟩; have HO2 := hid hown2; have HB2 := hid hB2; have HBW := hid (HBe.out.trans (HB2.out.mono HBe.out.size)); have HIns := hid (ins_any w.heap.size v2 k m wq.heap.size ps x y w2 (ownsRow_base HO2.out HBe.out.size) (Nat.le_trans HBe.out.size HB2.out.size) hn hmk ((HB2.out.block wq.heap.size (by simp)).trans (heap_alloc_new wq _)) (fun e => absurd (HO2.out.lt _ e).1 (by simp))); clear hown2 hB2))
        | (go_at_call 128; (with_reducible refine HIns.out.mono ?_); rintro e w5 ⟨v5, rfl, hown5, hB5⟩; have HO5 := hid hown5; have HB5 := hid hB5; clear hown5 hB5)
        | fail)
      all_goals
        obtain ⟨g5, c5, rfl⟩ : ∃ g c, v5 = .slice (some ⟨g, 0, none⟩) (k + 1) c := by
          rcases HO5.out.2 with ⟨_, h0⟩ | ⟨g, cp, cur, h1, _⟩
          · omega
          · exact ⟨g, cp, h1⟩
        have HAy := hid (HAc.out Hk.out (some ⟨g5, 0, none⟩) c5 w5 (by rw [HIe.out]; exact flat_slI HO5.out))
        rw [← Hr.out] at HAy
        go_wp2_with (go_at_call 109; refine HAy.out.mono ?_; rintro e w6 ⟨rfl, hB6⟩; have HB6 := hid hB6; clear hB6)
        go_ret2
        exact ⟨_, rfl, fun _ => by rw [HIe.out]; exact HO5.out.kept (row := none) ⟨HB6.out.os, HB6.out.tape, HB6.out.output, HB6.out.size, fun q hq _ => HB6.out.block q hq⟩ (.inr (by simp [Value.ownBlock])), (HBW.out.trans HB5.out).trans (HB6.out.mono (HBW.out.trans HB5.out).size)⟩

end Go.Proofs.Ytplcbiconfpmlaa

/-! GreedyPairing, both doors. -/
namespace Go.Proofs.Ytplcbiconfpmlaa
open Go.RowKit

/-- A flat list as pairs. -/
def unP : List Int → List (Int × Int)
  | x :: y :: r => (x, y) :: unP r
  | _ => []
theorem flat_unP : ∀ (n : Nat) (q : List Int), q.length = 2 * n → flatP (unP q) = q
  | 0, [], _ => rfl
  | n + 1, x :: y :: r, h => by
    have := flat_unP n r (by simp at h; omega)
    show x :: y :: flatP (unP r) = _
    rw [this]
theorem unP_len : ∀ (n : Nat) (q : List Int), q.length = 2 * n → (unP q).length = n
  | 0, [], _ => rfl
  | n + 1, x :: y :: r, h => by
    have := unP_len n r (by simp at h; omega)
    show (unP r).length + 1 = _
    rw [this]
theorem pairs_monoG {P : Program} {f : FuncId} {args : Array Value} {w : World} {r : List (Int × Int) × Int} {xs : List (Int × Int)} {c : Int} (hr : r = (xs, c))
    (h : Calls P f args w fun e w' => ∃ v, e = .returned (.tuple #[v, .int .i64 c]) ∧ ResP w w' v xs) : Calls P f args w fun e w' => ∃ v, e = .returned (.tuple #[v, .int .i64 r.2]) ∧ ResP w w' v r.1 := by
  subst hr; exact h
theorem resP_un {w w' : World} {v : Value} {n : Nat} {q : List Int} (hq : q.length = 2 * n) (h : w'.ownsRow w.heap.size 49 2 v n (q.map (Value.int .i64))) (hB : Below w.heap.size w w') : ResP w w' v (unP q) := by
  refine ⟨?_, hB⟩
  rw [flat_unP n q hq, unP_len n q hq]
  exact h

theorem okTo_nil (fs : List Int) : OkTo fs [] 0 := fun _ hi => absurd hi (Nat.not_lt_zero _)
theorem wf_faceG {V : Int} {fs : List Int} (hC : IsC V fs) {x : Int} (h : x ∈ fs) : (Lit.int .i64 x).wf = true := by
  have := hC.range63 x h
  exact WalkArith.wf_i64 (by omega)
theorem wf_pair {V : Int} {fs : List Int} (hC : IsC V fs) {x y : Int} (h : pairB fs x y = true) : (Lit.int .i64 x).wf = true ∧ (Lit.int .i64 y).wf = true := by
  unfold pairB at h
  simp at h
  exact ⟨wf_faceG hC h.1.1.1, wf_faceG hC h.1.1.2⟩
theorem wf_ok {V : Int} {fs q : List Int} {n : Nat} (hC : IsC V fs) (h : q.length = 2 * n ∧ OkTo fs q n) : ∀ x ∈ q, (Lit.int .i64 x).wf = true := by
  intro x hx
  obtain ⟨j, hj, rfl⟩ := List.getElem_of_mem hx
  have hp := wf_pair hC (h.2 (j / 2) (by omega)).1
  have e : q[j] = at0 q j := by unfold at0; rw [List.getElem?_eq_getElem hj]; rfl
  rw [e]
  rcases Nat.mod_two_eq_zero_or_one j with hm | hm
  · rw [show j / 2 * 2 = j by omega] at hp
    exact hp.1
  · rw [show j / 2 * 2 + 1 = j by omega] at hp
    exact hp.2
noncomputable def greedyR (V : Int) (fs : List Int) : List (Int × Int) × Int := if isCB V fs then (unP (fillF fs [] (allP fs fs.length)), 0) else ([], 1)
theorem greedyR_len (V : Int) (fs : List Int) (_h : fs.length ≤ 1048576) : (greedyR V fs).1.length ≤ 1048576 := by
  unfold greedyR
  split
  · next h =>
    have hC : IsC V fs := Classical.byContradiction fun hn => by rw [isCB_false hn] at h; cases h
    obtain ⟨m, h1, h2, _⟩ := fillF_ok (fs := fs) (allP fs fs.length) (q := []) (n := 0) rfl (okTo_nil fs)
    have := okTo_len hC h2
    rw [unP_len m _ h1]
    omega
  · simp

set_option maxRecDepth 100000 in
set_option maxHeartbeats 2000000 in
theorem specGreedyPairing (V : Int) (a0 : Option Addr) (cap : Nat) (fs : List Int) (w : World) (hx : SlI w w.heap.size a0 fs) (hl : fs.length ≤ 1048576) :
    Calls Try.prog 39 #[.agg #[.int .i64 V, .slice a0 fs.length cap]] w fun e w' => ∃ v, e = .returned (.tuple #[v, .int .i64 (greedyR V fs).2]) ∧ ResP w w' v (greedyR V fs).1 := by
  have hB0 : Below w.heap.size w (w.alloc (.cells #[.int .i64 V, .slice a0 fs.length cap] 28)) := (Below.refl _ w).alloc (Nat.le_refl _) _
  have Hx := hid (hx.later hB0 hB0.size)
  by_cases hC : IsC V fs
  · refine pairs_monoG (show greedyR V fs = (unP (fillF fs [] (allP fs fs.length)), 0) by unfold greedyR; rw [isCB_true hC, if_pos rfl]) ?_
    have HC := hid hC
    have Hx0 := hid hx
    obtain ⟨q, hq⟩ : ∃ q, q = fillF fs [] (allP fs fs.length) := ⟨_, rfl⟩
    have Hq := hid hq
    rw [← hq]
    clear hC hx hq
    go_enter Try.func39, Try.ntmps39
    go_wp2_with fail
    refine (is_yes V a0 cap fs _ Hx.out hl HC.out).mono ?_
    rintro e w1 ⟨rfl, hB1⟩
    have hB01 := hB0.trans (hB1.mono (by simp))
    have q0 : w1.heap[w.heap.size]? = some (.cells #[.int .i64 V, .slice a0 fs.length cap] 28 (0, 0)) := (hB1.block _ (by simp)).trans (heap_alloc_new _ _)
    obtain ⟨k0, k1, _, _⟩ := two_of q0
    have hB2 : Below w1.heap.size w1 (w1.alloc (.cells #[] 49)) := (Below.refl _ w1).alloc (Nat.le_refl _) _
    have hB02 := hB01.trans (hB2.mono hB01.size)
    have HF := hid (fillS_any V a0 cap fs w1.heap.size 0 0 [] (w1.alloc (.cells #[] 49)) (Hx0.out.later hB02 hB02.size) HC.out rfl ⟨by simp, Nat.le_refl _, fun i hi => absurd hi (Nat.not_lt_zero _)⟩ (okTo_nil fs))
    have HB02 := hid hB02
    have HB01 := hid hB01
    clear hB0 hB1 hB01 hB2 hB02 q0
    rw [← Hq.out] at HF
    go_wp2_with (go_at_call 69; refine HF.out.mono ?_; rintro e w3 ⟨g', n', c', rfl, hl3, hR3, hB3⟩; have Hl3 := hid hl3; have HR3 := hid hR3; have HB3 := hid hB3; clear hl3 hR3 hB3)
    go_ret2
    refine ⟨_, rfl, resP_un Hl3.out ?_ (HB02.out.trans (HB3.out.mono HB02.out.size))⟩
    rcases HR3.out.2 with h | ⟨rfl, rfl, rfl, rfl⟩
    · exact ownsRow_base h HB02.out.size
    · exact row_later (B := 0) (World.ownsRow_made (base := w.heap.size) (e := 49) (size := 2) w1 #[] 0 HB01.out.size (by unfold maxLen; omega) rfl) HB3.out rfl
  · refine pairs_monoG (show greedyR V fs = ([], 1) by unfold greedyR; rw [isCB_false hC, if_neg (by simp)]) ?_
    go_enter Try.func39, Try.ntmps39
    go_wp2_with fail
    refine (is_no V a0 cap fs _ Hx.out hl hC).mono ?_
    rintro e w1 ⟨rfl, hB1⟩
    go_wp2_with fail
    go_ret2
    exact ⟨_, rfl, World.ownsRow_nil _ _ _ _, hB0.trans (hB1.mono (by simp))⟩

set_option maxRecDepth 1000000 in
set_option maxHeartbeats 8000000 in
theorem implGreedyPairing (V : Int) (a0 : Option Addr) (cap : Nat) (fs : List Int) (w : World) (hx : SlI w w.heap.size a0 fs) (hl : fs.length ≤ 1048576) :
    Calls Try.prog 40 #[.agg #[.int .i64 V, .slice a0 fs.length cap]] w fun e w' => ∃ v, e = .returned (.tuple #[v, .int .i64 (greedyR V fs).2]) ∧ ResP w w' v (greedyR V fs).1 := by
  have hB0 : Below w.heap.size w (w.alloc (.cells #[.int .i64 V, .slice a0 fs.length cap] 28)) := (Below.refl _ w).alloc (Nat.le_refl _) _
  have Hx := hid (hx.later hB0 hB0.size)
  by_cases hC : IsC V fs
  · refine pairs_monoG (show greedyR V fs = (unP (fillF fs [] (allP fs fs.length)), 0) by unfold greedyR; rw [isCB_true hC, if_pos rfl]) ?_
    have HC := hid hC
    have Hx0 := hid hx
    obtain ⟨vn, rfl⟩ : ∃ vn : Nat, V = (vn : Int) := ⟨V.toNat, by have := hC.lo; omega⟩
    have Hpe : Hid (pairsL fs vn fs.length = allP fs fs.length) := hid (by have := allP_pairs hC; rwa [Int.toNat_natCast] at this)
    have HLl : Hid ((allP fs fs.length).length ≤ 63 * 63) := hid (Nat.le_trans (allP_len hC.len63 _ (Nat.le_refl _)) (Nat.mul_le_mul hC.len63 (Nat.le_refl _)))
    have Hmem : Hid (∀ p ∈ allP fs fs.length, pairB fs p.1 p.2 = true) := hid (fun p hp => by
      rw [← Hpe.out] at hp
      have := (mem_pairsL hC p.1 p.2).1 (by rw [Int.toNat_natCast]; exact hp)
      exact this)
    obtain ⟨L, hL⟩ : ∃ L, L = allP fs fs.length := ⟨_, rfl⟩
    rw [← hL] at Hpe HLl Hmem ⊢
    clear hC hx hL
    go_enter Try.func40, Try.ntmps40
    go_wp2_with fail
    refine (isc_yes (vn : Int) a0 cap fs _ Hx.out hl HC.out).mono ?_
    rintro e w1 ⟨rfl, hB1⟩
    have hB01 := hB0.trans (hB1.mono (by simp))
    have q0 : w1.heap[w.heap.size]? = some (.cells #[.int .i64 (vn : Int), .slice a0 fs.length cap] 28 (0, 0)) := (hB1.block _ (by simp)).trans (heap_alloc_new _ _)
    obtain ⟨k0, k1, _, _⟩ := two_of q0
    have HP := hid (pairsOf_any vn a0 cap fs w1 (Hx0.out.later hB01 hB01.size) hl HC.out)
    rw [Hpe.out] at HP
    have HB01 := hid hB01
    clear hB0 hB1 hB01 q0
    go_wp2_with fail
    refine HP.out.mono ?_
    rintro e w2 ⟨v2, rfl, hR2, hB2⟩
    obtain ⟨_, av, cv, rfl, _⟩ := pairs_form hR2
    have HRa := hid hR2
    have HB2 := hid (HB01.out.trans (hB2.mono HB01.out.size))
    clear hR2 hB2 HP
    go_wp2_with fail
    go_loopw [4, 15] (fun v i wr => ∃ (k n' c' : Nat) (a' : Option Addr), k ≤ L.length ∧ i = .int .i64 k ∧ v = .slice a' n' c' ∧ Hid ((fillF fs [] (L.take k)).length = 2 * n' ∧ OkTo fs (fillF fs [] (L.take k)) n') ∧ Hid (wr.ownsRow w.heap.size 49 2 (.slice a' n' c') n' ((fillF fs [] (L.take k)).map (Value.int .i64))) ∧ Hid (Below w2.heap.size w2 wr)) (fun _ i _ => L.length - (intOf i).toNat)
    case atStart => exact ⟨0, 0, 0, none, Nat.zero_le _, rfl, rfl, hid ⟨by simp [fillF], by simpa [fillF] using okTo_nil fs⟩, hid (by simpa [fillF] using World.ownsRow_nil _ _ _ _), hid (Below.refl _ _)⟩
    case round =>
      obtain ⟨k, n', c', a', hk, rfl, rfl, Hn', HR', HB⟩ := hrel
      obtain ⟨q, hq⟩ : ∃ q, q = fillF fs [] (L.take k) := ⟨_, rfl⟩
      have Hqe := hid hq
      rw [← hq] at Hn' HR'
      clear hq
      by_cases hlt : k < L.length
      · have hra := row_later (B := 0) HRa.out HB.out rfl
        obtain ⟨b2, rfl⟩ : ∃ b2, av = some ⟨b2, 0, none⟩ := by
          rcases hra.2 with ⟨h1, h0⟩ | ⟨g, cp, cur, h1, _⟩
          · omega
          · injection h1 with h1
            exact ⟨g, h1⟩
        obtain ⟨o1, o2, o3⟩ := own_pairs hra
        obtain ⟨⟨x, y⟩, hxy⟩ : ∃ p : Int × Int, p = L[k]?.getD (0, 0) := ⟨_, rfl⟩
        obtain ⟨e0, e1⟩ := flatP_at L k hlt
        rw [← hxy] at e0 e1
        have c0 := o3 (k * 2) (by rw [flatP_len]; omega)
        have c1 := o3 (k * 2 + 1) (by rw [flatP_len]; omega)
        unfold at0 at e0 e1
        rw [e0] at c0
        rw [e1] at c1
        simp only [Nat.zero_add] at c0 c1
        have HSt : Hid (fillF fs [] (L.take (k + 1)) = stepF fs q (x, y)) := hid (by rw [take_snocP hlt, fillF_snoc, ← Hqe.out, hxy])
        have hpb : pairB fs x y = true := Hmem.out (x, y) (by rw [hxy, List.getElem?_eq_getElem hlt]; exact List.getElem_mem hlt)
        have hn64 := okTo_len HC.out Hn'.out.2
        have hBw := HB2.out.trans (HB.out.mono HB2.out.size)
        have hBd : Below wr.heap.size wr (wr.alloc (.cells #[.int .i64 x, .int .i64 y] 49)) := (Below.refl _ wr).alloc (Nat.le_refl _) _
        have Hrow := hid (row_later (B := 0) HR'.out hBd rfl)
        have HW := hid (wp_with (vn : Int) fs a' n' c' q x y (wr.alloc (.cells #[.int .i64 x, .int .i64 y] 49)) (flat_slI Hrow.out) Hn'.out.1 (by omega) (wf_ok HC.out Hn'.out) (wf_pair HC.out hpb).1 (wf_pair HC.out hpb).2 HC.out Hn'.out.2 hpb)
        have hi0 : (0 : Int) ≤ (k : Int) := by omega
        have hi1 : (k : Int) < (L.length : Int) := by omega
        have Hlt := hid hlt
        have hLl := HLl.out
        have HBd := hid hBd
        have HBw := hid hBw
        have Hil := hid (insP_len Hn'.out.1 x y)
        clear hxy e0 e1 o1 o2 o3 hra hBd hBw hpb hn64
        obtain ⟨wb, hwb⟩ : ∃ wb, wb = withB fs q n' x y := ⟨_, rfl⟩
        have Hwb := hid hwb
        rw [← hwb] at HW
        clear hwb
        cases wb
        · have HN : Hid (stepF fs q (x, y) = q) := hid (stepF_no Hn'.out.1 Hwb.out.symm)
          go_wp2_with (go_at_call 73; refine HW.out.mono ?_; rintro e w5 ⟨v5, rfl, hv5, hB5⟩; have HB5 := hid (HBd.out.trans (hB5.mono HBd.out.size)); clear hB5 hv5)
          go_roundw
          case rel => exact ⟨k + 1, n', c', a', by have := Hlt.out; omega, by go_num, rfl, hid (by rw [HSt.out, HN.out]; exact Hn'.out), hid (by rw [HSt.out, HN.out]; exact row_later (B := 0) HR'.out HB5.out rfl), hid (HB.out.trans (HB5.out.mono HB.out.size))⟩
          case measure => have := Hlt.out; simp [intOf]; omega
        · have HN : Hid (stepF fs q (x, y) = insP q n' x y) := hid (stepF_yes Hn'.out.1 Hwb.out.symm)
          go_wp2_with (go_at_call 73; refine HW.out.mono ?_; rintro e w5 ⟨v5, rfl, hv5, hB5⟩; have hv5 := hv5 rfl; obtain ⟨g5, c5, rfl⟩ : ∃ g c, v5 = .slice (some ⟨g, 0, none⟩) (n' + 1) c := (by rcases hv5.2 with ⟨_, h0⟩ | ⟨g, cp, cur, h1, _⟩; omega; exact ⟨g, cp, h1⟩); have HV5 := hid hv5; have HB5 := hid (HBd.out.trans (hB5.mono HBd.out.size)); clear hB5 hv5)
          go_roundw
          case rel => exact ⟨k + 1, n' + 1, c5, some ⟨g5, 0, none⟩, by have := Hlt.out; omega, by go_num, rfl, hid (by rw [HSt.out, HN.out]; exact ⟨Hil.out, withB_ok Hwb.out.symm⟩), hid (by rw [HSt.out, HN.out]; exact ownsRow_base HV5.out (Nat.le_trans HBw.out.size HBd.out.size)), hid (HB.out.trans (HB5.out.mono HB.out.size))⟩
          case measure => have := Hlt.out; simp [intOf]; omega
      · obtain rfl : k = L.length := by omega
        rw [List.take_of_length_le (Nat.le_refl _)] at Hqe
        have HBw := hid (HB2.out.trans (HB.out.mono HB2.out.size))
        go_wp2_with fail
        go_ret2
        exact ⟨_, rfl, by rw [← Hqe.out]; exact resP_un Hn'.out.1 HR'.out HBw.out⟩
  · refine pairs_monoG (show greedyR V fs = ([], 1) by unfold greedyR; rw [isCB_false hC, if_neg (by simp)]) ?_
    go_enter Try.func40, Try.ntmps40
    go_wp2_with fail
    refine (isc_no V a0 cap fs _ Hx.out hl hC).mono ?_
    rintro e w1 ⟨rfl, hB1⟩
    go_wp2_with fail
    go_ret2
    exact ⟨_, rfl, World.ownsRow_nil _ _ _ _, hB0.trans (hB1.mono (by simp))⟩

end Go.Proofs.Ytplcbiconfpmlaa

/-! Loops over iterators that keep cells of their own: boxed variables, and loops within a round. -/
namespace Go.Proofs.Ytplcbiconfpmlaa
open Go.RowKit Go.Shelf

attribute [local go_sem] Oper.semAt_some

/-- A loop over such an iterator whose variable is boxed; the body is told of its own record. -/
theorem wpIn_rangeFunc_PH {α : Type} {F : Fence} {n : Nat} {P : Program} {w : World} {g : Operand} {ps : Array Tmp} {assign body : Code} {Q : Exit → Act → World → Prop} {a : Act}
    (hro : F.round = none) (h1 : 1 ≤ n) {gf : Nat} {lb : Array Value} (hg : a.eval g = .func (.func gf) #[] lb) (hFg : F.fn gf) (eg : ∀ args w, (callFunc gf args).run P w = .ok (.enter gf args) w)
    {encs : α → Array Value} {Bs : List Nat} {k : Nat} {L : List α} {w0 : World} (hseq : SeqStopsP F (n - 1) P gf lb encs Bs k L w0) (hBs : ∀ b ∈ Bs, b < w.heap.size)
    (hb0 : Below w0.heap.size w0 w) (hps : ∀ x, (encs x).size = ps.size)
    (I : List α → World → Prop) (Ix : Code → List α → World → Prop) (hI : OwnIn w.heap.size (2 + k) I) (hIx : ∀ c, OwnIn w.heap.size (2 + k) (Ix c)) (h0 : I [] w) (ob : α → Obj) (a₁ : α → Nat → Act)
    (hassign : ∀ (l : Nat) (x : α) (W : World) (K : Act → World → Prop), K (a₁ x W.heap.size) (W.alloc (ob x)) →
      assign.wpIn (F.inRound l) (n - 1 - 1) P (Exit.then K (fun _ _ _ => False)) { tmps := (ps.zip (encs x)).foldl (fun t (p, v) => t.setIfInBounds p v) a.tmps, defers := [] } W)
    (hbody : ∀ (pre : List α) (x : α) (bx : Nat) (W : World), pre ++ [x] <+: L → w.heap.size + (2 + k) ≤ bx → W.heap.size = bx + 1 → W.heap[bx]? = some (ob x) → (∃ r, W.heap[w.heap.size + 1]? = some (.loop r)) → I pre W → body.wpIn (F.inRound (w.heap.size + 1)) (n - 1 - 1) P (postP Bs w.heap.size (2 + k) I Ix (pre ++ [x]) W) (a₁ x bx) W)
    (hdone : ∀ (W : World), I L W → W.heap[w.heap.size]? = some (.deferred (some [])) → Q .normal { a with defers := { target := .collected w.heap.size, args := #[] } :: a.defers } W)
    (hstop : ∀ (c : Code) (pre : List α) (W : World), pre <+: L → Ix c pre W → W.heap[w.heap.size]? = some (.deferred (some [])) → c.wpIn F n P Q { a with defers := { target := .collected w.heap.size, args := #[] } :: a.defers } W) :
    (Code.rangeFunc g ps assign body).wpIn F n P Q a w := by
  refine wpIn_rangeFunc ?_
  intro fn hfn
  rw [hro]
  let rec_ : LoopState → Option Code → Loop := fun st pe => { state := st, pending := pe, fn, tmps := a.tmps, params := ps, assign, body, defers := w.heap.size }
  obtain ⟨rec, hrec⟩ : ∃ rec, rec = rec_ := ⟨_, rfl⟩
  obtain ⟨W1, hW1⟩ : ∃ W1, (w.alloc (.deferred (some []))).alloc (.loop (rec .ready none)) = W1 := ⟨_, rfl⟩
  have hs1 : W1.heap.size = w.heap.size + 2 := by rw [← hW1]; simp
  have hL1 : W1.heap[w.heap.size + 1]? = some (.loop (rec .ready none)) := by
    rw [← hW1]; have := World.alloc_heap_new (w.alloc (.deferred (some []))) (.loop (rec .ready none)); rwa [World.size_alloc] at this
  have hK1 : W1.heap[w.heap.size]? = some (.deferred (some [])) := by
    rw [← hW1]; exact (Below.heap_alloc _ _ _ (by simp)).trans (World.alloc_heap_new w _)
  have hI1 : I [] W1 := by rw [← hW1]; exact hI.alloc _ (hI.alloc _ h0)
  have hb1 : Below w0.heap.size w0 W1 := by
    rw [← hW1]; exact hb0.trans ((((Below.refl _ w).alloc (Nat.le_refl _) _).alloc (by simp) _).mono hb0.size)
  have hIk : ∀ {I' : List α → World → Prop}, OwnIn w.heap.size (2 + k) I' → OwnIn W1.heap.size k I' := fun h => h.less (by omega) (by omega)
  refine ⟨w.heap.size + 1, [{ target := .collected w.heap.size, args := #[] }], W1, { target := .fn (.func gf) lb, args := #[.func (.yield (w.heap.size + 1)) #[] #[]] }, W1, gf,
    #[.func (.yield (w.heap.size + 1)) #[] #[]] ++ lb, W1, ?_, ?_, ?_, ?_, fun _ => h1, ?_⟩
  · rw [← hW1, hrec]; exact run_enterLoop_outer _ _ _ _ _
  · simp only [resolve, hg]
    simp [go_sem]
  · intro f' hf'; simp [Target.leads] at hf'; subst hf'; exact hFg
  · simp [invoke, go_sem, eg]
  · have hrow : ∀ {A B : World} {row : Option Nat} {b : Nat} {o : Obj}, A.grownBy B row → (∀ r, row = some r → W1.heap.size ≤ r ∧ (r < W1.heap.size + k ∨ ∃ o : Obj, A.heap[r]? = some o ∧ o.isCells = false)) → b < W1.heap.size → A.heap[b]? = some o → B.heap[b]? = some o :=
      fun hg' hr hb ho => (hg'.block _ (Array.getElem?_eq_some_iff.1 ho).1 (fun e => by have := (hr _ e.symm).1; omega)).trans ho
    refine (hseq (w.heap.size + 1)
      (fun pre W => I pre W ∧ W.heap[w.heap.size + 1]? = some (.loop (rec .ready none)) ∧ W.heap[w.heap.size]? = some (.deferred (some [])))
      (fun pre W => ∃ c, Ix c pre W ∧ W.heap[w.heap.size + 1]? = some (.loop (rec .done (some c))) ∧ W.heap[w.heap.size]? = some (.deferred (some [])))
      W1 hb1
      (fun s A B row hs hg' hr => ⟨hIk hI s A B row hs.1 hg' hr, hrow hg' hr (by omega) hs.2.1, hrow hg' hr (by omega) hs.2.2⟩)
      (fun s A B row hs hg' hr => by
        obtain ⟨c, hc, hl, hk⟩ := hs
        exact ⟨c, hIk (hIx c) s A B row hc hg' hr, hrow hg' hr (by omega) hl, hrow hg' hr (by omega) hk⟩)
      ?_ ⟨hI1, hL1, hK1⟩).mono ?_
    · rintro pre x W hpre hsk ⟨hi, hl, hk⟩
      have hlt : w.heap.size + 1 < W.heap.size := (Array.getElem?_eq_some_iff.1 hl).1
      have hy := run_yield (P := P) (args := encs x) hl (by rw [hrec]; exact hps x)
      rw [hrec] at hy
      refine ⟨fn, _, assign, body, hy, roundIn_of_wpIn hfn (hassign _ x W _ ?_)⟩
      clear hy
      obtain ⟨Wa, hWa⟩ : ∃ Wa, Wa = W.alloc (ob x) := ⟨_, rfl⟩
      have hsa : Wa.heap.size = W.heap.size + 1 := by rw [hWa]; simp
      have hla : Wa.heap[w.heap.size + 1]? = some (.loop (rec .ready none)) := by rw [hWa]; exact (Below.heap_alloc _ _ _ hlt).trans hl
      have hka : Wa.heap[w.heap.size]? = some (.deferred (some [])) := by rw [hWa]; exact (Below.heap_alloc _ _ _ (by omega)).trans hk
      have hia : I pre Wa := by rw [hWa]; exact hI.alloc _ hi
      have hoa : Wa.heap[W.heap.size]? = some (ob x) := by rw [hWa]; exact World.alloc_heap_new _ _
      have hkpa : KeepP Bs W1.heap.size k W Wa := by
        rw [hWa]
        refine ⟨by simp, fun r hr => Below.heap_alloc _ _ _ ?_⟩
        rcases hr with h | h
        · have := hBs r h; omega
        · omega
      rw [← hWa]
      refine ⟨_, run_beginRound hla (by rw [hrec]), ?_⟩
      obtain ⟨W2, hW2⟩ : ∃ W2, W2 = Wa.putObj (w.heap.size + 1) (.loop { rec .ready none with state := .busy }) := ⟨_, rfl⟩
      have hl2 : W2.heap[w.heap.size + 1]? = some (.loop { rec .ready none with state := .busy }) := by rw [hW2]; exact World.putObj_heap_same (by omega)
      have hk2 : W2.heap[w.heap.size]? = some (.deferred (some [])) := by rw [hW2]; exact (World.putObj_heap_other (by omega)).trans hka
      have ho2 : W2.heap[W.heap.size]? = some (ob x) := by rw [hW2]; exact (World.putObj_heap_other (by omega)).trans hoa
      have hi2 : I pre W2 := by rw [hW2]; exact hI.putObj _ hia (by omega) (by omega)
      have hkp : ∀ {X Y : World} {o : Obj}, X = Y.putObj (w.heap.size + 1) o → KeepP Bs W1.heap.size k Y X := fun e => ⟨by rw [e, World.putObj_size]; exact Nat.le_refl _, fun r hr => by
        rw [e]
        refine World.putObj_heap_other ?_
        rcases hr with h | h
        · have := hBs r h; omega
        · omega⟩
      refine wpIn_mono (hbody pre x W.heap.size _ hpre (by omega) (by rw [World.putObj_size]; exact hsa) (by rw [← hW2]; exact ho2) ⟨_, by rw [← hW2]; exact hl2⟩ (by rw [← hW2]; exact hi2)) ?_
      rw [← hW2]
      have fin : ∀ (jump : Option Code) (W3 : World), KeepP Bs w.heap.size (2 + k) W2 W3 →
          (Instr.endRound (w.heap.size + 1) jump).run P W3 = .ok (.bool jump.isNone) (W3.putObj (w.heap.size + 1) (.loop (rec (if jump.isNone then .ready else .done) jump))) ∧
          (W3.putObj (w.heap.size + 1) (.loop (rec (if jump.isNone then .ready else .done) jump))).heap[w.heap.size + 1]? = some (.loop (rec (if jump.isNone then .ready else .done) jump)) ∧
          (W3.putObj (w.heap.size + 1) (.loop (rec (if jump.isNone then .ready else .done) jump))).heap[w.heap.size]? = some (.deferred (some [])) ∧
          KeepP Bs W1.heap.size k W (W3.putObj (w.heap.size + 1) (.loop (rec (if jump.isNone then .ready else .done) jump))) := fun jump W3 hk3 => by
        have hl3 := (hk3.same (w.heap.size + 1) (.inr ⟨by omega, by omega⟩)).trans hl2
        have hd3 := (hk3.same w.heap.size (.inr ⟨by omega, by omega⟩)).trans hk2
        have := run_endRound (P := P) jump hl3
        rw [hrec] at this ⊢
        exact ⟨this, World.putObj_heap_same (Array.getElem?_eq_some_iff.1 hl3).1, (World.putObj_heap_other (by omega)).trans hd3,
          hkpa.trans ((hkp hW2).trans ((hk3.less (fun b hb => .inl hb) (by omega) (by omega)).trans (hkp rfl)))⟩
      rintro e a3 W3 hp
      cases e with
      | normal =>
        obtain ⟨hr, hl4, hk4, hkk⟩ := fin none W3 hp.1
        exact ⟨_, _, hr, hkk, .inl ⟨rfl, hI.putObj _ hp.2 (by omega) (by omega), hl4, hk4⟩⟩
      | ret =>
        obtain ⟨hr, hl4, hk4, hkk⟩ := fin (some .ret) W3 hp.1
        exact ⟨_, _, hr, hkk, .inr ⟨rfl, .ret, (hIx _).putObj _ hp.2 (by omega) (by omega), hl4, hk4⟩⟩
      | exit id =>
        obtain ⟨hr, hl4, hk4, hkk⟩ := fin (some (.exit id)) W3 hp.1
        exact ⟨_, _, hr, hkk, .inr ⟨rfl, .exit id, (hIx _).putObj _ hp.2 (by omega) (by omega), hl4, hk4⟩⟩
      | goto t =>
        obtain ⟨hr, hl4, hk4, hkk⟩ := fin (some (.goto t)) W3 hp.1
        exact ⟨_, _, hr, hkk, .inr ⟨rfl, .goto t, (hIx _).putObj _ hp.2 (by omega) (by omega), hl4, hk4⟩⟩
      | panic ch => exact hp.elim
      | outgrown => exact hp.elim
    · rintro e W2 ⟨⟨v, rfl⟩, (⟨hi, hl, hk⟩ | ⟨pre, hSp, c, hi, hl, hk⟩)⟩
      · exact ⟨none, _, by have := run_endLoop (P := P) hl (by rw [hrec]; simp [rec_]); rw [hrec] at this; exact this, hdone _ (hI.putObj _ hi (by omega) (by omega)) ((World.putObj_heap_other (by omega)).trans hk)⟩
      · exact ⟨some c, _, by have := run_endLoop (P := P) hl (by rw [hrec]; simp [rec_]); rw [hrec] at this; exact this, hstop c pre _ hSp ((hIx c).putObj _ hi (by omega) (by omega)) ((World.putObj_heap_other (by omega)).trans hk)⟩


/-- A loop over such an iterator within a round of loop l₀. -/
theorem wpIn_rangeFunc_PN {α : Type} {F : Fence} {n : Nat} {P : Program} {w : World} {g : Operand} {ps : Array Tmp} {assign body : Code} {Q : Exit → Act → World → Prop} {a : Act}
    {l₀ : Nat} {r₀ : Loop} (hro : F.round = some l₀) (hl₀ : w.heap[l₀]? = some (.loop r₀)) (h1 : 1 ≤ n) {gf : Nat} {lb : Array Value} (hg : a.eval g = .func (.func gf) #[] lb) (hFg : F.fn gf) (eg : ∀ args w, (callFunc gf args).run P w = .ok (.enter gf args) w)
    {encs : α → Array Value} {Bs : List Nat} {k : Nat} {L : List α} {w0 : World} (hseq : SeqStopsP F (n - 1) P gf lb encs Bs k L w0) (hBs : ∀ b ∈ Bs, b < w.heap.size)
    (hb0 : Below w0.heap.size w0 w) (hps : ∀ x, (encs x).size = ps.size)
    (I : List α → World → Prop) (Ix : Code → List α → World → Prop) (hI : OwnIn w.heap.size (1 + k) I) (hIx : ∀ c, OwnIn w.heap.size (1 + k) (Ix c)) (h0 : I [] w) (a₁ : α → Act)
    (hassign : ∀ (l : Nat) (x : α) (W : World) (K : Act → World → Prop), K (a₁ x) W →
      assign.wpIn (F.inRound l) (n - 1 - 1) P (Exit.then K (fun _ _ _ => False)) { tmps := (ps.zip (encs x)).foldl (fun t (p, v) => t.setIfInBounds p v) a.tmps, defers := [] } W)
    (hbody : ∀ (l : Nat) (pre : List α) (x : α) (W : World), pre ++ [x] <+: L → w.heap.size + (1 + k) ≤ W.heap.size → I pre W → body.wpIn (F.inRound l) (n - 1 - 1) P (postP Bs w.heap.size (1 + k) I Ix (pre ++ [x]) W) (a₁ x) W)
    (hdone : ∀ (W : World), I L W → Q .normal a W)
    (hstop : ∀ (c : Code) (pre : List α) (W : World), pre <+: L → Ix c pre W → c.wpIn F n P Q a W) :
    (Code.rangeFunc g ps assign body).wpIn F n P Q a w := by
  refine wpIn_rangeFunc ?_
  intro fn hfn
  rw [hro]
  let rec_ : LoopState → Option Code → Loop := fun st pe => { state := st, pending := pe, fn, tmps := a.tmps, params := ps, assign, body, defers := r₀.defers }
  obtain ⟨rec, hrec⟩ : ∃ rec, rec = rec_ := ⟨_, rfl⟩
  obtain ⟨W1, hW1⟩ : ∃ W1, w.alloc (.loop (rec .ready none)) = W1 := ⟨_, rfl⟩
  have hs1 : W1.heap.size = w.heap.size + 1 := by rw [← hW1]; simp
  have hL1 : W1.heap[w.heap.size]? = some (.loop (rec .ready none)) := by rw [← hW1]; exact World.alloc_heap_new w _
  have hI1 : I [] W1 := by rw [← hW1]; exact hI.alloc _ h0
  have hb1 : Below w0.heap.size w0 W1 := by
    rw [← hW1]; exact hb0.trans (((Below.refl _ w).alloc (Nat.le_refl _) _).mono hb0.size)
  have hIk : ∀ {I' : List α → World → Prop}, OwnIn w.heap.size (1 + k) I' → OwnIn W1.heap.size k I' := fun h => h.less (by omega) (by omega)
  refine ⟨w.heap.size, [], W1, { target := .fn (.func gf) lb, args := #[.func (.yield (w.heap.size)) #[] #[]] }, W1, gf,
    #[.func (.yield (w.heap.size)) #[] #[]] ++ lb, W1, ?_, ?_, ?_, ?_, fun _ => h1, ?_⟩
  · rw [← hW1, hrec]; exact run_enterLoop_inner hl₀ _ _ _ _ _
  · simp only [resolve, hg]
    simp [go_sem]
  · intro f' hf'; simp [Target.leads] at hf'; subst hf'; exact hFg
  · simp [invoke, go_sem, eg]
  · have hrow : ∀ {A B : World} {row : Option Nat} {b : Nat} {o : Obj}, A.grownBy B row → (∀ r, row = some r → W1.heap.size ≤ r ∧ (r < W1.heap.size + k ∨ ∃ o : Obj, A.heap[r]? = some o ∧ o.isCells = false)) → b < W1.heap.size → A.heap[b]? = some o → B.heap[b]? = some o :=
      fun hg' hr hb ho => (hg'.block _ (Array.getElem?_eq_some_iff.1 ho).1 (fun e => by have := (hr _ e.symm).1; omega)).trans ho
    refine (hseq (w.heap.size)
      (fun pre W => I pre W ∧ W.heap[w.heap.size]? = some (.loop (rec .ready none)))
      (fun pre W => ∃ c, Ix c pre W ∧ W.heap[w.heap.size]? = some (.loop (rec .done (some c))))
      W1 hb1
      (fun s A B row hs hg' hr => ⟨hIk hI s A B row hs.1 hg' hr, hrow hg' hr (by omega) hs.2⟩)
      (fun s A B row hs hg' hr => by
        obtain ⟨c, hc, hl⟩ := hs
        exact ⟨c, hIk (hIx c) s A B row hc hg' hr, hrow hg' hr (by omega) hl⟩)
      ?_ ⟨hI1, hL1⟩).mono ?_
    · rintro pre x W hpre hsk ⟨hi, hl⟩
      have hlt : w.heap.size < W.heap.size := (Array.getElem?_eq_some_iff.1 hl).1
      have hy := run_yield (P := P) (args := encs x) hl (by rw [hrec]; exact hps x)
      rw [hrec] at hy
      refine ⟨fn, _, assign, body, hy, roundIn_of_wpIn hfn (hassign _ x W _ ?_)⟩
      clear hy
      refine ⟨_, run_beginRound hl (by rw [hrec]), ?_⟩
      obtain ⟨W2, hW2⟩ : ∃ W2, W2 = W.putObj (w.heap.size) (.loop { rec .ready none with state := .busy }) := ⟨_, rfl⟩
      have hl2 : W2.heap[w.heap.size]? = some (.loop { rec .ready none with state := .busy }) := by rw [hW2]; exact World.putObj_heap_same hlt
      have hi2 : I pre W2 := by rw [hW2]; exact hI.putObj _ hi (by omega) (by omega)
      have hkp : ∀ {X Y : World} {o : Obj}, X = Y.putObj (w.heap.size) o → KeepP Bs W1.heap.size k Y X := fun e => ⟨by rw [e, World.putObj_size]; exact Nat.le_refl _, fun r hr => by
        rw [e]
        refine World.putObj_heap_other ?_
        rcases hr with h | h
        · have := hBs r h; omega
        · omega⟩
      refine wpIn_mono (hbody _ pre x _ hpre (by rw [World.putObj_size]; omega) (by rw [← hW2]; exact hi2)) ?_
      rw [← hW2]
      have fin : ∀ (jump : Option Code) (W3 : World), KeepP Bs w.heap.size (1 + k) W2 W3 →
          (Instr.endRound (w.heap.size) jump).run P W3 = .ok (.bool jump.isNone) (W3.putObj (w.heap.size) (.loop (rec (if jump.isNone then .ready else .done) jump))) ∧
          (W3.putObj (w.heap.size) (.loop (rec (if jump.isNone then .ready else .done) jump))).heap[w.heap.size]? = some (.loop (rec (if jump.isNone then .ready else .done) jump)) ∧
          KeepP Bs W1.heap.size k W (W3.putObj (w.heap.size) (.loop (rec (if jump.isNone then .ready else .done) jump))) := fun jump W3 hk3 => by
        have hl3 := (hk3.same (w.heap.size) (.inr ⟨by omega, by omega⟩)).trans hl2
        have := run_endRound (P := P) jump hl3
        rw [hrec] at this ⊢
        exact ⟨this, World.putObj_heap_same (Array.getElem?_eq_some_iff.1 hl3).1,
          (hkp hW2).trans ((hk3.less (fun b hb => .inl hb) (by omega) (by omega)).trans (hkp rfl))⟩
      rintro e a3 W3 hp
      cases e with
      | normal =>
        obtain ⟨hr, hl4, hkk⟩ := fin none W3 hp.1
        exact ⟨_, _, hr, hkk, .inl ⟨rfl, hI.putObj _ hp.2 (by omega) (by omega), hl4⟩⟩
      | ret =>
        obtain ⟨hr, hl4, hkk⟩ := fin (some .ret) W3 hp.1
        exact ⟨_, _, hr, hkk, .inr ⟨rfl, .ret, (hIx _).putObj _ hp.2 (by omega) (by omega), hl4⟩⟩
      | exit id =>
        obtain ⟨hr, hl4, hkk⟩ := fin (some (.exit id)) W3 hp.1
        exact ⟨_, _, hr, hkk, .inr ⟨rfl, .exit id, (hIx _).putObj _ hp.2 (by omega) (by omega), hl4⟩⟩
      | goto t =>
        obtain ⟨hr, hl4, hkk⟩ := fin (some (.goto t)) W3 hp.1
        exact ⟨_, _, hr, hkk, .inr ⟨rfl, .goto t, (hIx _).putObj _ hp.2 (by omega) (by omega), hl4⟩⟩
      | panic ch => exact hp.elim
      | outgrown => exact hp.elim
    · rintro e W2 ⟨⟨v, rfl⟩, (⟨hi, hl⟩ | ⟨pre, hSp, c, hi, hl⟩)⟩
      · exact ⟨none, _, by have := run_endLoop (P := P) hl (by rw [hrec]; simp [rec_]); rw [hrec] at this; exact this, hdone _ (hI.putObj _ hi (by omega) (by omega))⟩
      · exact ⟨some c, _, by have := run_endLoop (P := P) hl (by rw [hrec]; simp [rec_]); rw [hrec] at this; exact this, hstop c pre _ hSp ((hIx c).putObj _ hi (by omega) (by omega))⟩


end Go.Proofs.Ytplcbiconfpmlaa

/-! slices.Backward over a list of pairs. -/
namespace Go.Proofs.Ytplcbiconfpmlaa
open Go.RowKit Go.Shelf

attribute [local go_sem] Oper.semAt_some

set_option maxHeartbeats 1000000 in
/-- Its argument is boxed; the function value captures the box. -/
theorem backward_in (n : Nat) (a : Option Addr) (m cap : Nat) (w : World) :
    CallsIn Fence.wide n Try.prog 146 #[.slice a m cap] w fun e w' => e = .returned (.func (.func 191) #[] #[.pointer (some ⟨w.heap.size, 0, none⟩)]) ∧ w' = w.alloc (.cells #[.slice a m cap] 40) := by
  refine callsIn_of_wp Try.func146 rfl trivial ?_ rfl
  simp only [Try.ntmps146, List.size_toArray, List.length_cons, List.length_nil, Nat.reduceAdd, Nat.reduceSub, Array.replicate_succ, Array.replicate_zero, List.push_toArray, List.append_toArray, List.nil_append, List.cons_append]
  gi_wp2
  go_ret
  exact ⟨rfl, rfl⟩

theorem cell_same {W W' : World} {b o : Nat} (h : W'.heap[b]? = W.heap[b]?) : W'.cell? ⟨b, o, none⟩ = W.cell? ⟨b, o, none⟩ := by
  unfold World.cell?
  simp only [h]

/-- The numbers of the pairs, from the last one to the first. -/
def downL (n : Nat) : List Nat := (List.range n).reverse
theorem downL_take {n k : Nat} (hk : k < n) : (downL n).take (k + 1) = (downL n).take k ++ [n - 1 - k] := by
  unfold downL
  rw [List.take_add_one, List.getElem?_reverse (by simpa using hk)]
  simp [List.getElem?_range (show n - 1 - k < n by omega)]
theorem downL_len (n : Nat) : (downL n).length = n := by simp [downL]

set_option maxRecDepth 100000 in
set_option maxHeartbeats 2000000 in
theorem backward_P (m : Nat) (hm : 1 ≤ m) (B0 b off n cap : Nat) (a : Option Addr) (qs : List Int) (w : World)
    (hc : w.heap[B0]? = some (.cells #[.slice a n cap] 40 (0, 0))) (hb : b < w.heap.size) (hn : n ≤ 1048576)
    (ha : n = 0 ∨ (a = some ⟨b, off, none⟩ ∧ ∀ i, i < 2 * n → w.cell? ⟨b, off + i, none⟩ = some (.int .i64 (at0 qs i)))) :
    SeqStopsP Fence.wide m Try.prog 191 #[.pointer (some ⟨B0, 0, none⟩)] (fun i : Nat => #[Value.int .i64 (i : Int), .agg #[.int .i64 (at0 qs (i * 2)), .int .i64 (at0 qs (i * 2 + 1))]]) [B0, b] 0 (downL n) w := by
  intro l J Jx W hW hJ hJx hY h0
  have hcW := (hW.block B0 (lt_of_get hc)).trans hc
  have hbW : b < W.heap.size := Nat.lt_of_lt_of_le hb hW.size
  have Ha : Hid (n = 0 ∨ (a = some ⟨b, off, none⟩ ∧ ∀ i, i < 2 * n → W.cell? ⟨b, off + i, none⟩ = some (.int .i64 (at0 qs i)))) := hid (ha.imp id (fun h => ⟨h.1, fun i hi => (hW.cell (p := ⟨b, off + i, none⟩) hb).trans (h.2 i hi)⟩))
  have HY := hid hY
  have c0 := (box_cell hcW).1
  have Hc := hid hcW
  clear hY ha hc hcW hb
  show CallsIn Fence.wide m Try.prog 191 #[.func (.yield l) #[] #[], .pointer (some ⟨B0, 0, none⟩)] W _
  refine callsIn_of_wp Try.func191 rfl trivial ?_ rfl
  simp only [Try.ntmps191, List.size_toArray, List.length_cons, List.length_nil, Nat.reduceAdd, Nat.reduceSub, Array.replicate_succ, Array.replicate_zero, List.push_toArray, List.append_toArray, List.nil_append, List.cons_append]
  gi_wp2
  gi_loopw [3] (fun p wr => ∃ (k : Nat), p = .int .i64 ((n : Int) - 1 - (k : Int)) ∧ k ≤ n ∧ J ((downL n).take k) wr ∧ wr.heap[B0]? = W.heap[B0]? ∧ wr.heap[b]? = W.heap[b]? ∧ W.heap.size ≤ wr.heap.size)
    (fun p _ => (intOf p + 1).toNat)
  case atStart =>
    exact ⟨0, by simp, by omega, h0, rfl, rfl, Nat.le_refl _⟩
  case round =>
    obtain ⟨k, rfl, hk, hJs, hB0, hBb, hsz⟩ := hrel
    by_cases hlt : k < n
    · obtain ⟨i, hi⟩ : ∃ i : Nat, i = n - 1 - k := ⟨_, rfl⟩
      have hpi : (n : Int) - 1 - (k : Int) = (i : Int) := by omega
      rw [hpi]
      obtain ⟨rfl, hcl⟩ := Ha.out.resolve_left (by omega)
      have hc2 : wr.cell? ⟨b, off + i * 2, none⟩ = some (.int .i64 (at0 qs (i * 2))) := (cell_same hBb).trans (hcl (i * 2) (by omega))
      have hc3 : wr.cell? ⟨b, off + i * 2 + 1, none⟩ = some (.int .i64 (at0 qs (i * 2 + 1))) := (cell_same hBb).trans (hcl (i * 2 + 1) (by omega))
      have c0r : wr.cell? ⟨B0, 0, none⟩ = some (.slice (some ⟨b, off, none⟩) n cap) := (box_cell (hB0.trans Hc.out)).1
      have htk : (downL n).take (k + 1) = (downL n).take k ++ [i] := by rw [downL_take hlt, hi]
      have hpre : (downL n).take k ++ [i] <+: downL n := by rw [← htk]; exact List.take_prefix _ _
      have hys := HY.out _ i wr hpre (by omega) hJs
      rw [← htk] at hys
      obtain ⟨fn, tmps, assign, body, hy, hR⟩ := hys
      have hi0 : (0 : Int) ≤ (i : Int) := by omega
      have hi1 : (i : Int) < (n : Int) := by omega
      have Hpre := hid hpre
      have Htk := hid htk
      have Hi := hid hi
      have HB0 := hid hB0
      have HBb := hid hBb
      have Hpi := hid hpi
      clear hcl hpre htk hi hB0 hBb hJs hpi
      gi_wp2
      refine hR.mono ?_
      rintro e W3 ⟨hk3, (⟨rfl, hJ3⟩ | ⟨rfl, hJx3⟩)⟩
      · have Hk3 := hid hk3
        have HJ3 := hid hJ3
        clear hk3 hJ3
        gi_wp2
        go_roundw
        case rel => exact ⟨k + 1, by rw [show ((i : Int) - 1) = (n : Int) - 1 - ((k + 1 : Nat) : Int) by have := Hpi.out; omega], by omega, HJ3.out, (Hk3.out.same B0 (.inl (by simp))).trans HB0.out, (Hk3.out.same b (.inl (by simp))).trans HBb.out, Nat.le_trans hsz Hk3.out.size⟩
        case measure => simp [intOf]
      · gi_wp2
        refine bodyPost_ret (results_none rfl _ _ _) rfl ?_
        exact ⟨⟨_, rfl⟩, .inr ⟨_, by rw [Htk.out]; exact Hpre.out, hJx3⟩⟩
    · obtain rfl : k = n := by omega
      have hpi : (k : Int) - 1 - (k : Int) = -1 := by omega
      rw [hpi]
      rw [List.take_of_length_le (by rw [downL_len]; exact Nat.le_refl _)] at hJs
      gi_wp2
      go_end0
      exact ⟨⟨_, rfl⟩, .inl hJs⟩

end Go.Proofs.Ytplcbiconfpmlaa

/-! isCritical, the program's. -/
namespace Go.Proofs.Ytplcbiconfpmlaa
open Go.RowKit Go.Shelf

attribute [local go_sem] Oper.semAt_some

set_option maxRecDepth 100000 in
set_option maxHeartbeats 1000000 in
theorem oc_free (x : Int) (w : World) : Calls Try.prog 177 #[.int .u64 x] w fun e w' => ∃ c, e = .returned (.int .i64 c) ∧ w = w' := by
  go_enter Try.func177, Try.ntmps177
  go_wp2
  go_ret
  exact ⟨_, rfl, rfl⟩
set_option maxHeartbeats 400000 in
theorem dim_free (x : Int) (w : World) : Calls Try.prog 124 #[.int .i64 x] w fun e w' => ∃ c, e = .returned (.int .i64 c) ∧ w = w' := by
  go_enter Try.func124, Try.ntmps124
  go_wp2_with fail
  refine (oc_free _ _).mono ?_
  rintro e w' ⟨c, rfl, rfl⟩
  go_wp2_with fail
  go_ret
  exact ⟨_, rfl, rfl⟩

set_option maxRecDepth 100000 in
set_option maxHeartbeats 1000000 in
/-- The condition: the number is one of the pair's. -/
theorem isCr1_any (x y f : Int) (bf : Nat) (w : World) (hc : w.heap[bf]? = some (.cells #[.int .i64 f] 2 (0, 0))) :
    Calls Try.prog 185 #[.agg #[.int .i64 x, .int .i64 y], .pointer (some ⟨bf, 0, none⟩)] w fun e w' => e = .returned (.bool (decide (f ∈ [x, y]))) ∧ Below w.heap.size w w' := by
  have cf : ∀ o : Obj, (w.alloc o).cell? ⟨bf, 0, none⟩ = some (.int .i64 f) := fun o => cell_alloc0 (box_cell hc).1 o
  have hB0 : Below w.heap.size w (w.alloc (.cells #[.int .i64 x, .int .i64 y] 49)) := (Below.refl _ w).alloc (Nat.le_refl _) _
  have hS : SlI (w.alloc (.cells #[.int .i64 x, .int .i64 y] 49)).drew (w.alloc (.cells #[.int .i64 x, .int .i64 y] 49)).drew.heap.size (some ⟨w.heap.size, 0, none⟩) [x, y] := by
    refine .inr ⟨w.heap.size, 0, by show w.heap.size < (w.alloc _).heap.size; simp, rfl, fun i hi => ?_⟩
    have h2 := two_of (heap_alloc_new w (.cells #[.int .i64 x, .int .i64 y] 49))
    match i, hi with
    | 0, _ => exact h2.1
    | 1, _ => exact h2.2.1
  have HC := hid (contains_any (some ⟨w.heap.size, 0, none⟩) 2 [x, y] f _ hS (by simp))
  have HB := hid (hB0.trans (below_drewN (Below.refl _ _) 1))
  clear hc hS hB0
  go_enter Try.func185, Try.ntmps185
  go_wp2_with fail
  go_region_with (go_at_call 126; refine HC.out.mono ?_; rintro e w' ⟨rfl, rfl⟩)
  all_goals
    go_wp2_with fail
    go_ret
    exact ⟨ret_bool (by simp), HB.out⟩

/-- The pairs ahead of pair k that hold f. -/
def holdsTo (ps : List Int) (f : Int) (k : Nat) : Prop := ∃ i, i < k ∧ (f = at0 ps (i * 2) ∨ f = at0 ps (i * 2 + 1))
theorem holds_mem {ps : List Int} {n : Nat} (hp : ps.length = 2 * n) (f : Int) : holdsTo ps f n ↔ f ∈ ps := by
  constructor
  · rintro ⟨i, hi, h | h⟩
    · rw [h]; exact getD_mem (by omega)
    · rw [h]; exact getD_mem (by omega)
  · intro h
    obtain ⟨j, hj, e⟩ := List.getElem_of_mem h
    have hat : at0 ps j = f := by
      show ps[j]?.getD 0 = f
      rw [List.getElem?_eq_getElem hj]
      exact e
    rcases Nat.mod_two_eq_zero_or_one j with h2 | h2
    · exact ⟨j / 2, by omega, .inl (by rw [show j / 2 * 2 = j by omega, hat])⟩
    · exact ⟨j / 2, by omega, .inr (by rw [show j / 2 * 2 + 1 = j by omega, hat])⟩

set_option maxRecDepth 100000 in
set_option maxHeartbeats 2000000 in
theorem idxP_any (a1 : Option Addr) (n cap1 : Nat) (ps : List Int) (f : Int) (bf : Nat) (w : World) (hx : SlI w w.heap.size a1 ps) (hp : ps.length = 2 * n) (hn : n ≤ 1048576) (hc : w.heap[bf]? = some (.cells #[.int .i64 f] 2 (0, 0))) :
    Calls Try.prog 207 #[.slice a1 n cap1, .func (.func 185) #[] #[.pointer (some ⟨bf, 0, none⟩)]] w fun e w' => ∃ i : Int, e = .returned (.int .i64 i) ∧ -1 ≤ i ∧ (0 ≤ i ↔ f ∈ ps) ∧ Below w.heap.size w w' := by
  have hent : ∀ args w, (callFunc 185 args).run Try.prog w = .ok (.enter 185 args) w := enters_of Try.func185 (by kernel_rfl) rfl
  have HC := hid (fun x y w1 (h : Below w.heap.size w w1) => isCr1_any x y f bf w1 ((h.block bf (lt_of_get hc)).trans hc))
  have Hx := hid hx
  have Hp := hid hp
  have Hm := hid (holds_mem hp f)
  clear hx hp hc
  go_enter Try.func207, Try.ntmps207
  go_wp2
  go_loopw [8] (fun i wr => ∃ k : Nat, k ≤ n ∧ i = .int .i64 k ∧ Hid (¬ holdsTo ps f k) ∧ Below w.heap.size w wr) (fun i _ => n - (intOf i).toNat)
  case atStart => exact ⟨0, Nat.zero_le _, rfl, hid (fun ⟨i, hi, _⟩ => absurd hi (Nat.not_lt_zero _)), Below.refl _ _⟩
  case round =>
    obtain ⟨k, hk, rfl, Hk, hB⟩ := hrel
    by_cases hlt : k < n
    · obtain ⟨b, off, hb, rfl, hcl⟩ : ∃ b off, b < w.heap.size ∧ a1 = some ⟨b, off, none⟩ ∧ ∀ i, i < ps.length → w.cell? ⟨b, off + i, none⟩ = some (.int .i64 (ps[i]?.getD 0)) := by
        rcases Hx.out with h | h
        · have := Hp.out; rw [h] at this; simp at this; omega
        · exact h
      have hc2 : wr.cell? ⟨b, off + k * 2, none⟩ = some (.int .i64 (at0 ps (k * 2))) := (hB.cell (p := ⟨b, off + k * 2, none⟩) hb).trans (hcl _ (by have := Hp.out; omega))
      have hc3 : wr.cell? ⟨b, off + k * 2 + 1, none⟩ = some (.int .i64 (at0 ps (k * 2 + 1))) := (hB.cell (p := ⟨b, off + (k * 2 + 1), none⟩) hb).trans (hcl _ (by have := Hp.out; omega))
      obtain ⟨x, hx⟩ : ∃ x, x = at0 ps (k * 2) := ⟨_, rfl⟩
      obtain ⟨y, hy⟩ : ∃ y, y = at0 ps (k * 2 + 1) := ⟨_, rfl⟩
      rw [← hx] at hc2
      rw [← hy] at hc3
      have HC2 := hid (HC.out x y wr hB)
      have hi0 : (0 : Int) ≤ (k : Int) := by omega
      have hi1 : (k : Int) < (n : Int) := by omega
      have HB := hid hB
      have Hxy : Hid (f ∈ [x, y] ↔ (f = at0 ps (k * 2) ∨ f = at0 ps (k * 2 + 1))) := hid (by rw [hx, hy]; simp)
      clear hcl hx hy hB
      by_cases hf : f ∈ [x, y]
      · rw [decide_eq_true hf] at HC2
        have He : Hid (f ∈ ps) := hid (Hm.out.1 ⟨k, hlt, Hxy.out.1 hf⟩)
        clear hf
        go_wp2_with fail
        refine HC2.out.mono ?_
        rintro e w2 ⟨rfl, hB2⟩
        have HB2 := hid (HB.out.trans (hB2.mono HB.out.size))
        clear hB2
        go_wp2_with fail
        go_ret
        exact ⟨k, rfl, by omega, ⟨fun _ => He.out, fun _ => by omega⟩, HB2.out⟩
      · rw [decide_eq_false hf] at HC2
        have He : Hid (¬ holdsTo ps f (k + 1)) := hid (by
          rintro ⟨i, hi, h⟩
          by_cases e : i = k
          · subst e
            exact hf (Hxy.out.2 h)
          · exact Hk.out ⟨i, by omega, h⟩)
        clear hf
        go_wp2_with fail
        refine HC2.out.mono ?_
        rintro e w2 ⟨rfl, hB2⟩
        have HB2 := hid (HB.out.trans (hB2.mono HB.out.size))
        clear hB2
        go_wp2_with fail
        go_roundw
        case rel => exact ⟨k + 1, by omega, by go_num, He, HB2.out⟩
        case measure => simp [intOf]; omega
    · obtain rfl : k = n := by omega
      have He : Hid (f ∉ ps) := hid (fun h => Hk.out (Hm.out.2 h))
      go_wp2_with fail
      go_ret
      exact ⟨-1, rfl, by decide, ⟨fun h => absurd h (by decide), fun h => absurd h He.out⟩, hB⟩

set_option maxRecDepth 100000 in
set_option maxHeartbeats 1000000 in
theorem containsP_any (a1 : Option Addr) (n cap1 : Nat) (ps : List Int) (f : Int) (bf : Nat) (w : World) (hx : SlI w w.heap.size a1 ps) (hp : ps.length = 2 * n) (hn : n ≤ 1048576) (hc : w.heap[bf]? = some (.cells #[.int .i64 f] 2 (0, 0))) :
    Calls Try.prog 184 #[.slice a1 n cap1, .func (.func 185) #[] #[.pointer (some ⟨bf, 0, none⟩)]] w fun e w' => e = .returned (.bool (decide (f ∈ ps))) ∧ Below w.heap.size w w' := by
  have HI := hid (idxP_any a1 n cap1 ps f bf w hx hp hn hc)
  obtain ⟨c, hcc⟩ : ∃ c, c = decide (f ∈ ps) := ⟨_, rfl⟩
  have Hc := hid hcc
  rw [← hcc]
  clear hc hx hcc
  go_enter Try.func184, Try.ntmps184
  go_wp2_with fail
  refine HI.out.mono ?_
  rintro e w' ⟨i, rfl, h1, h2, hB⟩
  have Hi := hid h2
  have HB := hid hB
  clear h2 hB
  by_cases h0 : 0 ≤ i
  · have He : Hid (c = true) := hid (by rw [Hc.out]; exact decide_eq_true (Hi.out.1 h0))
    go_wp2_with fail
    go_ret
    exact ⟨ret_bool (by rw [He.out]), HB.out⟩
  · have He : Hid (c = false) := hid (by rw [Hc.out]; exact decide_eq_false (fun h => h0 (Hi.out.2 h)))
    have hlt : i < 0 := by omega
    go_wp2_with fail
    go_ret
    exact ⟨ret_bool (by rw [He.out]; simp [hlt]), HB.out⟩

/-- In the complex, and in no pair. -/
def critB (fs ps : List Int) (f : Int) : Bool := decide (f ∈ fs) && !decide (f ∈ ps)
set_option maxRecDepth 100000 in
set_option maxHeartbeats 2000000 in
theorem isCr_any (V : Int) (a0 : Option Addr) (cap : Nat) (fs : List Int) (a1 : Option Addr) (n cap1 : Nat) (ps : List Int) (f : Int) (w : World) (hx : SlI w w.heap.size a0 fs) (hx1 : SlI w w.heap.size a1 ps) (hl : fs.length ≤ 1048576) (hp : ps.length = 2 * n) (hn : n ≤ 1048576) :
    Calls Try.prog 139 #[.agg #[.int .i64 V, .slice a0 fs.length cap], .slice a1 n cap1, .int .i64 f] w fun e w' => e = .returned (.bool (critB fs ps f)) ∧ Below w.heap.size w w' := by
  obtain ⟨W0, hW0⟩ : ∃ W0, W0 = (w.alloc (.cells #[.int .i64 V, .slice a0 fs.length cap] 28)).alloc (.cells #[.int .i64 f] 2) := ⟨_, rfl⟩
  have hB0 : Below w.heap.size w W0 := by rw [hW0]; exact ((Below.refl _ w).alloc (Nat.le_refl _) _).alloc (by simp) _
  have hs0 : W0.heap.size = w.heap.size + 2 := by rw [hW0]; simp
  have hbf : W0.heap[w.heap.size + 1]? = some (.cells #[.int .i64 f] 2 (0, 0)) := by
    have := heap_alloc_new (w.alloc (.cells #[.int .i64 V, .slice a0 fs.length cap] 28)) (.cells #[.int .i64 f] 2)
    rw [World.size_alloc] at this
    rw [hW0]
    exact this
  have hk1 : W0.cell? ⟨w.heap.size, 1, none⟩ = some (.slice a0 fs.length cap) := by rw [hW0]; simp [go_sem]
  have HP := hid (containsP_any a1 n cap1 ps f (w.heap.size + 1) W0 (hx1.later hB0 hB0.size) hp hn hbf)
  have HF := hid (fun w1 (h : Below w.heap.size w w1) => contains_any a0 cap fs f w1 (hx.later h h.size) hl)
  have Hbf := hid hbf
  have HB0 := hid hB0
  have Hk1 := hid hk1
  have Hs0 := hid hs0
  rw [hW0] at HP
  obtain ⟨c1, hc1⟩ : ∃ c, c = decide (f ∈ fs) := ⟨_, rfl⟩
  obtain ⟨c2, hc2⟩ : ∃ c, c = decide (f ∈ ps) := ⟨_, rfl⟩
  rw [← hc1] at HF
  rw [← hc2] at HP
  have Hc : Hid (critB fs ps f = (c1 && !c2)) := hid (by unfold critB; rw [hc1, hc2])
  have HW0 := hid hW0
  clear hx hx1 hp hB0 hs0 hbf hk1 hc1 hc2 hW0
  go_enter Try.func139, Try.ntmps139
  go_wp2_with fail
  rw [← HW0.out] at HP ⊢
  refine HP.out.mono ?_
  rintro e w1 ⟨rfl, hB1⟩
  have hB : Below w.heap.size w w1 := HB0.out.trans (hB1.mono HB0.out.size)
  have k1 : w1.cell? ⟨w.heap.size, 1, none⟩ = some (.slice a0 fs.length cap) := (hB1.cell (p := ⟨w.heap.size, 1, none⟩) (by have := Hs0.out; simp only; omega)).trans Hk1.out
  have kf : w1.cell? ⟨w.heap.size + 1, 0, none⟩ = some (.int .i64 f) := (hB1.cell (p := ⟨w.heap.size + 1, 0, none⟩) (by have := Hs0.out; simp only; omega)).trans (box_cell Hbf.out).1
  have HF1 := hid (HF.out w1 hB)
  have HB := hid hB
  clear hB1 hB
  cases c1
  · go_wp2_with (go_at_call 126; refine HF1.out.mono ?_; rintro e w' ⟨rfl, rfl⟩)
    go_ret
    exact ⟨ret_bool (by rw [Hc.out]; rfl), HB.out⟩
  · go_wp2_with (go_at_call 126; refine HF1.out.mono ?_; rintro e w' ⟨rfl, rfl⟩)
    go_ret
    exact ⟨ret_bool (by rw [Hc.out]; cases c2 <;> rfl), HB.out⟩

end Go.Proofs.Ytplcbiconfpmlaa
