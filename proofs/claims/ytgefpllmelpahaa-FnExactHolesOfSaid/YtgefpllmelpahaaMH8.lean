import Derived.BigQuiet
import Derived.Test.YtgefpllmelpahaaMH1
import Derived.Test.YtgefpllmelpahaaMH2
import Derived.Test.YtgefpllmelpahaaMH4
import Derived.Test.YtgefpllmelpahaaMH5
import Derived.Test.YtgefpllmelpahaaMH6
import Derived.Test.YtgefpllmelpahaaMH7
/-! isCritical, the program's. -/
namespace Go.Proofs.Ytgefpllmelpahaa
open Go.RowKit Go.Shelf

attribute [local go_sem] Oper.semAt_some

set_option maxRecDepth 100000 in
set_option maxHeartbeats 1000000 in
theorem oc_free (x : Int) (w : World) : Calls Try.prog 201 #[.int .u64 x] w fun e w' => ∃ c, e = .returned (.int .i64 c) ∧ w = w' := by
  go_enter Try.func201, Try.ntmps201
  go_wp2
  go_ret
  exact ⟨_, rfl, rfl⟩
set_option maxHeartbeats 400000 in
theorem dim_free (x : Int) (w : World) : Calls Try.prog 125 #[.int .i64 x] w fun e w' => ∃ c, e = .returned (.int .i64 c) ∧ w = w' := by
  go_enter Try.func125, Try.ntmps125
  go_wp2_with fail
  refine (oc_free _ _).mono ?_
  rintro e w' ⟨c, rfl, rfl⟩
  go_wp2_with fail
  go_ret
  exact ⟨_, rfl, rfl⟩

set_option maxRecDepth 100000 in
set_option maxHeartbeats 1000000 in
/-- The condition: the number is one of the pair's. -/
theorem isCr1_any (x y f : Int) (bf : Nat) (w : World) (hc : w.heap[bf]? = some (.cells #[.int .i64 f] 2 (0, 0))) :
    Calls Try.prog 204 #[.agg #[.int .i64 x, .int .i64 y], .pointer (some ⟨bf, 0, none⟩)] w fun e w' => e = .returned (.bool (decide (f ∈ [x, y]))) ∧ Below w.heap.size w w' := by
  have cf : ∀ o : Obj, (w.alloc o).cell? ⟨bf, 0, none⟩ = some (.int .i64 f) := fun o => cell_alloc0 (box_cell hc).1 o
  have hB0 : Below w.heap.size w (w.alloc (.cells #[.int .i64 x, .int .i64 y] 62)) := (Below.refl _ w).alloc (Nat.le_refl _) _
  have hS : SlI (w.alloc (.cells #[.int .i64 x, .int .i64 y] 62)).drew (w.alloc (.cells #[.int .i64 x, .int .i64 y] 62)).drew.heap.size (some ⟨w.heap.size, 0, none⟩) [x, y] := by
    refine .inr ⟨w.heap.size, 0, by show w.heap.size < (w.alloc _).heap.size; simp, rfl, fun i hi => ?_⟩
    have h2 := two_of (heap_alloc_new w (.cells #[.int .i64 x, .int .i64 y] 62))
    match i, hi with
    | 0, _ => exact h2.1
    | 1, _ => exact h2.2.1
  have HC := hid (contains_any (some ⟨w.heap.size, 0, none⟩) 2 [x, y] f _ hS (by simp))
  have HB := hid (hB0.trans (below_drewN (Below.refl _ _) 1))
  clear hc hS hB0
  go_enter Try.func204, Try.ntmps204
  go_wp2_with fail
  go_region_with (go_at_call 175; refine HC.out.mono ?_; rintro e w' ⟨rfl, rfl⟩)
  all_goals
    go_wp2_with fail
    go_ret
    exact ⟨ret_bool (by simp), HB.out⟩

/-- The pairs ahead of pair k that hold f. -/
def holdsTo (ps : List Int) (f : Int) (k : Nat) : Prop := ∃ i, i < k ∧ (f = at0 ps (i * 2) ∨ f = at0 ps (i * 2 + 1))
theorem holds_mem {ps : List Int} {n : Nat} (hp : ps.length = 2 * n) (f : Int) : holdsTo ps f n ↔ f ∈ ps := by
  constructor
  · rintro ⟨i, hi, h | h⟩
    · rw [h]; exact getD_mem (by omega)
    · rw [h]; exact getD_mem (by omega)
  · intro h
    obtain ⟨j, hj, e⟩ := List.getElem_of_mem h
    have hat : at0 ps j = f := by
      show ps[j]?.getD 0 = f
      rw [List.getElem?_eq_getElem hj]
      exact e
    rcases Nat.mod_two_eq_zero_or_one j with h2 | h2
    · exact ⟨j / 2, by omega, .inl (by rw [show j / 2 * 2 = j by omega, hat])⟩
    · exact ⟨j / 2, by omega, .inr (by rw [show j / 2 * 2 + 1 = j by omega, hat])⟩

set_option maxRecDepth 100000 in
set_option maxHeartbeats 2000000 in
theorem idxP_any (a1 : Option Addr) (n cap1 : Nat) (ps : List Int) (f : Int) (bf : Nat) (w : World) (hx : SlI w w.heap.size a1 ps) (hp : ps.length = 2 * n) (hn : n ≤ 1048576) (hc : w.heap[bf]? = some (.cells #[.int .i64 f] 2 (0, 0))) :
    Calls Try.prog 239 #[.slice a1 n cap1, .func (.func 204) #[] #[.pointer (some ⟨bf, 0, none⟩)]] w fun e w' => ∃ i : Int, e = .returned (.int .i64 i) ∧ -1 ≤ i ∧ (0 ≤ i ↔ f ∈ ps) ∧ Below w.heap.size w w' := by
  have hent : ∀ args w, (callFunc 204 args).run Try.prog w = .ok (.enter 204 args) w := enters_of Try.func204 (by kernel_rfl) rfl
  have HC := hid (fun x y w1 (h : Below w.heap.size w w1) => isCr1_any x y f bf w1 ((h.block bf (lt_of_get hc)).trans hc))
  have Hx := hid hx
  have Hp := hid hp
  have Hm := hid (holds_mem hp f)
  clear hx hp hc
  go_enter Try.func239, Try.ntmps239
  go_wp2
  go_loopw [8] (fun i wr => ∃ k : Nat, k ≤ n ∧ i = .int .i64 k ∧ Hid (¬ holdsTo ps f k) ∧ Below w.heap.size w wr) (fun i _ => n - (intOf i).toNat)
  case atStart => exact ⟨0, Nat.zero_le _, rfl, hid (fun ⟨i, hi, _⟩ => absurd hi (Nat.not_lt_zero _)), Below.refl _ _⟩
  case round =>
    obtain ⟨k, hk, rfl, Hk, hB⟩ := hrel
    by_cases hlt : k < n
    · obtain ⟨b, off, hb, rfl, hcl⟩ : ∃ b off, b < w.heap.size ∧ a1 = some ⟨b, off, none⟩ ∧ ∀ i, i < ps.length → w.cell? ⟨b, off + i, none⟩ = some (.int .i64 (ps[i]?.getD 0)) := by
        rcases Hx.out with h | h
        · have := Hp.out; rw [h] at this; simp at this; omega
        · exact h
      have hc2 : wr.cell? ⟨b, off + k * 2, none⟩ = some (.int .i64 (at0 ps (k * 2))) := (hB.cell (p := ⟨b, off + k * 2, none⟩) hb).trans (hcl _ (by have := Hp.out; omega))
      have hc3 : wr.cell? ⟨b, off + k * 2 + 1, none⟩ = some (.int .i64 (at0 ps (k * 2 + 1))) := (hB.cell (p := ⟨b, off + (k * 2 + 1), none⟩) hb).trans (hcl _ (by have := Hp.out; omega))
      obtain ⟨x, hx⟩ : ∃ x, x = at0 ps (k * 2) := ⟨_, rfl⟩
      obtain ⟨y, hy⟩ : ∃ y, y = at0 ps (k * 2 + 1) := ⟨_, rfl⟩
      rw [← hx] at hc2
      rw [← hy] at hc3
      have HC2 := hid (HC.out x y wr hB)
      have hi0 : (0 : Int) ≤ (k : Int) := by omega
      have hi1 : (k : Int) < (n : Int) := by omega
      have HB := hid hB
      have Hxy : Hid (f ∈ [x, y] ↔ (f = at0 ps (k * 2) ∨ f = at0 ps (k * 2 + 1))) := hid (by rw [hx, hy]; simp)
      clear hcl hx hy hB
      by_cases hf : f ∈ [x, y]
      · rw [decide_eq_true hf] at HC2
        have He : Hid (f ∈ ps) := hid (Hm.out.1 ⟨k, hlt, Hxy.out.1 hf⟩)
        clear hf
        go_wp2_with fail
        refine HC2.out.mono ?_
        rintro e w2 ⟨rfl, hB2⟩
        have HB2 := hid (HB.out.trans (hB2.mono HB.out.size))
        clear hB2
        go_wp2_with fail
        go_ret
        exact ⟨k, rfl, by omega, ⟨fun _ => He.out, fun _ => by omega⟩, HB2.out⟩
      · rw [decide_eq_false hf] at HC2
        have He : Hid (¬ holdsTo ps f (k + 1)) := hid (by
          rintro ⟨i, hi, h⟩
          by_cases e : i = k
          · subst e
            exact hf (Hxy.out.2 h)
          · exact Hk.out ⟨i, by omega, h⟩)
        clear hf
        go_wp2_with fail
        refine HC2.out.mono ?_
        rintro e w2 ⟨rfl, hB2⟩
        have HB2 := hid (HB.out.trans (hB2.mono HB.out.size))
        clear hB2
        go_wp2_with fail
        go_roundw
        case rel => exact ⟨k + 1, by omega, by go_num, He, HB2.out⟩
        case measure => simp [intOf]; omega
    · obtain rfl : k = n := by omega
      have He : Hid (f ∉ ps) := hid (fun h => Hk.out (Hm.out.2 h))
      go_wp2_with fail
      go_ret
      exact ⟨-1, rfl, by decide, ⟨fun h => absurd h (by decide), fun h => absurd h He.out⟩, hB⟩

set_option maxRecDepth 100000 in
set_option maxHeartbeats 1000000 in
theorem containsP_any (a1 : Option Addr) (n cap1 : Nat) (ps : List Int) (f : Int) (bf : Nat) (w : World) (hx : SlI w w.heap.size a1 ps) (hp : ps.length = 2 * n) (hn : n ≤ 1048576) (hc : w.heap[bf]? = some (.cells #[.int .i64 f] 2 (0, 0))) :
    Calls Try.prog 203 #[.slice a1 n cap1, .func (.func 204) #[] #[.pointer (some ⟨bf, 0, none⟩)]] w fun e w' => e = .returned (.bool (decide (f ∈ ps))) ∧ Below w.heap.size w w' := by
  have HI := hid (idxP_any a1 n cap1 ps f bf w hx hp hn hc)
  obtain ⟨c, hcc⟩ : ∃ c, c = decide (f ∈ ps) := ⟨_, rfl⟩
  have Hc := hid hcc
  rw [← hcc]
  clear hc hx hcc
  go_enter Try.func203, Try.ntmps203
  go_wp2_with fail
  refine HI.out.mono ?_
  rintro e w' ⟨i, rfl, h1, h2, hB⟩
  have Hi := hid h2
  have HB := hid hB
  clear h2 hB
  by_cases h0 : 0 ≤ i
  · have He : Hid (c = true) := hid (by rw [Hc.out]; exact decide_eq_true (Hi.out.1 h0))
    go_wp2_with fail
    go_ret
    exact ⟨ret_bool (by rw [He.out]), HB.out⟩
  · have He : Hid (c = false) := hid (by rw [Hc.out]; exact decide_eq_false (fun h => h0 (Hi.out.2 h)))
    have hlt : i < 0 := by omega
    go_wp2_with fail
    go_ret
    exact ⟨ret_bool (by rw [He.out]; simp [hlt]), HB.out⟩

/-- In the complex, and in no pair. -/
def critB (fs ps : List Int) (f : Int) : Bool := decide (f ∈ fs) && !decide (f ∈ ps)
set_option maxRecDepth 100000 in
set_option maxHeartbeats 2000000 in
theorem isCr_any (V : Int) (a0 : Option Addr) (cap : Nat) (fs : List Int) (a1 : Option Addr) (n cap1 : Nat) (ps : List Int) (f : Int) (w : World) (hx : SlI w w.heap.size a0 fs) (hx1 : SlI w w.heap.size a1 ps) (hl : fs.length ≤ 1048576) (hp : ps.length = 2 * n) (hn : n ≤ 1048576) :
    Calls Try.prog 133 #[.agg #[.int .i64 V, .slice a0 fs.length cap], .slice a1 n cap1, .int .i64 f] w fun e w' => e = .returned (.bool (critB fs ps f)) ∧ Below w.heap.size w w' := by
  obtain ⟨W0, hW0⟩ : ∃ W0, W0 = (w.alloc (.cells #[.int .i64 V, .slice a0 fs.length cap] 30)).alloc (.cells #[.int .i64 f] 2) := ⟨_, rfl⟩
  have hB0 : Below w.heap.size w W0 := by rw [hW0]; exact ((Below.refl _ w).alloc (Nat.le_refl _) _).alloc (by simp) _
  have hs0 : W0.heap.size = w.heap.size + 2 := by rw [hW0]; simp
  have hbf : W0.heap[w.heap.size + 1]? = some (.cells #[.int .i64 f] 2 (0, 0)) := by
    have := heap_alloc_new (w.alloc (.cells #[.int .i64 V, .slice a0 fs.length cap] 30)) (.cells #[.int .i64 f] 2)
    rw [World.size_alloc] at this
    rw [hW0]
    exact this
  have hk1 : W0.cell? ⟨w.heap.size, 1, none⟩ = some (.slice a0 fs.length cap) := by rw [hW0]; simp [go_sem]
  have HP := hid (containsP_any a1 n cap1 ps f (w.heap.size + 1) W0 (hx1.later hB0 hB0.size) hp hn hbf)
  have HF := hid (fun w1 (h : Below w.heap.size w w1) => contains_any a0 cap fs f w1 (hx.later h h.size) hl)
  have Hbf := hid hbf
  have HB0 := hid hB0
  have Hk1 := hid hk1
  have Hs0 := hid hs0
  rw [hW0] at HP
  obtain ⟨c1, hc1⟩ : ∃ c, c = decide (f ∈ fs) := ⟨_, rfl⟩
  obtain ⟨c2, hc2⟩ : ∃ c, c = decide (f ∈ ps) := ⟨_, rfl⟩
  rw [← hc1] at HF
  rw [← hc2] at HP
  have Hc : Hid (critB fs ps f = (c1 && !c2)) := hid (by unfold critB; rw [hc1, hc2])
  have HW0 := hid hW0
  clear hx hx1 hp hB0 hs0 hbf hk1 hc1 hc2 hW0
  go_enter Try.func133, Try.ntmps133
  go_wp2_with fail
  rw [← HW0.out] at HP ⊢
  refine HP.out.mono ?_
  rintro e w1 ⟨rfl, hB1⟩
  have hB : Below w.heap.size w w1 := HB0.out.trans (hB1.mono HB0.out.size)
  have k1 : w1.cell? ⟨w.heap.size, 1, none⟩ = some (.slice a0 fs.length cap) := (hB1.cell (p := ⟨w.heap.size, 1, none⟩) (by have := Hs0.out; simp only; omega)).trans Hk1.out
  have kf : w1.cell? ⟨w.heap.size + 1, 0, none⟩ = some (.int .i64 f) := (hB1.cell (p := ⟨w.heap.size + 1, 0, none⟩) (by have := Hs0.out; simp only; omega)).trans (box_cell Hbf.out).1
  have HF1 := hid (HF.out w1 hB)
  have HB := hid hB
  clear hB1 hB
  cases c1
  · go_wp2_with (go_at_call 175; refine HF1.out.mono ?_; rintro e w' ⟨rfl, rfl⟩)
    go_ret
    exact ⟨ret_bool (by rw [Hc.out]; rfl), HB.out⟩
  · go_wp2_with (go_at_call 175; refine HF1.out.mono ?_; rintro e w' ⟨rfl, rfl⟩)
    go_ret
    exact ⟨ret_bool (by rw [Hc.out]; cases c2 <;> rfl), HB.out⟩

end Go.Proofs.Ytgefpllmelpahaa

/-! WaysBetween, the model's. -/
namespace Go.Proofs.Ytgefpllmelpahaa
open Go.RowKit

/-- The ways by the first k faces below b. -/
def wsPart (ps : List Int) (n b : Nat) (a : Int) (k : Nat) : Int := (((belowR b 63).take k).map (gw ps n a)).sum
theorem wsPart_succ {ps : List Int} {n b : Nat} {a : Int} {k : Nat} (hk : k < (belowR b 63).length) : wsPart ps n b a (k + 1) = wsPart ps n b a k + gw ps n a ((belowR b 63)[k]?.getD 0) := by
  unfold wsPart
  rw [List.take_add_one, List.getElem?_eq_getElem hk]
  simp only [Option.toList_some, List.map_append, List.map_cons, List.map_nil, List.sum_append, List.sum_cons, List.sum_nil, Option.getD_some, Int.add_zero]
theorem wsPart_all {ps : List Int} {n b : Nat} (hb : b < 64) (a : Int) : wsPart ps n b a (belowR b 63).length = wsum ps n (b : Int) a := by
  unfold wsPart wsum
  rw [List.take_length, Int.toNat_natCast]
  have e := sides_below ⟨b, hb⟩
  simp only at e
  have e2 : (sidesF b).map (fun s => gw ps n a (s.val : Int)) = ((belowR b 63).map (gw ps n a)).reverse := by
    rw [← List.map_reverse, ← e, List.map_map]
    rfl
  rw [e2, int_sum_reverse]

set_option maxRecDepth 1000000 in
set_option maxHeartbeats 2000000 in
theorem between_any (a1 : Option Addr) (n cap : Nat) (ps : List Int) (b : Nat) (a : Int) (w : World) (hx : SlI w w.heap.size a1 ps) (hp : ps.length = 2 * n) (hl : n ≤ 1048576) (hh : HighsB ps n) (hc : NoCycle ps n) (hb : b < 64) :
    Calls Try.prog 58 #[.slice a1 n cap, .int .i64 (b : Int), .int .i64 a] w fun e w' => e = .returned (.int .i64 (wrap64 (wsum ps n (b : Int) a))) ∧ Below w.heap.size w w' := by
  have HN := hid (below_any b w hb)
  have HH := hid (fun y w' (h : Below w.heap.size w w') => ways_any a1 n cap ps a y w' (hx.later h h.size) hp hl hh hc)
  obtain ⟨E, hE⟩ : ∃ E, E = wsum ps n (b : Int) a := ⟨_, rfl⟩
  rw [← hE]
  have HE := hid (hE.trans (wsPart_all (ps := ps) (n := n) hb a).symm)
  obtain ⟨m, hm⟩ : ∃ m, m = (belowR b 63).length := ⟨_, rfl⟩
  have hml : m ≤ 63 := by rw [hm]; exact belowR_len _ _
  have Hm := hid hm
  rw [← hm] at HN HE
  clear hx hp hh hc hE hm
  go_enter Try.func58, Try.ntmps58
  go_wp2_with fail
  refine HN.out.mono ?_
  rintro e w1 ⟨v, rfl, hR, hB1⟩
  obtain ⟨hgb, av, cv, rfl, hs⟩ := ownsRow_slI hR
  have HS := hid hs
  have HB1 := hid hB1
  rw [← Hm.out]
  clear hR hs hgb hB1
  go_wp2_with fail
  go_loopw [8, 9] (fun t i wr => ∃ k : Nat, k ≤ m ∧ i = .int .i64 k ∧ t = .int .i64 (wrap64 (wsPart ps n b a k)) ∧ Below w1.heap.size w1 wr) (fun _ i _ => m - (intOf i).toNat)
  case atStart => exact ⟨0, Nat.zero_le _, rfl, by simp [wsPart, wrap64], Below.refl _ _⟩
  case round =>
    obtain ⟨k, hk, rfl, rfl, hB⟩ := hrel
    by_cases hlt : k < m
    · obtain ⟨y, hy⟩ : ∃ y, y = (belowR b 63)[k]?.getD 0 := ⟨_, rfl⟩
      obtain ⟨g, off, hgb, rfl, hcl⟩ : ∃ g off, g < w1.heap.size ∧ av = some ⟨g, off, none⟩ ∧ ∀ i, i < (belowR b 63).length → w1.cell? ⟨g, off + i, none⟩ = some (.int .i64 ((belowR b 63)[i]?.getD 0)) := by
        rcases HS.out with h | h
        · have := Hm.out; rw [h] at this; simp at this; omega
        · exact h
      have hck : wr.cell? ⟨g, off + k, none⟩ = some (.int .i64 y) := by rw [hy]; exact (hB.cell (p := ⟨g, off + k, none⟩) hgb).trans (hcl k (by have := Hm.out; omega))
      have HC := hid (HH.out y wr (HB1.out.trans (hB.mono HB1.out.size)))
      have hsum : Hid (wrap64 (wrap64 (wsPart ps n b a k) + wrap64 (gw ps n a y)) = wrap64 (wsPart ps n b a (k + 1))) := hid (by rw [wrap64_add, wsPart_succ (by have := Hm.out; omega), ← hy])
      have hi0 : (0 : Int) ≤ (k : Int) := by omega
      have hi1 : (k : Int) < (m : Int) := by omega
      have HB := hid hB
      clear hy hcl hB
      go_wp2_with fail
      refine HC.out.mono ?_
      rintro e w2 ⟨rfl, hB2⟩
      have HB2 := hid (HB.out.trans (hB2.mono HB.out.size))
      clear hB2
      go_wp2_with fail
      go_roundw
      case rel => exact ⟨k + 1, by omega, by go_num, congrArg (Value.int .i64) hsum.out, HB2.out⟩
      case measure => simp [intOf]; omega
    · obtain rfl : k = m := by omega
      go_wp2_with fail
      go_ret
      exact ⟨ret_int (by rw [HE.out]), HB1.out.trans (hB.mono HB1.out.size)⟩

theorem mem_critL {fs ps : List Int} {x : Int} : x ∈ critL fs ps ↔ critB fs ps x = true := by
  unfold critL critB
  simp

set_option maxRecDepth 1000000 in
set_option maxHeartbeats 2000000 in
theorem crit6_any (V : Int) (a0 : Option Addr) (cap : Nat) (fs : List Int) (a1 : Option Addr) (n cap1 : Nat) (ps : List Int) (f : Int) (w : World) (hx : SlI w w.heap.size a0 fs) (hx1 : SlI w w.heap.size a1 ps) (hl : fs.length ≤ 1048576) (hp : ps.length = 2 * n) (hn : n ≤ 1048576) :
    Calls Try.prog 129 #[.agg #[.int .i64 V, .slice a0 fs.length cap], .slice a1 n cap1, .int .i64 f] w fun e w' => e = .returned (.bool (critB fs ps f)) ∧ Below w.heap.size w w' := by
  have hB0 : Below w.heap.size w (w.alloc (.cells #[.int .i64 V, .slice a0 fs.length cap] 30)) := (Below.refl _ w).alloc (Nat.le_refl _) _
  have HN := hid (critS_any V a0 cap fs a1 n cap1 ps _ (hx.later hB0 hB0.size) (hx1.later hB0 hB0.size) hl hp hn)
  obtain ⟨E, hE⟩ : ∃ E, E = critB fs ps f := ⟨_, rfl⟩
  rw [← hE]
  have HE := hid hE
  obtain ⟨C, hC⟩ : ∃ C, C = critL fs ps := ⟨_, rfl⟩
  have hml : C.length ≤ 1048576 := by rw [hC]; exact Nat.le_trans (List.length_filter_le _ _) hl
  have HMem : Hid (f ∈ C ↔ critB fs ps f = true) := hid (by rw [hC]; exact mem_critL)
  rw [← hC] at HN
  have HB0 := hid hB0
  clear hx hx1 hp hE hC hB0
  go_enter Try.func129, Try.ntmps129
  go_wp2_with fail
  refine HN.out.mono ?_
  rintro e w1 ⟨v, rfl, hR⟩
  obtain ⟨_, av, cv, rfl, hs⟩ := ownsRow_slI hR.1
  have HS := hid hs
  have HB1 := hid (HB0.out.trans (hR.2.mono HB0.out.size))
  clear hR hs
  go_wp2_with fail
  go_loopw [8] (fun i wr => ∃ k : Nat, k ≤ C.length ∧ i = .int .i64 k ∧ Hid (f ∉ C.take k) ∧ wr = w1) (fun i _ => C.length - (intOf i).toNat)
  case atStart => exact ⟨0, Nat.zero_le _, rfl, hid (by simp), rfl⟩
  case round =>
    obtain ⟨k, hk, rfl, Hk, rfl⟩ := hrel
    by_cases hlt : k < C.length
    · obtain ⟨y, hy⟩ : ∃ y, y = C[k]?.getD 0 := ⟨_, rfl⟩
      obtain ⟨g, off, hgb, rfl, hcl⟩ : ∃ g off, g < wr.heap.size ∧ av = some ⟨g, off, none⟩ ∧ ∀ i, i < C.length → wr.cell? ⟨g, off + i, none⟩ = some (.int .i64 (C[i]?.getD 0)) := by
        rcases HS.out with h | h
        · rw [h] at hlt; simp at hlt
        · exact h
      have hck : wr.cell? ⟨g, off + k, none⟩ = some (.int .i64 y) := by rw [hy]; exact hcl k hlt
      have hi0 : (0 : Int) ≤ (k : Int) := by omega
      have hi1 : (k : Int) < (C.length : Int) := by omega
      have Hy := hid hy
      clear hcl hy
      by_cases hyf : y = f
      · have hd : (y == f) = true := by simp [hyf]
        have He : Hid (E = true) := hid (by rw [HE.out]; exact HMem.out.1 (by rw [← hyf, Hy.out]; exact getD_mem hlt))
        clear hyf
        go_wp2_with fail
        go_ret
        exact ⟨ret_bool (by rw [He.out]), HB1.out⟩
      · have hd : (y == f) = false := by simp [hyf]
        have He : Hid (f ∉ C.take (k + 1)) := hid (by
          rw [take_snoc hlt, ← Hy.out]
          intro h
          rcases List.mem_append.1 h with h | h
          · exact Hk.out h
          · simp at h; exact hyf h.symm)
        clear hyf
        go_wp2_with fail
        go_roundw
        case rel => exact ⟨k + 1, by omega, by go_num, He, by first | rfl | trivial⟩
        case measure => simp [intOf]; omega
    · have He : Hid (E = false) := hid (by
        have h2 := Hk.out
        rw [List.take_of_length_le (by omega)] at h2
        rw [HE.out]
        cases h3 : critB fs ps f
        · rfl
        · exact absurd (HMem.out.2 h3) h2)
      go_wp2_with fail
      go_ret
      exact ⟨ret_bool (by rw [He.out]), HB1.out⟩

/-- b and a are critical faces, b of one dimension more. -/
def suchB (fs ps : List Int) (b a : Int) : Bool := critB fs ps b && (critB fs ps a && decide (ones b.toNat = ones a.toNat + 1))
noncomputable def givenR (V : Int) (fs : List Int) (n : Nat) (ps : List Int) (b a : Int) : Int := if pcodeR V fs n ps = 0 then (if suchB fs ps b a then (if acyB ps n then 0 else 5) else 2) else pcodeR V fs n ps
noncomputable def waysBR (V : Int) (fs : List Int) (n : Nat) (ps : List Int) (b a : Int) : Int × Int := if givenR V fs n ps b a = 0 then (wrap64 (wsum ps n b a), 0) else (0, givenR V fs n ps b a)

set_option maxRecDepth 1000000 in
set_option maxHeartbeats 4000000 in
theorem given_any (V : Int) (a0 : Option Addr) (cap : Nat) (fs : List Int) (a1 : Option Addr) (n cap1 : Nat) (ps : List Int) (b a : Int) (w : World) (hx : SlI w w.heap.size a0 fs) (hx1 : SlI w w.heap.size a1 ps) (hl : fs.length ≤ 1048576) (hp : ps.length = 2 * n) (hn : n ≤ 1048576) :
    Calls Try.prog 57 #[.agg #[.int .i64 V, .slice a0 fs.length cap], .slice a1 n cap1, .int .i64 b, .int .i64 a] w fun e w' => e = .returned (.int .i64 (givenR V fs n ps b a)) ∧ Below w.heap.size w w' := by
  have hB0 : Below w.heap.size w (w.alloc (.cells #[.int .i64 V, .slice a0 fs.length cap] 30)) := (Below.refl _ w).alloc (Nat.le_refl _) _
  have HK := hid (pcode_spec V a0 cap fs a1 n cap1 ps _ (hx.later hB0 hB0.size) (hx1.later hB0 hB0.size) hl hp hn)
  have HB0 := hid hB0
  obtain ⟨E, hE⟩ : ∃ E, E = givenR V fs n ps b a := ⟨_, rfl⟩
  rw [← hE]
  by_cases hpc : pcodeR V fs n ps = 0
  · have hCO : IsC V fs ∧ OkTo fs ps n := by
      rcases pcode_cases V fs n ps with ⟨hC, ho, _⟩ | ⟨_, _, h2, _⟩ | ⟨_, h2, _⟩
      · exact ⟨hC, ho⟩
      · rw [h2] at hpc; cases hpc
      · rw [h2] at hpc; cases hpc
    have hE1 : E = if suchB fs ps b a then (if acyB ps n then 0 else 5) else 2 := by rw [hE, givenR, if_pos hpc]
    rw [hpc] at HK
    have HCb := hid (fun w1 (h : Below w.heap.size w w1) => crit6_any V a0 cap fs a1 n cap1 ps b w1 (hx.later h h.size) (hx1.later h h.size) hl hp hn)
    have HCa := hid (fun w1 (h : Below w.heap.size w w1) => crit6_any V a0 cap fs a1 n cap1 ps a w1 (hx.later h h.size) (hx1.later h h.size) hl hp hn)
    have HA := hid (fun w1 (h : Below w.heap.size w w1) => acyclicS_any a1 n cap1 ps w1 (hx1.later h h.size) hp hn (okTo_highs hCO.1 hCO.2) (okTo_lows hCO.1 hCO.2))
    have Hr := hid hCO.1.range63
    clear hx hx1 hp hpc hCO hE hB0
    have Hm := hid (fun f (h : critB fs ps f = true) => (show f ∈ fs by unfold critB at h; simp at h; exact h.1))
    cases hcb : critB fs ps b
    · have He : Hid (E = 2) := hid (by rw [hE1, if_neg (by unfold suchB; rw [hcb]; simp)])
      rw [hcb] at HCb
      clear hE1 hcb
      go_enter Try.func57, Try.ntmps57
      go_wp2_with (first
        | (go_at_call 48; refine HK.out.mono ?_; rintro e w1 ⟨rfl, hB1⟩; have HB1 := hid (HB0.out.trans (hB1.mono (by simp))); have k0 : w1.cell? ⟨w.heap.size, 0, none⟩ = some (.int .i64 V) := (hB1.cell (p := ⟨w.heap.size, 0, none⟩) (by simp)).trans (by simp [go_sem]); have k1 : w1.cell? ⟨w.heap.size, 1, none⟩ = some (.slice a0 fs.length cap) := (hB1.cell (p := ⟨w.heap.size, 1, none⟩) (by simp)).trans (by simp [go_sem]); have hs1 : w.heap.size < w1.heap.size := (by have := hB1.size; simp at this; omega); have HCb1 := hid (HCb.out w1 HB1.out); clear hB1)
        | (go_at_call 129; refine HCb1.out.mono ?_; rintro e w2 ⟨rfl, hB2⟩; have m0 := (hB2.cell (p := ⟨w.heap.size, 0, none⟩) hs1).trans k0; have m1 := (hB2.cell (p := ⟨w.heap.size, 1, none⟩) hs1).trans k1; have HB2 := hid (HB1.out.trans (hB2.mono HB1.out.size)); have HCa2 := hid (HCa.out w2 HB2.out); clear hB2 k0 k1 HCb1))
      go_ret
      exact ⟨ret_int (by rw [He.out]), HB2.out⟩
    · cases hca : critB fs ps a
      · have He : Hid (E = 2) := hid (by rw [hE1, if_neg (by unfold suchB; rw [hca]; simp)])
        rw [hcb] at HCb
        rw [hca] at HCa
        clear hE1 hcb hca
        go_enter Try.func57, Try.ntmps57
        go_wp2_with (first
          | (go_at_call 48; refine HK.out.mono ?_; rintro e w1 ⟨rfl, hB1⟩; have HB1 := hid (HB0.out.trans (hB1.mono (by simp))); have k0 : w1.cell? ⟨w.heap.size, 0, none⟩ = some (.int .i64 V) := (hB1.cell (p := ⟨w.heap.size, 0, none⟩) (by simp)).trans (by simp [go_sem]); have k1 : w1.cell? ⟨w.heap.size, 1, none⟩ = some (.slice a0 fs.length cap) := (hB1.cell (p := ⟨w.heap.size, 1, none⟩) (by simp)).trans (by simp [go_sem]); have hs1 : w.heap.size < w1.heap.size := (by have := hB1.size; simp at this; omega); have HCb1 := hid (HCb.out w1 HB1.out); clear hB1)
          | (go_at_call 129; refine HCa2.out.mono ?_; rintro e w3 ⟨rfl, hB3⟩; have HB3 := hid (HB2.out.trans (hB3.mono HB2.out.size)); have HA3 := hid (HA.out w3 HB3.out); clear hB3 m0 m1 HCa2) | (go_at_call 129; refine HCb1.out.mono ?_; rintro e w2 ⟨rfl, hB2⟩; have m0 := (hB2.cell (p := ⟨w.heap.size, 0, none⟩) hs1).trans k0; have m1 := (hB2.cell (p := ⟨w.heap.size, 1, none⟩) hs1).trans k1; have HB2 := hid (HB1.out.trans (hB2.mono HB1.out.size)); have HCa2 := hid (HCa.out w2 HB2.out); clear hB2 k0 k1 HCb1))
        go_ret
        exact ⟨ret_int (by rw [He.out]), HB3.out⟩
      · obtain ⟨bn, rfl⟩ : ∃ bn : Nat, b = (bn : Int) := ⟨b.toNat, by have := Hr.out b (Hm.out b hcb); omega⟩
        obtain ⟨an, rfl⟩ : ∃ an : Nat, a = (an : Int) := ⟨a.toNat, by have := Hr.out a (Hm.out a hca); omega⟩
        have hbn : bn < 64 := by have := Hr.out _ (Hm.out _ hcb); omega
        have han : an < 64 := by have := Hr.out _ (Hm.out _ hca); omega
        have hob := ones_le bn
        have hoa := ones_le an
        by_cases hones : ones bn = ones an + 1
        · have hs : suchB fs ps (bn : Int) (an : Int) = true := by unfold suchB; rw [hcb, hca]; simp [hones]
          rw [hcb] at HCb
          rw [hca] at HCa
          rw [if_pos hs] at hE1
          have hon : ((ones bn : Int) != (ones an : Int) + 1) = false := by simp; omega
          cases hac : acyB ps n
          · have He : Hid (E = 5) := hid (by rw [hE1, hac]; simp)
            rw [hac] at HA
            clear hE1 hcb hca hs hones hac
            go_enter Try.func57, Try.ntmps57
            go_wp2_with (first
              | (go_at_call 48; refine HK.out.mono ?_; rintro e w1 ⟨rfl, hB1⟩; have HB1 := hid (HB0.out.trans (hB1.mono (by simp))); have k0 : w1.cell? ⟨w.heap.size, 0, none⟩ = some (.int .i64 V) := (hB1.cell (p := ⟨w.heap.size, 0, none⟩) (by simp)).trans (by simp [go_sem]); have k1 : w1.cell? ⟨w.heap.size, 1, none⟩ = some (.slice a0 fs.length cap) := (hB1.cell (p := ⟨w.heap.size, 1, none⟩) (by simp)).trans (by simp [go_sem]); have hs1 : w.heap.size < w1.heap.size := (by have := hB1.size; simp at this; omega); have HCb1 := hid (HCb.out w1 HB1.out); clear hB1)
              | (go_at_call 129; refine HCa2.out.mono ?_; rintro e w3 ⟨rfl, hB3⟩; have HB3 := hid (HB2.out.trans (hB3.mono HB2.out.size)); have HA3 := hid (HA.out w3 HB3.out); clear hB3 m0 m1 HCa2) | (go_at_call 129; refine HCb1.out.mono ?_; rintro e w2 ⟨rfl, hB2⟩; have m0 := (hB2.cell (p := ⟨w.heap.size, 0, none⟩) hs1).trans k0; have m1 := (hB2.cell (p := ⟨w.heap.size, 1, none⟩) hs1).trans k1; have HB2 := hid (HB1.out.trans (hB2.mono HB1.out.size)); have HCa2 := hid (HCa.out w2 HB2.out); clear hB2 k0 k1 HCb1)
              | (go_at_call 130; refine (ones_any _ _ (by assumption)).mono ?_; rintro e w' ⟨rfl, rfl⟩)
              | (go_at_call 49; refine HA3.out.mono ?_; rintro e w4 ⟨rfl, hB4⟩; have HB4 := hid (HB3.out.trans (hB4.mono HB3.out.size)); clear hB4))
            go_ret
            exact ⟨ret_int (by rw [He.out]), HB4.out⟩
          · have He : Hid (E = 0) := hid (by rw [hE1, hac]; simp)
            rw [hac] at HA
            clear hE1 hcb hca hs hones hac
            go_enter Try.func57, Try.ntmps57
            go_wp2_with (first
              | (go_at_call 48; refine HK.out.mono ?_; rintro e w1 ⟨rfl, hB1⟩; have HB1 := hid (HB0.out.trans (hB1.mono (by simp))); have k0 : w1.cell? ⟨w.heap.size, 0, none⟩ = some (.int .i64 V) := (hB1.cell (p := ⟨w.heap.size, 0, none⟩) (by simp)).trans (by simp [go_sem]); have k1 : w1.cell? ⟨w.heap.size, 1, none⟩ = some (.slice a0 fs.length cap) := (hB1.cell (p := ⟨w.heap.size, 1, none⟩) (by simp)).trans (by simp [go_sem]); have hs1 : w.heap.size < w1.heap.size := (by have := hB1.size; simp at this; omega); have HCb1 := hid (HCb.out w1 HB1.out); clear hB1)
              | (go_at_call 129; refine HCa2.out.mono ?_; rintro e w3 ⟨rfl, hB3⟩; have HB3 := hid (HB2.out.trans (hB3.mono HB2.out.size)); have HA3 := hid (HA.out w3 HB3.out); clear hB3 m0 m1 HCa2) | (go_at_call 129; refine HCb1.out.mono ?_; rintro e w2 ⟨rfl, hB2⟩; have m0 := (hB2.cell (p := ⟨w.heap.size, 0, none⟩) hs1).trans k0; have m1 := (hB2.cell (p := ⟨w.heap.size, 1, none⟩) hs1).trans k1; have HB2 := hid (HB1.out.trans (hB2.mono HB1.out.size)); have HCa2 := hid (HCa.out w2 HB2.out); clear hB2 k0 k1 HCb1)
              | (go_at_call 130; refine (ones_any _ _ (by assumption)).mono ?_; rintro e w' ⟨rfl, rfl⟩)
              | (go_at_call 49; refine HA3.out.mono ?_; rintro e w4 ⟨rfl, hB4⟩; have HB4 := hid (HB3.out.trans (hB4.mono HB3.out.size)); clear hB4))
            go_ret
            exact ⟨ret_int (by rw [He.out]), HB4.out⟩
        · have He : Hid (E = 2) := hid (by rw [hE1, if_neg (by unfold suchB; simp [hones])])
          rw [hcb] at HCb
          rw [hca] at HCa
          have hon : ((ones bn : Int) != (ones an : Int) + 1) = true := by simp; omega
          clear hE1 hcb hca hones
          go_enter Try.func57, Try.ntmps57
          go_wp2_with (first
            | (go_at_call 48; refine HK.out.mono ?_; rintro e w1 ⟨rfl, hB1⟩; have HB1 := hid (HB0.out.trans (hB1.mono (by simp))); have k0 : w1.cell? ⟨w.heap.size, 0, none⟩ = some (.int .i64 V) := (hB1.cell (p := ⟨w.heap.size, 0, none⟩) (by simp)).trans (by simp [go_sem]); have k1 : w1.cell? ⟨w.heap.size, 1, none⟩ = some (.slice a0 fs.length cap) := (hB1.cell (p := ⟨w.heap.size, 1, none⟩) (by simp)).trans (by simp [go_sem]); have hs1 : w.heap.size < w1.heap.size := (by have := hB1.size; simp at this; omega); have HCb1 := hid (HCb.out w1 HB1.out); clear hB1)
            | (go_at_call 129; refine HCa2.out.mono ?_; rintro e w3 ⟨rfl, hB3⟩; have HB3 := hid (HB2.out.trans (hB3.mono HB2.out.size)); have HA3 := hid (HA.out w3 HB3.out); clear hB3 m0 m1 HCa2) | (go_at_call 129; refine HCb1.out.mono ?_; rintro e w2 ⟨rfl, hB2⟩; have m0 := (hB2.cell (p := ⟨w.heap.size, 0, none⟩) hs1).trans k0; have m1 := (hB2.cell (p := ⟨w.heap.size, 1, none⟩) hs1).trans k1; have HB2 := hid (HB1.out.trans (hB2.mono HB1.out.size)); have HCa2 := hid (HCa.out w2 HB2.out); clear hB2 k0 k1 HCb1)
            | (go_at_call 130; refine (ones_any _ _ (by assumption)).mono ?_; rintro e w' ⟨rfl, rfl⟩))
          go_ret
          exact ⟨ret_int (by rw [He.out]), HB3.out⟩
  · have hE1 : E = pcodeR V fs n ps := by rw [hE, givenR, if_neg hpc]
    rw [← hE1] at hpc HK
    have hcn : (E == 0) = false := by simpa using hpc
    clear hx hx1 hp hpc hE hE1 hB0
    go_enter Try.func57, Try.ntmps57
    go_wp2_with fail
    refine HK.out.mono ?_
    rintro e w1 ⟨rfl, hB1⟩
    go_wp2_with fail
    go_ret
    exact ⟨rfl, HB0.out.trans (hB1.mono (by simp))⟩

theorem given_zero {V : Int} {fs : List Int} {n : Nat} {ps : List Int} {b a : Int} (h : givenR V fs n ps b a = 0) : pcodeR V fs n ps = 0 ∧ suchB fs ps b a = true ∧ NoCycle ps n := by
  unfold givenR at h
  split at h
  · rename_i hp
    split at h
    · rename_i hs
      split at h
      · rename_i ha
        refine ⟨hp, hs, Classical.byContradiction fun hn => ?_⟩
        rw [acyB_false hn] at ha
        cases ha
      · cases h
    · cases h
  · rename_i hp
    exact absurd h hp
theorem such_lt {fs ps : List Int} {b a : Int} (hr : ∀ x ∈ fs, 1 ≤ x ∧ x ≤ 63) (h : suchB fs ps b a = true) : (∃ bn : Nat, b = (bn : Int) ∧ bn < 64) ∧ (0 ≤ a ∧ a < 64) := by
  unfold suchB critB at h
  simp at h
  have h1 := hr _ h.1.1
  have h2 := hr _ h.2.1.1
  exact ⟨⟨b.toNat, by omega, by omega⟩, by omega, by omega⟩


end Go.Proofs.Ytgefpllmelpahaa

/-! The rows of the Morse boundary, the model's. -/
namespace Go.Proofs.Ytgefpllmelpahaa
open Go.RowKit

theorem dim2M_any (x : Nat) (w : World) (hx : x < 64) : Calls Try.prog 197 #[.int .i64 (x : Int)] w fun e w' => e = .returned (.int .i64 ((ones x : Int) - 1)) ∧ w = w' := by
  have ho := ones_le x
  go_enter Try.func197, Try.ntmps197
  go_wp2_with (go_at_call 130; refine (ones_any x _ hx).mono ?_; rintro e w' ⟨rfl, rfl⟩)
  go_ret
  exact ⟨ret_int rfl, rfl⟩

/-- The row of b: the faces of C with q vertices. -/
noncomputable def rowM (ps : List Int) (n : Nat) (C : List Int) (q b : Int) : List Int := (C.filter (fun a => decide ((ones a.toNat : Int) - 1 = q))).map (fun a => Int.tmod (wrap64 (wsum ps n b a)) 2)
noncomputable def rowsM (ps : List Int) (n : Nat) (C : List Int) (p : Int) : List (List Int) := (C.filter (fun b => decide ((ones b.toNat : Int) - 1 = p))).map (rowM ps n C (p - 1))
/-- The rows of the first k faces alone. -/
noncomputable def rowsT (ps : List Int) (n : Nat) (C : List Int) (p : Int) (k : Nat) : List (List Int) := ((C.take k).filter (fun b => decide ((ones b.toNat : Int) - 1 = p))).map (rowM ps n C (p - 1))

theorem rowM_len (ps : List Int) (n : Nat) (C : List Int) (q b : Int) : (rowM ps n C q b).length ≤ C.length := by
  unfold rowM
  rw [List.length_map]
  exact List.length_filter_le _ _
theorem rowM_snoc {ps : List Int} {n : Nat} {C : List Int} {q b : Int} {k x : Nat} (hk : k < C.length) (hx : (x : Int) = C[k]?.getD 0) {c : Bool} (hc : decide ((ones x : Int) - 1 = q) = c) :
    rowM ps n (C.take (k + 1)) q b = rowM ps n (C.take k) q b ++ (if c then [Int.tmod (wrap64 (wsum ps n b (x : Int))) 2] else []) := by
  unfold rowM
  rw [take_snoc hk, ← hx, List.filter_append, List.map_append]
  cases c <;> simp only [List.filter_cons, Int.toNat_natCast, hc] <;> simp
theorem rowsT_len (ps : List Int) (n : Nat) (C : List Int) (p : Int) (k : Nat) : (rowsT ps n C p k).length ≤ C.length := by
  unfold rowsT
  rw [List.length_map]
  exact Nat.le_trans (List.length_filter_le _ _) (by simp; omega)
theorem rowsT_snoc {ps : List Int} {n : Nat} {C : List Int} {p : Int} {k x : Nat} (hk : k < C.length) (hx : (x : Int) = C[k]?.getD 0) {c : Bool} (hc : decide ((ones x : Int) - 1 = p) = c) :
    rowsT ps n C p (k + 1) = rowsT ps n C p k ++ (if c then [rowM ps n C (p - 1) (x : Int)] else []) := by
  unfold rowsT
  rw [take_snoc hk, ← hx, List.filter_append, List.map_append]
  cases c <;> simp only [List.filter_cons, Int.toNat_natCast, hc] <;> simp
theorem rowsT_all (ps : List Int) (n : Nat) (C : List Int) (p : Int) : rowsT ps n C p C.length = rowsM ps n C p := by
  unfold rowsT rowsM
  rw [List.take_length]

set_option maxRecDepth 1000000 in
set_option maxHeartbeats 8000000 in
theorem rows_any (V : Int) (a0 : Option Addr) (cap : Nat) (fs : List Int) (a1 : Option Addr) (n cap1 : Nat) (ps : List Int) (p : Int) (w : World) (hx : SlI w w.heap.size a0 fs) (hx1 : SlI w w.heap.size a1 ps) (hl : fs.length ≤ 1048576) (hp : ps.length = 2 * n) (hn : n ≤ 1048576) (hr : ∀ x ∈ fs, 1 ≤ x ∧ x ≤ 63) (hh : HighsB ps n) (hc : NoCycle ps n) (p0 : 0 ≤ p) (p1 : p ≤ 7) :
    Calls Try.prog 120 #[.agg #[.int .i64 V, .slice a0 fs.length cap], .slice a1 n cap1, .int .i64 p] w fun e w' => ∃ v vs, e = .returned v ∧ RowsV w' w.heap.size v vs (rowsM ps n (critL fs ps) p) ∧ Below w.heap.size w w' := by
  have hB0 : Below w.heap.size w (w.alloc (.cells #[.int .i64 V, .slice a0 fs.length cap] 30)) := (Below.refl _ w).alloc (Nat.le_refl _) _
  have HN := hid (critS_any V a0 cap fs a1 n cap1 ps _ (hx.later hB0 hB0.size) (hx1.later hB0 hB0.size) hl hp hn)
  have HW := hid (fun b a w' (h : Below w.heap.size w w') (hb : b < 64) => between_any a1 n cap1 ps b a w' (hx1.later h h.size) hp hn hh hc hb)
  obtain ⟨C, hC⟩ : ∃ C, C = critL fs ps := ⟨_, rfl⟩
  have hml : C.length ≤ 1048576 := by rw [hC]; exact Nat.le_trans (List.length_filter_le _ _) hl
  have Hr : Hid (∀ x ∈ C, 1 ≤ x ∧ x ≤ 63) := hid (by rw [hC]; exact fun x h => hr x (List.mem_filter.1 h).1)
  rw [← hC] at HN ⊢
  have HB0 := hid hB0
  clear hx hx1 hp hC hB0 hr hh hc hl
  go_enter Try.func120, Try.ntmps120
  go_wp2_with fail
  refine HN.out.mono ?_
  rintro e w1 ⟨v, rfl, hR⟩
  obtain ⟨_, av, cv, rfl, hs⟩ := ownsRow_slI hR.1
  have HS := hid hs
  have HB1 := hid (HB0.out.trans (hR.2.mono HB0.out.size))
  clear hR hs
  go_wp2_with fail
  have hown0 := World.ownsRow_made (base := w1.heap.size) (e := 22) (size := 1) w1 #[] 0 (Nat.le_refl _) (by simp [maxLen]) rfl
  have Hown0 := hid hown0
  clear hown0
  go_loopw [8, 9] (fun o i wr => ∃ (k : Nat) (vs : List Value), k ≤ C.length ∧ i = .int .i64 k ∧ RowsV wr w1.heap.size o vs (rowsT ps n C p k) ∧ Below w1.heap.size w1 wr) (fun _ i _ => C.length - (intOf i).toNat)
  case atStart => exact ⟨0, [], Nat.zero_le _, rfl, .nil Hown0.out, (Below.refl _ _).alloc (Nat.le_refl _) _⟩
  case round =>
    obtain ⟨k, vs, hk, rfl, hrows, hB⟩ := hrel
    obtain ⟨wo, rfl⟩ : ∃ wo, wo = wr := ⟨_, rfl⟩
    have Hrows := hid hrows
    have HB := hid hB
    have HSr := hid (HS.out.later hB hB.size)
    have hszr := hB.size
    clear hrows hB
    by_cases hlt : k < C.length
    · obtain ⟨x, hx⟩ : ∃ x : Nat, (x : Int) = C[k]?.getD 0 := ⟨(C[k]?.getD 0).toNat, by have := Hr.out _ (getD_mem hlt); omega⟩
      have hx64 : x < 64 := by have := Hr.out _ (getD_mem hlt); omega
      obtain ⟨g, off, hgb, rfl, hcl⟩ : ∃ g off, g < wo.heap.size ∧ av = some ⟨g, off, none⟩ ∧ ∀ i, i < C.length → wo.cell? ⟨g, off + i, none⟩ = some (.int .i64 (C[i]?.getD 0)) := by
        rcases HSr.out with h | h
        · rw [h] at hlt; simp at hlt
        · obtain ⟨g, off, h1, h2, h3⟩ := h
          exact ⟨g, off, h1, h2, h3⟩
      have hck : wo.cell? ⟨g, off + k, none⟩ = some (.int .i64 (x : Int)) := by rw [hx]; exact hcl k hlt
      have hi0 : (0 : Int) ≤ (k : Int) := by omega
      have hi1 : (k : Int) < (C.length : Int) := by omega
      have ho := ones_le x
      have Hx := hid hx
      have Hcl := hid hcl
      clear hx hcl
      by_cases hd : (ones x : Int) - 1 = p
      · have hd1 : ((ones x : Int) - 1 != p) = false := by simp [hd]
        have Hsn := hid (rowsT_snoc (ps := ps) (n := n) (p := p) hlt Hx.out (c := true) (by simp [hd]))
        clear hd
        go_wp2_with (go_at_call 197; refine (dim2M_any x _ hx64).mono ?_; rintro e w' ⟨rfl, rfl⟩)
        have hown1 := World.ownsRow_made (base := wo.heap.size) (e := 2) (size := 1) wo #[] 0 (Nat.le_refl _) (by simp [maxLen]) rfl
        have Hown1 := hid hown1
        clear hown1 hck
        go_loopw [10, 11] (fun r j wx => ∃ m : Nat, m ≤ C.length ∧ j = .int .i64 m ∧ wx.ownsRow wo.heap.size 2 1 r (rowM ps n (C.take m) (p - 1) (x : Int)).length ((rowM ps n (C.take m) (p - 1) (x : Int)).map (Value.int .i64)) ∧ Below wo.heap.size wo wx) (fun _ j _ => C.length - (intOf j).toNat)
        case atStart => exact ⟨0, Nat.zero_le _, rfl, by simpa [rowM] using Hown1.out, (Below.refl _ _).alloc (Nat.le_refl _) _⟩
        case round =>
          obtain ⟨m, hm, rfl, hown, hBx⟩ := hrel
          have hszx := hBx.size
          by_cases hlm : m < C.length
          · obtain ⟨y, hy⟩ : ∃ y : Nat, (y : Int) = C[m]?.getD 0 := ⟨(C[m]?.getD 0).toNat, by have := Hr.out _ (getD_mem hlm); omega⟩
            have hy64 : y < 64 := by have := Hr.out _ (getD_mem hlm); omega
            have hck : wr.cell? ⟨g, off + k, none⟩ = some (.int .i64 (x : Int)) := by rw [Hx.out]; exact (hBx.cell (p := ⟨g, off + k, none⟩) hgb).trans (Hcl.out k hlt)
            have hcm : wr.cell? ⟨g, off + m, none⟩ = some (.int .i64 (y : Int)) := by rw [hy]; exact (hBx.cell (p := ⟨g, off + m, none⟩) hgb).trans (Hcl.out m hlm)
            have hj0 : (0 : Int) ≤ (m : Int) := by omega
            have hj1 : (m : Int) < (C.length : Int) := by omega
            have hoy := ones_le y
            have hrl : (rowM ps n (C.take m) (p - 1) (x : Int)).length ≤ 1048576 := Nat.le_trans (rowM_len ..) (by simp; omega)
            have HBx := hid hBx
            have HO := hid hown
            have Hy := hid hy
            clear hBx hown hy
            by_cases hd : (ones y : Int) - 1 = p - 1
            · have hd2 : ((ones y : Int) - 1 == p - 1) = true := by simp [hd]
              have HT := hid (rowM_snoc (ps := ps) (n := n) (q := p - 1) (b := (x : Int)) hlm Hy.out (c := true) (by simp [hd]))
              have HCW := hid (fun w2 (h : Below wr.heap.size wr w2) => HW.out x (y : Int) w2 (HB1.out.trans ((HB.out.mono HB1.out.size).trans ((HBx.out.mono (Nat.le_trans HB1.out.size HB.out.size)).trans (h.mono (Nat.le_trans HB1.out.size (Nat.le_trans HB.out.size HBx.out.size)))))) hx64)
              obtain ⟨Z, hZ⟩ : ∃ Z, Z = wrap64 (wsum ps n (x : Int) (y : Int)) := ⟨_, rfl⟩
              rw [← hZ] at HT HCW
              clear hd hZ
              go_wp2_with (go_at_call 197; refine (dim2M_any y _ hy64).mono ?_; rintro e w' ⟨rfl, rfl⟩)
              go_region_law (first
                | (refine step_call3 (by rfl) Try.func58 (by kernel_rfl) (by kernel_rfl) (by rfl) (by rfl) (by rfl) (by rfl) (HCW.out _ (by first | exact Below.refl _ _ | exact (Below.refl _ _).drew)) ?_; intro w2 hB2; have HO2 := hid (ownsRow_below (w := wr.drew) HO.out hB2 (fun g hg => (HO.out.lt g hg).2)); have hs2 := hB2.size; have HB2 : Hid (Below wr.heap.size wr w2) := hid ((Below.refl _ _).drew.trans hB2); clear hB2)
                | (refine step_append_new (by rfl) (by rfl) HO2.out (by rfl) (Nat.le_trans hszx hs2) (Nat.le_trans hrl (by decide)) (by rfl) (by rfl) ?_; intro g3 cp w3 hown3 hgrow3))
              all_goals
                have hB3 := (Below.refl wo.heap.size w2).grown ((World.grownBy_alloc w2 _ _).trans hgrow3) (Nat.le_trans hszx hs2) (fun k hk => (HO2.out.lt k hk).1)
                go_wp2_with fail
                go_roundw
                case rel => exact ⟨m + 1, by omega, by go_num, by rw [HT.out]; simpa using hown3, HBx.out.trans ((HB2.out.mono HBx.out.size).trans hB3)⟩
                case measure => simp [intOf]; omega
            · have hd2 : ((ones y : Int) - 1 == p - 1) = false := by simp [hd]
              have HT := hid (rowM_snoc (ps := ps) (n := n) (q := p - 1) (b := (x : Int)) hlm Hy.out (c := false) (by simp [hd]))
              clear hd
              go_wp2_with (go_at_call 197; refine (dim2M_any y _ hy64).mono ?_; rintro e w' ⟨rfl, rfl⟩)
              go_roundw
              case rel => exact ⟨m + 1, by omega, by go_num, by rw [HT.out]; simpa using HO.out, HBx.out⟩
              case measure => simp [intOf]; omega
          · obtain rfl : m = C.length := by omega
            rw [List.take_length] at hown
            have HBx := hid hBx
            obtain ⟨ar, cr, rfl, hown⟩ := rowAt_of hown
            have HO := hid hown
            have hrl := Nat.le_trans (rowsT_len ps n C p k) hml
            have HR := hid (Hrows.out.below hBx)
            clear hown hBx
            go_wp2_with (at_builtin; refine append_row rfl rfl rfl HR.out.own (by omega) (by omega) rfl rfl ?_; intro v' w3 hown3 hgrow3 hB3)
            go_roundw
            case rel => exact ⟨k + 1, _, by omega, by go_num, by rw [Hsn.out, if_pos trivial]; exact Hrows.out.snoc HBx.out (by omega) HO.out hown3 hgrow3, HB.out.trans ((HBx.out.mono HB.out.size).trans hB3)⟩
            case measure => simp [intOf]; omega
      · have hd1 : ((ones x : Int) - 1 != p) = true := by simp [hd]
        have Hsn := hid (rowsT_snoc (ps := ps) (n := n) (p := p) hlt Hx.out (c := false) (by simp [hd]))
        clear hd
        go_wp2_with (go_at_call 197; refine (dim2M_any x _ hx64).mono ?_; rintro e w' ⟨rfl, rfl⟩)
        go_roundw
        case rel => exact ⟨k + 1, vs, by omega, by go_num, by rw [Hsn.out]; simpa using Hrows.out, HB.out⟩
        case measure => simp [intOf]; omega
    · obtain rfl : k = C.length := by omega
      go_wp2_with fail
      go_ret
      have := Hrows.out
      rw [rowsT_all] at this
      exact ⟨_, vs, rfl, ⟨ownsRow_base this.own HB1.out.size, this.len, fun i hi => (by obtain ⟨a, c, e, h⟩ := this.at_ i hi; exact ⟨a, c, e, ownsRow_base h HB1.out.size⟩), this.asc⟩, HB1.out.trans (HB.out.mono HB1.out.size)⟩

end Go.Proofs.Ytgefpllmelpahaa

/-! waysFrom, walked. -/
namespace Go.Proofs.Ytgefpllmelpahaa
open Go.RowKit Go.Shelf

attribute [local go_sem] Oper.semAt_some

theorem CntM.same {W W' : World} {b N : Nat} {f : Int → Int} (h : CntM W b N f) (he : W'.heap[b]? = W.heap[b]?) : CntM W' b N f := by
  obtain ⟨D, h0, ⟨es, clock, hb, rest⟩, h2⟩ := h
  exact ⟨D, h0, ⟨es, clock, he.trans hb, rest⟩, h2⟩
theorem keepB_ownIn {β : Type} {Bs : List Nat} {lo k lo' k' : Nat} {W0 : World} (h0 : lo + k ≤ W0.heap.size) (hB : ∀ q ∈ Bs, q < W0.heap.size) (h1 : lo + k ≤ lo') (hB1 : ∀ q ∈ Bs, q < lo') : OwnIn lo' k' (fun (_ : β) W => KeepP Bs lo k W0 W) := by
  intro s A C row h hg hr
  refine h.trans ⟨hg.size, fun r hr2 => hg.block r ?_ (fun e => ?_)⟩
  · have := h.size
    rcases hr2 with h2 | h2
    · have := hB r h2; omega
    · omega
  · have := (hr r e.symm).1
    rcases hr2 with h2 | h2
    · have := hB1 r h2; omega
    · omega
theorem lows_ownIn {β : Type} {M n m : Nat} {ps : List Int} {lo k : Nat} (h0 : M < lo) : OwnIn lo k (fun (_ : β) W => W.ownsMap Try.prog 2 pairElem M n (lowsD ps m)) := by
  intro s A C row h hg hr
  exact h.kept hg (fun e => by have := (hr _ e.symm).1; omega)
theorem SeqStopsP.inRound {α : Type} {F : Fence} {n : Nat} {P : Program} {g : Nat} {lb : Array Value} {encs : α → Array Value} {Bs : List Nat} {k : Nat} {L : List α} {w0 : World} (l : Nat) (h : SeqStopsP F n P g lb encs Bs k L w0) : SeqStopsP (F.inRound l) n P g lb encs Bs k L w0 := h

theorem downL_prefix {n i : Nat} {pre : List Nat} (h : pre ++ [i] <+: downL n) : pre.length < n ∧ i = n - 1 - pre.length := by
  have hl := h.length_le
  rw [downL_len] at hl
  simp at hl
  refine ⟨by omega, ?_⟩
  have h1 := List.prefix_iff_eq_take.1 h
  have h2 : (pre ++ [i]).length = pre.length + 1 := by simp
  rw [h2, downL_take (by omega)] at h1
  have h3 := List.append_inj' h1 rfl
  simpa using h3.2

set_option maxRecDepth 1000000 in
set_option maxHeartbeats 4000000 in
theorem wfrom_in (a1 : Option Addr) (n cap1 : Nat) (qs : List Int) (b : Nat) (w : World) (hx1 : SlI w w.heap.size a1 qs) (hp : qs.length = 2 * n) (hn : n ≤ 1048576) (hw : ∀ x ∈ qs, (Lit.int .i64 x).wf = true) (hd : LowsApart qs n) (hh : HighsB qs n) (hO : OrdQ qs n) (hlo : ∀ i, i < n → 0 ≤ at0 qs (i * 2) ∧ at0 qs (i * 2) < 64) (hb : b < 64) :
    CallsIn Fence.wide 20 Try.prog 128 #[.slice a1 n cap1, .int .i64 (b : Int)] w fun e w' => ∃ N f, e = .returned (.map (some w.heap.size)) ∧ CntM w' w.heap.size N f ∧ (∀ a, 0 ≤ a → a < 64 → f a = wrap64 (wsum qs n (b : Int) a)) ∧ Below w.heap.size w w' := by
  have HLw := hid (fun w1 (hb : Below w.heap.size w w1) => lows_any a1 n cap1 qs w1 (hx1.later hb hb.size) hp hn hw)
  have Hy := hid hx1
  have Hp := hid hp
  have Hw := hid hw
  have HD := hid hd
  have HH := hid hh
  have HO := hid hO
  have Hlo := hid hlo
  have hmm := @run_makeMap Try.prog
  clear hx1 hp hw hd hh hO hlo
  refine callsIn_of_wp_marks Try.func128 rfl trivial ?_ rfl
  simp only [Try.ntmps128, List.size_toArray, List.length_cons, List.length_nil, Nat.reduceAdd, Nat.reduceSub, Array.replicate_succ, Array.replicate_zero, List.push_toArray, List.append_toArray, List.nil_append, List.cons_append]
  gi_wp2_with (first
    | (refine ⟨trivial, ?_⟩; gi_at_call 154; refine (sides_in _ _ _).mono ?_; rintro e w' ⟨rfl, rfl⟩))
  obtain ⟨W0, hW0⟩ : ∃ W0, W0 = ((w.alloc (.map #[] 0)).alloc (.cells #[.map (some w.heap.size)] 103)).alloc (.cells #[.int .i64 (b : Int)] 2) := ⟨_, rfl⟩
  have hs0 : W0.heap.size = w.heap.size + 3 := by rw [hW0]; simp
  have hbb : W0.heap[w.heap.size + 1 + 1]? = some (.cells #[.int .i64 (b : Int)] 2 (0, 0)) := by
    have := heap_alloc_new ((w.alloc (.map #[] 0)).alloc (.cells #[.map (some w.heap.size)] 103)) (.cells #[.int .i64 (b : Int)] 2)
    rw [World.size_alloc, World.size_alloc] at this
    rw [hW0]
    exact this
  have H0 : Hid (GwW w W0 0 (sideU []) []) := by
    have e3 := heap_alloc_new (w.alloc (.map #[] 0)) (.cells #[.map (some w.heap.size)] 103)
    rw [World.size_alloc] at e3
    rw [hW0]
    exact hid {
      below := (((Below.refl _ w).alloc (Nat.le_refl _) _).alloc (by simp) _).alloc (by simp; omega) _
      cnt := ((CntM.made w).alloc _).alloc _
      b1 := (Below.heap_alloc _ _ _ (by simp)).trans e3
      nodup := by simp
      marks := by simp }
  rw [← hW0]
  clear hW0 hmm
  refine wpIn_rangeFunc_P rfl (by decide) (gf := 215) (lb := #[.pointer (some ⟨w.heap.size + 1 + 1, 0, none⟩)]) rfl trivial (enters_of Try.func215 (by kernel_rfl) rfl)
    (sides_P 19 (by decide) (w.heap.size + 1 + 1) b hb W0 (by omega) hbb) (by simp; omega) (Below.refl _ _) (fun _ => rfl)
    (fun pre W' => GwW w W' pre.length (sideU pre) [])
    (fun _ _ _ => False)
    (gw_ownIn (by omega) (by simp))
    (fun _ => ownIn_pure _ _ _)
    H0.out
    (fun z => { tmps := List.toArray ((.slice a1 n cap1) :: (.int .i64 (b : Int)) :: (undef) :: (undef) :: (.map none) :: (.pointer (some ⟨w.heap.size + 1, 0, none⟩)) :: (.int .i64 (z.val : Int)) :: (undef) :: (undef) :: (undef) :: (undef) :: (.map (some w.heap.size)) :: (.int .i64 (b : Int)) :: (.func (.func 215) #[] #[.pointer (some ⟨w.heap.size + 1 + 1, 0, none⟩)]) :: (.int .i64 (z.val : Int)) :: (undef) :: (undef) :: (undef) :: (undef) :: (undef) :: (undef) :: (undef) :: (undef) :: (undef) :: (undef) :: (undef) :: (undef) :: (undef) :: (undef) :: (undef) :: (undef) :: (undef) :: (undef) :: (undef) :: (undef) :: (undef) :: (undef) :: []), defers := [] }) ?assign ?body ?done ?stop
  case assign =>
    intro l z W4 K hK
    gi_wp2
    exact hK
  case body =>
    rintro l pre z W4 hpre hsz4 hS
    have hzw : (Lit.int .i64 (z.val : Int)).wf = true := WalkArith.wf_i64 (by have := z.isLt; omega)
    have hpl : pre.length + 1 ≤ 6 := by
      have h1 := hpre.length_le
      have h2 : (sidesF b).length ≤ 6 := sides_len b 6
      simp at h1
      omega
    have q1 : W4.cell? ⟨w.heap.size + 1, 0, none⟩ = some (.map (some w.heap.size)) := (box_cell hS.b1).1
    obtain ⟨W5, hrun5, hc5, hg5, hs5⟩ := hS.cnt.update (show pre.length < maxLen by unfold maxLen; omega) hzw (show (Lit.int .i64 1).wf = true by decide)
    have hS5 := hS.put hc5 hg5
    rw [sideU_snoc] at hS5
    have HS5 := hid hS5
    have Hg5 := hid hg5
    clear hS hS5 hc5 hg5 hzw hbb H0
    gi_wp2
    refine ⟨⟨Hg5.out.size, fun r hr => ?_⟩, ?_⟩
    · rcases hr with h | h
      · simp at h
        subst h
        exact Hg5.out.block _ (by omega) (fun e => by injection e with e; omega)
      · exact Hg5.out.block r (by omega) (fun e => by injection e with e; omega)
    · show GwW w W5 (pre ++ [z]).length (sideU (pre ++ [z])) []
      have e : (pre ++ [z]).length = pre.length + 1 := by simp
      rw [e]
      exact HS5.out
  case stop =>
    rintro c pre W4 hpre hF hD4
    exact hF.elim
  case done =>
    rintro W4 hS hD4
    have hS4 := (hS.mark hD4 (by omega) (by simp)).mono (show (sidesF b).length ≤ 6 from sides_len b 6)
    have hsz4 := hS4.size
    rw [hs0] at hS4
    have HS4 := hid hS4
    clear hS hS4 hD4 hbb H0
    gi_wp2_with (first
      | (refine ⟨trivial, ?_⟩; gi_at_call 139; refine (callsIn_wide.2 (HLw.out _ HS4.out.below)).mono ?_; rintro e w5 ⟨rfl, hown, hB5⟩)
      | (refine ⟨trivial, ?_⟩; gi_at_call 140; refine (backward_in _ _ _ _ _).mono ?_; rintro e w' ⟨rfl, rfl⟩))
    have hMl : W4.heap.size < w5.heap.size := hown.lt
    obtain ⟨W6, hW6⟩ : ∃ W6, W6 = (w5.alloc (.cells #[.map (some W4.heap.size)] 151)).alloc (.cells #[.slice a1 n cap1] 32) := ⟨_, rfl⟩
    have hs6 : W6.heap.size = w5.heap.size + 2 := by rw [hW6]; simp
    have hlb6 : W6.heap[w5.heap.size]? = some (.cells #[.map (some W4.heap.size)] 151 (0, 0)) := by rw [hW6]; exact (Below.heap_alloc _ _ _ (by simp)).trans (heap_alloc_new _ _)
    have hsb6 : W6.heap[w5.heap.size + 1]? = some (.cells #[.slice a1 n cap1] 32 (0, 0)) := by
      have := heap_alloc_new (w5.alloc (.cells #[.map (some W4.heap.size)] 151)) (.cells #[.slice a1 n cap1] 32)
      rw [World.size_alloc] at this
      rw [hW6]
      exact this
    have hown6 : W6.ownsMap Try.prog 2 pairElem W4.heap.size n (lowsD qs n) := by rw [hW6]; exact (hown.alloc _).alloc _
    have hG6 : GwW w W6 6 (sideU (sidesF b)) [w.heap.size + 3] := by
      rw [hW6]
      exact ((HS4.out.turn (row := none) ⟨hB5.os, hB5.tape, hB5.output, hB5.size, fun k hk _ => hB5.block k hk⟩ (fun r e => by cases e)).alloc _).alloc _
    obtain ⟨lb, off, hlbs, hlbn, hcl⟩ : ∃ lb off, lb < W6.heap.size ∧ lb ≠ w.heap.size ∧ (n = 0 ∨ (a1 = some ⟨lb, off, none⟩ ∧ ∀ i, i < 2 * n → W6.cell? ⟨lb, off + i, none⟩ = some (.int .i64 (at0 qs i)))) := by
      rcases Hy.out with h | ⟨lb, off, h1, h2, h3⟩
      · refine ⟨w.heap.size + 1, 0, by omega, by omega, .inl ?_⟩
        have := Hp.out
        rw [h] at this
        simp at this
        omega
      · refine ⟨lb, off, by omega, by omega, .inr ⟨h2, fun i hi => ?_⟩⟩
        exact (hG6.below.cell (p := ⟨lb, off + i, none⟩) h1).trans (h3 i (by have := Hp.out; omega))
    have HG6 := hid hG6
    rw [← hW6]
    clear hW6 hG6 hown HS4 HLw hB5 Hy
    refine wpIn_rangeFunc_PH rfl (by decide) (gf := 210) (lb := #[.pointer (some ⟨w5.heap.size + 1, 0, none⟩)]) rfl trivial (enters_of Try.func210 (by kernel_rfl) rfl)
      (backward_P 19 (by decide) (w5.heap.size + 1) lb off n cap1 a1 qs W6 hsb6 hlbs hn hcl) (by simp; omega) (Below.refl _ _) (fun _ => rfl)
      (fun pre W' => (∃ u, GwW w W' (64 + 64 * pre.length) (fun x => wrap64 (u x)) [w.heap.size + 3] ∧ ∀ a, totW (wtK qs n a pre.length) u = wsum qs n (b : Int) a) ∧ W'.heap[w5.heap.size]? = some (.cells #[.map (some W4.heap.size)] 151 (0, 0)) ∧ W'.ownsMap Try.prog 2 pairElem W4.heap.size n (lowsD qs n))
      (fun _ _ _ => False)
      (OwnIn.and (fun s A B row ⟨u, h1, h2⟩ hg hr => ⟨u, gw_ownIn (β := Unit) (N := fun _ => 64 + 64 * s.length) (f := fun _ x => wrap64 (u x)) (by omega) (by intro D hD; simp at hD; omega) () A B row h1 hg hr, h2⟩) (OwnIn.and (ownIn_block (β := List Nat) (fun _ => _) (by omega)) (lows_ownIn (by omega))))
      (fun _ => ownIn_pure _ _ _)
      ⟨⟨sideU (sidesF b), ?_, fun a => wsum_start hb a⟩, hlb6, hown6⟩
      (fun i => .cells #[.int .i64 (at0 qs (i * 2)), .int .i64 (at0 qs (i * 2 + 1))] 62)
      (fun i bx => { tmps := List.toArray ((.slice a1 n cap1) :: (.int .i64 (b : Int)) :: (undef) :: (undef) :: (.map none) :: (.pointer (some ⟨w.heap.size + 1, 0, none⟩)) :: (undef) :: (.pointer (some ⟨w5.heap.size, 0, none⟩)) :: (undef) :: (.pointer (some ⟨bx, 0, none⟩)) :: (undef) :: (.map (some w.heap.size)) :: (.int .i64 (b : Int)) :: (.func (.func 215) #[] #[.pointer (some ⟨w.heap.size + 1 + 1, 0, none⟩)]) :: (undef) :: (undef) :: (undef) :: (.slice a1 n cap1) :: (.map (some W4.heap.size)) :: (.slice a1 n cap1) :: (.func (.func 210) #[] #[.pointer (some ⟨w5.heap.size + 1, 0, none⟩)]) :: (.int .i64 (i : Int)) :: (.agg #[.int .i64 (at0 qs (i * 2)), .int .i64 (at0 qs (i * 2 + 1))]) :: (undef) :: (undef) :: (undef) :: (undef) :: (undef) :: (undef) :: (undef) :: (undef) :: (undef) :: (undef) :: (undef) :: (undef) :: (undef) :: (undef) :: []), defers := [] }) ?assign2 ?body2 ?done2 ?stop2
    · have e : (fun x => wrap64 (sideU (sidesF b) x)) = sideU (sidesF b) := by
        funext x
        exact wrap64_01 _
      rw [e]
      exact HG6.out.mono (by simp)
    case assign2 =>
      intro l i W7 K hK
      gi_wp2
      exact hK
    case body2 =>
      rintro pre i bx W7 hpre hbx hsz7 hob ⟨r, hrec⟩ ⟨⟨u, hG, hT⟩, hlb, hown7⟩
      obtain ⟨hkn, hi⟩ := downL_prefix hpre
      obtain ⟨k, hk⟩ : ∃ k, k = pre.length := ⟨_, rfl⟩
      rw [← hk] at hkn hi hG hT
      have hin : i < n := by omega
      have Hx64 : Hid (0 ≤ at0 qs (i * 2) ∧ at0 qs (i * 2) < 64) := hid (Hlo.out i hin)
      obtain ⟨x, hx⟩ : ∃ x, x = at0 qs (i * 2) := ⟨_, rfl⟩
      obtain ⟨y, hy⟩ : ∃ y, y = at0 qs (i * 2 + 1) := ⟨_, rfl⟩
      rw [← hx] at Hx64
      rw [← hx, ← hy] at hob ⊢
      have Hxi : Hid (x = at0 qs ((n - 1 - k) * 2)) := hid (by rw [hx, hi])
      have Hwx : Hid ((Lit.int .i64 x).wf = true) := hid (WalkArith.wf_i64 (by have := Hx64.out; omega))
      obtain ⟨p0, _, _, _⟩ := two_of hob
      obtain ⟨q7, _⟩ := box_cell hlb
      have HG := hid hG
      have HT := hid hT
      have Hob := hid hob
      have Hlb := hid hlb
      have Hown7 := hid hown7
      have Hrec := hid hrec
      have Hk := hid hk
      clear hG hT hob hlb hown7 hrec hx hy hi hpre hk HG6 hlb6 hown6 hsb6 hcl
      gi_wp2_with (first
        | (refine ⟨trivial, ?_⟩; gi_at_call 142; refine (stepsFrom_in _ W4.heap.size x _).mono ?_; rintro e w' ⟨rfl, rfl⟩))
      obtain ⟨W8, hW8⟩ : ∃ W8, W8 = (W7.alloc (.cells #[.map (some W4.heap.size)] 151)).alloc (.cells #[.int .i64 x] 2) := ⟨_, rfl⟩
      have hs8 : W8.heap.size = bx + 3 := by rw [hW8]; simp [hsz7]
      have hbm8 : W8.heap[bx + 1]? = some (.cells #[.map (some W4.heap.size)] 151 (0, 0)) := by
        rw [hW8, ← hsz7]
        exact (Below.heap_alloc _ _ _ (by simp)).trans (heap_alloc_new _ _)
      have hbx8 : W8.heap[bx + 1 + 1]? = some (.cells #[.int .i64 x] 2 (0, 0)) := by
        have := heap_alloc_new (W7.alloc (.cells #[.map (some W4.heap.size)] 151)) (.cells #[.int .i64 x] 2)
        rw [World.size_alloc, hsz7] at this
        rw [hW8]
        exact this
      have hob8 : W8.heap[bx]? = some (.cells #[.int .i64 x, .int .i64 y] 62 (0, 0)) := by rw [hW8]; exact (Below.heap_alloc _ _ _ (by simp; omega)).trans ((Below.heap_alloc _ _ _ (by omega)).trans Hob.out)
      have hlb8 : W8.heap[w5.heap.size]? = some (.cells #[.map (some W4.heap.size)] 151 (0, 0)) := by rw [hW8]; exact (Below.heap_alloc _ _ _ (by simp; omega)).trans ((Below.heap_alloc _ _ _ (by omega)).trans Hlb.out)
      have hown8 : W8.ownsMap Try.prog 2 pairElem W4.heap.size n (lowsD qs n) := by rw [hW8]; exact (Hown7.out.alloc _).alloc _
      have hrec8 : W8.heap[W6.heap.size + 1]? = some (.loop r) := by rw [hW8]; exact (Below.heap_alloc _ _ _ (by simp; omega)).trans ((Below.heap_alloc _ _ _ (by omega)).trans Hrec.out)
      have hkp8 : KeepP [w5.heap.size + 1, lb] W6.heap.size (2 + 0) W7 W8 := by
        rw [hW8]
        refine ⟨by simp; omega, fun q hq => ?_⟩
        have hq2 : q < W7.heap.size := by
          rcases hq with h | h
          · simp at h
            omega
          · omega
        exact (Below.heap_alloc _ _ _ (by simp; omega)).trans (Below.heap_alloc _ _ _ hq2)
      have HG8 : Hid (GwW w W8 (64 + 64 * k) (fun x => wrap64 (u x)) [w.heap.size + 3]) := hid (by rw [hW8]; exact (HG.out.alloc _).alloc _)
      rw [← hW8]
      clear hW8 p0 q7
      refine wpIn_rangeFunc_PN rfl hrec8 (by decide) (gf := 211) (lb := #[.pointer (some ⟨bx + 1, 0, none⟩), .pointer (some ⟨bx + 1 + 1, 0, none⟩)]) rfl trivial (enters_of Try.func211 (by kernel_rfl) rfl)
        ((steps_P 17 (by decide) (bx + 1) (bx + 1 + 1) W4.heap.size n n qs x W8 hbm8 hbx8 hown8 HD.out HH.out Hwx.out).inRound _) (by simp) (Below.refl _ _) (fun _ => rfl)
        (fun pre2 W' => (∃ u, GwW w W' (64 + 64 * k + pre2.length) (fun x => wrap64 (u x)) [w.heap.size + 3] ∧ ∀ a, totW (wtK qs n a k) u = wsum qs n (b : Int) a + u x * (pre2.map fun z => gw qs n a (z.val : Int)).sum) ∧ W'.heap[bx]? = some (.cells #[.int .i64 x, .int .i64 y] 62 (0, 0)) ∧ W'.heap[w5.heap.size]? = some (.cells #[.map (some W4.heap.size)] 151 (0, 0)) ∧ W'.ownsMap Try.prog 2 pairElem W4.heap.size n (lowsD qs n) ∧ KeepP [w5.heap.size + 1, lb] W6.heap.size (2 + 0) W7 W')
        (fun _ _ _ => False)
        (OwnIn.and (fun s A B row ⟨u, h1, h2⟩ hg hr => ⟨u, gw_ownIn (β := Unit) (N := fun _ => 64 + 64 * k + s.length) (f := fun _ x => wrap64 (u x)) (by omega) (by intro D hD; simp at hD; omega) () A B row h1 hg hr, h2⟩) (OwnIn.and (ownIn_block (β := List (Fin 64)) (fun _ => _) (by omega)) (OwnIn.and (ownIn_block (β := List (Fin 64)) (fun _ => _) (by omega)) (OwnIn.and (lows_ownIn (by omega)) (keepB_ownIn (by omega) (by simp; omega) (by omega) (by simp; omega))))))
        (fun _ => ownIn_pure _ _ _)
        ⟨⟨u, HG8.out, fun a => by rw [HT.out a]; simp⟩, hob8, hlb8, hown8, hkp8⟩
        (fun z => { tmps := List.toArray ((.slice a1 n cap1) :: (.int .i64 (b : Int)) :: (undef) :: (undef) :: (.map none) :: (.pointer (some ⟨w.heap.size + 1, 0, none⟩)) :: (undef) :: (.pointer (some ⟨w5.heap.size, 0, none⟩)) :: (undef) :: (.pointer (some ⟨bx, 0, none⟩)) :: (.int .i64 (z.val : Int)) :: (.map (some w.heap.size)) :: (.int .i64 (b : Int)) :: (.func (.func 215) #[] #[.pointer (some ⟨w.heap.size + 1 + 1, 0, none⟩)]) :: (undef) :: (undef) :: (undef) :: (.slice a1 n cap1) :: (.map (some W4.heap.size)) :: (.slice a1 n cap1) :: (.func (.func 210) #[] #[.pointer (some ⟨w5.heap.size + 1, 0, none⟩)]) :: (.int .i64 (i : Int)) :: (.agg #[.int .i64 x, .int .i64 y]) :: (.map (some W4.heap.size)) :: (.pointer (some ⟨bx, 0, none⟩)) :: (.int .i64 x) :: (.func (.func 211) #[] #[.pointer (some ⟨bx + 1, 0, none⟩), .pointer (some ⟨bx + 1 + 1, 0, none⟩)]) :: (.int .i64 (z.val : Int)) :: (undef) :: (undef) :: (undef) :: (undef) :: (undef) :: (undef) :: (undef) :: (undef) :: (undef) :: []), defers := [] }) ?assign3 ?body3 ?done3 ?stop3
      case assign3 =>
        intro l z W9 K hK
        gi_wp2
        exact hK
      case body3 =>
        rintro l pre2 z W9 hpre2 hsz9 ⟨⟨u2, hS, hT2⟩, hob9, hlb9, hown9, hkp9⟩
        have hzw : (Lit.int .i64 (z.val : Int)).wf = true := WalkArith.wf_i64 (by have := z.isLt; omega)
        have Hzn : Hid ((z.val : Int) ∈ nextL qs n x) := hid ((mem_stepsF HH.out x _).1 ⟨z, hpre2.subset (by simp), rfl⟩)
        have hpl : pre2.length + 1 ≤ 6 := by
          have h1 := hpre2.length_le
          have h2 := steps_few qs n x
          simp at h1
          omega
        obtain ⟨p0, _, _, _⟩ := two_of hob9
        have q1 : W9.cell? ⟨w.heap.size + 1, 0, none⟩ = some (.map (some w.heap.size)) := (box_cell hS.b1).1
        have hlk1 := hS.cnt.lookup Hwx.out
        have hlk2 := hS.cnt.lookup hzw
        obtain ⟨cx, hcx⟩ : ∃ c, c = wrap64 (u2 x) := ⟨_, rfl⟩
        obtain ⟨cz, hcz⟩ : ∃ c, c = wrap64 (u2 (z.val : Int)) := ⟨_, rfl⟩
        obtain ⟨W5, hrun5, hc5, hg5, hs5⟩ := hS.cnt.update (show 64 + 64 * k + pre2.length < maxLen by unfold maxLen; omega) hzw (wf_wrap (cz + cx))
        have hf5 : (fun q => if q = (z.val : Int) then wrap64 (cz + cx) else wrap64 (u2 q)) = fun q => wrap64 ((fun q => if q = (z.val : Int) then u2 (z.val : Int) + u2 x else u2 q) q) := by
          funext q
          by_cases e : q = (z.val : Int)
          · simp only [if_pos e]
            rw [hcx, hcz, wrap64_add]
          · simp only [if_neg e]
        rw [hf5] at hc5
        have hS5 := hS.put hc5 hg5
        rw [← hcx] at hlk1
        rw [← hcz] at hlk2
        have HS5 := hid hS5
        have Hg5 := hid hg5
        have Hob5 := hid ((hg5.block _ (lt_of_get hob9) (fun e => by injection e with e; omega)).trans hob9)
        have Hlb5 := hid ((hg5.block _ (lt_of_get hlb9) (fun e => by injection e with e; omega)).trans hlb9)
        have Hown5 := hid (hown9.kept hg5 (fun e => by injection e with e; omega))
        have hsk := hkp9.size
        have Hkp5 : Hid (KeepP [w5.heap.size + 1, lb] W6.heap.size (2 + 0) W7 W5) := hid (hkp9.trans (KeepP.of_grownBy hg5 (by simp; omega) (by omega) (fun j e => by injection e with e; subst e; simp; omega)))
        have HT2 := hid hT2
        clear hS hob9 hlb9 hown9 hkp9 hS5 hc5 hg5 hcx hcz hf5 hzw hT2 hbm8 hbx8 hob8 hlb8 hown8 hrec8 hkp8
        gi_wp2
        refine ⟨⟨Hg5.out.size, fun r hr => ?_⟩, ⟨_, ?_, fun a => totW_next HO.out HH.out a hkn Hxi.out Hzn.out (HT2.out a)⟩, Hob5.out, Hlb5.out, Hown5.out, (by have h := Hkp5.out; rw [hs6] at h; exact h)⟩
        · rcases hr with h | h
          · simp at h
          · exact Hg5.out.block r (by omega) (fun e => by injection e with e; omega)
        · have e : 64 + 64 * k + (pre2 ++ [z]).length = 64 + 64 * k + pre2.length + 1 := by simp; omega
          rw [e]
          exact HS5.out
      case stop3 =>
        rintro c pre2 W9 hpre hF
        exact hF.elim
      case done3 =>
        rintro W9 ⟨⟨u2, hS, hT2⟩, hob9, hlb9, hown9, hkp9⟩
        have HS9 := hid (hS.mono (show 64 + 64 * k + (stepsF qs n x).length ≤ 64 + 64 * (pre ++ [i]).length by have := steps_few qs n x; have := Hk.out; simp; omega))
        have HT3 : Hid (∀ a, totW (wtK qs n a (pre ++ [i]).length) u2 = wsum qs n (b : Int) a) := hid (fun a => by
          rw [show (pre ++ [i]).length = k + 1 by rw [Hk.out]; simp]
          exact totW_round HO.out HH.out HD.out a hkn Hxi.out Hx64.out (hT2 a))
        have Hlb9 := hid hlb9
        have Hown9 := hid hown9
        have Hkp9 := hid hkp9
        clear hS hT2 hob9 hlb9 hown9 hkp9 hbm8 hbx8 hob8 hlb8 hown8 hrec8 hkp8
        gi_wp2
        exact ⟨Hkp9.out, ⟨u2, HS9.out, HT3.out⟩, Hlb9.out, Hown9.out⟩
    case stop2 =>
      rintro c pre W7 hpre hF hD7
      exact hF.elim
    case done2 =>
      rintro W7 ⟨⟨u, hG, hT⟩, hlb, hown7⟩ hD7
      rw [downL_len] at hG hT
      have hG7 := hG.mark hD7 (by omega) (by simp; omega)
      have c5 : W7.cell? ⟨w.heap.size + 1, 0, none⟩ = some (.map (some w.heap.size)) := (box_cell hG7.b1).1
      have HG7 := hid hG7
      have HT := hid hT
      clear hG hT hlb hown7 hD7 hG7 HG6 hlb6 hown6 hsb6 hcl
      gi_wp2
      refine leaves_marks (by simp) [_, _] _ HG7.out.nodup (fun D hD => (HG7.out.marks D hD).2) (fun w' hw' => ?_)
      refine ⟨_, results_tmp rfl _ _ _, _, _, rfl, HG7.out.cnt.same (hw'.block _ (fun hm => by have := (HG7.out.marks _ hm).1; omega)), fun a h0 h1 => ?_, HG7.out.below.trans (hw'.below (fun D hD => by have := (HG7.out.marks D hD).1; omega))⟩
      exact congrArg wrap64 (wsum_end ⟨h0, h1⟩ (HT.out a))

end Go.Proofs.Ytgefpllmelpahaa

/-! acyclicCode, the program's. -/
namespace Go.Proofs.Ytgefpllmelpahaa
open Go.RowKit

attribute [local go_sem] Oper.semAt_some

noncomputable def acodeR (V : Int) (fs : List Int) (n : Nat) (ps : List Int) (s : Bool) : Int := if pcodeR V fs n ps = 0 then (if s then (if acyB ps n then 0 else 5) else 2) else pcodeR V fs n ps

set_option maxRecDepth 1000000 in
set_option maxHeartbeats 2000000 in
theorem acode_any (V : Int) (a0 : Option Addr) (cap : Nat) (fs : List Int) (a1 : Option Addr) (n cap1 : Nat) (ps : List Int) (s : Bool) (w : World) (hx : SlI w w.heap.size a0 fs) (hx1 : SlI w w.heap.size a1 ps) (hl : fs.length ≤ 1048576) (hp : ps.length = 2 * n) (hn : n ≤ 1048576) (hw : ∀ x ∈ ps, (Lit.int .i64 x).wf = true) :
    Calls Try.prog 52 #[.agg #[.int .i64 V, .slice a0 fs.length cap], .slice a1 n cap1, .bool s] w fun e w' => e = .returned (.int .i64 (acodeR V fs n ps s)) ∧ Below w.heap.size w w' := by
  have hB0 : Below w.heap.size w (w.alloc (.cells #[.int .i64 V, .slice a0 fs.length cap] 30)) := (Below.refl _ w).alloc (Nat.le_refl _) _
  have HK := hid (pcode_impl V a0 cap fs a1 n cap1 ps _ (hx.later hB0 hB0.size) (hx1.later hB0 hB0.size) hl hp hn hw)
  have HB0 := hid hB0
  obtain ⟨E, hE⟩ : ∃ E, E = acodeR V fs n ps s := ⟨_, rfl⟩
  rw [← hE]
  by_cases hpc : pcodeR V fs n ps = 0
  · have hCO : IsC V fs ∧ OkTo fs ps n := by
      rcases pcode_cases V fs n ps with ⟨hC, ho, _⟩ | ⟨_, _, h2, _⟩ | ⟨_, h2, _⟩
      · exact ⟨hC, ho⟩
      · rw [h2] at hpc; cases hpc
      · rw [h2] at hpc; cases hpc
    have hE1 : E = if s then (if acyB ps n then 0 else 5) else 2 := by rw [hE, acodeR, if_pos hpc]
    rw [hpc] at HK
    have HA := hid (fun w1 (h : Below w.heap.size w w1) => isAcy_any a1 n cap1 ps w1 (hx1.later h h.size) hp hn hw (okTo_apart hCO.2) (okTo_highs hCO.1 hCO.2))
    clear hx hx1 hp hw hpc hCO hE hB0
    cases s
    · have He : Hid (E = 2) := hid (by rw [hE1]; simp)
      clear hE1
      go_enter Try.func52, Try.ntmps52
      go_wp2_with fail
      refine HK.out.mono ?_
      rintro e w1 ⟨rfl, hB1⟩
      go_wp2_with fail
      go_ret
      exact ⟨ret_int (by rw [He.out]), HB0.out.trans (hB1.mono (by simp))⟩
    · cases hac : acyB ps n
      · have He : Hid (E = 5) := hid (by rw [hE1, hac]; simp)
        rw [hac] at HA
        clear hE1 hac
        go_enter Try.func52, Try.ntmps52
        go_wp2_with fail
        refine HK.out.mono ?_
        rintro e w1 ⟨rfl, hB1⟩
        have HB1 := hid (HB0.out.trans (hB1.mono (by simp)))
        clear hB1
        go_wp2_with fail
        refine (HA.out w1 HB1.out).mono ?_
        rintro e w2 ⟨rfl, hB2⟩
        go_wp2_with fail
        go_ret
        exact ⟨ret_int (by rw [He.out]), HB1.out.trans (hB2.mono HB1.out.size)⟩
      · have He : Hid (E = 0) := hid (by rw [hE1, hac]; simp)
        rw [hac] at HA
        clear hE1 hac
        go_enter Try.func52, Try.ntmps52
        go_wp2_with fail
        refine HK.out.mono ?_
        rintro e w1 ⟨rfl, hB1⟩
        have HB1 := hid (HB0.out.trans (hB1.mono (by simp)))
        clear hB1
        go_wp2_with fail
        refine (HA.out w1 HB1.out).mono ?_
        rintro e w2 ⟨rfl, hB2⟩
        go_wp2_with fail
        go_ret
        exact ⟨ret_int (by rw [He.out]), HB1.out.trans (hB2.mono HB1.out.size)⟩
  · have hE1 : E = pcodeR V fs n ps := by rw [hE, acodeR, if_neg hpc]
    rw [← hE1] at hpc HK
    have hcn : (E != 0) = true := by simpa using hpc
    clear hx hx1 hp hw hpc hE hE1 hB0
    go_enter Try.func52, Try.ntmps52
    go_wp2_with fail
    refine HK.out.mono ?_
    rintro e w1 ⟨rfl, hB1⟩
    go_wp2_with fail
    go_ret
    exact ⟨rfl, HB0.out.trans (hB1.mono (by simp))⟩

/-- The settled pairs in their order make the same steps. -/
theorem at_flat {ps : List Int} {L : List Nat} {k : Nat} (hk : k < L.length) : at0 (flatP (setP ps L)) (k * 2) = at0 ps (L[k] * 2) ∧ at0 (flatP (setP ps L)) (k * 2 + 1) = at0 ps (L[k] * 2 + 1) := by
  have hat := flatP_at (setP ps L) k (by rw [setP_len]; exact hk)
  have hpk : (setP ps L)[k]?.getD (0, 0) = pairAt ps L[k] := by
    unfold setP
    rw [List.getElem?_map, List.getElem?_eq_getElem hk]
    rfl
  rw [hpk] at hat
  exact hat
theorem flat_apart {ps : List Int} {n : Nat} {L : List Nat} (hd : LowsApart ps n) (hS : Stl ps n L) : LowsApart (flatP (setP ps L)) L.length := by
  intro i j hij hj
  rw [(at_flat (show i < L.length by omega)).1, (at_flat hj).1]
  intro e
  have h1 := lows_inj hd (hS.lt _ (List.getElem_mem (show i < L.length by omega))) (hS.lt _ (List.getElem_mem hj)) e
  exact (List.pairwise_iff_getElem.1 hS.nodup) i j (by omega) hj hij h1
theorem flat_high {ps : List Int} {n : Nat} {L : List Nat} (hd : LowsApart ps n) (hS : Stl ps n L) (hall : ∀ i, i < n → i ∈ L) (a : Int) : highOf (flatP (setP ps L)) L.length a = highOf ps n a := by
  by_cases hex : ∃ i, i < n ∧ at0 ps (i * 2) = a
  · obtain ⟨i, hi, hia⟩ := hex
    rw [highOf_some hi hia (fun j hj e => hd j i hj hi (e.trans hia.symm))]
    obtain ⟨k, hk, hki⟩ := List.getElem_of_mem (hall i hi)
    have h1 := (at_flat (ps := ps) hk).1
    rw [hki, hia] at h1
    rw [highOf_some hk h1 (fun j hj e => flat_apart hd hS j k hj hk (e.trans h1.symm)), (at_flat hk).2, hki]
  · rw [highOf_none (fun i hi e => hex ⟨i, hi, e⟩), highOf_none]
    intro k hk e
    rw [(at_flat hk).1] at e
    exact hex ⟨L[k], hS.lt _ (List.getElem_mem hk), e⟩
theorem flat_next {ps : List Int} {n : Nat} {L : List Nat} (hd : LowsApart ps n) (hS : Stl ps n L) (hall : ∀ i, i < n → i ∈ L) (a : Int) : nextL (flatP (setP ps L)) L.length a = nextL ps n a := by
  unfold nextL
  rw [flat_high hd hS hall]
theorem flat_highs {ps : List Int} {n : Nat} {L : List Nat} (hd : LowsApart ps n) (hh : HighsB ps n) (hS : Stl ps n L) (hall : ∀ i, i < n → i ∈ L) : HighsB (flatP (setP ps L)) L.length := fun a => by
  rw [flat_high hd hS hall]
  exact hh a

theorem flat_ord {ps : List Int} {n : Nat} {L : List Nat} (hd : LowsApart ps n) (hS : Stl ps n L) (hall : ∀ i, i < n → i ∈ L) : OrdQ (flatP (setP ps L)) L.length := by
  intro i j hi hj hs
  unfold StepP at hs
  rw [flat_next hd hS hall, (at_flat hi).1, (at_flat hj).1] at hs
  have hm : L[j] ∈ L.take i := hS.ord (L.take i) L[i] (L.drop (i + 1)) (by rw [← List.drop_eq_getElem_cons hi, List.take_append_drop]) L[j] (hS.lt _ (List.getElem_mem hj)) hs
  obtain ⟨m, hm1, hm2⟩ := List.getElem_of_mem hm
  simp at hm1
  rw [List.getElem_take] at hm2
  by_cases h : j < i
  · exact h
  · exact absurd hm2 ((List.pairwise_iff_getElem.1 hS.nodup) m j (by omega) hj (by omega))
theorem flat_gwN {ps : List Int} {n : Nat} {L : List Nat} (hd : LowsApart ps n) (hS : Stl ps n L) (hall : ∀ i, i < n → i ∈ L) (b : Int) : ∀ (f : Nat) (a : Int), gwN (flatP (setP ps L)) L.length b f a = gwN ps n b f a
  | 0, _ => rfl
  | f + 1, a => by
    unfold gwN
    rw [flat_next hd hS hall]
    congr 2
    exact List.map_congr_left (fun y _ => flat_gwN hd hS hall b f y)
theorem flat_wsum {ps : List Int} {n : Nat} {L : List Nat} (hd : LowsApart ps n) (hS : Stl ps n L) (hall : ∀ i, i < n → i ∈ L) (hn : L.length = n) (b a : Int) : wsum (flatP (setP ps L)) L.length b a = wsum ps n b a := by
  unfold wsum gw
  congr 1
  refine List.map_congr_left (fun y _ => ?_)
  rw [flat_gwN hd hS hall, hn]
theorem flat_wf {ps : List Int} {n : Nat} {L : List Nat} (hp : ps.length = 2 * n) (hw : ∀ x ∈ ps, (Lit.int .i64 x).wf = true) (hS : Stl ps n L) : ∀ x ∈ flatP (setP ps L), (Lit.int .i64 x).wf = true := by
  intro x hx
  unfold flatP at hx
  obtain ⟨q, hq, h⟩ := List.mem_flatMap.1 hx
  have := wf_setP hp hw hS.lt q hq
  simp at h
  rcases h with rfl | rfl
  · exact this.1
  · exact this.2

end Go.Proofs.Ytgefpllmelpahaa

/-! MorseBoundary, the model's. -/
namespace Go.Proofs.Ytgefpllmelpahaa
open Go.RowKit

def inP (p : Int) : Bool := decide (1 ≤ p ∧ p ≤ 5)
noncomputable def morseR (V : Int) (fs : List Int) (n : Nat) (ps : List Int) (p : Int) : List (List Int) × Int := if acodeR V fs n ps (inP p) = 0 then (rowsM ps n (critL fs ps) p, 0) else ([], acodeR V fs n ps (inP p))

theorem rows_mono {P : Program} {f : FuncId} {args : Array Value} {w : World} {R S : List (List Int) × Int} (h : R = S)
    (hC : Calls P f args w fun e w' => ∃ v vs, e = .returned (.tuple #[v, .int .i64 S.2]) ∧ RowsV w' w.heap.size v vs S.1 ∧ Below w.heap.size w w') :
    Calls P f args w fun e w' => ∃ v vs, e = .returned (.tuple #[v, .int .i64 R.2]) ∧ RowsV w' w.heap.size v vs R.1 ∧ Below w.heap.size w w' := by
  subst h
  exact hC

theorem ok_pcode {V : Int} {fs : List Int} {n : Nat} {ps : List Int} (hpc : pcodeR V fs n ps = 0) : IsC V fs ∧ OkTo fs ps n := by
  rcases pcode_cases V fs n ps with ⟨hC, ho, _⟩ | ⟨_, _, h2, _⟩ | ⟨_, h2, _⟩
  · exact ⟨hC, ho⟩
  · rw [h2] at hpc; cases hpc
  · rw [h2] at hpc; cases hpc
theorem noCyc_of {ps : List Int} {n : Nat} (h : acyB ps n = true) : NoCycle ps n := Classical.byContradiction fun hn => by
  rw [acyB_false hn] at h
  cases h


end Go.Proofs.Ytgefpllmelpahaa

/-! criticalAt, morseRows and MorseBoundary, the program's. -/
namespace Go.Proofs.Ytgefpllmelpahaa
open Go.RowKit

attribute [local go_sem] Oper.semAt_some

set_option maxHeartbeats 1000000 in
theorem fw_any3 (V : Int) (a : Option Addr) (cap : Nat) (fs : List Int) (w : World) (fid : Nat) (c1 c2 c3 : Value) (p : Int → Bool) (hx : SlI w w.heap.size a fs) (hl : fs.length ≤ 1048576)
    (hent : ∀ args w, (callFunc fid args).run Try.prog w = .ok (.enter fid args) w)
    (hcl : ∀ W' x, Below w.heap.size w W' → x ∈ fs → Calls Try.prog fid #[.int .i64 x, c1, c2, c3] W' fun e w' => e = .returned (.bool (p x)) ∧ Below W'.heap.size W' w') :
    Calls Try.prog 152 #[.agg #[.int .i64 V, .slice a fs.length cap], .func (.func fid) #[] #[c1, c2, c3]] w fun e w' => ∃ v, e = .returned v ∧ Res w w' v (fs.filter p) := by
  have hB0 : Below w.heap.size w (w.alloc (.cells #[.int .i64 V, .slice a fs.length cap] 30)) := (Below.refl _ w).alloc (Nat.le_refl _) _
  rcases hx with rfl | ⟨b, off, hb, rfl, hc⟩
  · clear hcl
    go_enter Try.func152, Try.ntmps152
    go_wp2
    refine wp_loop_rounds 1 ?_; rw [rounds_succ]
    go_wp2
    go_ret
    exact ⟨_, rfl, res_nil _ _ hB0⟩
  · have Hcl := hid hcl
    have Hc := hid hc
    clear hcl hc
    go_enter Try.func152, Try.ntmps152
    go_wp2
    go_loopw [5, 11] (fun v i wr => ∃ k : Nat, k ≤ fs.length ∧ i = .int .i64 k ∧ wr.ownsRow w.heap.size 2 1 v ((fs.take k).filter p).length (((fs.take k).filter p).map (Value.int .i64)) ∧
        Below w.heap.size w wr) (fun _ i _ => fs.length - (intOf i).toNat)
    case atStart => exact ⟨0, Nat.zero_le _, rfl, World.ownsRow_nil _ _ _ _, hB0⟩
    case round =>
      obtain ⟨k, hk, rfl, hown, hB⟩ := hrel
      by_cases hlt : k < fs.length
      · obtain ⟨x, hx⟩ : ∃ x, x = fs[k]?.getD 0 := ⟨_, rfl⟩
        have hck : wr.cell? ⟨b, off + k, none⟩ = some (.int .i64 x) := by rw [hx]; exact (hB.cell (p := ⟨b, off + k, none⟩) hb).trans (Hc.out k hlt)
        have hxm : x ∈ fs := by rw [hx]; exact getD_mem hlt
        have Hx := hid hx
        have hi0 : (0 : Int) ≤ (k : Int) := by omega
        have hi1 : (k : Int) < (fs.length : Int) := by omega
        have hcall := Hcl.out wr x hB hxm
        have Hcall := hid hcall
        clear hx hcall hxm
        have hsz := hB.size
        have hfl : ((fs.take k).filter p).length ≤ 1048576 := Nat.le_trans (List.length_filter_le _ _) (by simp; omega)
        go_wp2_with fail
        refine Hcall.out.mono ?_
        rintro e w1 ⟨rfl, hB1⟩
        have hB1' : Below w.heap.size w w1 := hB.trans (hB1.mono hsz)
        have hsz1 := hB1'.size
        have hown1 := ownsRow_below hown hB1 (fun g hg => (hown.lt g hg).2)
        have Hp : Hid (∀ c, p x = c → (fs.take (k + 1)).filter p = (fs.take k).filter p ++ (if c then [x] else [])) := hid (fun c hc => by
          rw [take_snoc hlt, List.filter_append, ← Hx.out]
          cases c <;> simp [hc])
        clear hown hck
        by_cases hpx : p x = true
        · have HP := hid (Hp.out true hpx)
          go_wp2_with (at_builtin; refine append_int rfl rfl hown1 hsz1 (by omega) rfl rfl ?_; intro v' w2 hown2 hgrow2 hB2)
          go_roundw
          case rel => exact ⟨k + 1, by omega, by go_num, by rw [HP.out]; exact hown2, hB1'.trans hB2⟩
          case measure => simp [intOf]; omega
        · have hpf : p x = false := by simpa using hpx
          have HP := hid (Hp.out false hpf)
          go_wp2_with fail
          go_roundw
          case rel => exact ⟨k + 1, by omega, by go_num, by rw [HP.out]; simpa using hown1, hB1'⟩
          case measure => simp [intOf]; omega
      · go_wp2
        go_ret
        obtain rfl : k = fs.length := by omega
        exact ⟨_, rfl, by simpa using hown, hB⟩

set_option maxRecDepth 1000000 in
set_option maxHeartbeats 8000000 in
theorem atWanted (V : Int) (a0 : Option Addr) (cap : Nat) (fs : List Int) (a1 : Option Addr) (n cap1 : Nat) (ps : List Int) (d : Int) (bk bl bd : Nat) (x : Int) (w : World) (hx : SlI w w.heap.size a0 fs) (hx1 : SlI w w.heap.size a1 ps) (hl : fs.length ≤ 1048576) (hp : ps.length = 2 * n) (hn : n ≤ 1048576) (hx0 : 1 ≤ x) (hx63 : x ≤ 63)
    (k0 : w.cell? ⟨bk, 0, none⟩ = some (.int .i64 V)) (k1 : w.cell? ⟨bk, 1, none⟩ = some (.slice a0 fs.length cap)) (l0 : w.cell? ⟨bl, 0, none⟩ = some (.slice a1 n cap1)) (d0 : w.cell? ⟨bd, 0, none⟩ = some (.int .i64 d)) :
    Calls Try.prog 202 #[.int .i64 x, .pointer (some ⟨bd, 0, none⟩), .pointer (some ⟨bk, 0, none⟩), .pointer (some ⟨bl, 0, none⟩)] w fun e w' => e = .returned (.bool (decide ((ones x.toNat : Int) - 1 = d) && critB fs ps x)) ∧ Below w.heap.size w w' := by
  obtain ⟨f, rfl⟩ : ∃ f : Nat, x = f := ⟨x.toNat, by omega⟩
  have hf : f < 64 := by omega
  rw [Int.toNat_natCast]
  have ho := ones_le f
  have HC := hid (fun w1 (h : Below w.heap.size w w1) => isCr_any V a0 cap fs a1 n cap1 ps (f : Int) w1 (hx.later h h.size) (hx1.later h h.size) hl hp hn)
  obtain ⟨E, hE⟩ : ∃ E, E = critB fs ps (f : Int) := ⟨_, rfl⟩
  rw [← hE] at HC ⊢
  clear hE hx hx1 hp
  by_cases hd : (ones f : Int) - 1 = d
  · have hg : ((ones f : Int) - 1 == d) = true := by simp [hd]
    have hR : (decide ((ones f : Int) - 1 = d) && E) = E := by simp [hd]
    rw [hR]
    clear hd hR
    go_enter Try.func202, Try.ntmps202
    go_wp2_with fail
    go_region_with (first
      | (go_at_call 125; refine (dim_any f _ hf).mono ?_; rintro e w' ⟨rfl, rfl⟩)
      | (go_at_call 133; refine (HC.out _ (by first | exact (Below.refl _ _).drew | exact Below.refl _ _)).mono ?_; rintro e w2 ⟨rfl, hB2⟩))
    all_goals
      have HB2 : Hid (Below w.heap.size w w2) := hid ((Below.refl _ _).drew.trans hB2)
      go_wp2_with fail
      go_ret
      exact ⟨rfl, HB2.out⟩
  · have hg : ((ones f : Int) - 1 == d) = false := by simp [hd]
    have hR : (decide ((ones f : Int) - 1 = d) && E) = false := by simp [hd]
    rw [hR]
    clear hd hR
    go_enter Try.func202, Try.ntmps202
    go_wp2_with fail
    go_quiet (first
      | (go_at_call 125; exact quiet_of_eq (dim_any f _ hf)))
    go_wp2_with fail
    go_ret
    exact ⟨rfl, below_drewN (Below.refl _ w) _⟩

end Go.Proofs.Ytgefpllmelpahaa

/-! criticalAt, the program's. -/
namespace Go.Proofs.Ytgefpllmelpahaa
open Go.RowKit

/-- The critical faces with q + 1 vertices. -/
def atL (fs ps : List Int) (q : Int) : List Int := (critL fs ps).filter (fun a => decide ((ones a.toNat : Int) - 1 = q))
theorem atL_eq (fs ps : List Int) (q : Int) : fs.filter (fun x => decide ((ones x.toNat : Int) - 1 = q) && critB fs ps x) = atL fs ps q := by
  unfold atL critL
  rw [List.filter_filter]
  refine List.filter_congr fun x hx => ?_
  unfold critB
  simp [hx]
theorem atL_len {fs ps : List Int} {q : Int} (h : fs.length ≤ 1048576) : (atL fs ps q).length ≤ 1048576 := Nat.le_trans (List.length_filter_le _ _) (Nat.le_trans (List.length_filter_le _ _) h)
theorem atL_mem {fs ps : List Int} {q x : Int} (h : x ∈ atL fs ps q) : x ∈ fs := (List.mem_filter.1 (List.mem_filter.1 h).1).1
theorem rowM_at (ps : List Int) (n : Nat) (fs : List Int) (q b : Int) : rowM ps n (critL fs ps) q b = (atL fs ps q).map (fun a => Int.tmod (wrap64 (wsum ps n b a)) 2) := rfl
theorem rowsM_at (ps : List Int) (n : Nat) (fs : List Int) (p : Int) : rowsM ps n (critL fs ps) p = (atL fs ps p).map (rowM ps n (critL fs ps) (p - 1)) := rfl

set_option maxRecDepth 1000000 in
set_option maxHeartbeats 2000000 in
theorem at_any (V : Int) (a0 : Option Addr) (cap : Nat) (fs : List Int) (a1 : Option Addr) (n cap1 : Nat) (ps : List Int) (d : Int) (w : World) (hx : SlI w w.heap.size a0 fs) (hx1 : SlI w w.heap.size a1 ps) (hl : fs.length ≤ 1048576) (hp : ps.length = 2 * n) (hn : n ≤ 1048576) (hr : ∀ x ∈ fs, 1 ≤ x ∧ x ≤ 63) :
    Calls Try.prog 127 #[.agg #[.int .i64 V, .slice a0 fs.length cap], .slice a1 n cap1, .int .i64 d] w fun e w' => ∃ v, e = .returned v ∧ Res w w' v (atL fs ps d) := by
  obtain ⟨W0, hW0⟩ : ∃ W0, W0 = ((w.alloc (.cells #[.int .i64 V, .slice a0 fs.length cap] 30)).alloc (.cells #[.slice a1 n cap1] 32)).alloc (.cells #[.int .i64 d] 2) := ⟨_, rfl⟩
  have hB0 : Below w.heap.size w W0 := by rw [hW0]; exact (((Below.refl _ w).alloc (Nat.le_refl _) _).alloc (by simp) _).alloc (by simp; omega) _
  have hs0 : W0.heap.size = w.heap.size + 3 := by rw [hW0]; simp
  have c0 : W0.cell? ⟨w.heap.size, 0, none⟩ = some (.int .i64 V) := by rw [hW0]; simp [go_sem]
  have c1 : W0.cell? ⟨w.heap.size, 1, none⟩ = some (.slice a0 fs.length cap) := by rw [hW0]; simp [go_sem]
  have c2 : W0.cell? ⟨w.heap.size + 1, 0, none⟩ = some (.slice a1 n cap1) := by rw [hW0]; simp [go_sem]
  have c3 : W0.cell? ⟨w.heap.size + 1 + 1, 0, none⟩ = some (.int .i64 d) := by rw [hW0]; simp [go_sem]
  have HC : Hid (Calls Try.prog 152 #[.agg #[.int .i64 V, .slice a0 fs.length cap], .func (.func 202) #[] #[.pointer (some ⟨w.heap.size + 1 + 1, 0, none⟩), .pointer (some ⟨w.heap.size, 0, none⟩), .pointer (some ⟨w.heap.size + 1, 0, none⟩)]] W0 fun e w' => ∃ v, e = .returned v ∧ Res W0 w' v (atL fs ps d)) := hid (by
    rw [← atL_eq]
    refine fw_any3 V a0 cap fs W0 202 _ _ _ (fun x => decide ((ones x.toNat : Int) - 1 = d) && critB fs ps x) (hx.later hB0 hB0.size) hl (enters_of Try.func202 (by kernel_rfl) rfl) ?_
    intro W' x hW' hxm
    have hB' := hB0.trans (hW'.mono hB0.size)
    exact atWanted V a0 cap fs a1 n cap1 ps d _ _ _ x W' (hx.later hB' hB'.size) (hx1.later hB' hB'.size) hl hp hn (hr x hxm).1 (hr x hxm).2
      ((hW'.cell (p := ⟨w.heap.size, 0, none⟩) (by simp only; omega)).trans c0) ((hW'.cell (p := ⟨w.heap.size, 1, none⟩) (by simp only; omega)).trans c1) ((hW'.cell (p := ⟨w.heap.size + 1, 0, none⟩) (by simp only; omega)).trans c2) ((hW'.cell (p := ⟨w.heap.size + 1 + 1, 0, none⟩) (by simp only; omega)).trans c3))
  have HB0 := hid hB0
  have HW0 := hid hW0
  clear hx hx1 hp hr hB0 hs0 c0 c1 c2 c3 hW0
  go_enter Try.func127, Try.ntmps127
  go_wp2_with fail
  rw [← HW0.out]
  refine HC.out.mono ?_
  rintro e w1 ⟨v, rfl, hR⟩
  go_wp2_with fail
  go_ret
  exact ⟨_, rfl, hR.later HB0.out⟩

end Go.Proofs.Ytgefpllmelpahaa

/-! morseRows and MorseBoundary, the program's. -/
namespace Go.Proofs.Ytgefpllmelpahaa
open Go.RowKit

attribute [local go_sem] Oper.semAt_some

set_option maxRecDepth 1000000 in
set_option maxHeartbeats 8000000 in
theorem mrows_any (V : Int) (a0 : Option Addr) (cap : Nat) (fs : List Int) (a1 : Option Addr) (n cap1 : Nat) (ps : List Int) (p : Int) (w : World) (hx : SlI w w.heap.size a0 fs) (hx1 : SlI w w.heap.size a1 ps) (hl : fs.length ≤ 1048576) (hp : ps.length = 2 * n) (hn : n ≤ 1048576) (hw : ∀ x ∈ ps, (Lit.int .i64 x).wf = true) (hC : IsC V fs) (hO : OkTo fs ps n) (hnc : NoCycle ps n) (p0 : 0 ≤ p) (p1 : p ≤ 7) :
    Calls Try.prog 55 #[.agg #[.int .i64 V, .slice a0 fs.length cap], .slice a1 n cap1, .int .i64 p] w fun e w' => ∃ v vs, e = .returned v ∧ RowsV w' w.heap.size v vs (rowsM ps n (critL fs ps) p) ∧ Below w.heap.size w w' := by
  have hB0 : Below w.heap.size w (w.alloc (.cells #[.int .i64 V, .slice a0 fs.length cap] 30)) := (Below.refl _ w).alloc (Nat.le_refl _) _
  have hb0 : (w.alloc (.cells #[.int .i64 V, .slice a0 fs.length cap] 30)).heap[w.heap.size]? = some (.cells #[.int .i64 V, .slice a0 fs.length cap] 30 (0, 0)) := heap_alloc_new _ _
  have HSe := hid (fun w1 (h : Below w.heap.size w w1) => callsIn_wide.1 (settled_in a1 n cap1 ps w1 (hx1.later h h.size) hp hn hw (okTo_apart hO) (okTo_highs hC hO)))
  have HA := hid (fun q w1 (h : Below w.heap.size w w1) => at_any V a0 cap fs a1 n cap1 ps q w1 (hx.later h h.size) (hx1.later h h.size) hl hp hn hC.range63)
  have Hp := hid hp
  have Hw := hid hw
  have HD := hid (okTo_apart hO)
  have HH := hid (okTo_highs hC hO)
  have Hlo := hid (okTo_lows hC hO)
  have HN := hid hnc
  have Hr63 := hid hC.range63
  have HB0 := hid hB0
  have Hb0 := hid hb0
  rw [rowsM_at]
  obtain ⟨bs, hbs⟩ : ∃ bs, bs = atL fs ps p := ⟨_, rfl⟩
  obtain ⟨cs, hcs⟩ : ∃ cs, cs = atL fs ps (p - 1) := ⟨_, rfl⟩
  have hbl : bs.length ≤ 1048576 := by rw [hbs]; exact atL_len hl
  have hcl : cs.length ≤ 1048576 := by rw [hcs]; exact atL_len hl
  have HbR : Hid (∀ x ∈ bs, 1 ≤ x ∧ x ≤ 63) := hid (by rw [hbs]; exact fun x h => hC.range63 x (atL_mem h))
  have HcR : Hid (∀ x ∈ cs, 1 ≤ x ∧ x ≤ 63) := hid (by rw [hcs]; exact fun x h => hC.range63 x (atL_mem h))
  have HRow : Hid (rowM ps n (critL fs ps) (p - 1) = fun b => cs.map (fun a => Int.tmod (wrap64 (wsum ps n b a)) 2)) := hid (by funext b; rw [rowM_at, hcs])
  have HAp := hid (fun w1 h => hbs ▸ HA.out p w1 h)
  have HAq := hid (fun w1 h => hcs ▸ HA.out (p - 1) w1 h)
  rw [← hbs, HRow.out]
  clear hx hx1 hp hw hC hO hnc hB0 hb0 hbs hcs HRow HA hl
  go_enter Try.func55, Try.ntmps55
  go_wp2_with fail
  refine (HSe.out _ HB0.out).mono ?_
  rintro e w4 ⟨L, v, rfl, hS, hsat, hr⟩
  have hLn := (stl_all hS hsat).1 HN.out
  have hall := acyclic_settled HN.out hsat
  obtain ⟨_, a2, c2, rfl, hs4⟩ := pairs_slI hr.1
  have HB4 := hid (HB0.out.trans (hr.2.mono HB0.out.size))
  have hqn : (setP ps L).length = L.length := setP_len ps L
  have HWf := hid (fun (bn : Nat) (hbn : bn < 64) w5 (h5 : Below w4.heap.size w4 w5) => callsIn_wide.1 (wfrom_in a2 L.length c2 (flatP (setP ps L)) bn w5 (hs4.later h5 h5.size) (by rw [flatP_len, hqn]) (by omega) (flat_wf Hp.out Hw.out hS) (flat_apart HD.out hS) (flat_highs HD.out HH.out hS hall) (flat_ord HD.out hS hall) (fun i hi => (by rw [(at_flat hi).1]; exact Hlo.out _ (hS.lt _ (List.getElem_mem hi)))) hbn))
  have Hws := hid (fun (b a : Int) => flat_wsum HD.out hS hall hLn b a)
  rw [hLn] at HWf Hws
  rw [hqn, hLn]
  have q4 := (hr.2.block w.heap.size (lt_get Hb0.out)).trans Hb0.out
  obtain ⟨m0, m1, _, _⟩ := two_of q4
  have Q4 := hid q4
  clear hS hsat hr hs4 hall hqn hLn q4
  go_wp2_with fail
  refine (HAq.out w4 HB4.out).mono ?_
  rintro e w5 ⟨v5, rfl, hR5⟩
  obtain ⟨_, a5, c5, rfl, hs5⟩ := ownsRow_slI hR5.1
  have HS5 := hid hs5
  have HB45 := hid hR5.2
  have HB5 := hid (HB4.out.trans (hR5.2.mono HB4.out.size))
  have q5 := (hR5.2.block w.heap.size (lt_get Q4.out)).trans Q4.out
  obtain ⟨n0, n1, _, _⟩ := two_of q5
  clear hR5 hs5 q5 m0 m1
  go_wp2_with fail
  refine (HAp.out w5 HB5.out).mono ?_
  rintro e w6 ⟨v6, rfl, hR6⟩
  obtain ⟨_, a6, c6, rfl, hs6⟩ := ownsRow_slI hR6.1
  have HS6 := hid hs6
  have HC6 := hid (HS5.out.later hR6.2 hR6.2.size)
  have HB46 := hid (HB45.out.trans (hR6.2.mono HB45.out.size))
  have HB6 := hid (HB5.out.trans (hR6.2.mono HB5.out.size))
  clear hR6 hs6 n0 n1 HS5 HB5 HB45 HSe HAp HAq Q4 Hb0
  go_wp2_with fail
  go_loopw [9, 28] (fun o i wr => ∃ (k : Nat) (vs : List Value), k ≤ bs.length ∧ i = .int .i64 k ∧ RowsV wr w6.heap.size o vs ((bs.take k).map (fun b => cs.map (fun a => Int.tmod (wrap64 (wsum ps n b a)) 2))) ∧ Below w6.heap.size w6 wr) (fun _ i _ => bs.length - (intOf i).toNat)
  case atStart => exact ⟨0, [], Nat.zero_le _, rfl, .nil0 _ _, Below.refl _ _⟩
  case round =>
    obtain ⟨k, vs, hk, rfl, hrows, hB⟩ := hrel
    obtain ⟨wo, rfl⟩ : ∃ wo, wo = wr := ⟨_, rfl⟩
    have Hrows := hid hrows
    have HB := hid hB
    have hszr := hB.size
    clear hrows hB
    by_cases hlt : k < bs.length
    · obtain ⟨x, hx⟩ : ∃ x : Nat, (x : Int) = bs[k]?.getD 0 := ⟨(bs[k]?.getD 0).toNat, by have := HbR.out _ (getD_mem hlt); omega⟩
      have hx64 : x < 64 := by have := HbR.out _ (getD_mem hlt); omega
      obtain ⟨g, off, hgb, rfl, hcl6⟩ : ∃ g off, g < w6.heap.size ∧ a6 = some ⟨g, off, none⟩ ∧ ∀ i, i < bs.length → w6.cell? ⟨g, off + i, none⟩ = some (.int .i64 (bs[i]?.getD 0)) := by
        rcases HS6.out with h | h
        · rw [h] at hlt; simp at hlt
        · obtain ⟨g, off, h1, h2, h3⟩ := h
          exact ⟨g, off, h1, h2, h3⟩
      have hck : wo.cell? ⟨g, off + k, none⟩ = some (.int .i64 (x : Int)) := by rw [hx]; exact (HB.out.cell (p := ⟨g, off + k, none⟩) hgb).trans (hcl6 k hlt)
      have hi0 : (0 : Int) ≤ (k : Int) := by omega
      have hi1 : (k : Int) < (bs.length : Int) := by omega
      have hrl : ((bs.take k).map (fun b => cs.map (fun a => Int.tmod (wrap64 (wsum ps n b a)) 2))).length ≤ 1048576 := by simp; omega
      have Hsn : Hid ((bs.take (k + 1)).map (fun b => cs.map (fun a => Int.tmod (wrap64 (wsum ps n b a)) 2)) = (bs.take k).map (fun b => cs.map (fun a => Int.tmod (wrap64 (wsum ps n b a)) 2)) ++ [cs.map (fun a => Int.tmod (wrap64 (wsum ps n (x : Int) a)) 2)]) := hid (by rw [take_snoc hlt, ← hx, List.map_append]; rfl)
      have HWx := hid (HWf.out x hx64 wo ((HB46.out).trans (HB.out.mono HB46.out.size)))
      have Hwx := hid (fun a => Hws.out (x : Int) a)
      clear hx hcl6
      go_wp2_with fail
      refine HWx.out.mono ?_
      rintro e w7 ⟨N7, f7, rfl, hc7, hf7, hB7⟩
      have HC7 := hid hc7
      have HF7 : Hid (∀ a, 0 ≤ a → a < 64 → f7 a = wrap64 (wsum ps n (x : Int) a)) := hid (fun a h0 h1 => by rw [hf7 a h0 h1, Hwx.out])
      have HB7 := hid hB7
      clear hc7 hf7 hB7 hck
      go_wp2_with fail
      go_loopw [13, 37] (fun r j wx => ∃ m : Nat, m ≤ cs.length ∧ j = .int .i64 m ∧ wx.ownsRow w7.heap.size 2 1 r ((cs.take m).map (fun a => Int.tmod (wrap64 (wsum ps n (x : Int) a)) 2)).length (((cs.take m).map (fun a => Int.tmod (wrap64 (wsum ps n (x : Int) a)) 2)).map (Value.int .i64)) ∧ Below w7.heap.size w7 wx) (fun _ j _ => cs.length - (intOf j).toNat)
      case atStart => exact ⟨0, Nat.zero_le _, rfl, World.ownsRow_nil _ _ _ _, Below.refl _ _⟩
      case round =>
        obtain ⟨m, hm, rfl, hown, hBx⟩ := hrel
        have hszx := hBx.size
        have hsz7 := HB7.out.size
        by_cases hlm : m < cs.length
        · obtain ⟨y, hy⟩ : ∃ y : Nat, (y : Int) = cs[m]?.getD 0 := ⟨(cs[m]?.getD 0).toNat, by have := HcR.out _ (getD_mem hlm); omega⟩
          have hy64 : y < 64 := by have := HcR.out _ (getD_mem hlm); omega
          obtain ⟨g5, off5, hgb5, rfl, hcl5⟩ : ∃ g5 off5, g5 < w6.heap.size ∧ a5 = some ⟨g5, off5, none⟩ ∧ ∀ i, i < cs.length → w6.cell? ⟨g5, off5 + i, none⟩ = some (.int .i64 (cs[i]?.getD 0)) := by
            rcases HC6.out with h | h
            · rw [h] at hlm; simp at hlm
            · obtain ⟨g, off, h1, h2, h3⟩ := h
              exact ⟨g, off, h1, h2, h3⟩
          have hcm : wr.cell? ⟨g5, off5 + m, none⟩ = some (.int .i64 (y : Int)) := by
            rw [hy]
            exact (hBx.cell (p := ⟨g5, off5 + m, none⟩) (by simp only; omega)).trans ((HB7.out.cell (p := ⟨g5, off5 + m, none⟩) (by simp only; omega)).trans ((HB.out.cell (p := ⟨g5, off5 + m, none⟩) hgb5).trans (hcl5 m hlm)))
          have hlk := (HC7.out.same (hBx.block _ HC7.out.lt)).lookup (p := (y : Int)) (WalkArith.wf_i64 (by omega))
          rw [HF7.out (y : Int) (by omega) (by omega)] at hlk
          obtain ⟨Z, hZ⟩ : ∃ Z, Z = wrap64 (wsum ps n (x : Int) (y : Int)) := ⟨_, rfl⟩
          have HT : Hid ((cs.take (m + 1)).map (fun a => Int.tmod (wrap64 (wsum ps n (x : Int) a)) 2) = (cs.take m).map (fun a => Int.tmod (wrap64 (wsum ps n (x : Int) a)) 2) ++ [Int.tmod Z 2]) := hid (by rw [take_snoc hlm, ← hy, List.map_append, hZ]; rfl)
          rw [← hZ] at hlk
          have hj0 : (0 : Int) ≤ (m : Int) := by omega
          have hj1 : (m : Int) < (cs.length : Int) := by omega
          have hrl2 : ((cs.take m).map (fun a => Int.tmod (wrap64 (wsum ps n (x : Int) a)) 2)).length ≤ 1048576 := by simp; omega
          have HBx := hid hBx
          have HO := hid hown
          clear hBx hown hy hcl5 hZ
          go_wp2_with (at_builtin; refine append_int rfl rfl HO.out (by omega) (by omega) rfl rfl ?_; intro v' w3 hown3 hgrow3 hB3)
          go_roundw
          case rel => exact ⟨m + 1, by omega, by go_num, by rw [HT.out]; exact hown3, HBx.out.trans hB3⟩
          case measure => simp [intOf]; omega
        · obtain rfl : m = cs.length := by omega
          rw [List.take_length] at hown
          have HBx := hid hBx
          obtain ⟨ar, cr, rfl, hown⟩ := rowAt_of hown
          have HO := hid hown
          have HR := hid ((Hrows.out.below HB7.out).below (hBx))
          clear hown hBx
          go_wp2_with (at_builtin; refine append_row rfl rfl rfl HR.out.own (by omega) (by omega) rfl rfl ?_; intro v' w3 hown3 hgrow3 hB3)
          go_roundw
          case rel => exact ⟨k + 1, vs ++ [_], by omega, by go_num, by rw [Hsn.out]; exact Hrows.out.snoc (HB7.out.trans (HBx.out.mono hsz7)) hszr (ownsRow_base HO.out hsz7) (by simpa only [List.length_map] using hown3) hgrow3, HB.out.trans ((HB7.out.trans (HBx.out.mono hsz7)).mono hszr |>.trans hB3)⟩
          case measure => simp [intOf]; omega
    · obtain rfl : k = bs.length := by omega
      go_wp2_with fail
      go_ret
      have := Hrows.out
      rw [List.take_length] at this
      exact ⟨_, vs, rfl, this.base HB6.out.size, HB6.out.trans (HB.out.mono HB6.out.size)⟩


theorem morseR_small (V : Int) (fs : List Int) (n : Nat) (ps : List Int) (p : Int) : (morseR V fs n ps p).1.length ≤ 1000 ∧ ∀ g ∈ (morseR V fs n ps p).1, g.length ≤ 1000 := by
  by_cases h0 : acodeR V fs n ps (inP p) = 0
  · have hpc : pcodeR V fs n ps = 0 := Classical.byContradiction fun h => by rw [acodeR, if_neg h] at h0; exact h h0
    have h63 := (ok_pcode hpc).1.len63
    have hc : (critL fs ps).length ≤ 63 := Nat.le_trans (List.length_filter_le _ _) h63
    rw [morseR, if_pos h0]
    refine ⟨?_, fun g hg => ?_⟩
    · show (rowsM ps n (critL fs ps) p).length ≤ 1000
      unfold rowsM
      rw [List.length_map]
      exact Nat.le_trans (List.length_filter_le _ _) (by omega)
    · obtain ⟨b, _, rfl⟩ := List.mem_map.1 (show g ∈ rowsM ps n (critL fs ps) p from hg)
      exact Nat.le_trans (rowM_len ..) (by omega)
  · rw [morseR, if_neg h0]
    exact ⟨by simp, by simp⟩

end Go.Proofs.Ytgefpllmelpahaa

/-! The rows of the Morse boundary have 0 and 1 alone. -/
namespace Go.Proofs.Ytgefpllmelpahaa
open Go.RowKit

theorem nodup_len63 {l : List Int} (h : l.Nodup) (hr : ∀ x ∈ l, 1 ≤ x ∧ x ≤ 63) : l.length ≤ 63 := by
  have hp := List.mergeSort_perm l (fun x y => decide (x ≤ y))
  have hs : (l.mergeSort (fun x y => decide (x ≤ y))).Pairwise (fun x y => decide (x ≤ y) = true) := List.pairwise_mergeSort (by intro a b c; simp; omega) (by intro a b; simp; omega) l
  have hn := hp.nodup_iff.2 h
  have hlt : (l.mergeSort (fun x y => decide (x ≤ y))).Pairwise (· < ·) := by
    have := hs.and hn
    exact this.imp fun ⟨h1, h2⟩ => by simp at h1; omega
  have := asc_len _ 1 hlt (fun x hx => hr x (hp.mem_iff.1 hx))
  rw [hp.length_eq] at this
  simpa using this

theorem okTo_31 {V : Int} {fs ps : List Int} {n : Nat} (hC : IsC V fs) (hO : OkTo fs ps n) : n ≤ 31 := by
  have hpair : ∀ i, i < n → at0 ps (i * 2) ∈ fs ∧ at0 ps (i * 2 + 1) ∈ fs ∧ at0 ps (i * 2) ≠ at0 ps (i * 2 + 1) := fun i hi => by
    have := (hO i hi).1
    unfold pairB at this
    simp only [Bool.and_eq_true, decide_eq_true_eq] at this
    refine ⟨this.1.1.1, this.1.1.2, fun e => ?_⟩
    have h2 := this.2
    rw [e] at h2
    omega
  have hcl : ∀ i j, i < j → j < n → at0 ps (j * 2) ≠ at0 ps (i * 2) ∧ at0 ps (j * 2) ≠ at0 ps (i * 2 + 1) ∧ at0 ps (j * 2 + 1) ≠ at0 ps (i * 2) ∧ at0 ps (j * 2 + 1) ≠ at0 ps (i * 2 + 1) := fun i j hij hj => clash_iff.1 ((hO j hj).2.2 i hij)
  have hnd : ((List.range n).map (fun i => at0 ps (i * 2)) ++ (List.range n).map (fun i => at0 ps (i * 2 + 1))).Nodup := by
    refine List.nodup_append.2 ⟨?_, ?_, ?_⟩
    · refine List.pairwise_map.2 (List.Pairwise.imp_of_mem (fun {a b} _ hb h => ?_) List.pairwise_lt_range)
      exact (hcl a b h (List.mem_range.1 hb)).1.symm
    · refine List.pairwise_map.2 (List.Pairwise.imp_of_mem (fun {a b} _ hb h => ?_) List.pairwise_lt_range)
      exact (hcl a b h (List.mem_range.1 hb)).2.2.2.symm
    · intro x hx y hy
      obtain ⟨i, hi, rfl⟩ := List.mem_map.1 hx
      obtain ⟨j, hj, rfl⟩ := List.mem_map.1 hy
      have hi := List.mem_range.1 hi
      have hj := List.mem_range.1 hj
      rcases Nat.lt_trichotomy i j with h | h | h
      · exact (hcl i j h hj).2.2.1.symm
      · subst h; exact (hpair i hi).2.2
      · exact (hcl j i h hi).2.1
  have := nodup_len63 hnd (fun x hx => by
    rcases List.mem_append.1 hx with h | h
    · obtain ⟨i, hi, rfl⟩ := List.mem_map.1 h
      exact hC.range63 _ (hpair i (List.mem_range.1 hi)).1
    · obtain ⟨i, hi, rfl⟩ := List.mem_map.1 h
      exact hC.range63 _ (hpair i (List.mem_range.1 hi)).2.1)
  simp at this
  omega

theorem stl_ex {ps : List Int} {n : Nat} (hc : NoCycle ps n) : ∃ L, Stl ps n L ∧ ∀ i, i < n → i ∈ L := by
  have key : ∀ (m : Nat) (L : List Nat), Stl ps n L → n - L.length = m → ∃ L', Stl ps n L' ∧ ∀ i, i < n → i ∈ L' := by
    intro m
    induction m using Nat.strongRecOn with
    | _ m ih =>
      intro L hS hm
      by_cases hst : ∀ i, i < n → i ∉ L → ∃ j, j < n ∧ StepP ps n i j ∧ j ∉ L
      · exact ⟨L, hS, acyclic_settled hc hst⟩
      · obtain ⟨i, hi⟩ := Classical.not_forall.1 hst
        obtain ⟨h1, hi⟩ := Classical.not_imp.1 hi
        obtain ⟨h2, hi⟩ := Classical.not_imp.1 hi
        have hS2 := hS.snoc h1 h2 (fun j hj hs => Classical.byContradiction fun hn => hi ⟨j, hj, hs, hn⟩)
        have hl := hS2.len
        simp only [List.length_append, List.length_cons, List.length_nil] at hl
        exact ih (n - (L ++ [i]).length) (by simp only [List.length_append, List.length_cons, List.length_nil]; omega) _ hS2 rfl
  exact key n [] (Stl.nil ps n) rfl

/-- The ways from a critical face: no wrapping. -/
theorem wsum_ps {V : Int} {fs ps : List Int} {n : Nat} (hC : IsC V fs) (hO : OkTo fs ps n) (hc : NoCycle ps n) {b : Nat} (hb : b < 64) (a : Int) : 0 ≤ wsum ps n (b : Int) a ∧ wsum ps n (b : Int) a ≤ 25769803776 := by
  obtain ⟨L, hS, hall⟩ := stl_ex hc
  have hd := okTo_apart hO
  have hln : L.length = n := (stl_all hS (fun i hi hn => absurd (hall i hi) hn)).1 hc
  have h31 := okTo_31 hC hO
  have hq := flat_wsum hd hS hall hln (b : Int) a
  rw [← hq]
  have hord := flat_ord hd hS hall
  have hhs := flat_highs hd (okTo_highs hC hO) hS hall
  exact wsum_rng (by omega) (ordQ_acyclic hord) hhs hord hb a

theorem rowsM_good {V : Int} {fs ps : List Int} {n : Nat} (hC : IsC V fs) (hO : OkTo fs ps n) (hc : NoCycle ps n) (p : Int) : MatG 2 (rowsM ps n (critL fs ps) p).length (atL fs ps (p - 1)).length (rowsM ps n (critL fs ps) p) := by
  refine ⟨rfl, fun row hr => ?_, fun row hr x hx => ?_⟩
  · rw [rowsM_at] at hr
    obtain ⟨b, _, rfl⟩ := List.mem_map.1 hr
    rw [rowM_at, List.length_map]
  · rw [rowsM_at] at hr
    obtain ⟨b, hb, rfl⟩ := List.mem_map.1 hr
    rw [rowM_at] at hx
    obtain ⟨a, _, rfl⟩ := List.mem_map.1 hx
    have h63 := hC.range63 _ (atL_mem hb)
    obtain ⟨b, rfl⟩ : ∃ k : Nat, b = (k : Int) := ⟨b.toNat, by omega⟩
    have h1 := wsum_ps hC hO hc (show b < 64 by omega) a
    have h2 : wrap64 (wsum ps n (b : Int) a) = wsum ps n (b : Int) a := by unfold wrap64; omega
    rw [h2, Int.tmod_eq_emod_of_nonneg h1.1]
    omega

end Go.Proofs.Ytgefpllmelpahaa

/-! CountFaces, the model's and the program's. -/
namespace Go.Proofs.Ytgefpllmelpahaa
open Go.RowKit

/-- The numbers of faces of the first n dimensions. -/
def countL (fs : List Int) (n : Nat) : List Int := (List.range n).map fun d : Nat => ((ofDim fs (d : Int)).length : Int)

theorem countL_len (fs : List Int) (n : Nat) : (countL fs n).length = n := by simp [countL]

theorem countL_snoc (fs : List Int) (n : Nat) : countL fs (n + 1) = countL fs n ++ [((ofDim fs (n : Int)).length : Int)] := by
  simp [countL, List.range_succ]

theorem countL_face (pre : List Int) (x : Nat) (n e : Nat) (he : ones x = e + 1) : countL (pre ++ [(x : Int)]) n = (countL pre n).set e (((ofDim pre (e : Int)).length : Int) + 1) := by
  apply List.ext_getElem?
  intro i
  by_cases hi : i < n
  · by_cases hie : e = i
    · subst hie
      rw [List.getElem?_set_self (by rw [countL_len]; exact hi)]
      simp [countL, hi, ofDim, List.filter_append, he]
    · rw [List.getElem?_set_ne hie]
      have : ¬ ((ones x : Int) = (i : Int) + 1) := by omega
      simp [countL, hi, ofDim, List.filter_append, this]
  · rw [List.getElem?_eq_none (by rw [countL_len]; omega), List.getElem?_eq_none (by rw [List.length_set, countL_len]; omega)]

theorem countL_at (pre : List Int) (n e : Nat) (hn : e < n) : (countL pre n)[e]?.getD 0 = ((ofDim pre (e : Int)).length : Int) := by
  simp [countL, hn]

/-- What CountFaces hands back. -/
noncomputable def countFacesR (V : Int) (fs : List Int) : List Int × Int := if isCB V fs then (countL fs (top fs + 1).toNat, 0) else ([], 1)

theorem countFacesR_len (V : Int) (fs : List Int) (_h : fs.length ≤ 1048576) : (countFacesR V fs).1.length ≤ 1048576 := by
  unfold countFacesR
  have := top_hi fs
  split
  · rw [countL_len]; omega
  · simp


end Go.Proofs.Ytgefpllmelpahaa
