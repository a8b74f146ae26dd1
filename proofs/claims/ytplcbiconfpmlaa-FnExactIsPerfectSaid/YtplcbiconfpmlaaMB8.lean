import Derived.Deep.LoopGhost
import Derived.Lib.Walk
import Derived.Sort.WalkB12
import Derived.Lib.SlicesMore
import Derived.Sort.OwnSortedInts
import Derived.Test.YtplcbiconfpmlaaMB1
import Derived.Test.YtplcbiconfpmlaaMB4
import Derived.Test.YtplcbiconfpmlaaMB6
import Derived.Test.YtplcbiconfpmlaaMB7
/-! waysFrom, the mathematics: numbers of ways, carried along the steps. -/
namespace Go.Proofs.Ytplcbiconfpmlaa
open Go.RowKit

theorem sum_turn {F F' : Int → Int} {y : Int} : ∀ {L : List Int}, L.Nodup → y ∈ L → (∀ q ∈ L, q ≠ y → F' q = F q) → (L.map F').sum = (L.map F).sum + (F' y - F y)
  | [], _, hy, _ => by simp at hy
  | x :: L, hn, hy, h => by
    have hn' := List.nodup_cons.1 hn
    simp only [List.map_cons, List.sum_cons]
    by_cases e : x = y
    · subst e
      have : L.map F' = L.map F := List.map_congr_left (fun q hq => h q (by simp [hq]) (fun e => hn'.1 (e ▸ hq)))
      rw [this]
      omega
    · have hyL : y ∈ L := by
        rcases List.mem_cons.1 hy with h1 | h1
        · exact absurd h1.symm e
        · exact h1
      rw [sum_turn hn'.2 hyL (fun q hq hne => h q (by simp [hq]) hne), h x (by simp) e]
      omega

/-- The numbers a face may have. -/
def allU : List Int := (List.range 64).map fun i => ((i : Nat) : Int)
theorem allU_nodup : allU.Nodup := by decide +kernel
theorem mem_allU {x : Int} : x ∈ allU ↔ 0 ≤ x ∧ x < 64 := by
  unfold allU
  rw [List.mem_map]
  constructor
  · rintro ⟨i, hi, rfl⟩
    have : i < 64 := by simpa using hi
    omega
  · intro h
    exact ⟨x.toNat, by simp; omega, by omega⟩

def totW (wt u : Int → Int) : Int := (allU.map fun x => wt x * u x).sum
theorem totW_put {wt u : Int → Int} {y : Int} (d : Int) (hy : 0 ≤ y ∧ y < 64) : totW wt (fun q => if q = y then u y + d else u q) = totW wt u + wt y * d := by
  unfold totW
  rw [sum_turn (F := fun x => wt x * u x) (y := y) allU_nodup (mem_allU.2 hy) (fun q _ hne => by simp only [if_neg hne])]
  show _ + (wt y * (if y = y then u y + d else u y) - wt y * u y) = _
  rw [if_pos rfl, Int.mul_add]
  omega
theorem totW_wt {wt wt' u : Int → Int} {y : Int} (hy : 0 ≤ y ∧ y < 64) (h : ∀ q, q ≠ y → wt' q = wt q) : totW wt' u = totW wt u + (wt' y - wt y) * u y := by
  unfold totW
  rw [sum_turn (F := fun x => wt x * u x) (y := y) allU_nodup (mem_allU.2 hy) (fun q _ hne => by rw [h q hne]), Int.sub_mul]
theorem totW_one {u : Int → Int} {a : Int} (ha : 0 ≤ a ∧ a < 64) : totW (fun x => if x = a then 1 else 0) u = u a := by
  have h0 : ∀ L : List Int, (L.map fun x => (0 : Int) * u x).sum = 0 := fun L => by induction L with
    | nil => rfl
    | cons x L ih =>
      show 0 * u x + (L.map fun x => (0 : Int) * u x).sum = 0
      rw [ih, Int.zero_mul]
      rfl
  have h1 := totW_wt (wt := fun _ => 0) (wt' := fun x => if x = a then 1 else 0) (u := u) ha (fun q hq => by simp [hq])
  rw [h1]
  unfold totW
  rw [h0]
  simp

/-- A list of pairs in which each pair has all pairs to which its steps lead ahead of it. -/
def OrdQ (qs : List Int) (n : Nat) : Prop := ∀ i j, i < n → j < n → StepP qs n i j → j < i

/-- What a way that has come to x counts behind k pairs: those to a, or being at a. -/
def wtB (qs : List Int) (n k : Nat) (x : Int) : Bool := (List.range n).any fun i => decide (at0 qs (i * 2) = x) && decide (n - k ≤ i)
theorem wtB_iff {qs : List Int} {n k : Nat} {x : Int} : wtB qs n k x = true ↔ ∃ i, i < n ∧ at0 qs (i * 2) = x ∧ n - k ≤ i := by
  unfold wtB
  rw [List.any_eq_true]
  simp
def wtK (qs : List Int) (n : Nat) (a : Int) (k : Nat) (x : Int) : Int := if wtB qs n k x then (if x = a then 1 else 0) else gw qs n a x
theorem wtK_zero (qs : List Int) (n : Nat) (a : Int) : wtK qs n a 0 = gw qs n a := by
  funext x
  unfold wtK
  rw [if_neg]
  intro h
  obtain ⟨i, hi, _, h2⟩ := wtB_iff.1 h
  omega
theorem wtK_all (qs : List Int) (n : Nat) (a : Int) : wtK qs n a n = fun x => if x = a then 1 else 0 := by
  funext x
  unfold wtK
  by_cases h : wtB qs n n x = true
  · rw [if_pos h]
  · rw [if_neg h, gw_none (fun i hi e => h (wtB_iff.2 ⟨i, hi, e, by omega⟩))]
/-- A step of pair n - 1 - k leads to what has not been gone through. -/
theorem wtK_next {qs : List Int} {n : Nat} (hO : OrdQ qs n) (a : Int) {k : Nat} (hk : k < n) {y : Int} (hy : y ∈ nextL qs n (at0 qs ((n - 1 - k) * 2))) : wtK qs n a k y = gw qs n a y := by
  unfold wtK
  rw [if_neg]
  intro h
  obtain ⟨j, hj, e, h2⟩ := wtB_iff.1 h
  have := hO (n - 1 - k) j (by omega) hj (by unfold StepP; rw [e]; exact hy)
  omega
theorem wtK_self {qs : List Int} {n : Nat} (hd : LowsApart qs n) (a : Int) {k : Nat} (hk : k < n) : wtK qs n a k (at0 qs ((n - 1 - k) * 2)) = gw qs n a (at0 qs ((n - 1 - k) * 2)) := by
  unfold wtK
  rw [if_neg]
  intro h
  obtain ⟨j, hj, e, h2⟩ := wtB_iff.1 h
  have := lows_inj hd hj (show n - 1 - k < n by omega) e
  omega
theorem wtK_succ {qs : List Int} {n : Nat} (a : Int) {k : Nat} (hk : k < n) :
    wtK qs n a (k + 1) (at0 qs ((n - 1 - k) * 2)) = (if at0 qs ((n - 1 - k) * 2) = a then 1 else 0) ∧ ∀ q, q ≠ at0 qs ((n - 1 - k) * 2) → wtK qs n a (k + 1) q = wtK qs n a k q := by
  constructor
  · unfold wtK
    rw [if_pos (wtB_iff.2 ⟨n - 1 - k, by omega, rfl, by omega⟩)]
  · intro q hq
    unfold wtK
    have : wtB qs n (k + 1) q = wtB qs n k q := by
      rw [Bool.eq_iff_iff, wtB_iff, wtB_iff]
      constructor
      · rintro ⟨j, hj, e, h2⟩
        refine ⟨j, hj, e, ?_⟩
        by_cases h3 : j = n - 1 - k
        · subst h3; exact absurd e.symm hq
        · omega
      · rintro ⟨j, hj, e, h2⟩
        exact ⟨j, hj, e, by omega⟩
    rw [this]

theorem ordQ_acyclic {qs : List Int} {n : Nat} (hO : OrdQ qs n) : NoCycle qs n := by
  have key : ∀ {x y : Int}, Way qs n x y → ∀ i j, i < n → j < n → at0 qs (i * 2) = x → at0 qs (j * 2) = y → j < i := by
    intro x y h
    induction h with
    | one h1 =>
      intro i j hi hj hx hy
      exact hO i j hi hj (by unfold StepP; rw [hx, hy]; exact h1)
    | @more z y _ h2 ih =>
      intro i j hi hj hx hy
      obtain ⟨m, hm, hz⟩ := next_low h2
      have h3 := ih i m hi hm hx hz
      have h4 := hO m j hm hj (by unfold StepP; rw [hz, hy]; exact h2)
      omega
  intro i hi hw
  have := key hw i i hi hi rfl rfl
  omega

/-- A pair has been gone through: all ways have been carried on. -/
theorem totW_round {qs : List Int} {n : Nat} (hO : OrdQ qs n) (hh : HighsB qs n) (hd : LowsApart qs n) (a : Int) {k : Nat} (hk : k < n) {x : Int} (hx : x = at0 qs ((n - 1 - k) * 2)) (hx2 : 0 ≤ x ∧ x < 64) {u : Int → Int} {S : Int}
    (h : totW (wtK qs n a k) u = S + u x * ((stepsF qs n x).map fun z => gw qs n a (z.val : Int)).sum) : totW (wtK qs n a (k + 1)) u = S := by
  obtain ⟨h1, h2⟩ := wtK_succ (qs := qs) a hk
  rw [← hx] at h1 h2
  have h3 : wtK qs n a k x = gw qs n a x := by rw [hx]; exact wtK_self hd a hk
  have hg := gw_step (ordQ_acyclic hO) a x
  rw [gw_steps hh x (gw qs n a)] at h
  rw [totW_wt hx2 h2, h, h1, h3, hg]
  rw [Int.mul_comm (u x)]
  have : ((if x = a then (1 : Int) else 0) - ((if x = a then 1 else 0) + ((nextL qs n x).map (gw qs n a)).sum)) = -((nextL qs n x).map (gw qs n a)).sum := by omega
  rw [this, Int.neg_mul]
  omega
theorem totW_next {qs : List Int} {n : Nat} (hO : OrdQ qs n) (hh : HighsB qs n) (a : Int) {k : Nat} (hk : k < n) {x : Int} (hx : x = at0 qs ((n - 1 - k) * 2)) {u : Int → Int} {S : Int} {pre : List (Fin 64)} {z : Fin 64} (hz : (z.val : Int) ∈ nextL qs n x)
    (h : totW (wtK qs n a k) u = S + u x * (pre.map fun z => gw qs n a (z.val : Int)).sum) :
    totW (wtK qs n a k) (fun q => if q = (z.val : Int) then u (z.val : Int) + u x else u q) = S + (fun q => if q = (z.val : Int) then u (z.val : Int) + u x else u q) x * ((pre ++ [z]).map fun z => gw qs n a (z.val : Int)).sum := by
  have hne := nextL_ne hz
  rw [totW_put (u x) (next_range hh hz), h, wtK_next hO a hk (by rw [← hx]; exact hz)]
  simp only [if_neg (fun e => hne e.symm : ¬ x = (z.val : Int)), List.map_append, List.map_cons, List.map_nil, List.sum_append, List.sum_cons, List.sum_nil, Int.add_zero, Int.mul_add]
  rw [Int.mul_comm (gw qs n a (z.val : Int)), Int.add_assoc]

theorem sides_nodup : ∀ f : Fin 64, (sidesF f.val).Nodup := by decide +kernel
/-- The sides, one way each. -/
def sideU (pre : List (Fin 64)) (x : Int) : Int := if x ∈ pre.map (fun z => (z.val : Int)) then 1 else 0
theorem sideU_snoc (pre : List (Fin 64)) (z : Fin 64) : (fun q => if q = (z.val : Int) then 1 else sideU pre q) = sideU (pre ++ [z]) := by
  funext q
  unfold sideU
  by_cases h : q = (z.val : Int)
  · simp [h]
  · rw [if_neg h]
    simp only [List.map_append, List.mem_append, List.map_cons, List.map_nil, List.mem_singleton, h, or_false]
theorem totW_sides (g : Int → Int) : ∀ (l : List (Fin 64)), l.Nodup → totW g (sideU l) = (l.map fun z => g (z.val : Int)).sum := by
  intro l
  have h0 : ∀ L : List Int, (L.map fun x => g x * 0).sum = 0 := fun L => by induction L with
    | nil => rfl
    | cons x L ih =>
      show g x * 0 + (L.map fun x => g x * 0).sum = 0
      rw [ih, Int.mul_zero]
      rfl
  have key : ∀ (m : Nat) (l : List (Fin 64)), l.length = m → l.Nodup → totW g (sideU l) = (l.map fun z => g (z.val : Int)).sum := by
    intro m
    induction m with
    | zero =>
      intro l hl _
      have : l = [] := List.eq_nil_of_length_eq_zero hl
      subst this
      unfold totW sideU
      simp only [List.map_nil, List.not_mem_nil, if_false]
      rw [h0]
      rfl
    | succ m ih =>
      intro l hl hn
      obtain ⟨l', z, rfl⟩ : ∃ l' z, l = l' ++ [z] := by
        rcases List.eq_nil_or_concat l with h | ⟨l', z, h⟩
        · rw [h] at hl; simp at hl
        · exact ⟨l', z, by rw [h, List.concat_eq_append]⟩
      rw [List.nodup_append] at hn
      have hz : sideU l' (z.val : Int) = 0 := by
        unfold sideU
        rw [if_neg]
        intro h
        obtain ⟨z', hz', e⟩ := List.mem_map.1 h
        have : z' = z := Fin.ext (by omega)
        exact hn.2.2 z' hz' z (by simp) this
      have h1 := totW_put (wt := g) (u := sideU l') (y := (z.val : Int)) 1 ⟨by omega, by have := z.isLt; omega⟩
      rw [hz, Int.zero_add, sideU_snoc, ih l' (by simpa using hl) hn.1] at h1
      rw [h1]
      simp
  exact key l.length l rfl

/-- How many ways begin at a side of b and end at a. -/
def wsum (ps : List Int) (n : Nat) (b a : Int) : Int := ((sidesF b.toNat).map fun s => gw ps n a (s.val : Int)).sum

theorem wsum_start {qs : List Int} {n : Nat} {b : Nat} (hb : b < 64) (a : Int) : totW (wtK qs n a 0) (sideU (sidesF b)) = wsum qs n (b : Int) a := by
  rw [wtK_zero, totW_sides _ _ (sides_nodup ⟨b, hb⟩)]
  rfl
theorem wsum_end {qs : List Int} {n : Nat} {b a : Int} {u : Int → Int} (ha : 0 ≤ a ∧ a < 64) (h : totW (wtK qs n a n) u = wsum qs n b a) : u a = wsum qs n b a := by
  rw [wtK_all, totW_one ha] at h
  exact h

end Go.Proofs.Ytplcbiconfpmlaa

/-! waysFrom, walked. -/
namespace Go.Proofs.Ytplcbiconfpmlaa
open Go.RowKit Go.Shelf

attribute [local go_sem] Oper.semAt_some

theorem CntM.same {W W' : World} {b N : Nat} {f : Int → Int} (h : CntM W b N f) (he : W'.heap[b]? = W.heap[b]?) : CntM W' b N f := by
  obtain ⟨D, h0, ⟨es, clock, hb, rest⟩, h2⟩ := h
  exact ⟨D, h0, ⟨es, clock, he.trans hb, rest⟩, h2⟩
theorem keepB_ownIn {β : Type} {Bs : List Nat} {lo k lo' k' : Nat} {W0 : World} (h0 : lo + k ≤ W0.heap.size) (hB : ∀ q ∈ Bs, q < W0.heap.size) (h1 : lo + k ≤ lo') (hB1 : ∀ q ∈ Bs, q < lo') : OwnIn lo' k' (fun (_ : β) W => KeepP Bs lo k W0 W) := by
  intro s A C row h hg hr
  refine h.trans ⟨hg.size, fun r hr2 => hg.block r ?_ (fun e => ?_)⟩
  · have := h.size
    rcases hr2 with h2 | h2
    · have := hB r h2; omega
    · omega
  · have := (hr r e.symm).1
    rcases hr2 with h2 | h2
    · have := hB1 r h2; omega
    · omega
theorem lows_ownIn {β : Type} {M n m : Nat} {ps : List Int} {lo k : Nat} (h0 : M < lo) : OwnIn lo k (fun (_ : β) W => W.ownsMap Try.prog 2 pairElem M n (lowsD ps m)) := by
  intro s A C row h hg hr
  exact h.kept hg (fun e => by have := (hr _ e.symm).1; omega)
theorem SeqStopsP.inRound {α : Type} {F : Fence} {n : Nat} {P : Program} {g : Nat} {lb : Array Value} {encs : α → Array Value} {Bs : List Nat} {k : Nat} {L : List α} {w0 : World} (l : Nat) (h : SeqStopsP F n P g lb encs Bs k L w0) : SeqStopsP (F.inRound l) n P g lb encs Bs k L w0 := h

theorem downL_prefix {n i : Nat} {pre : List Nat} (h : pre ++ [i] <+: downL n) : pre.length < n ∧ i = n - 1 - pre.length := by
  have hl := h.length_le
  rw [downL_len] at hl
  simp at hl
  refine ⟨by omega, ?_⟩
  have h1 := List.prefix_iff_eq_take.1 h
  have h2 : (pre ++ [i]).length = pre.length + 1 := by simp
  rw [h2, downL_take (by omega)] at h1
  have h3 := List.append_inj' h1 rfl
  simpa using h3.2

set_option maxRecDepth 1000000 in
set_option maxHeartbeats 4000000 in
theorem wfrom_in (a1 : Option Addr) (n cap1 : Nat) (qs : List Int) (b : Nat) (w : World) (hx1 : SlI w w.heap.size a1 qs) (hp : qs.length = 2 * n) (hn : n ≤ 1048576) (hw : ∀ x ∈ qs, (Lit.int .i64 x).wf = true) (hd : LowsApart qs n) (hh : HighsB qs n) (hO : OrdQ qs n) (hlo : ∀ i, i < n → 0 ≤ at0 qs (i * 2) ∧ at0 qs (i * 2) < 64) (hb : b < 64) :
    CallsIn Fence.wide 20 Try.prog 140 #[.slice a1 n cap1, .int .i64 (b : Int)] w fun e w' => ∃ N f, e = .returned (.map (some w.heap.size)) ∧ CntM w' w.heap.size N f ∧ (∀ a, 0 ≤ a → a < 64 → f a = wrap64 (wsum qs n (b : Int) a)) ∧ Below w.heap.size w w' := by
  have HLw := hid (fun w1 (hb : Below w.heap.size w w1) => lows_any a1 n cap1 qs w1 (hx1.later hb hb.size) hp hn hw)
  have Hy := hid hx1
  have Hp := hid hp
  have Hw := hid hw
  have HD := hid hd
  have HH := hid hh
  have HO := hid hO
  have Hlo := hid hlo
  have hmm := @run_makeMap Try.prog
  clear hx1 hp hw hd hh hO hlo
  refine callsIn_of_wp_marks Try.func140 rfl trivial ?_ rfl
  simp only [Try.ntmps140, List.size_toArray, List.length_cons, List.length_nil, Nat.reduceAdd, Nat.reduceSub, Array.replicate_succ, Array.replicate_zero, List.push_toArray, List.append_toArray, List.nil_append, List.cons_append]
  gi_wp2_with (first
    | (refine ⟨trivial, ?_⟩; gi_at_call 186; refine (sides_in _ _ _).mono ?_; rintro e w' ⟨rfl, rfl⟩))
  obtain ⟨W0, hW0⟩ : ∃ W0, W0 = ((w.alloc (.map #[] 0)).alloc (.cells #[.map (some w.heap.size)] 96)).alloc (.cells #[.int .i64 (b : Int)] 2) := ⟨_, rfl⟩
  have hs0 : W0.heap.size = w.heap.size + 3 := by rw [hW0]; simp
  have hbb : W0.heap[w.heap.size + 1 + 1]? = some (.cells #[.int .i64 (b : Int)] 2 (0, 0)) := by
    have := heap_alloc_new ((w.alloc (.map #[] 0)).alloc (.cells #[.map (some w.heap.size)] 96)) (.cells #[.int .i64 (b : Int)] 2)
    rw [World.size_alloc, World.size_alloc] at this
    rw [hW0]
    exact this
  have H0 : Hid (GwW w W0 0 (sideU []) []) := by
    have e3 := heap_alloc_new (w.alloc (.map #[] 0)) (.cells #[.map (some w.heap.size)] 96)
    rw [World.size_alloc] at e3
    rw [hW0]
    exact hid {
      below := (((Below.refl _ w).alloc (Nat.le_refl _) _).alloc (by simp) _).alloc (by simp; omega) _
      cnt := ((CntM.made w).alloc _).alloc _
      b1 := (Below.heap_alloc _ _ _ (by simp)).trans e3
      nodup := by simp
      marks := by simp }
  rw [← hW0]
  clear hW0 hmm
  refine wpIn_rangeFunc_P rfl (by decide) (gf := 208) (lb := #[.pointer (some ⟨w.heap.size + 1 + 1, 0, none⟩)]) rfl trivial (enters_of Try.func208 (by kernel_rfl) rfl)
    (sides_P 19 (by decide) (w.heap.size + 1 + 1) b hb W0 (by omega) hbb) (by simp; omega) (Below.refl _ _) (fun _ => rfl)
    (fun pre W' => GwW w W' pre.length (sideU pre) [])
    (fun _ _ _ => False)
    (gw_ownIn (by omega) (by simp))
    (fun _ => ownIn_pure _ _ _)
    H0.out
    (fun z => { tmps := List.toArray ((.slice a1 n cap1) :: (.int .i64 (b : Int)) :: (undef) :: (undef) :: (.map none) :: (.pointer (some ⟨w.heap.size + 1, 0, none⟩)) :: (.int .i64 (z.val : Int)) :: (undef) :: (undef) :: (undef) :: (undef) :: (.map (some w.heap.size)) :: (.int .i64 (b : Int)) :: (.func (.func 208) #[] #[.pointer (some ⟨w.heap.size + 1 + 1, 0, none⟩)]) :: (.int .i64 (z.val : Int)) :: (undef) :: (undef) :: (undef) :: (undef) :: (undef) :: (undef) :: (undef) :: (undef) :: (undef) :: (undef) :: (undef) :: (undef) :: (undef) :: (undef) :: (undef) :: (undef) :: (undef) :: (undef) :: (undef) :: (undef) :: (undef) :: (undef) :: []), defers := [] }) ?assign ?body ?done ?stop
  case assign =>
    intro l z W4 K hK
    gi_wp2
    exact hK
  case body =>
    rintro l pre z W4 hpre hsz4 hS
    have hzw : (Lit.int .i64 (z.val : Int)).wf = true := WalkArith.wf_i64 (by have := z.isLt; omega)
    have hpl : pre.length + 1 ≤ 6 := by
      have h1 := hpre.length_le
      have h2 : (sidesF b).length ≤ 6 := sides_len b 6
      simp at h1
      omega
    have q1 : W4.cell? ⟨w.heap.size + 1, 0, none⟩ = some (.map (some w.heap.size)) := (box_cell hS.b1).1
    obtain ⟨W5, hrun5, hc5, hg5, hs5⟩ := hS.cnt.update (show pre.length < maxLen by unfold maxLen; omega) hzw (show (Lit.int .i64 1).wf = true by decide)
    have hS5 := hS.put hc5 hg5
    rw [sideU_snoc] at hS5
    have HS5 := hid hS5
    have Hg5 := hid hg5
    clear hS hS5 hc5 hg5 hzw hbb H0
    gi_wp2
    refine ⟨⟨Hg5.out.size, fun r hr => ?_⟩, ?_⟩
    · rcases hr with h | h
      · simp at h
        subst h
        exact Hg5.out.block _ (by omega) (fun e => by injection e with e; omega)
      · exact Hg5.out.block r (by omega) (fun e => by injection e with e; omega)
    · show GwW w W5 (pre ++ [z]).length (sideU (pre ++ [z])) []
      have e : (pre ++ [z]).length = pre.length + 1 := by simp
      rw [e]
      exact HS5.out
  case stop =>
    rintro c pre W4 hpre hF hD4
    exact hF.elim
  case done =>
    rintro W4 hS hD4
    have hS4 := (hS.mark hD4 (by omega) (by simp)).mono (show (sidesF b).length ≤ 6 from sides_len b 6)
    have hsz4 := hS4.size
    rw [hs0] at hS4
    have HS4 := hid hS4
    clear hS hS4 hD4 hbb H0
    gi_wp2_with (first
      | (refine ⟨trivial, ?_⟩; gi_at_call 145; refine (callsIn_wide.2 (HLw.out _ HS4.out.below)).mono ?_; rintro e w5 ⟨rfl, hown, hB5⟩)
      | (refine ⟨trivial, ?_⟩; gi_at_call 146; refine (backward_in _ _ _ _ _).mono ?_; rintro e w' ⟨rfl, rfl⟩))
    have hMl : W4.heap.size < w5.heap.size := hown.lt
    obtain ⟨W6, hW6⟩ : ∃ W6, W6 = (w5.alloc (.cells #[.map (some W4.heap.size)] 139)).alloc (.cells #[.slice a1 n cap1] 40) := ⟨_, rfl⟩
    have hs6 : W6.heap.size = w5.heap.size + 2 := by rw [hW6]; simp
    have hlb6 : W6.heap[w5.heap.size]? = some (.cells #[.map (some W4.heap.size)] 139 (0, 0)) := by rw [hW6]; exact (Below.heap_alloc _ _ _ (by simp)).trans (heap_alloc_new _ _)
    have hsb6 : W6.heap[w5.heap.size + 1]? = some (.cells #[.slice a1 n cap1] 40 (0, 0)) := by
      have := heap_alloc_new (w5.alloc (.cells #[.map (some W4.heap.size)] 139)) (.cells #[.slice a1 n cap1] 40)
      rw [World.size_alloc] at this
      rw [hW6]
      exact this
    have hown6 : W6.ownsMap Try.prog 2 pairElem W4.heap.size n (lowsD qs n) := by rw [hW6]; exact (hown.alloc _).alloc _
    have hG6 : GwW w W6 6 (sideU (sidesF b)) [w.heap.size + 3] := by
      rw [hW6]
      exact ((HS4.out.turn (row := none) ⟨hB5.os, hB5.tape, hB5.output, hB5.size, fun k hk _ => hB5.block k hk⟩ (fun r e => by cases e)).alloc _).alloc _
    obtain ⟨lb, off, hlbs, hlbn, hcl⟩ : ∃ lb off, lb < W6.heap.size ∧ lb ≠ w.heap.size ∧ (n = 0 ∨ (a1 = some ⟨lb, off, none⟩ ∧ ∀ i, i < 2 * n → W6.cell? ⟨lb, off + i, none⟩ = some (.int .i64 (at0 qs i)))) := by
      rcases Hy.out with h | ⟨lb, off, h1, h2, h3⟩
      · refine ⟨w.heap.size + 1, 0, by omega, by omega, .inl ?_⟩
        have := Hp.out
        rw [h] at this
        simp at this
        omega
      · refine ⟨lb, off, by omega, by omega, .inr ⟨h2, fun i hi => ?_⟩⟩
        exact (hG6.below.cell (p := ⟨lb, off + i, none⟩) h1).trans (h3 i (by have := Hp.out; omega))
    have HG6 := hid hG6
    rw [← hW6]
    clear hW6 hG6 hown HS4 HLw hB5 Hy
    refine wpIn_rangeFunc_PH rfl (by decide) (gf := 191) (lb := #[.pointer (some ⟨w5.heap.size + 1, 0, none⟩)]) rfl trivial (enters_of Try.func191 (by kernel_rfl) rfl)
      (backward_P 19 (by decide) (w5.heap.size + 1) lb off n cap1 a1 qs W6 hsb6 hlbs hn hcl) (by simp; omega) (Below.refl _ _) (fun _ => rfl)
      (fun pre W' => (∃ u, GwW w W' (64 + 64 * pre.length) (fun x => wrap64 (u x)) [w.heap.size + 3] ∧ ∀ a, totW (wtK qs n a pre.length) u = wsum qs n (b : Int) a) ∧ W'.heap[w5.heap.size]? = some (.cells #[.map (some W4.heap.size)] 139 (0, 0)) ∧ W'.ownsMap Try.prog 2 pairElem W4.heap.size n (lowsD qs n))
      (fun _ _ _ => False)
      (OwnIn.and (fun s A B row ⟨u, h1, h2⟩ hg hr => ⟨u, gw_ownIn (β := Unit) (N := fun _ => 64 + 64 * s.length) (f := fun _ x => wrap64 (u x)) (by omega) (by intro D hD; simp at hD; omega) () A B row h1 hg hr, h2⟩) (OwnIn.and (ownIn_block (β := List Nat) (fun _ => _) (by omega)) (lows_ownIn (by omega))))
      (fun _ => ownIn_pure _ _ _)
      ⟨⟨sideU (sidesF b), ?_, fun a => wsum_start hb a⟩, hlb6, hown6⟩
      (fun i => .cells #[.int .i64 (at0 qs (i * 2)), .int .i64 (at0 qs (i * 2 + 1))] 49)
      (fun i bx => { tmps := List.toArray ((.slice a1 n cap1) :: (.int .i64 (b : Int)) :: (undef) :: (undef) :: (.map none) :: (.pointer (some ⟨w.heap.size + 1, 0, none⟩)) :: (undef) :: (.pointer (some ⟨w5.heap.size, 0, none⟩)) :: (undef) :: (.pointer (some ⟨bx, 0, none⟩)) :: (undef) :: (.map (some w.heap.size)) :: (.int .i64 (b : Int)) :: (.func (.func 208) #[] #[.pointer (some ⟨w.heap.size + 1 + 1, 0, none⟩)]) :: (undef) :: (undef) :: (undef) :: (.slice a1 n cap1) :: (.map (some W4.heap.size)) :: (.slice a1 n cap1) :: (.func (.func 191) #[] #[.pointer (some ⟨w5.heap.size + 1, 0, none⟩)]) :: (.int .i64 (i : Int)) :: (.agg #[.int .i64 (at0 qs (i * 2)), .int .i64 (at0 qs (i * 2 + 1))]) :: (undef) :: (undef) :: (undef) :: (undef) :: (undef) :: (undef) :: (undef) :: (undef) :: (undef) :: (undef) :: (undef) :: (undef) :: (undef) :: (undef) :: []), defers := [] }) ?assign2 ?body2 ?done2 ?stop2
    · have e : (fun x => wrap64 (sideU (sidesF b) x)) = sideU (sidesF b) := by
        funext x
        exact wrap64_01 _
      rw [e]
      exact HG6.out.mono (by simp)
    case assign2 =>
      intro l i W7 K hK
      gi_wp2
      exact hK
    case body2 =>
      rintro pre i bx W7 hpre hbx hsz7 hob ⟨r, hrec⟩ ⟨⟨u, hG, hT⟩, hlb, hown7⟩
      obtain ⟨hkn, hi⟩ := downL_prefix hpre
      obtain ⟨k, hk⟩ : ∃ k, k = pre.length := ⟨_, rfl⟩
      rw [← hk] at hkn hi hG hT
      have hin : i < n := by omega
      have Hx64 : Hid (0 ≤ at0 qs (i * 2) ∧ at0 qs (i * 2) < 64) := hid (Hlo.out i hin)
      obtain ⟨x, hx⟩ : ∃ x, x = at0 qs (i * 2) := ⟨_, rfl⟩
      obtain ⟨y, hy⟩ : ∃ y, y = at0 qs (i * 2 + 1) := ⟨_, rfl⟩
      rw [← hx] at Hx64
      rw [← hx, ← hy] at hob ⊢
      have Hxi : Hid (x = at0 qs ((n - 1 - k) * 2)) := hid (by rw [hx, hi])
      have Hwx : Hid ((Lit.int .i64 x).wf = true) := hid (WalkArith.wf_i64 (by have := Hx64.out; omega))
      obtain ⟨p0, _, _, _⟩ := two_of hob
      obtain ⟨q7, _⟩ := box_cell hlb
      have HG := hid hG
      have HT := hid hT
      have Hob := hid hob
      have Hlb := hid hlb
      have Hown7 := hid hown7
      have Hrec := hid hrec
      have Hk := hid hk
      clear hG hT hob hlb hown7 hrec hx hy hi hpre hk HG6 hlb6 hown6 hsb6 hcl
      gi_wp2_with (first
        | (refine ⟨trivial, ?_⟩; gi_at_call 148; refine (stepsFrom_in _ W4.heap.size x _).mono ?_; rintro e w' ⟨rfl, rfl⟩))
      obtain ⟨W8, hW8⟩ : ∃ W8, W8 = (W7.alloc (.cells #[.map (some W4.heap.size)] 139)).alloc (.cells #[.int .i64 x] 2) := ⟨_, rfl⟩
      have hs8 : W8.heap.size = bx + 3 := by rw [hW8]; simp [hsz7]
      have hbm8 : W8.heap[bx + 1]? = some (.cells #[.map (some W4.heap.size)] 139 (0, 0)) := by
        rw [hW8, ← hsz7]
        exact (Below.heap_alloc _ _ _ (by simp)).trans (heap_alloc_new _ _)
      have hbx8 : W8.heap[bx + 1 + 1]? = some (.cells #[.int .i64 x] 2 (0, 0)) := by
        have := heap_alloc_new (W7.alloc (.cells #[.map (some W4.heap.size)] 139)) (.cells #[.int .i64 x] 2)
        rw [World.size_alloc, hsz7] at this
        rw [hW8]
        exact this
      have hob8 : W8.heap[bx]? = some (.cells #[.int .i64 x, .int .i64 y] 49 (0, 0)) := by rw [hW8]; exact (Below.heap_alloc _ _ _ (by simp; omega)).trans ((Below.heap_alloc _ _ _ (by omega)).trans Hob.out)
      have hlb8 : W8.heap[w5.heap.size]? = some (.cells #[.map (some W4.heap.size)] 139 (0, 0)) := by rw [hW8]; exact (Below.heap_alloc _ _ _ (by simp; omega)).trans ((Below.heap_alloc _ _ _ (by omega)).trans Hlb.out)
      have hown8 : W8.ownsMap Try.prog 2 pairElem W4.heap.size n (lowsD qs n) := by rw [hW8]; exact (Hown7.out.alloc _).alloc _
      have hrec8 : W8.heap[W6.heap.size + 1]? = some (.loop r) := by rw [hW8]; exact (Below.heap_alloc _ _ _ (by simp; omega)).trans ((Below.heap_alloc _ _ _ (by omega)).trans Hrec.out)
      have hkp8 : KeepP [w5.heap.size + 1, lb] W6.heap.size (2 + 0) W7 W8 := by
        rw [hW8]
        refine ⟨by simp; omega, fun q hq => ?_⟩
        have hq2 : q < W7.heap.size := by
          rcases hq with h | h
          · simp at h
            omega
          · omega
        exact (Below.heap_alloc _ _ _ (by simp; omega)).trans (Below.heap_alloc _ _ _ hq2)
      have HG8 : Hid (GwW w W8 (64 + 64 * k) (fun x => wrap64 (u x)) [w.heap.size + 3]) := hid (by rw [hW8]; exact (HG.out.alloc _).alloc _)
      rw [← hW8]
      clear hW8 p0 q7
      refine wpIn_rangeFunc_PN rfl hrec8 (by decide) (gf := 192) (lb := #[.pointer (some ⟨bx + 1, 0, none⟩), .pointer (some ⟨bx + 1 + 1, 0, none⟩)]) rfl trivial (enters_of Try.func192 (by kernel_rfl) rfl)
        ((steps_P 17 (by decide) (bx + 1) (bx + 1 + 1) W4.heap.size n n qs x W8 hbm8 hbx8 hown8 HD.out HH.out Hwx.out).inRound _) (by simp) (Below.refl _ _) (fun _ => rfl)
        (fun pre2 W' => (∃ u, GwW w W' (64 + 64 * k + pre2.length) (fun x => wrap64 (u x)) [w.heap.size + 3] ∧ ∀ a, totW (wtK qs n a k) u = wsum qs n (b : Int) a + u x * (pre2.map fun z => gw qs n a (z.val : Int)).sum) ∧ W'.heap[bx]? = some (.cells #[.int .i64 x, .int .i64 y] 49 (0, 0)) ∧ W'.heap[w5.heap.size]? = some (.cells #[.map (some W4.heap.size)] 139 (0, 0)) ∧ W'.ownsMap Try.prog 2 pairElem W4.heap.size n (lowsD qs n) ∧ KeepP [w5.heap.size + 1, lb] W6.heap.size (2 + 0) W7 W')
        (fun _ _ _ => False)
        (OwnIn.and (fun s A B row ⟨u, h1, h2⟩ hg hr => ⟨u, gw_ownIn (β := Unit) (N := fun _ => 64 + 64 * k + s.length) (f := fun _ x => wrap64 (u x)) (by omega) (by intro D hD; simp at hD; omega) () A B row h1 hg hr, h2⟩) (OwnIn.and (ownIn_block (β := List (Fin 64)) (fun _ => _) (by omega)) (OwnIn.and (ownIn_block (β := List (Fin 64)) (fun _ => _) (by omega)) (OwnIn.and (lows_ownIn (by omega)) (keepB_ownIn (by omega) (by simp; omega) (by omega) (by simp; omega))))))
        (fun _ => ownIn_pure _ _ _)
        ⟨⟨u, HG8.out, fun a => by rw [HT.out a]; simp⟩, hob8, hlb8, hown8, hkp8⟩
        (fun z => { tmps := List.toArray ((.slice a1 n cap1) :: (.int .i64 (b : Int)) :: (undef) :: (undef) :: (.map none) :: (.pointer (some ⟨w.heap.size + 1, 0, none⟩)) :: (undef) :: (.pointer (some ⟨w5.heap.size, 0, none⟩)) :: (undef) :: (.pointer (some ⟨bx, 0, none⟩)) :: (.int .i64 (z.val : Int)) :: (.map (some w.heap.size)) :: (.int .i64 (b : Int)) :: (.func (.func 208) #[] #[.pointer (some ⟨w.heap.size + 1 + 1, 0, none⟩)]) :: (undef) :: (undef) :: (undef) :: (.slice a1 n cap1) :: (.map (some W4.heap.size)) :: (.slice a1 n cap1) :: (.func (.func 191) #[] #[.pointer (some ⟨w5.heap.size + 1, 0, none⟩)]) :: (.int .i64 (i : Int)) :: (.agg #[.int .i64 x, .int .i64 y]) :: (.map (some W4.heap.size)) :: (.pointer (some ⟨bx, 0, none⟩)) :: (.int .i64 x) :: (.func (.func 192) #[] #[.pointer (some ⟨bx + 1, 0, none⟩), .pointer (some ⟨bx + 1 + 1, 0, none⟩)]) :: (.int .i64 (z.val : Int)) :: (undef) :: (undef) :: (undef) :: (undef) :: (undef) :: (undef) :: (undef) :: (undef) :: (undef) :: []), defers := [] }) ?assign3 ?body3 ?done3 ?stop3
      case assign3 =>
        intro l z W9 K hK
        gi_wp2
        exact hK
      case body3 =>
        rintro l pre2 z W9 hpre2 hsz9 ⟨⟨u2, hS, hT2⟩, hob9, hlb9, hown9, hkp9⟩
        have hzw : (Lit.int .i64 (z.val : Int)).wf = true := WalkArith.wf_i64 (by have := z.isLt; omega)
        have Hzn : Hid ((z.val : Int) ∈ nextL qs n x) := hid ((mem_stepsF HH.out x _).1 ⟨z, hpre2.subset (by simp), rfl⟩)
        have hpl : pre2.length + 1 ≤ 6 := by
          have h1 := hpre2.length_le
          have h2 := steps_few qs n x
          simp at h1
          omega
        obtain ⟨p0, _, _, _⟩ := two_of hob9
        have q1 : W9.cell? ⟨w.heap.size + 1, 0, none⟩ = some (.map (some w.heap.size)) := (box_cell hS.b1).1
        have hlk1 := hS.cnt.lookup Hwx.out
        have hlk2 := hS.cnt.lookup hzw
        obtain ⟨cx, hcx⟩ : ∃ c, c = wrap64 (u2 x) := ⟨_, rfl⟩
        obtain ⟨cz, hcz⟩ : ∃ c, c = wrap64 (u2 (z.val : Int)) := ⟨_, rfl⟩
        obtain ⟨W5, hrun5, hc5, hg5, hs5⟩ := hS.cnt.update (show 64 + 64 * k + pre2.length < maxLen by unfold maxLen; omega) hzw (wf_wrap (cz + cx))
        have hf5 : (fun q => if q = (z.val : Int) then wrap64 (cz + cx) else wrap64 (u2 q)) = fun q => wrap64 ((fun q => if q = (z.val : Int) then u2 (z.val : Int) + u2 x else u2 q) q) := by
          funext q
          by_cases e : q = (z.val : Int)
          · simp only [if_pos e]
            rw [hcx, hcz, wrap64_add]
          · simp only [if_neg e]
        rw [hf5] at hc5
        have hS5 := hS.put hc5 hg5
        rw [← hcx] at hlk1
        rw [← hcz] at hlk2
        have HS5 := hid hS5
        have Hg5 := hid hg5
        have Hob5 := hid ((hg5.block _ (lt_of_get hob9) (fun e => by injection e with e; omega)).trans hob9)
        have Hlb5 := hid ((hg5.block _ (lt_of_get hlb9) (fun e => by injection e with e; omega)).trans hlb9)
        have Hown5 := hid (hown9.kept hg5 (fun e => by injection e with e; omega))
        have hsk := hkp9.size
        have Hkp5 : Hid (KeepP [w5.heap.size + 1, lb] W6.heap.size (2 + 0) W7 W5) := hid (hkp9.trans (KeepP.of_grownBy hg5 (by simp; omega) (by omega) (fun j e => by injection e with e; subst e; simp; omega)))
        have HT2 := hid hT2
        clear hS hob9 hlb9 hown9 hkp9 hS5 hc5 hg5 hcx hcz hf5 hzw hT2 hbm8 hbx8 hob8 hlb8 hown8 hrec8 hkp8
        gi_wp2
        refine ⟨⟨Hg5.out.size, fun r hr => ?_⟩, ⟨_, ?_, fun a => totW_next HO.out HH.out a hkn Hxi.out Hzn.out (HT2.out a)⟩, Hob5.out, Hlb5.out, Hown5.out, (by have h := Hkp5.out; rw [hs6] at h; exact h)⟩
        · rcases hr with h | h
          · simp at h
          · exact Hg5.out.block r (by omega) (fun e => by injection e with e; omega)
        · have e : 64 + 64 * k + (pre2 ++ [z]).length = 64 + 64 * k + pre2.length + 1 := by simp; omega
          rw [e]
          exact HS5.out
      case stop3 =>
        rintro c pre2 W9 hpre hF
        exact hF.elim
      case done3 =>
        rintro W9 ⟨⟨u2, hS, hT2⟩, hob9, hlb9, hown9, hkp9⟩
        have HS9 := hid (hS.mono (show 64 + 64 * k + (stepsF qs n x).length ≤ 64 + 64 * (pre ++ [i]).length by have := steps_few qs n x; have := Hk.out; simp; omega))
        have HT3 : Hid (∀ a, totW (wtK qs n a (pre ++ [i]).length) u2 = wsum qs n (b : Int) a) := hid (fun a => by
          rw [show (pre ++ [i]).length = k + 1 by rw [Hk.out]; simp]
          exact totW_round HO.out HH.out HD.out a hkn Hxi.out Hx64.out (hT2 a))
        have Hlb9 := hid hlb9
        have Hown9 := hid hown9
        have Hkp9 := hid hkp9
        clear hS hT2 hob9 hlb9 hown9 hkp9 hbm8 hbx8 hob8 hlb8 hown8 hrec8 hkp8
        gi_wp2
        exact ⟨Hkp9.out, ⟨u2, HS9.out, HT3.out⟩, Hlb9.out, Hown9.out⟩
    case stop2 =>
      rintro c pre W7 hpre hF hD7
      exact hF.elim
    case done2 =>
      rintro W7 ⟨⟨u, hG, hT⟩, hlb, hown7⟩ hD7
      rw [downL_len] at hG hT
      have hG7 := hG.mark hD7 (by omega) (by simp; omega)
      have c5 : W7.cell? ⟨w.heap.size + 1, 0, none⟩ = some (.map (some w.heap.size)) := (box_cell hG7.b1).1
      have HG7 := hid hG7
      have HT := hid hT
      clear hG hT hlb hown7 hD7 hG7 HG6 hlb6 hown6 hsb6 hcl
      gi_wp2
      refine leaves_marks (by simp) [_, _] _ HG7.out.nodup (fun D hD => (HG7.out.marks D hD).2) (fun w' hw' => ?_)
      refine ⟨_, results_tmp rfl _ _ _, _, _, rfl, HG7.out.cnt.same (hw'.block _ (fun hm => by have := (HG7.out.marks _ hm).1; omega)), fun a h0 h1 => ?_, HG7.out.below.trans (hw'.below (fun D hD => by have := (HG7.out.marks D hD).1; omega))⟩
      exact congrArg wrap64 (wsum_end ⟨h0, h1⟩ (HT.out a))

end Go.Proofs.Ytplcbiconfpmlaa

/-! acyclicCode, the program's. -/
namespace Go.Proofs.Ytplcbiconfpmlaa
open Go.RowKit

attribute [local go_sem] Oper.semAt_some

noncomputable def acodeR (V : Int) (fs : List Int) (n : Nat) (ps : List Int) (s : Bool) : Int := if pcodeR V fs n ps = 0 then (if s then (if acyB ps n then 0 else 5) else 2) else pcodeR V fs n ps

set_option maxRecDepth 1000000 in
set_option maxHeartbeats 2000000 in
theorem acode_any (V : Int) (a0 : Option Addr) (cap : Nat) (fs : List Int) (a1 : Option Addr) (n cap1 : Nat) (ps : List Int) (s : Bool) (w : World) (hx : SlI w w.heap.size a0 fs) (hx1 : SlI w w.heap.size a1 ps) (hl : fs.length ≤ 1048576) (hp : ps.length = 2 * n) (hn : n ≤ 1048576) (hw : ∀ x ∈ ps, (Lit.int .i64 x).wf = true) :
    Calls Try.prog 65 #[.agg #[.int .i64 V, .slice a0 fs.length cap], .slice a1 n cap1, .bool s] w fun e w' => e = .returned (.int .i64 (acodeR V fs n ps s)) ∧ Below w.heap.size w w' := by
  have hB0 : Below w.heap.size w (w.alloc (.cells #[.int .i64 V, .slice a0 fs.length cap] 28)) := (Below.refl _ w).alloc (Nat.le_refl _) _
  have HK := hid (pcode_impl V a0 cap fs a1 n cap1 ps _ (hx.later hB0 hB0.size) (hx1.later hB0 hB0.size) hl hp hn hw)
  have HB0 := hid hB0
  obtain ⟨E, hE⟩ : ∃ E, E = acodeR V fs n ps s := ⟨_, rfl⟩
  rw [← hE]
  by_cases hpc : pcodeR V fs n ps = 0
  · have hCO : IsC V fs ∧ OkTo fs ps n := by
      rcases pcode_cases V fs n ps with ⟨hC, ho, _⟩ | ⟨_, _, h2, _⟩ | ⟨_, h2, _⟩
      · exact ⟨hC, ho⟩
      · rw [h2] at hpc; cases hpc
      · rw [h2] at hpc; cases hpc
    have hE1 : E = if s then (if acyB ps n then 0 else 5) else 2 := by rw [hE, acodeR, if_pos hpc]
    rw [hpc] at HK
    have HA := hid (fun w1 (h : Below w.heap.size w w1) => isAcy_any a1 n cap1 ps w1 (hx1.later h h.size) hp hn hw (okTo_apart hCO.2) (okTo_highs hCO.1 hCO.2))
    clear hx hx1 hp hw hpc hCO hE hB0
    cases s
    · have He : Hid (E = 2) := hid (by rw [hE1]; simp)
      clear hE1
      go_enter Try.func65, Try.ntmps65
      go_wp2_with fail
      refine HK.out.mono ?_
      rintro e w1 ⟨rfl, hB1⟩
      go_wp2_with fail
      go_ret
      exact ⟨ret_int (by rw [He.out]), HB0.out.trans (hB1.mono (by simp))⟩
    · cases hac : acyB ps n
      · have He : Hid (E = 5) := hid (by rw [hE1, hac]; simp)
        rw [hac] at HA
        clear hE1 hac
        go_enter Try.func65, Try.ntmps65
        go_wp2_with fail
        refine HK.out.mono ?_
        rintro e w1 ⟨rfl, hB1⟩
        have HB1 := hid (HB0.out.trans (hB1.mono (by simp)))
        clear hB1
        go_wp2_with fail
        refine (HA.out w1 HB1.out).mono ?_
        rintro e w2 ⟨rfl, hB2⟩
        go_wp2_with fail
        go_ret
        exact ⟨ret_int (by rw [He.out]), HB1.out.trans (hB2.mono HB1.out.size)⟩
      · have He : Hid (E = 0) := hid (by rw [hE1, hac]; simp)
        rw [hac] at HA
        clear hE1 hac
        go_enter Try.func65, Try.ntmps65
        go_wp2_with fail
        refine HK.out.mono ?_
        rintro e w1 ⟨rfl, hB1⟩
        have HB1 := hid (HB0.out.trans (hB1.mono (by simp)))
        clear hB1
        go_wp2_with fail
        refine (HA.out w1 HB1.out).mono ?_
        rintro e w2 ⟨rfl, hB2⟩
        go_wp2_with fail
        go_ret
        exact ⟨ret_int (by rw [He.out]), HB1.out.trans (hB2.mono HB1.out.size)⟩
  · have hE1 : E = pcodeR V fs n ps := by rw [hE, acodeR, if_neg hpc]
    rw [← hE1] at hpc HK
    have hcn : (E != 0) = true := by simpa using hpc
    clear hx hx1 hp hw hpc hE hE1 hB0
    go_enter Try.func65, Try.ntmps65
    go_wp2_with fail
    refine HK.out.mono ?_
    rintro e w1 ⟨rfl, hB1⟩
    go_wp2_with fail
    go_ret
    exact ⟨rfl, HB0.out.trans (hB1.mono (by simp))⟩

/-- The settled pairs in their order make the same steps. -/
theorem at_flat {ps : List Int} {L : List Nat} {k : Nat} (hk : k < L.length) : at0 (flatP (setP ps L)) (k * 2) = at0 ps (L[k] * 2) ∧ at0 (flatP (setP ps L)) (k * 2 + 1) = at0 ps (L[k] * 2 + 1) := by
  have hat := flatP_at (setP ps L) k (by rw [setP_len]; exact hk)
  have hpk : (setP ps L)[k]?.getD (0, 0) = pairAt ps L[k] := by
    unfold setP
    rw [List.getElem?_map, List.getElem?_eq_getElem hk]
    rfl
  rw [hpk] at hat
  exact hat
theorem flat_apart {ps : List Int} {n : Nat} {L : List Nat} (hd : LowsApart ps n) (hS : Stl ps n L) : LowsApart (flatP (setP ps L)) L.length := by
  intro i j hij hj
  rw [(at_flat (show i < L.length by omega)).1, (at_flat hj).1]
  intro e
  have h1 := lows_inj hd (hS.lt _ (List.getElem_mem (show i < L.length by omega))) (hS.lt _ (List.getElem_mem hj)) e
  exact (List.pairwise_iff_getElem.1 hS.nodup) i j (by omega) hj hij h1
theorem flat_high {ps : List Int} {n : Nat} {L : List Nat} (hd : LowsApart ps n) (hS : Stl ps n L) (hall : ∀ i, i < n → i ∈ L) (a : Int) : highOf (flatP (setP ps L)) L.length a = highOf ps n a := by
  by_cases hex : ∃ i, i < n ∧ at0 ps (i * 2) = a
  · obtain ⟨i, hi, hia⟩ := hex
    rw [highOf_some hi hia (fun j hj e => hd j i hj hi (e.trans hia.symm))]
    obtain ⟨k, hk, hki⟩ := List.getElem_of_mem (hall i hi)
    have h1 := (at_flat (ps := ps) hk).1
    rw [hki, hia] at h1
    rw [highOf_some hk h1 (fun j hj e => flat_apart hd hS j k hj hk (e.trans h1.symm)), (at_flat hk).2, hki]
  · rw [highOf_none (fun i hi e => hex ⟨i, hi, e⟩), highOf_none]
    intro k hk e
    rw [(at_flat hk).1] at e
    exact hex ⟨L[k], hS.lt _ (List.getElem_mem hk), e⟩
theorem flat_next {ps : List Int} {n : Nat} {L : List Nat} (hd : LowsApart ps n) (hS : Stl ps n L) (hall : ∀ i, i < n → i ∈ L) (a : Int) : nextL (flatP (setP ps L)) L.length a = nextL ps n a := by
  unfold nextL
  rw [flat_high hd hS hall]
theorem flat_highs {ps : List Int} {n : Nat} {L : List Nat} (hd : LowsApart ps n) (hh : HighsB ps n) (hS : Stl ps n L) (hall : ∀ i, i < n → i ∈ L) : HighsB (flatP (setP ps L)) L.length := fun a => by
  rw [flat_high hd hS hall]
  exact hh a

theorem flat_ord {ps : List Int} {n : Nat} {L : List Nat} (hd : LowsApart ps n) (hS : Stl ps n L) (hall : ∀ i, i < n → i ∈ L) : OrdQ (flatP (setP ps L)) L.length := by
  intro i j hi hj hs
  unfold StepP at hs
  rw [flat_next hd hS hall, (at_flat hi).1, (at_flat hj).1] at hs
  have hm : L[j] ∈ L.take i := hS.ord (L.take i) L[i] (L.drop (i + 1)) (by rw [← List.drop_eq_getElem_cons hi, List.take_append_drop]) L[j] (hS.lt _ (List.getElem_mem hj)) hs
  obtain ⟨m, hm1, hm2⟩ := List.getElem_of_mem hm
  simp at hm1
  rw [List.getElem_take] at hm2
  by_cases h : j < i
  · exact h
  · exact absurd hm2 ((List.pairwise_iff_getElem.1 hS.nodup) m j (by omega) hj (by omega))
theorem flat_gwN {ps : List Int} {n : Nat} {L : List Nat} (hd : LowsApart ps n) (hS : Stl ps n L) (hall : ∀ i, i < n → i ∈ L) (b : Int) : ∀ (f : Nat) (a : Int), gwN (flatP (setP ps L)) L.length b f a = gwN ps n b f a
  | 0, _ => rfl
  | f + 1, a => by
    unfold gwN
    rw [flat_next hd hS hall]
    congr 2
    exact List.map_congr_left (fun y _ => flat_gwN hd hS hall b f y)
theorem flat_wsum {ps : List Int} {n : Nat} {L : List Nat} (hd : LowsApart ps n) (hS : Stl ps n L) (hall : ∀ i, i < n → i ∈ L) (hn : L.length = n) (b a : Int) : wsum (flatP (setP ps L)) L.length b a = wsum ps n b a := by
  unfold wsum gw
  congr 1
  refine List.map_congr_left (fun y _ => ?_)
  rw [flat_gwN hd hS hall, hn]
theorem flat_wf {ps : List Int} {n : Nat} {L : List Nat} (hp : ps.length = 2 * n) (hw : ∀ x ∈ ps, (Lit.int .i64 x).wf = true) (hS : Stl ps n L) : ∀ x ∈ flatP (setP ps L), (Lit.int .i64 x).wf = true := by
  intro x hx
  unfold flatP at hx
  obtain ⟨q, hq, h⟩ := List.mem_flatMap.1 hx
  have := wf_setP hp hw hS.lt q hq
  simp at h
  rcases h with rfl | rfl
  · exact this.1
  · exact this.2

end Go.Proofs.Ytplcbiconfpmlaa

/-! l02Ways: the model's number of ways. -/
namespace Go.Proofs.Ytplcbiconfpmlaa
open Go.RowKit

/-- The first k steps' ways, and the one without steps. -/
def gwPart (ps : List Int) (n : Nat) (b a : Int) (k : Nat) : Int := (if a = b then 1 else 0) + (((nextL ps n a).take k).map (gw ps n b)).sum
theorem gwPart_zero (ps : List Int) (n : Nat) (b a : Int) : gwPart ps n b a 0 = if a = b then 1 else 0 := by simp [gwPart]
theorem gwPart_succ {ps : List Int} {n : Nat} {b a : Int} {k : Nat} (hk : k < (nextL ps n a).length) : gwPart ps n b a (k + 1) = gwPart ps n b a k + gw ps n b ((nextL ps n a)[k]?.getD 0) := by
  unfold gwPart
  rw [List.take_add_one, List.getElem?_eq_getElem hk]
  simp only [Option.toList_some, List.map_append, List.map_cons, List.map_nil, List.sum_append, List.sum_cons, List.sum_nil, Option.getD_some, Int.add_zero, Int.add_assoc]
theorem gwPart_all {ps : List Int} {n : Nat} (hc : NoCycle ps n) (b a : Int) : gwPart ps n b a (nextL ps n a).length = gw ps n b a := by
  rw [gw_step hc, gwPart, List.take_length]

set_option maxRecDepth 1000000 in
set_option maxHeartbeats 2000000 in
theorem ways_round (a1 : Option Addr) (n cap : Nat) (ps : List Int) (b a : Int) (w : World) (hx : SlI w w.heap.size a1 ps) (hp : ps.length = 2 * n) (hl : n ≤ 1048576) (hh : HighsB ps n) (hc : NoCycle ps n)
    (H : ∀ y ∈ nextL ps n a, ∀ w', Below w.heap.size w w' → Calls Try.prog 85 #[.slice a1 n cap, .int .i64 y, .int .i64 b] w' fun e w'' => e = .returned (.int .i64 (wrap64 (gw ps n b y))) ∧ Below w'.heap.size w' w'') :
    Calls Try.prog 85 #[.slice a1 n cap, .int .i64 a, .int .i64 b] w fun e w' => e = .returned (.int .i64 (wrap64 (gw ps n b a))) ∧ Below w.heap.size w w' := by
  have HN := hid (next_any a1 n cap ps a w hx hp hl (hh a))
  obtain ⟨E, hE⟩ : ∃ E, E = gw ps n b a := ⟨_, rfl⟩
  rw [← hE]
  have HE := hid (hE.trans (gwPart_all hc b a).symm)
  obtain ⟨d, hd⟩ : ∃ d, (a == b) = d := ⟨_, rfl⟩
  have hst : Hid ((if d then 1 else 0 : Int) = wrap64 (gwPart ps n b a 0)) := hid (by
    rw [gwPart_zero, ← hd]
    by_cases e : a = b
    · simp [e, wrap64]
    · simp [e, wrap64])
  obtain ⟨m, hm⟩ : ∃ m, m = (nextL ps n a).length := ⟨_, rfl⟩
  have hml : m ≤ 63 := by rw [hm]; exact nextL_len ps n a
  have HH := hid H
  have Hm := hid hm
  rw [← hm] at HN HE
  clear hx hp hh hc H hE hm
  cases d
  · go_enter Try.func85, Try.ntmps85
    go_wp2_with fail
    refine HN.out.mono ?_
    rintro e w1 ⟨g, c, rfl, hR⟩
    obtain ⟨hgb, av, cv, hve, hs⟩ := ownsRow_slI hR.1
    injection hve with hve1 hve2 hve3
    clear hve2 hve3
    subst hve1
    have HS := hid hs
    have HB1 := hid hR.2
    clear hR hs hgb
    go_wp2_with fail
    go_loopw [7, 9] (fun t i wr => ∃ k : Nat, k ≤ m ∧ i = .int .i64 k ∧ t = .int .i64 (wrap64 (gwPart ps n b a k)) ∧ Below w1.heap.size w1 wr) (fun _ i _ => m - (intOf i).toNat)
    case atStart => exact ⟨0, Nat.zero_le _, rfl, by rw [← hst.out]; rfl, Below.refl _ _⟩
    case round =>
      obtain ⟨k, hk, rfl, rfl, hB⟩ := hrel
      by_cases hlt : k < m
      · obtain ⟨y, hy⟩ : ∃ y, y = (nextL ps n a)[k]?.getD 0 := ⟨_, rfl⟩
        obtain ⟨hgb, hcell⟩ : g < w1.heap.size ∧ wr.cell? ⟨g, k, none⟩ = some (.int .i64 y) := by
          rw [show k = 0 + k by omega]
          rcases HS.out with h | ⟨b', o', hb', e', h'⟩
          · have := Hm.out; rw [h] at this; simp at this; omega
          · injection e' with e'
            injection e' with e1 e2
            subst e1
            subst e2
            have h2 := h' k (by have := Hm.out; omega)
            rw [← hy] at h2
            exact ⟨hb', (hB.cell (p := ⟨g, 0 + k, none⟩) hb').trans h2⟩
        have hym : y ∈ nextL ps n a := by rw [hy]; exact getD_mem (by have := Hm.out; omega)
        have HC := hid (HH.out y hym wr (HB1.out.trans (hB.mono HB1.out.size)))
        have hsum : Hid (wrap64 (wrap64 (gwPart ps n b a k) + wrap64 (gw ps n b y)) = wrap64 (gwPart ps n b a (k + 1))) := hid (by rw [wrap64_add, gwPart_succ (by have := Hm.out; omega), ← hy])
        have hi0 : (0 : Int) ≤ (k : Int) := by omega
        have hi1 : (k : Int) < (m : Int) := by omega
        have HB := hid hB
        clear hy hym hB
        go_wp2_with fail
        refine HC.out.mono ?_
        rintro e w2 ⟨rfl, hB2⟩
        have HB2 := hid (HB.out.trans (hB2.mono HB.out.size))
        clear hB2
        go_wp2_with fail
        go_roundw
        case rel => exact ⟨k + 1, by omega, by go_num, by first | exact congrArg (Value.int .i64) hsum.out | (rw [← hsum.out]; done), HB2.out⟩
        case measure => simp [intOf]; omega
      · obtain rfl : k = m := by omega
        go_wp2_with fail
        go_ret
        exact ⟨ret_int (by rw [HE.out]), HB1.out.trans (hB.mono HB1.out.size)⟩
  · go_enter Try.func85, Try.ntmps85
    go_wp2_with fail
    refine HN.out.mono ?_
    rintro e w1 ⟨g, c, rfl, hR⟩
    obtain ⟨hgb, av, cv, hve, hs⟩ := ownsRow_slI hR.1
    injection hve with hve1 hve2 hve3
    clear hve2 hve3
    subst hve1
    have HS := hid hs
    have HB1 := hid hR.2
    clear hR hs hgb
    go_wp2_with fail
    go_loopw [7, 9] (fun t i wr => ∃ k : Nat, k ≤ m ∧ i = .int .i64 k ∧ t = .int .i64 (wrap64 (gwPart ps n b a k)) ∧ Below w1.heap.size w1 wr) (fun _ i _ => m - (intOf i).toNat)
    case atStart => exact ⟨0, Nat.zero_le _, rfl, by rw [← hst.out]; rfl, Below.refl _ _⟩
    case round =>
      obtain ⟨k, hk, rfl, rfl, hB⟩ := hrel
      by_cases hlt : k < m
      · obtain ⟨y, hy⟩ : ∃ y, y = (nextL ps n a)[k]?.getD 0 := ⟨_, rfl⟩
        obtain ⟨hgb, hcell⟩ : g < w1.heap.size ∧ wr.cell? ⟨g, k, none⟩ = some (.int .i64 y) := by
          rw [show k = 0 + k by omega]
          rcases HS.out with h | ⟨b', o', hb', e', h'⟩
          · have := Hm.out; rw [h] at this; simp at this; omega
          · injection e' with e'
            injection e' with e1 e2
            subst e1
            subst e2
            have h2 := h' k (by have := Hm.out; omega)
            rw [← hy] at h2
            exact ⟨hb', (hB.cell (p := ⟨g, 0 + k, none⟩) hb').trans h2⟩
        have hym : y ∈ nextL ps n a := by rw [hy]; exact getD_mem (by have := Hm.out; omega)
        have HC := hid (HH.out y hym wr (HB1.out.trans (hB.mono HB1.out.size)))
        have hsum : Hid (wrap64 (wrap64 (gwPart ps n b a k) + wrap64 (gw ps n b y)) = wrap64 (gwPart ps n b a (k + 1))) := hid (by rw [wrap64_add, gwPart_succ (by have := Hm.out; omega), ← hy])
        have hi0 : (0 : Int) ≤ (k : Int) := by omega
        have hi1 : (k : Int) < (m : Int) := by omega
        have HB := hid hB
        clear hy hym hB
        go_wp2_with fail
        refine HC.out.mono ?_
        rintro e w2 ⟨rfl, hB2⟩
        have HB2 := hid (HB.out.trans (hB2.mono HB.out.size))
        clear hB2
        go_wp2_with fail
        go_roundw
        case rel => exact ⟨k + 1, by omega, by go_num, by first | exact congrArg (Value.int .i64) hsum.out | (rw [← hsum.out]; done), HB2.out⟩
        case measure => simp [intOf]; omega
      · obtain rfl : k = m := by omega
        go_wp2_with fail
        go_ret
        exact ⟨ret_int (by rw [HE.out]), HB1.out.trans (hB.mono HB1.out.size)⟩

theorem ways_upto (a1 : Option Addr) (n cap : Nat) (ps : List Int) (b : Int) (hp : ps.length = 2 * n) (hl : n ≤ 1048576) (hh : HighsB ps n) (hc : NoCycle ps n) : ∀ (m : Nat) (a : Int) (w : World), SlI w w.heap.size a1 ps → (∀ i, i < n → at0 ps (i * 2) = a → rkP ps n i < m) →
    Calls Try.prog 85 #[.slice a1 n cap, .int .i64 a, .int .i64 b] w fun e w' => e = .returned (.int .i64 (wrap64 (gw ps n b a))) ∧ Below w.heap.size w w'
  | 0, a, w, hx, hr => ways_round a1 n cap ps b a w hx hp hl hh hc (fun y hy => by
    obtain ⟨i, hi, e⟩ := next_low hy
    exact absurd (hr i hi e) (Nat.not_lt_zero _))
  | m + 1, a, w, hx, hr => ways_round a1 n cap ps b a w hx hp hl hh hc (fun y hy w' hb => ways_upto a1 n cap ps b hp hl hh hc m y w' (hx.later hb hb.size) (fun j hj e => by
    obtain ⟨i, hi, e2⟩ := next_low hy
    have h1 := hr i hi e2
    have h2 := rkP_lt hc hj (show StepP ps n i j by unfold StepP; rw [e, e2]; exact hy)
    omega))
/-- The model's number of ways. -/
theorem ways_any (a1 : Option Addr) (n cap : Nat) (ps : List Int) (b a : Int) (w : World) (hx : SlI w w.heap.size a1 ps) (hp : ps.length = 2 * n) (hl : n ≤ 1048576) (hh : HighsB ps n) (hc : NoCycle ps n) :
    Calls Try.prog 85 #[.slice a1 n cap, .int .i64 a, .int .i64 b] w fun e w' => e = .returned (.int .i64 (wrap64 (gw ps n b a))) ∧ Below w.heap.size w w' :=
  ways_upto a1 n cap ps b hp hl hh hc (n + 1) a w hx (fun i _ _ => by have := rkP_le ps n i; omega)

end Go.Proofs.Ytplcbiconfpmlaa

/-! CountGradientWays: the model's doors. -/
namespace Go.Proofs.Ytplcbiconfpmlaa
open Go.RowKit

noncomputable def code2R (V : Int) (fs : List Int) (n : Nat) (ps : List Int) (a b : Int) : Int := if pcodeR V fs n ps = 0 then (if a ∈ fs ∧ b ∈ fs then 0 else 2) else pcodeR V fs n ps
noncomputable def countWaysR (V : Int) (fs : List Int) (n : Nat) (ps : List Int) (a b : Int) : Int × Int := if code2R V fs n ps a b = 0 then (if acyB ps n then (wrap64 (gw ps n b a), 0) else (0, 5)) else (0, code2R V fs n ps a b)

set_option maxRecDepth 1000000 in
set_option maxHeartbeats 2000000 in
theorem code2_spec (V : Int) (a0 : Option Addr) (cap : Nat) (fs : List Int) (a1 : Option Addr) (n cap1 : Nat) (ps : List Int) (a b : Int) (bf : Nat) (w : World) (hx : SlI w w.heap.size a0 fs) (hx1 : SlI w w.heap.size a1 ps) (hl : fs.length ≤ 1048576) (hp : ps.length = 2 * n) (hn : n ≤ 1048576)
    (hbf : bf < w.heap.size) (hcf : w.cell? ⟨bf, 0, none⟩ = some (.int .i64 a)) (hcg : w.cell? ⟨bf, 1, none⟩ = some (.int .i64 b)) :
    Calls Try.prog 74 #[.agg #[.int .i64 V, .slice a0 fs.length cap], .slice a1 n cap1, .slice (some ⟨bf, 0, none⟩) 2 2] w fun e w' => e = .returned (.int .i64 (code2R V fs n ps a b)) ∧ Below w.heap.size w w' := by
  have hB0 : Below w.heap.size w (w.alloc (.cells #[.int .i64 V, .slice a0 fs.length cap] 28)) := (Below.refl _ w).alloc (Nat.le_refl _) _
  have Hx := hid (hx.later hB0 hB0.size)
  have Hx0 := hid hx
  have Hy := hid hx1
  clear hx hx1
  obtain ⟨E, hE⟩ : ∃ E, E = code2R V fs n ps a b := ⟨_, rfl⟩
  rw [← hE]
  rcases pcode_cases V fs n ps with ⟨hC, _, h0, _, h1⟩ | ⟨hC, _, h0, _, h1⟩ | ⟨hC, h0, _⟩
  · have HC := hid hC
    have hE1 : E = if a ∈ fs ∧ b ∈ fs then 0 else 2 := by rw [hE, code2R, if_pos h0]
    clear hC h0 hE
    go_enter Try.func74, Try.ntmps74
    go_wp2_with fail
    refine (is_yes V a0 cap fs _ Hx.out hl HC.out).mono ?_
    rintro e w1 ⟨rfl, hB1⟩
    have HB1 := hid (hB0.trans (hB1.mono (by simp)))
    have k0 : w1.cell? ⟨w.heap.size, 0, none⟩ = some (.int .i64 V) := (hB1.cell (p := ⟨w.heap.size, 0, none⟩) (by simp)).trans (by simp [go_sem])
    have k1 : w1.cell? ⟨w.heap.size, 1, none⟩ = some (.slice a0 fs.length cap) := (hB1.cell (p := ⟨w.heap.size, 1, none⟩) (by simp)).trans (by simp [go_sem])
    have hs1 : w.heap.size < w1.heap.size := by have := hB1.size; simp at this; omega
    have HI := hid (pis_any V a0 cap fs a1 n cap1 ps w1 (Hx0.out.later HB1.out HB1.out.size) (Hy.out.later HB1.out HB1.out.size) hl HC.out.range63 hp hn)
    rw [h1] at HI
    clear hB0 hB1 h1 hp
    go_wp2_with fail
    refine HI.out.mono ?_
    rintro e w2 ⟨rfl, hB2⟩
    have n0 : w2.cell? ⟨w.heap.size, 0, none⟩ = some (.int .i64 V) := (hB2.cell (p := ⟨w.heap.size, 0, none⟩) hs1).trans k0
    have n1 : w2.cell? ⟨w.heap.size, 1, none⟩ = some (.slice a0 fs.length cap) := (hB2.cell (p := ⟨w.heap.size, 1, none⟩) hs1).trans k1
    have HB2 := hid (HB1.out.trans (hB2.mono HB1.out.size))
    have n2 : w2.cell? ⟨bf, 0, none⟩ = some (.int .i64 a) := (HB2.out.cell (p := ⟨bf, 0, none⟩) hbf).trans hcf
    have n3 : w2.cell? ⟨bf, 1, none⟩ = some (.int .i64 b) := (HB2.out.cell (p := ⟨bf, 1, none⟩) hbf).trans hcg
    have hs2 : w.heap.size < w2.heap.size := Nat.lt_of_lt_of_le hs1 hB2.size
    have HB2d : Hid (Below w.heap.size w w2.drew) := hid (HB2.out.trans ⟨rfl, rfl, rfl, Nat.le_refl _, fun _ _ => rfl⟩)
    clear hB2 k0 k1 hcf hcg
    have hbf2 := hbf
    by_cases ha : a ∈ fs
    · have HA := hid (has_yes V a a0 cap fs w2.drew (Hx0.out.later HB2d.out HB2d.out.size) hl ha)
      by_cases hb : b ∈ fs
      · have He : Hid (E = 0) := hid (by rw [hE1, if_pos ⟨ha, hb⟩])
        have HBb := hid (fun w' (h : Below w.heap.size w w') => has_yes V b a0 cap fs w' (Hx0.out.later h h.size) hl hb)
        clear hE1 ha hb
        go_wp2_with fail
        refine wp_loop_rounds 3 ?_
        rw [rounds_succ]
        go_wp2_with fail
        go_region_held3 (fun w' => w'.cell? ⟨w.heap.size, 0, none⟩ = some (.int .i64 V) ∧ w'.cell? ⟨w.heap.size, 1, none⟩ = some (.slice a0 fs.length cap) ∧ w'.cell? ⟨bf, 0, none⟩ = some (.int .i64 a) ∧ w'.cell? ⟨bf, 1, none⟩ = some (.int .i64 b)) (go_keep) (first
          | (go_at_call 113; refine HA.out.mono ?_; rintro e w3 ⟨rfl, hBw3⟩; have mw30 := (hBw3.cell (p := ⟨w.heap.size, 0, none⟩) hs2).trans n0; have mw31 := (hBw3.cell (p := ⟨w.heap.size, 1, none⟩) hs2).trans n1; have mw32 := (hBw3.cell (p := ⟨bf, 0, none⟩) (Nat.lt_trans hbf2 hs2)).trans n2; have mw33 := (hBw3.cell (p := ⟨bf, 1, none⟩) (Nat.lt_trans hbf2 hs2)).trans n3; have HBw3 := hid hBw3; clear hBw3))
        all_goals
          have HB4 := hid (HB2d.out.trans (HBw3.out.mono HB2d.out.size))
          have HA4 := hid (HBb.out w3.drew (HB4.out.trans ⟨rfl, rfl, rfl, Nat.le_refl _, fun _ _ => rfl⟩))
          have HB4d : Hid (Below w.heap.size w w3.drew) := hid (HB4.out.trans ⟨rfl, rfl, rfl, Nat.le_refl _, fun _ _ => rfl⟩)
          have hs3 : w.heap.size < w3.heap.size := Nat.lt_of_lt_of_le hs2 HBw3.out.size
          clear HBw3 HBb HA
          go_wp2_with fail
          rw [rounds_succ]
          go_wp2_with fail
          go_region_held3 (fun w' => w'.cell? ⟨w.heap.size, 0, none⟩ = some (.int .i64 V) ∧ w'.cell? ⟨w.heap.size, 1, none⟩ = some (.slice a0 fs.length cap) ∧ w'.cell? ⟨bf, 0, none⟩ = some (.int .i64 a) ∧ w'.cell? ⟨bf, 1, none⟩ = some (.int .i64 b)) (go_keep) (first
            | (go_at_call 113; refine HA4.out.mono ?_; rintro e w4 ⟨rfl, hBw4⟩; have mw40 := (hBw4.cell (p := ⟨w.heap.size, 0, none⟩) hs3).trans mw30; have mw41 := (hBw4.cell (p := ⟨w.heap.size, 1, none⟩) hs3).trans mw31; have mw42 := (hBw4.cell (p := ⟨bf, 0, none⟩) (Nat.lt_trans hbf2 hs3)).trans mw32; have mw43 := (hBw4.cell (p := ⟨bf, 1, none⟩) (Nat.lt_trans hbf2 hs3)).trans mw33; have HBw4 := hid hBw4; clear hBw4))
          all_goals
            have HB5 := hid (HB4d.out.trans (HBw4.out.mono HB4d.out.size))
            go_wp2_with fail
            rw [rounds_succ]
            go_wp2_with fail
            go_ret
            exact ⟨ret_int (by rw [He.out]), HB5.out⟩
      · have He : Hid (E = 2) := hid (by rw [hE1, if_neg (fun h => hb h.2)])
        have HBb := hid (fun w' (h : Below w.heap.size w w') => has_no V b a0 cap fs w' (Hx0.out.later h h.size) hl hb)
        clear hE1 ha hb
        go_wp2_with fail
        refine wp_loop_rounds 3 ?_
        rw [rounds_succ]
        go_wp2_with fail
        go_region_held3 (fun w' => w'.cell? ⟨w.heap.size, 0, none⟩ = some (.int .i64 V) ∧ w'.cell? ⟨w.heap.size, 1, none⟩ = some (.slice a0 fs.length cap) ∧ w'.cell? ⟨bf, 0, none⟩ = some (.int .i64 a) ∧ w'.cell? ⟨bf, 1, none⟩ = some (.int .i64 b)) (go_keep) (first
          | (go_at_call 113; refine HA.out.mono ?_; rintro e w3 ⟨rfl, hBw3⟩; have mw30 := (hBw3.cell (p := ⟨w.heap.size, 0, none⟩) hs2).trans n0; have mw31 := (hBw3.cell (p := ⟨w.heap.size, 1, none⟩) hs2).trans n1; have mw32 := (hBw3.cell (p := ⟨bf, 0, none⟩) (Nat.lt_trans hbf2 hs2)).trans n2; have mw33 := (hBw3.cell (p := ⟨bf, 1, none⟩) (Nat.lt_trans hbf2 hs2)).trans n3; have HBw3 := hid hBw3; clear hBw3))
        all_goals
          have HB4 := hid (HB2d.out.trans (HBw3.out.mono HB2d.out.size))
          have HA4 := hid (HBb.out w3.drew (HB4.out.trans ⟨rfl, rfl, rfl, Nat.le_refl _, fun _ _ => rfl⟩))
          have HB4d : Hid (Below w.heap.size w w3.drew) := hid (HB4.out.trans ⟨rfl, rfl, rfl, Nat.le_refl _, fun _ _ => rfl⟩)
          have hs3 : w.heap.size < w3.heap.size := Nat.lt_of_lt_of_le hs2 HBw3.out.size
          clear HBw3 HBb HA
          go_wp2_with fail
          rw [rounds_succ]
          go_wp2_with fail
          go_region_held3 (fun w' => w'.cell? ⟨w.heap.size, 0, none⟩ = some (.int .i64 V) ∧ w'.cell? ⟨w.heap.size, 1, none⟩ = some (.slice a0 fs.length cap) ∧ w'.cell? ⟨bf, 0, none⟩ = some (.int .i64 a) ∧ w'.cell? ⟨bf, 1, none⟩ = some (.int .i64 b)) (go_keep) (first
            | (go_at_call 113; refine HA4.out.mono ?_; rintro e w4 ⟨rfl, hBw4⟩; have mw40 := (hBw4.cell (p := ⟨w.heap.size, 0, none⟩) hs3).trans mw30; have mw41 := (hBw4.cell (p := ⟨w.heap.size, 1, none⟩) hs3).trans mw31; have mw42 := (hBw4.cell (p := ⟨bf, 0, none⟩) (Nat.lt_trans hbf2 hs3)).trans mw32; have mw43 := (hBw4.cell (p := ⟨bf, 1, none⟩) (Nat.lt_trans hbf2 hs3)).trans mw33; have HBw4 := hid hBw4; clear hBw4))
          all_goals
            have HB5 := hid (HB4d.out.trans (HBw4.out.mono HB4d.out.size))
            go_wp2_with fail
            go_ret
            exact ⟨ret_int (by rw [He.out]), HB5.out⟩
    · have He : Hid (E = 2) := hid (by rw [hE1, if_neg (fun h => ha h.1)])
      have HA := hid (has_no V a a0 cap fs w2.drew (Hx0.out.later HB2d.out HB2d.out.size) hl ha)
      clear hE1 ha
      go_wp2_with fail
      refine wp_loop_rounds 3 ?_
      rw [rounds_succ]
      go_wp2_with fail
      go_region_held3 (fun w' => w'.cell? ⟨w.heap.size, 0, none⟩ = some (.int .i64 V) ∧ w'.cell? ⟨w.heap.size, 1, none⟩ = some (.slice a0 fs.length cap) ∧ w'.cell? ⟨bf, 0, none⟩ = some (.int .i64 a) ∧ w'.cell? ⟨bf, 1, none⟩ = some (.int .i64 b)) (go_keep) (first
        | (go_at_call 113; refine HA.out.mono ?_; rintro e w3 ⟨rfl, hBw3⟩; have mw30 := (hBw3.cell (p := ⟨w.heap.size, 0, none⟩) hs2).trans n0; have mw31 := (hBw3.cell (p := ⟨w.heap.size, 1, none⟩) hs2).trans n1; have mw32 := (hBw3.cell (p := ⟨bf, 0, none⟩) (Nat.lt_trans hbf2 hs2)).trans n2; have mw33 := (hBw3.cell (p := ⟨bf, 1, none⟩) (Nat.lt_trans hbf2 hs2)).trans n3; have HBw3 := hid hBw3; clear hBw3))
      all_goals
        have HB4 := hid (HB2d.out.trans (HBw3.out.mono HB2d.out.size))
        go_wp2_with fail
        go_ret
        exact ⟨ret_int (by rw [He.out]), HB4.out⟩
  · have He : Hid (E = 2) := hid (by rw [hE, code2R, if_neg (by rw [h0]; decide), h0])
    have HC := hid hC
    clear hC h0 hE
    go_enter Try.func74, Try.ntmps74
    go_wp2_with fail
    refine (is_yes V a0 cap fs _ Hx.out hl HC.out).mono ?_
    rintro e w1 ⟨rfl, hB1⟩
    have HB1 := hid (hB0.trans (hB1.mono (by simp)))
    have k0 : w1.cell? ⟨w.heap.size, 0, none⟩ = some (.int .i64 V) := (hB1.cell (p := ⟨w.heap.size, 0, none⟩) (by simp)).trans (by simp [go_sem])
    have k1 : w1.cell? ⟨w.heap.size, 1, none⟩ = some (.slice a0 fs.length cap) := (hB1.cell (p := ⟨w.heap.size, 1, none⟩) (by simp)).trans (by simp [go_sem])
    have HI := hid (pis_any V a0 cap fs a1 n cap1 ps w1 (Hx0.out.later HB1.out HB1.out.size) (Hy.out.later HB1.out HB1.out.size) hl HC.out.range63 hp hn)
    rw [h1] at HI
    clear hB0 hB1 h1 hp
    go_wp2_with fail
    refine HI.out.mono ?_
    rintro e w2 ⟨rfl, hB2⟩
    go_wp2_with fail
    go_ret
    exact ⟨ret_int (by rw [He.out]), HB1.out.trans (hB2.mono HB1.out.size)⟩
  · have He : Hid (E = 1) := hid (by rw [hE, code2R, if_neg (by rw [h0]; decide), h0])
    clear h0 hE
    go_enter Try.func74, Try.ntmps74
    go_wp2_with fail
    refine (is_no V a0 cap fs _ Hx.out hl hC).mono ?_
    rintro e w1 ⟨rfl, hB1⟩
    go_wp2_with fail
    go_ret
    exact ⟨ret_int (by rw [He.out]), hB0.trans (hB1.mono (by simp))⟩

theorem num_mono3 {fn : FuncId} {args : Array Value} {w : World} {B : Nat} {P : Program} {R : Int × Int} {b c : Int} (hR : R = (b, c))
    (h : Calls P fn args w fun e w' => e = .returned (.tuple #[.int .i64 b, .int .i64 c]) ∧ Below B w w') :
    Calls P fn args w fun e w' => e = .returned (.tuple #[.int .i64 R.1, .int .i64 R.2]) ∧ Below B w w' := by
  rw [hR]; exact h


end Go.Proofs.Ytplcbiconfpmlaa

/-! WaysBetween, the model's. -/
namespace Go.Proofs.Ytplcbiconfpmlaa
open Go.RowKit

/-- The ways by the first k faces below b. -/
def wsPart (ps : List Int) (n b : Nat) (a : Int) (k : Nat) : Int := (((belowR b 63).take k).map (gw ps n a)).sum
theorem wsPart_succ {ps : List Int} {n b : Nat} {a : Int} {k : Nat} (hk : k < (belowR b 63).length) : wsPart ps n b a (k + 1) = wsPart ps n b a k + gw ps n a ((belowR b 63)[k]?.getD 0) := by
  unfold wsPart
  rw [List.take_add_one, List.getElem?_eq_getElem hk]
  simp only [Option.toList_some, List.map_append, List.map_cons, List.map_nil, List.sum_append, List.sum_cons, List.sum_nil, Option.getD_some, Int.add_zero]
theorem wsPart_all {ps : List Int} {n b : Nat} (hb : b < 64) (a : Int) : wsPart ps n b a (belowR b 63).length = wsum ps n (b : Int) a := by
  unfold wsPart wsum
  rw [List.take_length, Int.toNat_natCast]
  have e := sides_below ⟨b, hb⟩
  simp only at e
  have e2 : (sidesF b).map (fun s => gw ps n a (s.val : Int)) = ((belowR b 63).map (gw ps n a)).reverse := by
    rw [← List.map_reverse, ← e, List.map_map]
    rfl
  rw [e2, int_sum_reverse]

set_option maxRecDepth 1000000 in
set_option maxHeartbeats 2000000 in
theorem between_any (a1 : Option Addr) (n cap : Nat) (ps : List Int) (b : Nat) (a : Int) (w : World) (hx : SlI w w.heap.size a1 ps) (hp : ps.length = 2 * n) (hl : n ≤ 1048576) (hh : HighsB ps n) (hc : NoCycle ps n) (hb : b < 64) :
    Calls Try.prog 82 #[.slice a1 n cap, .int .i64 (b : Int), .int .i64 a] w fun e w' => e = .returned (.int .i64 (wrap64 (wsum ps n (b : Int) a))) ∧ Below w.heap.size w w' := by
  have HN := hid (below_any b w hb)
  have HH := hid (fun y w' (h : Below w.heap.size w w') => ways_any a1 n cap ps a y w' (hx.later h h.size) hp hl hh hc)
  obtain ⟨E, hE⟩ : ∃ E, E = wsum ps n (b : Int) a := ⟨_, rfl⟩
  rw [← hE]
  have HE := hid (hE.trans (wsPart_all (ps := ps) (n := n) hb a).symm)
  obtain ⟨m, hm⟩ : ∃ m, m = (belowR b 63).length := ⟨_, rfl⟩
  have hml : m ≤ 63 := by rw [hm]; exact belowR_len _ _
  have Hm := hid hm
  rw [← hm] at HN HE
  clear hx hp hh hc hE hm
  go_enter Try.func82, Try.ntmps82
  go_wp2_with fail
  refine HN.out.mono ?_
  rintro e w1 ⟨v, rfl, hR, hB1⟩
  obtain ⟨hgb, av, cv, rfl, hs⟩ := ownsRow_slI hR
  have HS := hid hs
  have HB1 := hid hB1
  rw [← Hm.out]
  clear hR hs hgb hB1
  go_wp2_with fail
  go_loopw [8, 9] (fun t i wr => ∃ k : Nat, k ≤ m ∧ i = .int .i64 k ∧ t = .int .i64 (wrap64 (wsPart ps n b a k)) ∧ Below w1.heap.size w1 wr) (fun _ i _ => m - (intOf i).toNat)
  case atStart => exact ⟨0, Nat.zero_le _, rfl, by simp [wsPart, wrap64], Below.refl _ _⟩
  case round =>
    obtain ⟨k, hk, rfl, rfl, hB⟩ := hrel
    by_cases hlt : k < m
    · obtain ⟨y, hy⟩ : ∃ y, y = (belowR b 63)[k]?.getD 0 := ⟨_, rfl⟩
      obtain ⟨g, off, hgb, rfl, hcl⟩ : ∃ g off, g < w1.heap.size ∧ av = some ⟨g, off, none⟩ ∧ ∀ i, i < (belowR b 63).length → w1.cell? ⟨g, off + i, none⟩ = some (.int .i64 ((belowR b 63)[i]?.getD 0)) := by
        rcases HS.out with h | h
        · have := Hm.out; rw [h] at this; simp at this; omega
        · exact h
      have hck : wr.cell? ⟨g, off + k, none⟩ = some (.int .i64 y) := by rw [hy]; exact (hB.cell (p := ⟨g, off + k, none⟩) hgb).trans (hcl k (by have := Hm.out; omega))
      have HC := hid (HH.out y wr (HB1.out.trans (hB.mono HB1.out.size)))
      have hsum : Hid (wrap64 (wrap64 (wsPart ps n b a k) + wrap64 (gw ps n a y)) = wrap64 (wsPart ps n b a (k + 1))) := hid (by rw [wrap64_add, wsPart_succ (by have := Hm.out; omega), ← hy])
      have hi0 : (0 : Int) ≤ (k : Int) := by omega
      have hi1 : (k : Int) < (m : Int) := by omega
      have HB := hid hB
      clear hy hcl hB
      go_wp2_with fail
      refine HC.out.mono ?_
      rintro e w2 ⟨rfl, hB2⟩
      have HB2 := hid (HB.out.trans (hB2.mono HB.out.size))
      clear hB2
      go_wp2_with fail
      go_roundw
      case rel => exact ⟨k + 1, by omega, by go_num, congrArg (Value.int .i64) hsum.out, HB2.out⟩
      case measure => simp [intOf]; omega
    · obtain rfl : k = m := by omega
      go_wp2_with fail
      go_ret
      exact ⟨ret_int (by rw [HE.out]), HB1.out.trans (hB.mono HB1.out.size)⟩

theorem mem_critL {fs ps : List Int} {x : Int} : x ∈ critL fs ps ↔ critB fs ps x = true := by
  unfold critL critB
  simp

set_option maxRecDepth 1000000 in
set_option maxHeartbeats 2000000 in
theorem crit6_any (V : Int) (a0 : Option Addr) (cap : Nat) (fs : List Int) (a1 : Option Addr) (n cap1 : Nat) (ps : List Int) (f : Int) (w : World) (hx : SlI w w.heap.size a0 fs) (hx1 : SlI w w.heap.size a1 ps) (hl : fs.length ≤ 1048576) (hp : ps.length = 2 * n) (hn : n ≤ 1048576) :
    Calls Try.prog 137 #[.agg #[.int .i64 V, .slice a0 fs.length cap], .slice a1 n cap1, .int .i64 f] w fun e w' => e = .returned (.bool (critB fs ps f)) ∧ Below w.heap.size w w' := by
  have hB0 : Below w.heap.size w (w.alloc (.cells #[.int .i64 V, .slice a0 fs.length cap] 28)) := (Below.refl _ w).alloc (Nat.le_refl _) _
  have HN := hid (critS_any V a0 cap fs a1 n cap1 ps _ (hx.later hB0 hB0.size) (hx1.later hB0 hB0.size) hl hp hn)
  obtain ⟨E, hE⟩ : ∃ E, E = critB fs ps f := ⟨_, rfl⟩
  rw [← hE]
  have HE := hid hE
  obtain ⟨C, hC⟩ : ∃ C, C = critL fs ps := ⟨_, rfl⟩
  have hml : C.length ≤ 1048576 := by rw [hC]; exact Nat.le_trans (List.length_filter_le _ _) hl
  have HMem : Hid (f ∈ C ↔ critB fs ps f = true) := hid (by rw [hC]; exact mem_critL)
  rw [← hC] at HN
  have HB0 := hid hB0
  clear hx hx1 hp hE hC hB0
  go_enter Try.func137, Try.ntmps137
  go_wp2_with fail
  refine HN.out.mono ?_
  rintro e w1 ⟨v, rfl, hR⟩
  obtain ⟨_, av, cv, rfl, hs⟩ := ownsRow_slI hR.1
  have HS := hid hs
  have HB1 := hid (HB0.out.trans (hR.2.mono HB0.out.size))
  clear hR hs
  go_wp2_with fail
  go_loopw [8] (fun i wr => ∃ k : Nat, k ≤ C.length ∧ i = .int .i64 k ∧ Hid (f ∉ C.take k) ∧ wr = w1) (fun i _ => C.length - (intOf i).toNat)
  case atStart => exact ⟨0, Nat.zero_le _, rfl, hid (by simp), rfl⟩
  case round =>
    obtain ⟨k, hk, rfl, Hk, rfl⟩ := hrel
    by_cases hlt : k < C.length
    · obtain ⟨y, hy⟩ : ∃ y, y = C[k]?.getD 0 := ⟨_, rfl⟩
      obtain ⟨g, off, hgb, rfl, hcl⟩ : ∃ g off, g < wr.heap.size ∧ av = some ⟨g, off, none⟩ ∧ ∀ i, i < C.length → wr.cell? ⟨g, off + i, none⟩ = some (.int .i64 (C[i]?.getD 0)) := by
        rcases HS.out with h | h
        · rw [h] at hlt; simp at hlt
        · exact h
      have hck : wr.cell? ⟨g, off + k, none⟩ = some (.int .i64 y) := by rw [hy]; exact hcl k hlt
      have hi0 : (0 : Int) ≤ (k : Int) := by omega
      have hi1 : (k : Int) < (C.length : Int) := by omega
      have Hy := hid hy
      clear hcl hy
      by_cases hyf : y = f
      · have hd : (y == f) = true := by simp [hyf]
        have He : Hid (E = true) := hid (by rw [HE.out]; exact HMem.out.1 (by rw [← hyf, Hy.out]; exact getD_mem hlt))
        clear hyf
        go_wp2_with fail
        go_ret
        exact ⟨ret_bool (by rw [He.out]), HB1.out⟩
      · have hd : (y == f) = false := by simp [hyf]
        have He : Hid (f ∉ C.take (k + 1)) := hid (by
          rw [take_snoc hlt, ← Hy.out]
          intro h
          rcases List.mem_append.1 h with h | h
          · exact Hk.out h
          · simp at h; exact hyf h.symm)
        clear hyf
        go_wp2_with fail
        go_roundw
        case rel => exact ⟨k + 1, by omega, by go_num, He, by first | rfl | trivial⟩
        case measure => simp [intOf]; omega
    · have He : Hid (E = false) := hid (by
        have h2 := Hk.out
        rw [List.take_of_length_le (by omega)] at h2
        rw [HE.out]
        cases h3 : critB fs ps f
        · rfl
        · exact absurd (HMem.out.2 h3) h2)
      go_wp2_with fail
      go_ret
      exact ⟨ret_bool (by rw [He.out]), HB1.out⟩

/-- b and a are critical faces, b of one dimension more. -/
def suchB (fs ps : List Int) (b a : Int) : Bool := critB fs ps b && (critB fs ps a && decide (ones b.toNat = ones a.toNat + 1))
noncomputable def givenR (V : Int) (fs : List Int) (n : Nat) (ps : List Int) (b a : Int) : Int := if pcodeR V fs n ps = 0 then (if suchB fs ps b a then (if acyB ps n then 0 else 5) else 2) else pcodeR V fs n ps
noncomputable def waysBR (V : Int) (fs : List Int) (n : Nat) (ps : List Int) (b a : Int) : Int × Int := if givenR V fs n ps b a = 0 then (wrap64 (wsum ps n b a), 0) else (0, givenR V fs n ps b a)

set_option maxRecDepth 1000000 in
set_option maxHeartbeats 4000000 in
theorem given_any (V : Int) (a0 : Option Addr) (cap : Nat) (fs : List Int) (a1 : Option Addr) (n cap1 : Nat) (ps : List Int) (b a : Int) (w : World) (hx : SlI w w.heap.size a0 fs) (hx1 : SlI w w.heap.size a1 ps) (hl : fs.length ≤ 1048576) (hp : ps.length = 2 * n) (hn : n ≤ 1048576) :
    Calls Try.prog 81 #[.agg #[.int .i64 V, .slice a0 fs.length cap], .slice a1 n cap1, .int .i64 b, .int .i64 a] w fun e w' => e = .returned (.int .i64 (givenR V fs n ps b a)) ∧ Below w.heap.size w w' := by
  have hB0 : Below w.heap.size w (w.alloc (.cells #[.int .i64 V, .slice a0 fs.length cap] 28)) := (Below.refl _ w).alloc (Nat.le_refl _) _
  have HK := hid (pcode_spec V a0 cap fs a1 n cap1 ps _ (hx.later hB0 hB0.size) (hx1.later hB0 hB0.size) hl hp hn)
  have HB0 := hid hB0
  obtain ⟨E, hE⟩ : ∃ E, E = givenR V fs n ps b a := ⟨_, rfl⟩
  rw [← hE]
  by_cases hpc : pcodeR V fs n ps = 0
  · have hCO : IsC V fs ∧ OkTo fs ps n := by
      rcases pcode_cases V fs n ps with ⟨hC, ho, _⟩ | ⟨_, _, h2, _⟩ | ⟨_, h2, _⟩
      · exact ⟨hC, ho⟩
      · rw [h2] at hpc; cases hpc
      · rw [h2] at hpc; cases hpc
    have hE1 : E = if suchB fs ps b a then (if acyB ps n then 0 else 5) else 2 := by rw [hE, givenR, if_pos hpc]
    rw [hpc] at HK
    have HCb := hid (fun w1 (h : Below w.heap.size w w1) => crit6_any V a0 cap fs a1 n cap1 ps b w1 (hx.later h h.size) (hx1.later h h.size) hl hp hn)
    have HCa := hid (fun w1 (h : Below w.heap.size w w1) => crit6_any V a0 cap fs a1 n cap1 ps a w1 (hx.later h h.size) (hx1.later h h.size) hl hp hn)
    have HA := hid (fun w1 (h : Below w.heap.size w w1) => acyclicS_any a1 n cap1 ps w1 (hx1.later h h.size) hp hn (okTo_highs hCO.1 hCO.2) (okTo_lows hCO.1 hCO.2))
    have Hr := hid hCO.1.range63
    clear hx hx1 hp hpc hCO hE hB0
    have Hm := hid (fun f (h : critB fs ps f = true) => (show f ∈ fs by unfold critB at h; simp at h; exact h.1))
    cases hcb : critB fs ps b
    · have He : Hid (E = 2) := hid (by rw [hE1, if_neg (by unfold suchB; rw [hcb]; simp)])
      rw [hcb] at HCb
      clear hE1 hcb
      go_enter Try.func81, Try.ntmps81
      go_wp2_with (first
        | (go_at_call 74; refine HK.out.mono ?_; rintro e w1 ⟨rfl, hB1⟩; have HB1 := hid (HB0.out.trans (hB1.mono (by simp))); have k0 : w1.cell? ⟨w.heap.size, 0, none⟩ = some (.int .i64 V) := (hB1.cell (p := ⟨w.heap.size, 0, none⟩) (by simp)).trans (by simp [go_sem]); have k1 : w1.cell? ⟨w.heap.size, 1, none⟩ = some (.slice a0 fs.length cap) := (hB1.cell (p := ⟨w.heap.size, 1, none⟩) (by simp)).trans (by simp [go_sem]); have hs1 : w.heap.size < w1.heap.size := (by have := hB1.size; simp at this; omega); have HCb1 := hid (HCb.out w1 HB1.out); clear hB1)
        | (go_at_call 137; refine HCb1.out.mono ?_; rintro e w2 ⟨rfl, hB2⟩; have m0 := (hB2.cell (p := ⟨w.heap.size, 0, none⟩) hs1).trans k0; have m1 := (hB2.cell (p := ⟨w.heap.size, 1, none⟩) hs1).trans k1; have HB2 := hid (HB1.out.trans (hB2.mono HB1.out.size)); have HCa2 := hid (HCa.out w2 HB2.out); clear hB2 k0 k1 HCb1))
      go_ret
      exact ⟨ret_int (by rw [He.out]), HB2.out⟩
    · cases hca : critB fs ps a
      · have He : Hid (E = 2) := hid (by rw [hE1, if_neg (by unfold suchB; rw [hca]; simp)])
        rw [hcb] at HCb
        rw [hca] at HCa
        clear hE1 hcb hca
        go_enter Try.func81, Try.ntmps81
        go_wp2_with (first
          | (go_at_call 74; refine HK.out.mono ?_; rintro e w1 ⟨rfl, hB1⟩; have HB1 := hid (HB0.out.trans (hB1.mono (by simp))); have k0 : w1.cell? ⟨w.heap.size, 0, none⟩ = some (.int .i64 V) := (hB1.cell (p := ⟨w.heap.size, 0, none⟩) (by simp)).trans (by simp [go_sem]); have k1 : w1.cell? ⟨w.heap.size, 1, none⟩ = some (.slice a0 fs.length cap) := (hB1.cell (p := ⟨w.heap.size, 1, none⟩) (by simp)).trans (by simp [go_sem]); have hs1 : w.heap.size < w1.heap.size := (by have := hB1.size; simp at this; omega); have HCb1 := hid (HCb.out w1 HB1.out); clear hB1)
          | (go_at_call 137; refine HCa2.out.mono ?_; rintro e w3 ⟨rfl, hB3⟩; have HB3 := hid (HB2.out.trans (hB3.mono HB2.out.size)); have HA3 := hid (HA.out w3 HB3.out); clear hB3 m0 m1 HCa2) | (go_at_call 137; refine HCb1.out.mono ?_; rintro e w2 ⟨rfl, hB2⟩; have m0 := (hB2.cell (p := ⟨w.heap.size, 0, none⟩) hs1).trans k0; have m1 := (hB2.cell (p := ⟨w.heap.size, 1, none⟩) hs1).trans k1; have HB2 := hid (HB1.out.trans (hB2.mono HB1.out.size)); have HCa2 := hid (HCa.out w2 HB2.out); clear hB2 k0 k1 HCb1))
        go_ret
        exact ⟨ret_int (by rw [He.out]), HB3.out⟩
      · obtain ⟨bn, rfl⟩ : ∃ bn : Nat, b = (bn : Int) := ⟨b.toNat, by have := Hr.out b (Hm.out b hcb); omega⟩
        obtain ⟨an, rfl⟩ : ∃ an : Nat, a = (an : Int) := ⟨a.toNat, by have := Hr.out a (Hm.out a hca); omega⟩
        have hbn : bn < 64 := by have := Hr.out _ (Hm.out _ hcb); omega
        have han : an < 64 := by have := Hr.out _ (Hm.out _ hca); omega
        have hob := ones_le bn
        have hoa := ones_le an
        by_cases hones : ones bn = ones an + 1
        · have hs : suchB fs ps (bn : Int) (an : Int) = true := by unfold suchB; rw [hcb, hca]; simp [hones]
          rw [hcb] at HCb
          rw [hca] at HCa
          rw [if_pos hs] at hE1
          have hon : ((ones bn : Int) != (ones an : Int) + 1) = false := by simp; omega
          cases hac : acyB ps n
          · have He : Hid (E = 5) := hid (by rw [hE1, hac]; simp)
            rw [hac] at HA
            clear hE1 hcb hca hs hones hac
            go_enter Try.func81, Try.ntmps81
            go_wp2_with (first
              | (go_at_call 74; refine HK.out.mono ?_; rintro e w1 ⟨rfl, hB1⟩; have HB1 := hid (HB0.out.trans (hB1.mono (by simp))); have k0 : w1.cell? ⟨w.heap.size, 0, none⟩ = some (.int .i64 V) := (hB1.cell (p := ⟨w.heap.size, 0, none⟩) (by simp)).trans (by simp [go_sem]); have k1 : w1.cell? ⟨w.heap.size, 1, none⟩ = some (.slice a0 fs.length cap) := (hB1.cell (p := ⟨w.heap.size, 1, none⟩) (by simp)).trans (by simp [go_sem]); have hs1 : w.heap.size < w1.heap.size := (by have := hB1.size; simp at this; omega); have HCb1 := hid (HCb.out w1 HB1.out); clear hB1)
              | (go_at_call 137; refine HCa2.out.mono ?_; rintro e w3 ⟨rfl, hB3⟩; have HB3 := hid (HB2.out.trans (hB3.mono HB2.out.size)); have HA3 := hid (HA.out w3 HB3.out); clear hB3 m0 m1 HCa2) | (go_at_call 137; refine HCb1.out.mono ?_; rintro e w2 ⟨rfl, hB2⟩; have m0 := (hB2.cell (p := ⟨w.heap.size, 0, none⟩) hs1).trans k0; have m1 := (hB2.cell (p := ⟨w.heap.size, 1, none⟩) hs1).trans k1; have HB2 := hid (HB1.out.trans (hB2.mono HB1.out.size)); have HCa2 := hid (HCa.out w2 HB2.out); clear hB2 k0 k1 HCb1)
              | (go_at_call 130; refine (ones_any _ _ (by assumption)).mono ?_; rintro e w' ⟨rfl, rfl⟩)
              | (go_at_call 77; refine HA3.out.mono ?_; rintro e w4 ⟨rfl, hB4⟩; have HB4 := hid (HB3.out.trans (hB4.mono HB3.out.size)); clear hB4))
            go_ret
            exact ⟨ret_int (by rw [He.out]), HB4.out⟩
          · have He : Hid (E = 0) := hid (by rw [hE1, hac]; simp)
            rw [hac] at HA
            clear hE1 hcb hca hs hones hac
            go_enter Try.func81, Try.ntmps81
            go_wp2_with (first
              | (go_at_call 74; refine HK.out.mono ?_; rintro e w1 ⟨rfl, hB1⟩; have HB1 := hid (HB0.out.trans (hB1.mono (by simp))); have k0 : w1.cell? ⟨w.heap.size, 0, none⟩ = some (.int .i64 V) := (hB1.cell (p := ⟨w.heap.size, 0, none⟩) (by simp)).trans (by simp [go_sem]); have k1 : w1.cell? ⟨w.heap.size, 1, none⟩ = some (.slice a0 fs.length cap) := (hB1.cell (p := ⟨w.heap.size, 1, none⟩) (by simp)).trans (by simp [go_sem]); have hs1 : w.heap.size < w1.heap.size := (by have := hB1.size; simp at this; omega); have HCb1 := hid (HCb.out w1 HB1.out); clear hB1)
              | (go_at_call 137; refine HCa2.out.mono ?_; rintro e w3 ⟨rfl, hB3⟩; have HB3 := hid (HB2.out.trans (hB3.mono HB2.out.size)); have HA3 := hid (HA.out w3 HB3.out); clear hB3 m0 m1 HCa2) | (go_at_call 137; refine HCb1.out.mono ?_; rintro e w2 ⟨rfl, hB2⟩; have m0 := (hB2.cell (p := ⟨w.heap.size, 0, none⟩) hs1).trans k0; have m1 := (hB2.cell (p := ⟨w.heap.size, 1, none⟩) hs1).trans k1; have HB2 := hid (HB1.out.trans (hB2.mono HB1.out.size)); have HCa2 := hid (HCa.out w2 HB2.out); clear hB2 k0 k1 HCb1)
              | (go_at_call 130; refine (ones_any _ _ (by assumption)).mono ?_; rintro e w' ⟨rfl, rfl⟩)
              | (go_at_call 77; refine HA3.out.mono ?_; rintro e w4 ⟨rfl, hB4⟩; have HB4 := hid (HB3.out.trans (hB4.mono HB3.out.size)); clear hB4))
            go_ret
            exact ⟨ret_int (by rw [He.out]), HB4.out⟩
        · have He : Hid (E = 2) := hid (by rw [hE1, if_neg (by unfold suchB; simp [hones])])
          rw [hcb] at HCb
          rw [hca] at HCa
          have hon : ((ones bn : Int) != (ones an : Int) + 1) = true := by simp; omega
          clear hE1 hcb hca hones
          go_enter Try.func81, Try.ntmps81
          go_wp2_with (first
            | (go_at_call 74; refine HK.out.mono ?_; rintro e w1 ⟨rfl, hB1⟩; have HB1 := hid (HB0.out.trans (hB1.mono (by simp))); have k0 : w1.cell? ⟨w.heap.size, 0, none⟩ = some (.int .i64 V) := (hB1.cell (p := ⟨w.heap.size, 0, none⟩) (by simp)).trans (by simp [go_sem]); have k1 : w1.cell? ⟨w.heap.size, 1, none⟩ = some (.slice a0 fs.length cap) := (hB1.cell (p := ⟨w.heap.size, 1, none⟩) (by simp)).trans (by simp [go_sem]); have hs1 : w.heap.size < w1.heap.size := (by have := hB1.size; simp at this; omega); have HCb1 := hid (HCb.out w1 HB1.out); clear hB1)
            | (go_at_call 137; refine HCa2.out.mono ?_; rintro e w3 ⟨rfl, hB3⟩; have HB3 := hid (HB2.out.trans (hB3.mono HB2.out.size)); have HA3 := hid (HA.out w3 HB3.out); clear hB3 m0 m1 HCa2) | (go_at_call 137; refine HCb1.out.mono ?_; rintro e w2 ⟨rfl, hB2⟩; have m0 := (hB2.cell (p := ⟨w.heap.size, 0, none⟩) hs1).trans k0; have m1 := (hB2.cell (p := ⟨w.heap.size, 1, none⟩) hs1).trans k1; have HB2 := hid (HB1.out.trans (hB2.mono HB1.out.size)); have HCa2 := hid (HCa.out w2 HB2.out); clear hB2 k0 k1 HCb1)
            | (go_at_call 130; refine (ones_any _ _ (by assumption)).mono ?_; rintro e w' ⟨rfl, rfl⟩))
          go_ret
          exact ⟨ret_int (by rw [He.out]), HB3.out⟩
  · have hE1 : E = pcodeR V fs n ps := by rw [hE, givenR, if_neg hpc]
    rw [← hE1] at hpc HK
    have hcn : (E == 0) = false := by simpa using hpc
    clear hx hx1 hp hpc hE hE1 hB0
    go_enter Try.func81, Try.ntmps81
    go_wp2_with fail
    refine HK.out.mono ?_
    rintro e w1 ⟨rfl, hB1⟩
    go_wp2_with fail
    go_ret
    exact ⟨rfl, HB0.out.trans (hB1.mono (by simp))⟩

theorem given_zero {V : Int} {fs : List Int} {n : Nat} {ps : List Int} {b a : Int} (h : givenR V fs n ps b a = 0) : pcodeR V fs n ps = 0 ∧ suchB fs ps b a = true ∧ NoCycle ps n := by
  unfold givenR at h
  split at h
  · rename_i hp
    split at h
    · rename_i hs
      split at h
      · rename_i ha
        refine ⟨hp, hs, Classical.byContradiction fun hn => ?_⟩
        rw [acyB_false hn] at ha
        cases ha
      · cases h
    · cases h
  · rename_i hp
    exact absurd h hp
theorem such_lt {fs ps : List Int} {b a : Int} (hr : ∀ x ∈ fs, 1 ≤ x ∧ x ≤ 63) (h : suchB fs ps b a = true) : (∃ bn : Nat, b = (bn : Int) ∧ bn < 64) ∧ (0 ≤ a ∧ a < 64) := by
  unfold suchB critB at h
  simp at h
  have h1 := hr _ h.1.1
  have h2 := hr _ h.2.1.1
  exact ⟨⟨b.toNat, by omega, by omega⟩, by omega, by omega⟩


end Go.Proofs.Ytplcbiconfpmlaa

/-! Elimination modulo 2 or 3, the mathematics. -/
namespace Go.Proofs.Ytplcbiconfpmlaa
open Go.RowKit

/-- The entry of a matrix. -/
def ent (M : List (List Int)) (i j : Nat) : Int := (M[i]?.getD [])[j]?.getD 0
/-- A step is taken off a row so often that the row has 0 in column c. -/
def clr (p : Int) (c : Nat) (row own : List Int) : List Int := List.zipWith (fun a b => (a + (p - (row[c]?.getD 0 * own[c]?.getD 0) % p) * b) % p) row own
/-- Rows r and i change places. -/
def swapR (M : List (List Int)) (r i : Nat) : List (List Int) := (M.set r (M[i]?.getD [])).set i (M[r]?.getD [])
/-- The rows behind row r, up to row k, are cleared. -/
def sweepTo (p : Int) (c r k : Nat) (M : List (List Int)) : List (List Int) := M.mapIdx fun i row => if r < i ∧ i < k then clr p c row (M[r]?.getD []) else row
/-- The first row from r on that has no 0 in column c. -/
def firstNZ (M : List (List Int)) (r c : Nat) : Option Nat := (List.range M.length).find? fun i => decide (r ≤ i ∧ ent M i c ≠ 0)
/-- The rank: k columns are left. -/
def elimR (p : Int) : Nat → Nat → Nat → List (List Int) → Nat
  | 0, r, _, _ => r
  | k + 1, r, c, M => match firstNZ M r c with
    | none => elimR p k r (c + 1) M
    | some i => elimR p k (r + 1) (c + 1) (sweepTo p c r M.length (swapR M r i))

/-- n rows of w numbers from 0 to p - 1. -/
structure MatG (p : Int) (n w : Nat) (M : List (List Int)) : Prop where
  len : M.length = n
  wid : ∀ row ∈ M, row.length = w
  rng : ∀ row ∈ M, ∀ x ∈ row, 0 ≤ x ∧ x < p

theorem MatG.row {p : Int} {n w : Nat} {M : List (List Int)} (h : MatG p n w M) {i : Nat} (hi : i < n) : M[i]?.getD [] ∈ M := by
  have : i < M.length := by rw [h.len]; exact hi
  rw [List.getElem?_eq_getElem this]; simp
theorem MatG.rowLen {p : Int} {n w : Nat} {M : List (List Int)} (h : MatG p n w M) {i : Nat} (hi : i < n) : (M[i]?.getD []).length = w := h.wid _ (h.row hi)
theorem getD_memL {α : Type} {xs : List α} {d : α} {k : Nat} (h : k < xs.length) : xs[k]?.getD d ∈ xs := by rw [List.getElem?_eq_getElem h]; simp
theorem MatG.ent {p : Int} {n w : Nat} {M : List (List Int)} (h : MatG p n w M) {i j : Nat} (hi : i < n) (hj : j < w) : 0 ≤ ent M i j ∧ ent M i j < p :=
  h.rng _ (h.row hi) _ (getD_memL (by rw [h.rowLen hi]; exact hj))

theorem clr_len {p : Int} {c w : Nat} {row own : List Int} (h1 : row.length = w) (h2 : own.length = w) : (clr p c row own).length = w := by simp [clr, h1, h2]
theorem clr_rng {p : Int} {c : Nat} {row own : List Int} (hp : 0 < p) : ∀ x ∈ clr p c row own, 0 ≤ x ∧ x < p := by
  intro x hx
  unfold clr at hx
  rw [List.zipWith_eq_zipWith_take_min] at hx
  obtain ⟨i, hi, rfl⟩ := List.getElem_of_mem hx
  rw [List.getElem_zipWith]
  exact ⟨Int.emod_nonneg _ (by omega), Int.emod_lt_of_pos _ hp⟩
theorem clr_get {p : Int} {c w : Nat} {row own : List Int} (h1 : row.length = w) (h2 : own.length = w) {j : Nat} (hj : j < w) :
    (clr p c row own)[j]?.getD 0 = (row[j]?.getD 0 + (p - (row[c]?.getD 0 * own[c]?.getD 0) % p) * own[j]?.getD 0) % p := by
  unfold clr
  rw [List.getElem?_zipWith, List.getElem?_eq_getElem (by omega : j < row.length), List.getElem?_eq_getElem (by omega : j < own.length)]
  simp

theorem swapR_len (M : List (List Int)) (r i : Nat) : (swapR M r i).length = M.length := by simp [swapR]
theorem swapR_good {p : Int} {n w : Nat} {M : List (List Int)} (h : MatG p n w M) {r i : Nat} (hr : r < n) (hi : i < n) : MatG p n w (swapR M r i) := by
  have hmem : ∀ row ∈ swapR M r i, row ∈ M := by
    intro row hrow
    unfold swapR at hrow
    rcases List.mem_or_eq_of_mem_set hrow with h1 | h1
    · rcases List.mem_or_eq_of_mem_set h1 with h2 | h2
      · exact h2
      · rw [h2]; exact h.row hi
    · rw [h1]; exact h.row hr
  exact ⟨by rw [swapR_len]; exact h.len, fun row hrow => h.wid _ (hmem row hrow), fun row hrow => h.rng _ (hmem row hrow)⟩

theorem sweepTo_len (p : Int) (c r k : Nat) (M : List (List Int)) : (sweepTo p c r k M).length = M.length := by simp [sweepTo]
theorem sweepTo_get {p : Int} {c r k : Nat} {M : List (List Int)} {i : Nat} (hi : i < M.length) :
    (sweepTo p c r k M)[i]?.getD [] = if r < i ∧ i < k then clr p c (M[i]?.getD []) (M[r]?.getD []) else M[i]?.getD [] := by
  unfold sweepTo
  rw [List.getElem?_mapIdx, List.getElem?_eq_getElem hi]
  simp
theorem sweepTo_good {p : Int} {n w : Nat} {M : List (List Int)} (h : MatG p n w M) (hp : 0 < p) {c r k : Nat} (hr : r < n) : MatG p n w (sweepTo p c r k M) := by
  have hmem : ∀ row ∈ sweepTo p c r k M, row ∈ M ∨ ∃ row' ∈ M, row = clr p c row' (M[r]?.getD []) := by
    intro row hrow
    obtain ⟨i, hi, rfl⟩ := List.getElem_of_mem hrow
    rw [sweepTo_len] at hi
    have e := sweepTo_get (p := p) (c := c) (r := r) (k := k) hi
    rw [List.getElem?_eq_getElem (by rw [sweepTo_len]; exact hi)] at e
    simp only [Option.getD_some] at e
    rw [e]
    split
    · exact .inr ⟨_, h.row (by rw [← h.len]; exact hi), rfl⟩
    · exact .inl (h.row (by rw [← h.len]; exact hi))
  refine ⟨by rw [sweepTo_len]; exact h.len, fun row hrow => ?_, fun row hrow => ?_⟩
  · rcases hmem row hrow with h1 | ⟨row', h1, rfl⟩
    · exact h.wid _ h1
    · exact clr_len (h.wid _ h1) (h.rowLen hr)
  · rcases hmem row hrow with h1 | ⟨row', h1, rfl⟩
    · exact h.rng _ h1
    · exact clr_rng hp
/-- One row more. -/
theorem sweepTo_succ {p : Int} {c r k : Nat} {M : List (List Int)} (hr : r < k) :
    sweepTo p c r (k + 1) M = (sweepTo p c r k M).set k (clr p c (M[k]?.getD []) (M[r]?.getD [])) := by
  apply List.ext_getElem?
  intro i
  by_cases hi : i < M.length
  · by_cases hik : k = i
    · subst hik
      rw [List.getElem?_set_self (by rw [sweepTo_len]; exact hi)]
      have e := sweepTo_get (p := p) (c := c) (r := r) (k := k + 1) hi
      rw [List.getElem?_eq_getElem (by rw [sweepTo_len]; exact hi)] at e ⊢
      simp only [Option.getD_some] at e
      rw [e, if_pos (by omega)]
    · rw [List.getElem?_set_ne hik]
      have e1 := sweepTo_get (p := p) (c := c) (r := r) (k := k + 1) hi
      have e2 := sweepTo_get (p := p) (c := c) (r := r) (k := k) hi
      rw [List.getElem?_eq_getElem (by rw [sweepTo_len]; exact hi)] at e1 e2 ⊢
      rw [List.getElem?_eq_getElem (by rw [sweepTo_len]; exact hi)]
      simp only [Option.getD_some] at e1 e2
      rw [e1, e2]
      congr 1
      by_cases h : r < i ∧ i < k
      · rw [if_pos h, if_pos (by omega)]
      · rw [if_neg h, if_neg (by omega)]
  · rw [List.getElem?_eq_none (by rw [sweepTo_len]; omega), List.getElem?_eq_none (by rw [List.length_set, sweepTo_len]; omega)]
theorem sweepTo_none {p : Int} {c r k : Nat} {M : List (List Int)} (hk : k ≤ r + 1) : sweepTo p c r k M = M := by
  apply List.ext_getElem?
  intro i
  by_cases hi : i < M.length
  · have e := sweepTo_get (p := p) (c := c) (r := r) (k := k) hi
    rw [List.getElem?_eq_getElem (by rw [sweepTo_len]; exact hi), List.getElem?_eq_getElem hi] at *
    simp only [Option.getD_some] at e
    rw [e, if_neg (by omega)]
  · rw [List.getElem?_eq_none (by rw [sweepTo_len]; omega), List.getElem?_eq_none (by omega)]
/-- The pivot's row is left as it is. -/
theorem sweepTo_pivot {p : Int} {c r k : Nat} {M : List (List Int)} (hr : r < M.length) : (sweepTo p c r k M)[r]?.getD [] = M[r]?.getD [] := by
  rw [sweepTo_get hr, if_neg (by omega)]
theorem sweepTo_later {p : Int} {c r k : Nat} {M : List (List Int)} (hk : k < M.length) : (sweepTo p c r k M)[k]?.getD [] = M[k]?.getD [] := by
  rw [sweepTo_get hk, if_neg (by omega)]

theorem firstNZ_none {M : List (List Int)} {r c : Nat} (h : ∀ i, r ≤ i → i < M.length → ent M i c = 0) : firstNZ M r c = none := by
  unfold firstNZ
  rw [List.find?_eq_none]
  intro i hi
  have := h i
  simp at hi ⊢
  intro hr
  exact this hr hi
theorem firstNZ_some {M : List (List Int)} {r c i : Nat} (hr : r ≤ i) (hi : i < M.length) (hne : ent M i c ≠ 0) (h : ∀ i', r ≤ i' → i' < i → ent M i' c = 0) : firstNZ M r c = some i := by
  unfold firstNZ
  rw [List.find?_range_eq_some]
  refine ⟨by simp [hr, hne], by simpa using hi, ?_⟩
  intro j hj
  have := h j
  simp
  by_cases hrj : r ≤ j
  · exact .inr (this hrj hj)
  · exact .inl (by omega)
theorem elim_none {p : Int} {k r c : Nat} {M : List (List Int)} (h : ∀ i, r ≤ i → i < M.length → ent M i c = 0) : elimR p (k + 1) r c M = elimR p k r (c + 1) M := by
  rw [elimR, firstNZ_none h]
theorem elim_some {p : Int} {k r c i : Nat} {M : List (List Int)} (hr : r ≤ i) (hi : i < M.length) (hne : ent M i c ≠ 0) (h : ∀ i', r ≤ i' → i' < i → ent M i' c = 0) :
    elimR p (k + 1) r c M = elimR p k (r + 1) (c + 1) (sweepTo p c r M.length (swapR M r i)) := by
  rw [elimR, firstNZ_some hr hi hne h]
/-- All rows have been used: the rank stays. -/
theorem elim_full {p : Int} : ∀ (k r c : Nat) (M : List (List Int)), M.length ≤ r → elimR p k r c M = r
  | 0, _, _, _, _ => rfl
  | k + 1, r, c, M, h => by rw [elim_none (fun i h1 h2 => by omega)]; exact elim_full k r (c + 1) M h
theorem elim_le {p : Int} : ∀ (k r c : Nat) (M : List (List Int)), elimR p k r c M ≤ r + k
  | 0, _, _, _ => Nat.le_refl _
  | k + 1, r, c, M => by
    rw [elimR]
    split
    · have := elim_le (p := p) k r (c + 1) M; omega
    · rename_i i _
      have := elim_le (p := p) k (r + 1) (c + 1) (sweepTo p c r M.length (swapR M r i)); omega

/-- Rows from r on have zeros ahead of column c. -/
def ZerosTo (M : List (List Int)) (r c : Nat) : Prop := ∀ i j, r ≤ i → i < M.length → j < c → ent M i j = 0

theorem clear_one {p a b : Int} (hp : p = 2 ∨ p = 3) (ha0 : 0 ≤ a) (ha : a < p) (hb0 : 0 ≤ b) (hb : b < p) (hne : b ≠ 0) : (a + (p - (a * b) % p) * b) % p = 0 := by
  rcases hp with rfl | rfl
  · have : a = 0 ∨ a = 1 := by omega
    have : b = 1 := by omega
    subst this
    rcases ‹a = 0 ∨ a = 1› with rfl | rfl <;> decide
  · have h1 : a = 0 ∨ a = 1 ∨ a = 2 := by omega
    have h2 : b = 1 ∨ b = 2 := by omega
    rcases h1 with rfl | rfl | rfl <;> rcases h2 with rfl | rfl <;> decide

end Go.Proofs.Ytplcbiconfpmlaa

/-! The rows of the boundaries, the mathematics. -/
namespace Go.Proofs.Ytplcbiconfpmlaa
open Go.RowKit

/-- The sign that a list has beside a side. -/
def coefAt (L : List (Fin 64 × Int)) (s : Nat) : Int := ((L.find? fun x => x.1.val == s).map Prod.snd).getD 0
/-- The row of some sides with their signs, with a column for each number of S. -/
def bndRow (S : List Int) (p : Int) (L : List (Fin 64 × Int)) : List Int := S.map fun s => (coefAt L s.toNat + p) % p
def bndM (fs : List Int) (d p : Int) : List (List Int) := (ofDim fs d).map fun f => bndRow (ofDim fs (d - 1)) p (signedF f.toNat)

theorem bndRow_len (S : List Int) (p : Int) (L : List (Fin 64 × Int)) : (bndRow S p L).length = S.length := by simp [bndRow]
theorem bndRow_nil (S : List Int) {p : Int} (hp : p = 2 ∨ p = 3) : bndRow S p [] = List.replicate S.length 0 := by
  unfold bndRow
  rw [List.map_congr_left (g := fun _ => (0 : Int)) (fun s _ => by rcases hp with rfl | rfl <;> simp [coefAt])]
  exact List.map_const' ..
theorem bndRow_rng (S : List Int) {p : Int} (hp : 0 < p) (L : List (Fin 64 × Int)) : ∀ x ∈ bndRow S p L, 0 ≤ x ∧ x < p := by
  intro x hx
  unfold bndRow at hx
  obtain ⟨s, _, rfl⟩ := List.mem_map.1 hx
  exact ⟨Int.emod_nonneg _ (by omega), Int.emod_lt_of_pos _ hp⟩

theorem coef_snoc {L : List (Fin 64 × Int)} {x : Fin 64 × Int} (hn : ∀ y ∈ L, y.1 ≠ x.1) (s : Nat) : coefAt (L ++ [x]) s = if x.1.val = s then x.2 else coefAt L s := by
  unfold coefAt
  rw [List.find?_append]
  by_cases h : x.1.val = s
  · have hN : L.find? (fun y => y.1.val == s) = none := by
      rw [List.find?_eq_none]
      intro y hy
      have := hn y hy
      simp
      intro e
      exact this (Fin.ext (by omega))
    rw [hN, if_pos h]
    simp [h]
  · rw [if_neg h]
    have : ([x].find? fun y => y.1.val == s) = none := by simp [h]
    rw [this]
    simp

theorem asc_inj {S : List Int} (hS : S.Pairwise (· < ·)) {i j : Nat} (hi : i < S.length) (hj : j < S.length) (h : S[i] = S[j]) : i = j := by
  rw [List.pairwise_iff_getElem] at hS
  rcases Nat.lt_trichotomy i j with h1 | h1 | h1
  · have := hS i j hi hj h1; omega
  · exact h1
  · have := hS j i hj hi h1; omega

/-- One side more. -/
theorem bndRow_snoc {S : List Int} {p : Int} {L : List (Fin 64 × Int)} {x : Fin 64 × Int} (hS : S.Pairwise (· < ·)) (h0 : ∀ s ∈ S, 0 ≤ s) (hn : ∀ y ∈ L, y.1 ≠ x.1) (hm : ((x.1.val : Nat) : Int) ∈ S) :
    bndRow S p (L ++ [x]) = (bndRow S p L).set (S.idxOf ((x.1.val : Nat) : Int)) ((x.2 + p) % p) := by
  have hk := List.idxOf_lt_length_of_mem hm
  have hat : S[S.idxOf ((x.1.val : Nat) : Int)] = ((x.1.val : Nat) : Int) := List.getElem_idxOf hk
  apply List.ext_getElem?
  intro i
  unfold bndRow
  by_cases hi : i < S.length
  · rw [List.getElem?_map, List.getElem?_eq_getElem hi]
    have hs0 := h0 _ (List.getElem_mem hi)
    simp only [Option.map_some]
    rw [coef_snoc hn]
    by_cases e : S.idxOf ((x.1.val : Nat) : Int) = i
    · subst e
      rw [List.getElem?_set_self (by simpa using hi), hat]
      simp
    · rw [List.getElem?_set_ne e, List.getElem?_map, List.getElem?_eq_getElem hi]
      simp only [Option.map_some]
      rw [if_neg (fun h => e ?_)]
      have he : S[i] = ((x.1.val : Nat) : Int) := by omega
      exact asc_inj hS hk hi (hat.trans he.symm)
  · rw [List.getElem?_eq_none (by simp; omega), List.getElem?_eq_none (by simp; omega)]

theorem signed_nodup : ∀ f : Fin 64, ((signedF f.val).map fun x => x.1).Nodup := by decide +kernel
theorem signed_sub : ∀ f : Fin 64, ∀ x ∈ signedF f.val, x.1.val ≠ 0 ∧ x.1.val &&& f.val = x.1.val ∧ ones x.1.val + 1 = ones f.val ∧ (x.2 = 1 ∨ x.2 = -1) := by decide +kernel
theorem signed_below : ∀ f : Fin 64, f.val ≠ 0 → (signedF f.val).reverse.map (fun x => ((x.1.val : Nat) : Int)) = belowR f.val 63 ∧ (signedF f.val).reverse.map Prod.snd = signL f.val := by decide +kernel
theorem coef_rev : ∀ f : Fin 64, ∀ s : Fin 64, coefAt (signedF f.val).reverse s.val = coefAt (signedF f.val) s.val := by decide +kernel

/-- A prefix with one more: the one more is new. -/
theorem nodup_snoc {α β : Type} {l pre : List α} {g : α → β} {x : α} (hn : (l.map g).Nodup) (hp : pre ++ [x] <+: l) : ∀ y ∈ pre, g y ≠ g x := by
  obtain ⟨t, rfl⟩ := hp
  simp only [List.map_append, List.map_cons, List.map_nil, List.append_assoc] at hn
  intro y hy e
  rw [List.nodup_append] at hn
  exact hn.2.2 (g y) (List.mem_map_of_mem hy) (g x) (by simp) e

theorem ofDim_mem {fs : List Int} {d x : Int} : x ∈ ofDim fs d ↔ x ∈ fs ∧ (ones x.toNat : Int) = d + 1 := by unfold ofDim; rw [List.mem_filter]; simp
theorem ofDim_asc {fs : List Int} (h : fs.Pairwise (· < ·)) (d : Int) : (ofDim fs d).Pairwise (· < ·) := h.filter _
theorem ofDim_len (fs : List Int) (d : Int) : (ofDim fs d).length ≤ fs.length := List.length_filter_le _ _

/-- The sides of a face of dimension d are faces of dimension d - 1. -/
theorem side_in {V : Int} {fs : List Int} (hC : IsC V fs) {d f : Int} (hf : f ∈ ofDim fs d) {x : Fin 64 × Int} (hx : x ∈ signedF f.toNat) : ((x.1.val : Nat) : Int) ∈ ofDim fs (d - 1) := by
  obtain ⟨hm, ho⟩ := ofDim_mem.1 hf
  have hr := hC.range63 f hm
  have hs := signed_sub ⟨f.toNat, by omega⟩ x hx
  simp only at hs
  rw [ofDim_mem]
  refine ⟨hC.closed f hm _ hs.1 hs.2.1, ?_⟩
  rw [Int.toNat_natCast]
  omega

theorem bndRow_rev {V : Int} {fs : List Int} (hC : IsC V fs) {f : Int} (hf : f ∈ fs) (d p : Int) : bndRow (ofDim fs d) p (signedF f.toNat).reverse = bndRow (ofDim fs d) p (signedF f.toNat) := by
  unfold bndRow
  refine List.map_congr_left (fun s hs => ?_)
  have h1 := hC.range63 f hf
  have h2 := hC.range63 s (ofDim_mem.1 hs).1
  have := coef_rev ⟨f.toNat, by omega⟩ ⟨s.toNat, by omega⟩
  simp only at this
  rw [this]

theorem bndM_good {fs : List Int} (d : Int) {p : Int} (hp : p = 2 ∨ p = 3) : MatG p (ofDim fs d).length (ofDim fs (d - 1)).length (bndM fs d p) := by
  refine ⟨by simp [bndM], fun row hrow => ?_, fun row hrow => ?_⟩
  · unfold bndM at hrow
    obtain ⟨f, _, rfl⟩ := List.mem_map.1 hrow
    exact bndRow_len _ _ _
  · unfold bndM at hrow
    obtain ⟨f, _, rfl⟩ := List.mem_map.1 hrow
    exact bndRow_rng _ (by rcases hp with h | h <;> omega) _

/-- The rank of dimension d. -/
def rankN (fs : List Int) (d p : Int) : Nat := elimR p (ofDim fs (d - 1)).length 0 0 (bndM fs d p)

theorem elim_nil (p : Int) (k r c : Nat) : elimR p k r c [] = r := elim_full k r c [] (by simp)
theorem rankN_none {fs : List Int} {d p : Int} (h : ofDim fs d = []) : rankN fs d p = 0 := by unfold rankN bndM; rw [h]; exact elim_nil _ _ _ _
theorem rankN_low {fs : List Int} {d p : Int} (h : ofDim fs (d - 1) = []) : rankN fs d p = 0 := by unfold rankN; rw [h]; rfl

end Go.Proofs.Ytplcbiconfpmlaa

/-! The place of a number in a list, the model's and the program's. -/
namespace Go.Proofs.Ytplcbiconfpmlaa
open Go.RowKit

theorem idx_at {x : Int} {xs : List Int} (hm : x ∈ xs) : xs[xs.idxOf x]?.getD 0 = x := by
  have hk := List.idxOf_lt_length_of_mem hm
  rw [List.getElem?_eq_getElem hk]
  simp [List.getElem_idxOf hk]
theorem idx_ne {x : Int} {xs : List Int} {k : Nat} (hk : k < xs.idxOf x) : xs[k]?.getD 0 ≠ x := by
  have hl := List.idxOf_le_length (a := x) (l := xs)
  rw [List.getElem?_eq_getElem (by omega : k < xs.length)]
  simp only [Option.getD_some]
  unfold List.idxOf at hk
  have := List.not_of_lt_findIdx hk
  simpa using this

set_option maxRecDepth 100000 in
set_option maxHeartbeats 1000000 in
theorem index_at (a : Option Addr) (cap : Nat) (xs : List Int) (x : Int) (w : World) (hx : SlI w w.heap.size a xs) (hl : xs.length ≤ 1048576) (hm : x ∈ xs) :
    Calls Try.prog 179 #[.slice a xs.length cap, .int .i64 x] w fun e w' => e = .returned (.int .i64 (xs.idxOf x : Int)) ∧ w = w' := by
  rcases hx with rfl | ⟨b, off, hb, rfl, hc⟩
  · simp at hm
  · have Hc := hid hc
    have hil := List.idxOf_lt_length_of_mem hm
    have Hat := hid (idx_at hm)
    obtain ⟨q, hq⟩ : ∃ q, q = xs.idxOf x := ⟨_, rfl⟩
    rw [← hq] at hil Hat ⊢
    have Hlt := hid (fun k (hk : k < q) => idx_ne (x := x) (xs := xs) (by rw [← hq]; exact hk))
    clear hc hm hq
    go_enter Try.func179, Try.ntmps179
    go_wp2
    go_loop [8] (fun i => ∃ k : Nat, k ≤ q ∧ i = .int .i64 k) (fun i => xs.length - (intOf i).toNat)
    case atStart => exact ⟨0, Nat.zero_le _, rfl⟩
    case round =>
      obtain ⟨k, hk, rfl⟩ := hrel
      obtain ⟨y, hy⟩ : ∃ y, y = xs[k]?.getD 0 := ⟨_, rfl⟩
      have hck : w.cell? ⟨b, off + k, none⟩ = some (.int .i64 y) := by rw [hy]; exact Hc.out k (by omega)
      have hi0 : (0 : Int) ≤ (k : Int) := by omega
      have hi1 : (k : Int) < (xs.length : Int) := by omega
      by_cases hlt : k < q
      · have hd : (x == y) = false := by have := Hlt.out k hlt; rw [← hy] at this; simp; omega
        clear hy
        go_wp2
        go_round
        case rel => exact ⟨k + 1, by omega, by go_num⟩
        case measure => simp [intOf]; omega
      · obtain rfl : k = q := by omega
        have hd : (x == y) = true := by have := Hat.out; rw [← hy] at this; simp [this]
        clear hy
        go_wp2
        go_ret
        exact ⟨rfl, rfl⟩

set_option maxRecDepth 100000 in
set_option maxHeartbeats 1000000 in
theorem place_at (a : Option Addr) (cap : Nat) (xs : List Int) (x : Int) (w : World) (hx : SlI w w.heap.size a xs) (hl : xs.length ≤ 1048576) (hm : x ∈ xs) :
    Calls Try.prog 202 #[.slice a xs.length cap, .int .i64 x] w fun e w' => e = .returned (.int .i64 (xs.idxOf x : Int)) ∧ w = w' := by
  rcases hx with rfl | ⟨b, off, hb, rfl, hc⟩
  · simp at hm
  · have Hc := hid hc
    have hil := List.idxOf_lt_length_of_mem hm
    have Hat := hid (idx_at hm)
    obtain ⟨q, hq⟩ : ∃ q, q = xs.idxOf x := ⟨_, rfl⟩
    rw [← hq] at hil Hat ⊢
    have Hlt := hid (fun k (hk : k < q) => idx_ne (x := x) (xs := xs) (by rw [← hq]; exact hk))
    clear hc hm hq
    go_enter Try.func202, Try.ntmps202
    go_wp2
    go_loop [5] (fun i => ∃ k : Nat, k ≤ q ∧ i = .int .i64 k) (fun i => xs.length - (intOf i).toNat)
    case atStart => exact ⟨0, Nat.zero_le _, rfl⟩
    case round =>
      obtain ⟨k, hk, rfl⟩ := hrel
      obtain ⟨y, hy⟩ : ∃ y, y = xs[k]?.getD 0 := ⟨_, rfl⟩
      have hck : w.cell? ⟨b, off + k, none⟩ = some (.int .i64 y) := by rw [hy]; exact Hc.out k (by omega)
      have hi0 : (0 : Int) ≤ (k : Int) := by omega
      have hi1 : (k : Int) < (xs.length : Int) := by omega
      by_cases hlt : k < q
      · have hd : (y == x) = false := by have := Hlt.out k hlt; rw [← hy] at this; simp; omega
        clear hy
        go_wp2
        go_round
        case rel => exact ⟨k + 1, by omega, by go_num⟩
        case measure => simp [intOf]; omega
      · obtain rfl : k = q := by omega
        have hd : (y == x) = true := by have := Hat.out; rw [← hy] at this; simp [this]
        clear hy
        go_wp2
        go_ret
        exact ⟨rfl, rfl⟩

end Go.Proofs.Ytplcbiconfpmlaa

/-! slices.Reverse at []int64. -/
namespace Go.Proofs.Ytplcbiconfpmlaa
open Go.RowKit Go.Lib Go.Sort



end Go.Proofs.Ytplcbiconfpmlaa
