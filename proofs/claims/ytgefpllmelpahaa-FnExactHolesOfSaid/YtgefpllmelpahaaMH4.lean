import Derived.Lib.QuietBelow
import Derived.Maps.OwnSet
import Derived.Deep.RegionHeld3
import Derived.Test.YtgefpllmelpahaaMH1
import Derived.Test.YtgefpllmelpahaaMH2
/-! The sides of a face, one after the other: an iterator. -/
namespace Go.Proofs.Ytgefpllmelpahaa
open Go.RowKit Go.Shelf

attribute [local go_sem] Oper.semAt_some

/-- A face without a vertex (the face itself if the vertex is not in it). -/
def sideN (f v : Nat) : Nat := f - (f &&& 2 ^ v)
def sideO (f v : Nat) : Option (Fin 64) := if h : sideN f v < 64 then (if sideN f v ≠ f ∧ sideN f v ≠ 0 then some ⟨sideN f v, h⟩ else none) else none
/-- The sides that lack one of the first k vertices. -/
def sidesTo (f k : Nat) : List (Fin 64) := (List.range k).filterMap (sideO f)
def sidesF (f : Nat) : List (Fin 64) := sidesTo f 6

theorem side_lt {f : Nat} (hf : f < 64) (v : Nat) : sideN f v < 64 := by unfold sideN; omega
theorem side_bits : ∀ f : Fin 64, ∀ v : Fin 6, bits BinOp.andNot IntKind.i64 (f.val : Int) (wrap64 (2 ^ v.val)) = (sideN f.val v.val : Int) := by decide +kernel
theorem sidesTo_some {f k : Nat} (hf : f < 64) (h1 : sideN f k ≠ f) (h0 : sideN f k ≠ 0) : sidesTo f (k + 1) = sidesTo f k ++ [⟨sideN f k, side_lt hf k⟩] := by
  unfold sidesTo
  rw [List.range_succ, List.filterMap_append]
  have : sideO f k = some ⟨sideN f k, side_lt hf k⟩ := by unfold sideO; rw [dif_pos (side_lt hf k), if_pos ⟨h1, h0⟩]
  simp [this]
theorem sidesTo_none {f k : Nat} (h : ¬ (sideN f k ≠ f ∧ sideN f k ≠ 0)) : sidesTo f (k + 1) = sidesTo f k := by
  unfold sidesTo
  rw [List.range_succ, List.filterMap_append]
  have : sideO f k = none := by
    unfold sideO
    by_cases hh : sideN f k < 64
    · rw [dif_pos hh, if_neg h]
    · rw [dif_neg hh]
  simp [this]
theorem sidesTo_prefix (f : Nat) : ∀ m k, sidesTo f k <+: sidesTo f (k + m)
  | 0, k => List.prefix_refl _
  | m + 1, k => by
    refine (sidesTo_prefix f m k).trans ?_
    unfold sidesTo
    rw [← Nat.add_assoc, List.range_succ, List.filterMap_append]
    exact List.prefix_append _ _
theorem sides_len (f k : Nat) : (sidesTo f k).length ≤ k := by
  unfold sidesTo
  exact Nat.le_trans (List.length_filterMap_le _ _) (by simp)

set_option maxRecDepth 100000 in
set_option maxHeartbeats 2000000 in
/-- The iterator over the sides of f: whatever the loop's body, as long as it keeps the block of f. -/
theorem sides1_in (n : Nat) (hn : 1 ≤ n) (l B0 f : Nat) (hf : f < 64) (J Jx : List (Fin 64) → World → Prop)
    (hY : ∀ pre x W, J pre W → pre ++ [x] <+: sidesF f → YieldAt Fence.wide (n - 1) Try.prog l #[.int .i64 (x.val : Int)] W fun e W' =>
      (e = .returned (.bool true) ∧ J (pre ++ [x]) W' ∧ KeepB B0 W W') ∨ (e = .returned (.bool false) ∧ Jx (pre ++ [x]) W'))
    (hJd : ∀ pre W m, J pre W → J pre (W.drewN m))
    (W : World) (hB0 : W.heap[B0]? = some (.cells #[.int .i64 (f : Int)] 2 (0, 0))) (h0 : J [] W) :
    CallsIn Fence.wide n Try.prog 215 #[.func (.yield l) #[] #[], .pointer (some ⟨B0, 0, none⟩)] W fun e W' => (∃ v, e = .returned v) ∧
      ((∃ ys, ys = sidesF f ∧ J ys W') ∨ (∃ pre, pre <+: sidesF f ∧ Jx pre W')) := by
  have c0 := (box_cell hB0).1
  refine callsIn_of_wp Try.func215 rfl trivial ?_ rfl
  simp only [Try.ntmps215, List.size_toArray, List.length_cons, List.length_nil, Nat.reduceAdd, Nat.reduceSub, Array.replicate_succ, Array.replicate_zero, List.push_toArray, List.append_toArray, List.nil_append, List.cons_append]
  gi_wp2
  gi_loopw [5] (fun p wr => ∃ (k : Nat), p = .int .i64 (k : Int) ∧ k ≤ 6 ∧ J (sidesTo f k) wr ∧ wr.heap[B0]? = some (.cells #[.int .i64 (f : Int)] 2 (0, 0)))
    (fun p _ => 6 - (intOf p).toNat)
  case atStart =>
    exact ⟨0, rfl, by omega, h0, hB0⟩
  case round =>
    obtain ⟨k, rfl, hk, hJs, hBr⟩ := hrel
    by_cases hk6 : k < 6
    · have hki : (k : Int) < 6 := by omega
      have hk0 : (0 : Int) ≤ (k : Int) := by omega
      have c0r := (box_cell hBr).1
      have hb : bits BinOp.andNot IntKind.i64 (f : Int) (wrap64 (2 ^ k)) = (sideN f k : Int) := side_bits ⟨f, hf⟩ ⟨k, hk6⟩
      obtain ⟨s, hs⟩ : ∃ s, s = sideN f k := ⟨_, rfl⟩
      rw [← hs] at hb
      have hs64 : s < 64 := by rw [hs]; exact side_lt hf k
      have HJ := hid hJs
      have HB := hid hBr
      clear hJs hBr
      by_cases h1 : s = f
      · have hd : ((s : Int) != (f : Int)) = false := by simp [h1]
        have Hst := hid (sidesTo_none (f := f) (k := k) (fun h => h.1 (by rw [← hs]; exact h1)))
        clear h1 hs
        gi_wp2
        gi_quiet (fail)
        gi_wp2
        refine ⟨fun _ h => (by cases h), ?_⟩
        gi_wp2
        go_roundw
        case rel => exact ⟨k + 1, by go_num, by omega, by rw [Hst.out]; exact hJd _ _ _ HJ.out, HB.out⟩
        case measure => simp [intOf]; omega
      · have hd : ((s : Int) != (f : Int)) = true := by simp; omega
        by_cases h2 : s = 0
        · have hd2 : ((s : Int) != 0) = false := by simp [h2]
          have Hst := hid (sidesTo_none (f := f) (k := k) (fun h => h.2 (by rw [← hs]; exact h2)))
          clear h1 h2 hs
          gi_wp2
          gi_quiet (fail)
          gi_wp2
          refine ⟨fun _ h => (by cases h), ?_⟩
          gi_wp2
          go_roundw
          case rel => exact ⟨k + 1, by go_num, by omega, by rw [Hst.out]; exact hJd _ _ _ HJ.out, HB.out⟩
          case measure => simp [intOf]; omega
        · have hd2 : ((s : Int) != 0) = true := by simp; omega
          have Hst := hid (sidesTo_some hf (k := k) (by rw [← hs]; exact h1) (by rw [← hs]; exact h2))
          have Hpre : Hid (sidesTo f k ++ [⟨s, hs64⟩] <+: sidesF f) := hid (by
            have e : sidesTo f (k + 1) = sidesTo f k ++ [⟨s, hs64⟩] := by rw [Hst.out]; simp [hs]
            rw [← e]
            have := sidesTo_prefix f (6 - (k + 1)) (k + 1)
            rwa [show k + 1 + (6 - (k + 1)) = 6 by omega] at this)
          have Hst' : Hid (sidesTo f (k + 1) = sidesTo f k ++ [⟨s, hs64⟩]) := hid (by rw [Hst.out]; simp [hs])
          have HY : Hid (∀ W', J (sidesTo f k) W' → YieldAt Fence.wide (n - 1) Try.prog l #[.int .i64 (s : Int)] W' fun e W'' =>
              (e = .returned (.bool true) ∧ J (sidesTo f k ++ [⟨s, hs64⟩]) W'' ∧ KeepB B0 W' W'') ∨ (e = .returned (.bool false) ∧ Jx (sidesTo f k ++ [⟨s, hs64⟩]) W'')) := hid (fun W' hj => hY _ ⟨s, hs64⟩ W' hj Hpre.out)
          clear h1 h2 hs Hst
          gi_wp2
          gi_quiet (fail)
          obtain ⟨fn, tmps, assign, body, hy, hR⟩ := HY.out _ (hJd _ _ nq HJ.out)
          gi_wp2
          refine hR.mono ?_
          rintro e W3 (⟨rfl, hJ3, hk3⟩ | ⟨rfl, hJx3⟩)
          · have hBr3 : W3.heap[B0]? = some (.cells #[.int .i64 (f : Int)] 2 (0, 0)) := Eq.trans hk3 HB.out
            have c03 := (box_cell hBr3).1
            gi_wp2
            go_roundw
            case rel => exact ⟨k + 1, by go_num, by omega, by rw [Hst'.out]; exact hJ3, hBr3⟩
            case measure => simp [intOf]; omega
          · gi_wp2
            refine bodyPost_ret (results_none rfl _ _ _) rfl ?_
            exact ⟨⟨_, rfl⟩, .inr ⟨_, Hpre.out, hJx3⟩⟩
    · obtain rfl : k = 6 := by omega
      gi_wp2
      go_end0
      exact ⟨⟨_, rfl⟩, .inl ⟨_, rfl, hJs⟩⟩

set_option maxHeartbeats 1000000 in
/-- sidesOf: its argument is boxed; the function value captures the box. -/
theorem sides_in (n : Nat) (x : Int) (w : World) :
    CallsIn Fence.wide n Try.prog 154 #[.int .i64 x] w fun e w' => e = .returned (.func (.func 215) #[] #[.pointer (some ⟨w.heap.size, 0, none⟩)]) ∧ w' = w.alloc (.cells #[.int .i64 x] 2) := by
  refine callsIn_of_wp Try.func154 rfl trivial ?_ rfl
  simp only [Try.ntmps154, List.size_toArray, List.length_cons, List.length_nil, Nat.reduceAdd, Nat.reduceSub, Array.replicate_succ, Array.replicate_zero, List.push_toArray, List.append_toArray, List.nil_append, List.cons_append]
  gi_wp2
  go_ret
  exact ⟨rfl, rfl⟩

theorem grown_drewN (W : World) (m : Nat) : W.grownBy (W.drewN m) none := ⟨rfl, rfl, rfl, Nat.le_refl _, fun _ _ _ => rfl⟩

theorem sides_stops (n : Nat) (hn : 1 ≤ n) (B0 f : Nat) (hf : f < 64) (w : World) (hB : B0 < w.heap.size)
    (hc : w.heap[B0]? = some (.cells #[.int .i64 (f : Int)] 2 (0, 0))) :
    SeqStopsK Fence.wide n Try.prog 215 #[.pointer (some ⟨B0, 0, none⟩)] (fun x : Fin 64 => #[Value.int .i64 (x.val : Int)]) (KeepB B0) (fun ys => ys = sidesF f) (fun pre => pre <+: sidesF f) 64 w :=
  fun l J Jx W hW hA _ hY h0 => sides1_in n hn l B0 f hf J Jx (fun pre x W1 hj hp => hY pre x W1 hj (by have h1 := hp.length_le; have h2 := sides_len f 6; unfold sidesF at h1; simp only [List.length_append, List.length_cons, List.length_nil] at h1; omega)) (fun pre W m h => hA pre W _ none h (grown_drewN W m) (fun r e => by cases e)) W ((hW.block B0 hB).trans hc) h0

end Go.Proofs.Ytgefpllmelpahaa

/-! Iterators that keep a state of their own in cells: what lies in the blocks that they lay themselves. -/
namespace Go.Proofs.Ytgefpllmelpahaa
open Go.RowKit Go.Shelf

attribute [local go_sem] Oper.semAt_some

/-- I abides new blocks, and the turn of one of the k blocks from lo on, or of one behind them that is no cells. -/
def OwnIn {β : Type} (lo k : Nat) (I : β → World → Prop) : Prop :=
  ∀ s W W' row, I s W → W.grownBy W' row → (∀ r, row = some r → lo ≤ r ∧ (r < lo + k ∨ ∃ o : Obj, W.heap[r]? = some o ∧ o.isCells = false)) → I s W'

/-- The blocks Bs and the k blocks from lo on lie as they lay; no block is lost. -/
structure KeepP (Bs : List Nat) (lo k : Nat) (W W' : World) : Prop where
  size : W.heap.size ≤ W'.heap.size
  same : ∀ r, (r ∈ Bs ∨ (lo ≤ r ∧ r < lo + k)) → W'.heap[r]? = W.heap[r]?

theorem KeepP.refl (Bs : List Nat) (lo k : Nat) (W : World) : KeepP Bs lo k W W := ⟨Nat.le_refl _, fun _ _ => rfl⟩
theorem KeepP.trans {Bs : List Nat} {lo k : Nat} {X Y Z : World} (h : KeepP Bs lo k X Y) (h' : KeepP Bs lo k Y Z) : KeepP Bs lo k X Z := ⟨Nat.le_trans h.size h'.size, fun r hr => (h'.same r hr).trans (h.same r hr)⟩
theorem KeepP.of_grownBy {Bs : List Nat} {lo k : Nat} {W W' : World} {row : Option Nat} (hg : W.grownBy W' row) (hB : ∀ b ∈ Bs, b < W.heap.size) (hlo : lo + k ≤ W.heap.size) (hrow : ∀ j, row = some j → j ∉ Bs ∧ (j < lo ∨ lo + k ≤ j)) : KeepP Bs lo k W W' :=
  ⟨hg.size, fun r hr => hg.block r (by rcases hr with h | h; exact hB r h; omega) (fun e => by have := hrow r e.symm; rcases hr with h | h; exact this.1 h; omega)⟩
theorem KeepP.of_below {Bs : List Nat} {lo k B : Nat} {W W' : World} (h : Below B W W') (hB : ∀ b ∈ Bs, b < B) (hlo : lo + k ≤ B) : KeepP Bs lo k W W' :=
  ⟨h.size, fun r hr => h.block r (by rcases hr with h | h; exact hB r h; omega)⟩
theorem KeepP.less {Bs Bs' : List Nat} {lo lo' k k' : Nat} {W W' : World} (h : KeepP Bs lo k W W') (hB : ∀ b ∈ Bs', b ∈ Bs ∨ (lo ≤ b ∧ b < lo + k)) (hlo : lo ≤ lo') (hk : lo' + k' ≤ lo + k) : KeepP Bs' lo' k' W W' :=
  ⟨h.size, fun r hr => h.same r (by rcases hr with h | h; exact hB r h; exact .inr (by omega))⟩
theorem KeepP.setCell {Bs : List Nat} {lo k : Nat} (W : World) (b : Nat) (o : Nat) (v : Value) (hb : b ∉ Bs ∧ (b < lo ∨ lo + k ≤ b)) : KeepP Bs lo k W (W.setCell ⟨b, o, none⟩ v) :=
  ⟨by simp [World.setCell], fun r hr => Below.heap_setCell _ _ _ _ (fun e => by simp only at e; subst e; rcases hr with h | h; exact hb.1 h; omega)⟩

theorem OwnIn.less {β : Type} {lo lo' k k' : Nat} {I : β → World → Prop} (h : OwnIn lo k I) (hlo : lo ≤ lo') (hk : lo' + k' ≤ lo + k) : OwnIn lo' k' I :=
  fun s W W' row hs hg hr => h s W W' row hs hg (fun r e => by
    obtain ⟨h1, h2⟩ := hr r e
    refine ⟨by omega, ?_⟩
    rcases h2 with h2 | h2
    · exact .inl (by omega)
    · exact .inr h2)
theorem OwnIn.and {β : Type} {lo k : Nat} {I I' : β → World → Prop} (h : OwnIn lo k I) (h' : OwnIn lo k I') : OwnIn lo k (fun s W => I s W ∧ I' s W) := fun s W W' row hs hg hr => ⟨h s W W' row hs.1 hg hr, h' s W W' row hs.2 hg hr⟩
theorem OwnIn.alloc {β : Type} {lo k : Nat} {I : β → World → Prop} (h : OwnIn lo k I) {s : β} {W : World} (o : Obj) (hs : I s W) : I s (W.alloc o) := h s W _ none hs (World.grownBy_alloc W o none) (fun r e => by cases e)
theorem OwnIn.drewN {β : Type} {lo k : Nat} {I : β → World → Prop} (h : OwnIn lo k I) {s : β} {W : World} (m : Nat) (hs : I s W) : I s (W.drewN m) := h s W _ none hs (grown_drewN W m) (fun r e => by cases e)
theorem OwnIn.putObj {β : Type} {lo k : Nat} {I : β → World → Prop} (h : OwnIn lo k I) {s : β} {W : World} {l : Nat} (o' : Obj) (hs : I s W) (h1 : lo ≤ l) (h2 : l < lo + k) : I s (W.putObj l o') :=
  h s W _ (some l) hs (grownBy_putObj' W l o') (fun r e => by cases e; exact ⟨h1, .inl h2⟩)
theorem OwnIn.map {β γ : Type} {lo k : Nat} {I : β → World → Prop} (h : OwnIn lo k I) (f : γ → β) : OwnIn lo k (fun s W => I (f s) W) := fun s W W' row hs hg hr => h (f s) W W' row hs hg hr
theorem ownIn_pure {β : Type} (lo k : Nat) (p : β → Prop) : OwnIn lo k (fun s (_ : World) => p s) := fun _ _ _ _ hs _ _ => hs
/-- What lies in a block of cells ahead of lo, or beyond the k blocks, stays. -/
theorem ownIn_block {β : Type} {lo k : Nat} {b : Nat} (f : β → Obj) (hb : b < lo) : OwnIn lo k (fun s (W : World) => W.heap[b]? = some (f s)) :=
  fun s W W' row hs hg hr => (hg.block b (Array.getElem?_eq_some_iff.1 hs).1 (fun e => by have := (hr b e.symm).1; omega)).trans hs
theorem ownIn_below {β : Type} {lo k n₀ : Nat} {w₀ : World} (h0 : n₀ ≤ lo) (hsz : n₀ ≤ w₀.heap.size) : OwnIn lo k (fun (_ : β) W => Below n₀ w₀ W) :=
  fun _ W W' row hs hg hr => hs.grown hg (Nat.le_trans hsz hs.size) (fun r e => by have := (hr r e).1; omega)

/-- An iterator's contract: it hands over the elements of L, one after the other, until a round says no more; it lays k blocks of its own when it begins, and reads the blocks Bs; every invariant that abides the turns of its own blocks is carried on. -/
def SeqStopsP {α : Type} (F : Fence) (n : Nat) (P : Program) (g : Nat) (lb : Array Value) (encs : α → Array Value) (Bs : List Nat) (k : Nat) (L : List α) (w0 : World) : Prop :=
  ∀ (l : Nat) (J Jx : List α → World → Prop) (W : World), Below w0.heap.size w0 W → OwnIn W.heap.size k J → OwnIn W.heap.size k Jx →
    (∀ pre x W1, pre ++ [x] <+: L → W.heap.size + k ≤ W1.heap.size → J pre W1 → YieldAt F (n - 1) P l (encs x) W1 fun e W' => KeepP Bs W.heap.size k W1 W' ∧ ((e = .returned (.bool true) ∧ J (pre ++ [x]) W') ∨ (e = .returned (.bool false) ∧ Jx (pre ++ [x]) W'))) →
    J [] W →
    CallsIn F n P g (#[.func (.yield l) #[] #[]] ++ lb) W fun e W' => (∃ v, e = .returned v) ∧ (J L W' ∨ ∃ pre, pre <+: L ∧ Jx pre W')

/-- How a round may be left. -/
def postP {α : Type} (Bs : List Nat) (lo k : Nat) (I : List α → World → Prop) (Ix : Code → List α → World → Prop) (xs : List α) (W : World) : Exit → Act → World → Prop
  | .normal, _, W' => KeepP Bs lo k W W' ∧ I xs W'
  | .ret, _, W' => KeepP Bs lo k W W' ∧ Ix .ret xs W'
  | .exit id, _, W' => KeepP Bs lo k W W' ∧ Ix (.exit id) xs W'
  | .goto t, _, W' => KeepP Bs lo k W W' ∧ Ix (.goto t) xs W'
  | .panic _, _, _ => False
  | .outgrown, _, _ => False

/-- A loop over such an iterator. -/
theorem wpIn_rangeFunc_P {α : Type} {F : Fence} {n : Nat} {P : Program} {w : World} {g : Operand} {ps : Array Tmp} {assign body : Code} {Q : Exit → Act → World → Prop} {a : Act}
    (hro : F.round = none) (h1 : 1 ≤ n) {gf : Nat} {lb : Array Value} (hg : a.eval g = .func (.func gf) #[] lb) (hFg : F.fn gf) (eg : ∀ args w, (callFunc gf args).run P w = .ok (.enter gf args) w)
    {encs : α → Array Value} {Bs : List Nat} {k : Nat} {L : List α} {w0 : World} (hseq : SeqStopsP F (n - 1) P gf lb encs Bs k L w0) (hBs : ∀ b ∈ Bs, b < w.heap.size)
    (hb0 : Below w0.heap.size w0 w) (hps : ∀ x, (encs x).size = ps.size)
    (I : List α → World → Prop) (Ix : Code → List α → World → Prop) (hI : OwnIn w.heap.size (2 + k) I) (hIx : ∀ c, OwnIn w.heap.size (2 + k) (Ix c)) (h0 : I [] w) (a₁ : α → Act)
    (hassign : ∀ (l : Nat) (x : α) (W : World) (K : Act → World → Prop), K (a₁ x) W →
      assign.wpIn (F.inRound l) (n - 1 - 1) P (Exit.then K (fun _ _ _ => False)) { tmps := (ps.zip (encs x)).foldl (fun t (p, v) => t.setIfInBounds p v) a.tmps, defers := [] } W)
    (hbody : ∀ (l : Nat) (pre : List α) (x : α) (W : World), pre ++ [x] <+: L → w.heap.size + (2 + k) ≤ W.heap.size → I pre W → body.wpIn (F.inRound l) (n - 1 - 1) P (postP Bs w.heap.size (2 + k) I Ix (pre ++ [x]) W) (a₁ x) W)
    (hdone : ∀ (W : World), I L W → W.heap[w.heap.size]? = some (.deferred (some [])) → Q .normal { a with defers := { target := .collected w.heap.size, args := #[] } :: a.defers } W)
    (hstop : ∀ (c : Code) (pre : List α) (W : World), pre <+: L → Ix c pre W → W.heap[w.heap.size]? = some (.deferred (some [])) → c.wpIn F n P Q { a with defers := { target := .collected w.heap.size, args := #[] } :: a.defers } W) :
    (Code.rangeFunc g ps assign body).wpIn F n P Q a w := by
  refine wpIn_rangeFunc ?_
  intro fn hfn
  rw [hro]
  let rec_ : LoopState → Option Code → Loop := fun st pe => { state := st, pending := pe, fn, tmps := a.tmps, params := ps, assign, body, defers := w.heap.size }
  obtain ⟨rec, hrec⟩ : ∃ rec, rec = rec_ := ⟨_, rfl⟩
  obtain ⟨W1, hW1⟩ : ∃ W1, (w.alloc (.deferred (some []))).alloc (.loop (rec .ready none)) = W1 := ⟨_, rfl⟩
  have hs1 : W1.heap.size = w.heap.size + 2 := by rw [← hW1]; simp
  have hL1 : W1.heap[w.heap.size + 1]? = some (.loop (rec .ready none)) := by
    rw [← hW1]; have := World.alloc_heap_new (w.alloc (.deferred (some []))) (.loop (rec .ready none)); rwa [World.size_alloc] at this
  have hK1 : W1.heap[w.heap.size]? = some (.deferred (some [])) := by
    rw [← hW1]; exact (Below.heap_alloc _ _ _ (by simp)).trans (World.alloc_heap_new w _)
  have hI1 : I [] W1 := by rw [← hW1]; exact hI.alloc _ (hI.alloc _ h0)
  have hb1 : Below w0.heap.size w0 W1 := by
    rw [← hW1]; exact hb0.trans ((((Below.refl _ w).alloc (Nat.le_refl _) _).alloc (by simp) _).mono hb0.size)
  have hIk : ∀ {I' : List α → World → Prop}, OwnIn w.heap.size (2 + k) I' → OwnIn W1.heap.size k I' := fun h => h.less (by omega) (by omega)
  refine ⟨w.heap.size + 1, [{ target := .collected w.heap.size, args := #[] }], W1, { target := .fn (.func gf) lb, args := #[.func (.yield (w.heap.size + 1)) #[] #[]] }, W1, gf,
    #[.func (.yield (w.heap.size + 1)) #[] #[]] ++ lb, W1, ?_, ?_, ?_, ?_, fun _ => h1, ?_⟩
  · rw [← hW1, hrec]; exact run_enterLoop_outer _ _ _ _ _
  · simp only [resolve, hg]
    simp [go_sem]
  · intro f' hf'; simp [Target.leads] at hf'; subst hf'; exact hFg
  · simp [invoke, go_sem, eg]
  · have hrow : ∀ {A B : World} {row : Option Nat} {b : Nat} {o : Obj}, A.grownBy B row → (∀ r, row = some r → W1.heap.size ≤ r ∧ (r < W1.heap.size + k ∨ ∃ o : Obj, A.heap[r]? = some o ∧ o.isCells = false)) → b < W1.heap.size → A.heap[b]? = some o → B.heap[b]? = some o :=
      fun hg' hr hb ho => (hg'.block _ (Array.getElem?_eq_some_iff.1 ho).1 (fun e => by have := (hr _ e.symm).1; omega)).trans ho
    refine (hseq (w.heap.size + 1)
      (fun pre W => I pre W ∧ W.heap[w.heap.size + 1]? = some (.loop (rec .ready none)) ∧ W.heap[w.heap.size]? = some (.deferred (some [])))
      (fun pre W => ∃ c, Ix c pre W ∧ W.heap[w.heap.size + 1]? = some (.loop (rec .done (some c))) ∧ W.heap[w.heap.size]? = some (.deferred (some [])))
      W1 hb1
      (fun s A B row hs hg' hr => ⟨hIk hI s A B row hs.1 hg' hr, hrow hg' hr (by omega) hs.2.1, hrow hg' hr (by omega) hs.2.2⟩)
      (fun s A B row hs hg' hr => by
        obtain ⟨c, hc, hl, hk⟩ := hs
        exact ⟨c, hIk (hIx c) s A B row hc hg' hr, hrow hg' hr (by omega) hl, hrow hg' hr (by omega) hk⟩)
      ?_ ⟨hI1, hL1, hK1⟩).mono ?_
    · rintro pre x W hpre hsk ⟨hi, hl, hk⟩
      have hlt : w.heap.size + 1 < W.heap.size := (Array.getElem?_eq_some_iff.1 hl).1
      have hy := run_yield (P := P) (args := encs x) hl (by rw [hrec]; exact hps x)
      rw [hrec] at hy
      refine ⟨fn, _, assign, body, hy, roundIn_of_wpIn hfn (hassign _ x W _ ?_)⟩
      clear hy
      refine ⟨_, run_beginRound hl (by rw [hrec]), ?_⟩
      obtain ⟨W2, hW2⟩ : ∃ W2, W2 = W.putObj (w.heap.size + 1) (.loop { rec .ready none with state := .busy }) := ⟨_, rfl⟩
      have hl2 : W2.heap[w.heap.size + 1]? = some (.loop { rec .ready none with state := .busy }) := by rw [hW2]; exact World.putObj_heap_same hlt
      have hk2 : W2.heap[w.heap.size]? = some (.deferred (some [])) := by rw [hW2]; exact (World.putObj_heap_other (by omega)).trans hk
      have hi2 : I pre W2 := by rw [hW2]; exact hI.putObj _ hi (by omega) (by omega)
      have hkp : ∀ {X Y : World} {o : Obj}, X = Y.putObj (w.heap.size + 1) o → KeepP Bs W1.heap.size k Y X := fun e => ⟨by rw [e, World.putObj_size]; exact Nat.le_refl _, fun r hr => by
        rw [e]
        refine World.putObj_heap_other ?_
        rcases hr with h | h
        · have := hBs r h; omega
        · omega⟩
      refine wpIn_mono (hbody _ pre x _ hpre (by rw [World.putObj_size]; omega) (by rw [← hW2]; exact hi2)) ?_
      rw [← hW2]
      have fin : ∀ (jump : Option Code) (W3 : World), KeepP Bs w.heap.size (2 + k) W2 W3 →
          (Instr.endRound (w.heap.size + 1) jump).run P W3 = .ok (.bool jump.isNone) (W3.putObj (w.heap.size + 1) (.loop (rec (if jump.isNone then .ready else .done) jump))) ∧
          (W3.putObj (w.heap.size + 1) (.loop (rec (if jump.isNone then .ready else .done) jump))).heap[w.heap.size + 1]? = some (.loop (rec (if jump.isNone then .ready else .done) jump)) ∧
          (W3.putObj (w.heap.size + 1) (.loop (rec (if jump.isNone then .ready else .done) jump))).heap[w.heap.size]? = some (.deferred (some [])) ∧
          KeepP Bs W1.heap.size k W (W3.putObj (w.heap.size + 1) (.loop (rec (if jump.isNone then .ready else .done) jump))) := fun jump W3 hk3 => by
        have hl3 := (hk3.same (w.heap.size + 1) (.inr ⟨by omega, by omega⟩)).trans hl2
        have hd3 := (hk3.same w.heap.size (.inr ⟨by omega, by omega⟩)).trans hk2
        have := run_endRound (P := P) jump hl3
        rw [hrec] at this ⊢
        exact ⟨this, World.putObj_heap_same (Array.getElem?_eq_some_iff.1 hl3).1, (World.putObj_heap_other (by omega)).trans hd3,
          (hkp hW2).trans ((hk3.less (fun b hb => .inl hb) (by omega) (by omega)).trans (hkp rfl))⟩
      rintro e a3 W3 hp
      cases e with
      | normal =>
        obtain ⟨hr, hl4, hk4, hkk⟩ := fin none W3 hp.1
        exact ⟨_, _, hr, hkk, .inl ⟨rfl, hI.putObj _ hp.2 (by omega) (by omega), hl4, hk4⟩⟩
      | ret =>
        obtain ⟨hr, hl4, hk4, hkk⟩ := fin (some .ret) W3 hp.1
        exact ⟨_, _, hr, hkk, .inr ⟨rfl, .ret, (hIx _).putObj _ hp.2 (by omega) (by omega), hl4, hk4⟩⟩
      | exit id =>
        obtain ⟨hr, hl4, hk4, hkk⟩ := fin (some (.exit id)) W3 hp.1
        exact ⟨_, _, hr, hkk, .inr ⟨rfl, .exit id, (hIx _).putObj _ hp.2 (by omega) (by omega), hl4, hk4⟩⟩
      | goto t =>
        obtain ⟨hr, hl4, hk4, hkk⟩ := fin (some (.goto t)) W3 hp.1
        exact ⟨_, _, hr, hkk, .inr ⟨rfl, .goto t, (hIx _).putObj _ hp.2 (by omega) (by omega), hl4, hk4⟩⟩
      | panic ch => exact hp.elim
      | outgrown => exact hp.elim
    · rintro e W2 ⟨⟨v, rfl⟩, (⟨hi, hl, hk⟩ | ⟨pre, hSp, c, hi, hl, hk⟩)⟩
      · exact ⟨none, _, by have := run_endLoop (P := P) hl (by rw [hrec]; simp [rec_]); rw [hrec] at this; exact this, hdone _ (hI.putObj _ hi (by omega) (by omega)) ((World.putObj_heap_other (by omega)).trans hk)⟩
      · exact ⟨some c, _, by have := run_endLoop (P := P) hl (by rw [hrec]; simp [rec_]); rw [hrec] at this; exact this, hstop c pre _ hSp ((hIx c).putObj _ hi (by omega) (by omega)) ((World.putObj_heap_other (by omega)).trans hk)⟩

end Go.Proofs.Ytgefpllmelpahaa

/-! The faces as keys of a map: the program's facesHaving. -/
namespace Go.Proofs.Ytgefpllmelpahaa
open Go.RowKit

theorem wf_face {x : Int} (h0 : 1 ≤ x) (h1 : x ≤ 63) : (Lit.int .i64 x).wf = true := WalkArith.wf_i64 (by omega)

/-- The map of faces. -/
def MapW (w' : World) (b n : Nat) (fs : List Int) : Prop := w'.ownsMap Try.prog 2 (plainElem (H := Unit) Try.prog 4) b n (knownD fs)

theorem MapW.later {w w' : World} {b n : Nat} {fs : List Int} (h : MapW w b n fs) (hB : Below w.heap.size w w') : MapW w' b n fs :=
  World.ownsMap.kept h (row := none) ⟨hB.os, hB.tape, hB.output, hB.size, fun k hk _ => hB.block k hk⟩ (by simp)

theorem MapW.lt {w : World} {b n : Nat} {fs : List Int} (h : MapW w b n fs) : b < w.heap.size := World.ownsMap.lt h

set_option maxRecDepth 100000 in
set_option maxHeartbeats 2000000 in
theorem fh_in (V : Int) (a0 : Option Addr) (cap : Nat) (fs : List Int) (f : Int) (w : World) (hx : SlI w w.heap.size a0 fs) (hl : fs.length ≤ 1048576) (hC : IsC V fs) (hwf : (Lit.int .i64 f).wf = true) (c : Bool) (hc : decide (f ∈ fs) = c) :
    Calls Try.prog 145 #[.agg #[.int .i64 V, .slice a0 fs.length cap], .int .i64 f] w fun e w' => ∃ b, e = .returned (if c then .tuple #[.map (some b), .int .i64 0] else .tuple #[.map none, .int .i64 2]) ∧ (∃ n, MapW w' b n fs) ∧ w.heap.size ≤ b ∧ Below w.heap.size w w' := by
  have hB0 : Below w.heap.size w (w.alloc (.cells #[.int .i64 V, .slice a0 fs.length cap] 30)) := (Below.refl _ w).alloc (Nat.le_refl _) _
  have Hx := hid (hx.later hB0 (by simp <;> omega))
  have Hx0 := hid hx
  have Hf := hid hC.range63
  have HC := hid hC
  clear hx hC
  have hmm := @run_makeMap Try.prog
  go_enter Try.func145, Try.ntmps145
  go_wp2_with fail
  refine (isc_yes V a0 cap fs _ Hx.out hl HC.out).mono ?_
  rintro e w1 ⟨rfl, hB1⟩
  have k0 : w1.cell? ⟨w.heap.size, 0, none⟩ = some (.int .i64 V) := (hB1.cell (p := ⟨w.heap.size, 0, none⟩) (by simp <;> omega)).trans (by simp [go_sem])
  have k1 : w1.cell? ⟨w.heap.size, 1, none⟩ = some (.slice a0 fs.length cap) := (hB1.cell (p := ⟨w.heap.size, 1, none⟩) (by simp <;> omega)).trans (by simp [go_sem])
  have hB01 := hid (hB0.trans (hB1.mono (by simp <;> omega)))
  have hs1 : w.heap.size < w1.heap.size := by have := hB1.size; simp at this; omega
  clear hB0 hB1
  go_wp2_with fail
  clear hmm
  go_loopw [16] (fun i wr => ∃ (k : Nat), k ≤ fs.length ∧ i = .int .i64 k ∧ MapW wr w1.heap.size k (fs.take k) ∧ Below w.heap.size w wr) (fun i _ => fs.length - (intOf i).toNat)
  case atStart => exact ⟨0, Nat.zero_le _, rfl, World.ownsMap_made w1 Try.prog 2 _, hB01.out.trans ((Below.refl _ w1).alloc (by omega) _)⟩
  case round =>
    obtain ⟨k, hk, rfl, hown, hB⟩ := hrel
    by_cases hlt : k < fs.length
    · obtain ⟨b, off, hb, rfl, hc⟩ : ∃ b off, b < w.heap.size ∧ a0 = some ⟨b, off, none⟩ ∧ ∀ i, i < fs.length → w.cell? ⟨b, off + i, none⟩ = some (.int .i64 (fs[i]?.getD 0)) := by
        rcases Hx0.out with rfl | h
        · simp at hlt
        · exact h
      obtain ⟨x, hx⟩ : ∃ x, x = fs[k]?.getD 0 := ⟨_, rfl⟩
      have hxr := Hf.out _ (getD_mem hlt)
      rw [← hx] at hxr
      have hck : wr.cell? ⟨b, off + k, none⟩ = some (.int .i64 x) := by rw [hx]; exact (hB.cell (p := ⟨b, off + k, none⟩) hb).trans (hc k hlt)
      have Hsn : Hid (fs.take (k + 1) = fs.take k ++ [x]) := hid (by rw [take_snoc hlt, ← hx])
      have hi0 : (0 : Int) ≤ (k : Int) := by omega
      have hi1 : (k : Int) < (fs.length : Int) := by omega
      have hkm : k < maxLen := by unfold maxLen; omega
      have hwx := wf_face hxr.1 hxr.2
      have Hown := hid hown
      have HB := hid hB
      clear hc hx hown hB
      go_wp2_with (first | (at_mapUpdate; refine wpList_mapUpdate_own _ rfl _ _ _ 93 rfl 2 4 (Maps.int_keyed Try.underlying2) Try.underlying93 _ w1.heap.size _ _ rfl Hown.out hkm _ _ _ rfl rfl (Maps.keyOf_int_mk Try.underlying2 hwx) _ [] (plainElem_bool Try.underlying4 true) ?_; intro w2 hown2 hgrow2) | go_in)
      go_roundw
      case rel =>
        refine ⟨k + 1, by omega, by go_num, ?_, HB.out.grown hgrow2 HB.out.size (fun r e => by cases e; omega)⟩
        rw [Hsn.out]
        unfold MapW
        rw [knownD_snoc]
        exact hown2
      case measure => simp [intOf]; omega
    · obtain rfl : k = fs.length := by omega
      rw [List.take_of_length_le (Nat.le_refl _)] at hown
      have hlook := lookup_known hown hwf
      rw [hc] at hlook
      have Hown := hid hown
      have HB := hid hB
      clear hown hB
      cases c
      · go_wp2_with (simp only [hlook])
        go_ret2
        exact ⟨rfl, w1.heap.size, ⟨_, Hown.out⟩, by omega, HB.out⟩
      · go_wp2_with fail
        go_ret2
        exact ⟨w1.heap.size, rfl, ⟨_, Hown.out⟩, by omega, HB.out⟩

theorem fh_yes (V : Int) (a0 : Option Addr) (cap : Nat) (fs : List Int) (f : Int) (w : World) (hx : SlI w w.heap.size a0 fs) (hl : fs.length ≤ 1048576) (hC : IsC V fs) (hm : f ∈ fs) :
    Calls Try.prog 145 #[.agg #[.int .i64 V, .slice a0 fs.length cap], .int .i64 f] w fun e w' => ∃ b, e = .returned (.tuple #[.map (some b), .int .i64 0]) ∧ (∃ n, MapW w' b n fs) ∧ w.heap.size ≤ b ∧ Below w.heap.size w w' :=
  fh_in V a0 cap fs f w hx hl hC (wf_face (hC.range63 f hm).1 (hC.range63 f hm).2) true (decide_eq_true hm)

theorem fh_no (V : Int) (a0 : Option Addr) (cap : Nat) (fs : List Int) (f : Int) (w : World) (hx : SlI w w.heap.size a0 fs) (hl : fs.length ≤ 1048576) (hC : IsC V fs) (hwf : (Lit.int .i64 f).wf = true) (hm : f ∉ fs) :
    Calls Try.prog 145 #[.agg #[.int .i64 V, .slice a0 fs.length cap], .int .i64 f] w fun e w' => e = .returned (.tuple #[.map none, .int .i64 2]) ∧ Below w.heap.size w w' :=
  (fh_in V a0 cap fs f w hx hl hC hwf false (decide_eq_false hm)).mono fun _ _ ⟨_, he, _, _, hB⟩ => ⟨he, hB⟩

theorem fh_bad (V : Int) (a0 : Option Addr) (cap : Nat) (fs : List Int) (f : Int) (w : World) (hx : SlI w w.heap.size a0 fs) (hl : fs.length ≤ 1048576) (hC : ¬ IsC V fs) :
    Calls Try.prog 145 #[.agg #[.int .i64 V, .slice a0 fs.length cap], .int .i64 f] w fun e w' => e = .returned (.tuple #[.map none, .int .i64 1]) ∧ Below w.heap.size w w' := by
  have hB0 : Below w.heap.size w (w.alloc (.cells #[.int .i64 V, .slice a0 fs.length cap] 30)) := (Below.refl _ w).alloc (Nat.le_refl _) _
  have Hx := hid (hx.later hB0 (by simp <;> omega))
  go_enter Try.func145, Try.ntmps145
  go_wp2_with fail
  refine (isc_no V a0 cap fs _ Hx.out hl hC).mono ?_
  rintro e w1 ⟨rfl, hB1⟩
  have hB01 := hid (hB0.trans (hB1.mono (by simp <;> omega)))
  go_wp2_with fail
  go_ret2
  exact ⟨rfl, hB01.out⟩


/-! The model's test of a face. -/

theorem face_yes (V : Int) (a0 : Option Addr) (cap : Nat) (fs : List Int) (f : Int) (w : World) (hx : SlI w w.heap.size a0 fs) (hl : fs.length ≤ 1048576) (hC : IsC V fs) (hm : f ∈ fs) :
    Calls Try.prog 68 #[.agg #[.int .i64 V, .slice a0 fs.length cap], .int .i64 f] w fun e w' => e = .returned (.int .i64 0) ∧ Below w.heap.size w w' := by
  have hB0 : Below w.heap.size w (w.alloc (.cells #[.int .i64 V, .slice a0 fs.length cap] 30)) := (Below.refl _ w).alloc (Nat.le_refl _) _
  have Hx := hid (hx.later hB0 (by simp <;> omega))
  have HC := hid hC
  clear hC
  go_enter Try.func68, Try.ntmps68
  go_wp2_with fail
  refine (is_yes V a0 cap fs _ Hx.out hl HC.out).mono ?_
  rintro e w1 ⟨rfl, hB1⟩
  have k0 : w1.cell? ⟨w.heap.size, 0, none⟩ = some (.int .i64 V) := (hB1.cell (p := ⟨w.heap.size, 0, none⟩) (by simp <;> omega)).trans (by simp [go_sem])
  have k1 : w1.cell? ⟨w.heap.size, 1, none⟩ = some (.slice a0 fs.length cap) := (hB1.cell (p := ⟨w.heap.size, 1, none⟩) (by simp <;> omega)).trans (by simp [go_sem])
  have hB01 := hB0.trans (hB1.mono (by simp <;> omega))
  have hx1 := hid (hx.later hB01 hB01.size)
  go_wp2_with fail
  refine (has_yes V f a0 cap fs _ hx1.out hl hm).mono ?_
  rintro e w2 ⟨rfl, hB2⟩
  have hB02 := hid (hB01.trans (hB2.mono hB01.size))
  go_wp2_with fail
  go_ret
  exact ⟨rfl, hB02.out⟩

theorem face_no (V : Int) (a0 : Option Addr) (cap : Nat) (fs : List Int) (f : Int) (w : World) (hx : SlI w w.heap.size a0 fs) (hl : fs.length ≤ 1048576) (hC : IsC V fs) (hm : f ∉ fs) :
    Calls Try.prog 68 #[.agg #[.int .i64 V, .slice a0 fs.length cap], .int .i64 f] w fun e w' => e = .returned (.int .i64 2) ∧ Below w.heap.size w w' := by
  have hB0 : Below w.heap.size w (w.alloc (.cells #[.int .i64 V, .slice a0 fs.length cap] 30)) := (Below.refl _ w).alloc (Nat.le_refl _) _
  have Hx := hid (hx.later hB0 (by simp <;> omega))
  have HC := hid hC
  clear hC
  go_enter Try.func68, Try.ntmps68
  go_wp2_with fail
  refine (is_yes V a0 cap fs _ Hx.out hl HC.out).mono ?_
  rintro e w1 ⟨rfl, hB1⟩
  have k0 : w1.cell? ⟨w.heap.size, 0, none⟩ = some (.int .i64 V) := (hB1.cell (p := ⟨w.heap.size, 0, none⟩) (by simp <;> omega)).trans (by simp [go_sem])
  have k1 : w1.cell? ⟨w.heap.size, 1, none⟩ = some (.slice a0 fs.length cap) := (hB1.cell (p := ⟨w.heap.size, 1, none⟩) (by simp <;> omega)).trans (by simp [go_sem])
  have hB01 := hB0.trans (hB1.mono (by simp <;> omega))
  have hx1 := hid (hx.later hB01 hB01.size)
  go_wp2_with fail
  refine (has_no V f a0 cap fs _ hx1.out hl hm).mono ?_
  rintro e w2 ⟨rfl, hB2⟩
  have hB02 := hid (hB01.trans (hB2.mono hB01.size))
  go_wp2_with fail
  go_ret
  exact ⟨rfl, hB02.out⟩

theorem face_bad (V : Int) (a0 : Option Addr) (cap : Nat) (fs : List Int) (f : Int) (w : World) (hx : SlI w w.heap.size a0 fs) (hl : fs.length ≤ 1048576) (hC : ¬ IsC V fs) :
    Calls Try.prog 68 #[.agg #[.int .i64 V, .slice a0 fs.length cap], .int .i64 f] w fun e w' => e = .returned (.int .i64 1) ∧ Below w.heap.size w w' := by
  have hB0 : Below w.heap.size w (w.alloc (.cells #[.int .i64 V, .slice a0 fs.length cap] 30)) := (Below.refl _ w).alloc (Nat.le_refl _) _
  have Hx := hid (hx.later hB0 (by simp <;> omega))
  go_enter Try.func68, Try.ntmps68
  go_wp2_with fail
  refine (is_no V a0 cap fs _ Hx.out hl hC).mono ?_
  rintro e w1 ⟨rfl, hB1⟩
  have hB01 := hid (hB0.trans (hB1.mono (by simp <;> omega)))
  go_wp2_with fail
  go_ret
  exact ⟨rfl, hB01.out⟩


end Go.Proofs.Ytgefpllmelpahaa

/-! The signs of the sides of a face, the model's. -/
namespace Go.Proofs.Ytgefpllmelpahaa
open Go.RowKit

/-- The first j signs of a face with n + 1 vertices. -/
def sgTo (n j : Nat) : List Int := (List.range j).map fun i => 1 - 2 * (((n - i) % 2 : Nat) : Int)
def signL (f : Nat) : List Int := if ones f = 1 then [] else sgTo (ones f - 1) (ones f)
theorem sgTo_succ (n j : Nat) : sgTo n (j + 1) = sgTo n j ++ [1 - 2 * (((n - j) % 2 : Nat) : Int)] := by simp [sgTo, List.range_succ]
theorem sgTo_len (n j : Nat) : (sgTo n j).length = j := by simp [sgTo]

set_option maxRecDepth 100000 in
set_option maxHeartbeats 1000000 in
theorem signs_any (f : Nat) (w : World) (hf : f < 64) (h0 : f ≠ 0) :
    Calls Try.prog 234 #[.int .i64 (f : Int)] w fun e w' => ∃ v, e = .returned v ∧ Res w w' v (signL f) := by
  have hown0 := World.ownsRow_made (base := w.heap.size) (e := 2) (size := 1) w #[] 0 (by simp) (by simp [maxLen]) rfl
  have Hown0 := hid hown0
  have hop := ones_pos ⟨f, hf⟩ h0
  have ho := ones_le f
  obtain ⟨n, hn⟩ : ∃ n, ones f = n + 1 := ⟨ones f - 1, by have : 0 < ones f := hop; omega⟩
  have HO : Hid (∀ w, Calls Try.prog 130 #[.int .i64 (f : Int)] w fun e w' => e = .returned (.int .i64 ((n : Int) + 1)) ∧ w = w') := hid (fun w => (ones_any f w hf).mono fun _ _ ⟨he, hw⟩ => ⟨by rw [he, hn]; rfl, hw⟩)
  have hn5 : n ≤ 5 := by omega
  have hsg : signL f = if n = 0 then [] else sgTo n (n + 1) := by unfold signL; rw [hn]; simp
  rw [hsg]
  clear hown0 hop ho hn hsg
  by_cases hz : n = 0
  · subst hz
    go_enter Try.func234, Try.ntmps234
    go_wp2_with (go_at_call 130; refine (HO.out _).mono ?_; rintro e w' ⟨rfl, rfl⟩)
    go_ret
    exact ⟨_, rfl, by simpa using Hown0.out, (Below.refl _ w).alloc (Nat.le_refl _) _⟩
  · rw [if_neg hz]
    have hd : ((n : Int) == 0) = false := beq_eq_false_iff_ne.2 (by omega)
    clear hz
    go_enter Try.func234, Try.ntmps234
    go_wp2_with (go_at_call 130; refine (HO.out _).mono ?_; rintro e w' ⟨rfl, rfl⟩)
    go_loopw [3, 4] (fun v p wr => ∃ j : Nat, j ≤ n + 1 ∧ p = .int .i64 ((n : Int) - j) ∧ wr.ownsRow w.heap.size 2 1 v (sgTo n j).length ((sgTo n j).map (Value.int .i64)) ∧ Below w.heap.size w wr) (fun _ p _ => (intOf p + 1).toNat)
    case atStart => exact ⟨0, Nat.zero_le _, by simp, by simpa [sgTo] using Hown0.out, (Below.refl _ w).alloc (Nat.le_refl _) _⟩
    case round =>
      obtain ⟨j, hj, rfl, hown, hB⟩ := hrel
      have HB := hid hB
      have Hown := hid hown
      have Hsz := hid hB.size
      have hle := sgTo_len n j
      by_cases hjn : j = n + 1
      · subst hjn
        have e : (n : Int) - ((n + 1 : Nat) : Int) = -1 := by omega
        rw [e]
        clear e hown hB
        go_wp2
        go_ret
        exact ⟨_, rfl, Hown.out, HB.out⟩
      · obtain ⟨q, hq⟩ : ∃ q : Nat, n = q + j := ⟨n - j, by omega⟩
        have e : (n : Int) - (j : Int) = (q : Int) := by omega
        have He : Hid (((n : Int) - ((j + 1 : Nat) : Int)) = (q : Int) - 1) := hid (by omega)
        have hs := sgTo_succ n j
        rw [show n - j = q by omega] at hs
        rw [e]
        have hq0 : (0 : Int) ≤ (q : Int) := by omega
        have hqw : IntKind.i64.wrap ((q : Int) - 1) = (q : Int) - 1 := by rw [IntKind.wrap_i64]; omega
        have hmod : (q : Int).tmod 2 = ((q % 2 : Nat) : Int) := by rw [Int.tmod_eq_emod_of_nonneg (by omega)]; omega
        rcases Nat.mod_two_eq_zero_or_one q with h2 | h2
        · rw [h2] at hmod hs
          have Hs := hid hs
          clear e hown hB hs h2 hq
          have hmod' : (q : Int).tmod 2 = 0 := hmod
          clear hmod
          · skip
            go_wp2_with (at_builtin; refine append_int rfl rfl Hown.out Hsz.out (by omega) rfl rfl ?_; intro v' w2 hown2 hgrow2 hB2)
            go_roundw
            case rel => exact ⟨j + 1, by omega, by rw [He.out], by rw [Hs.out]; exact hown2, HB.out.trans hB2⟩
            case measure => simp [intOf] <;> omega
        · rw [h2] at hmod hs
          have Hs := hid hs
          clear e hown hB hs h2 hq
          have hmod' : (q : Int).tmod 2 = 1 := hmod
          clear hmod
          · skip
            go_wp2_with (at_builtin; refine append_int rfl rfl Hown.out Hsz.out (by omega) rfl rfl ?_; intro v' w2 hown2 hgrow2 hB2)
            go_roundw
            case rel => exact ⟨j + 1, by omega, by rw [He.out], by rw [Hs.out]; exact hown2, HB.out.trans hB2⟩
            case measure => simp [intOf] <;> omega

/-- What SignsOf hands back. -/
noncomputable def signsOfR (V : Int) (fs : List Int) (f : Int) : List Int × Int := if isCB V fs then (if f ∈ fs then (signL f.toNat, 0) else ([], 2)) else ([], 1)

theorem signsOfR_len (V : Int) (fs : List Int) (f : Int) (_h : fs.length ≤ 1048576) : (signsOfR V fs f).1.length ≤ 1048576 := by
  unfold signsOfR
  have := ones_le f.toNat
  split
  · split
    · unfold signL
      split
      · simp
      · simp only [sgTo_len]; omega
    · simp
  · simp

theorem sign_mono {P : Program} {fn : FuncId} {args : Array Value} {w : World} {r : List Int × Int} {xs : List Int} {c : Int} (hr : r = (xs, c))
    (h : Calls P fn args w fun e w' => ∃ v, e = .returned (.tuple #[v, .int .i64 c]) ∧ Res w w' v xs) : Calls P fn args w fun e w' => ∃ v, e = .returned (.tuple #[v, .int .i64 r.2]) ∧ Res w w' v r.1 := by
  subst hr; exact h

end Go.Proofs.Ytgefpllmelpahaa

/-! The sides of a face with their signs: an iterator over an iterator. -/
namespace Go.Proofs.Ytgefpllmelpahaa
open Go.RowKit Go.Shelf

attribute [local go_sem] Oper.semAt_some

theorem sides_P (n : Nat) (hn : 1 ≤ n) (B0 f : Nat) (hf : f < 64) (w : World) (hB : B0 < w.heap.size)
    (hc : w.heap[B0]? = some (.cells #[.int .i64 (f : Int)] 2 (0, 0))) :
    SeqStopsP Fence.wide n Try.prog 215 #[.pointer (some ⟨B0, 0, none⟩)] (fun x : Fin 64 => #[Value.int .i64 (x.val : Int)]) [B0] 0 (sidesF f) w :=
  fun l J Jx W hW hJ _ hY h0 => (sides1_in n hn l B0 f hf (fun pre W1 => J pre W1 ∧ W.heap.size ≤ W1.heap.size) Jx
    (fun pre x W1 hj hp => YieldAt.mono (hY pre x W1 hp hj.2 hj.1) (fun e W' ⟨hk, h⟩ => by
      rcases h with ⟨he, hj'⟩ | ⟨he, hj'⟩
      · exact .inl ⟨he, ⟨hj', Nat.le_trans hj.2 hk.size⟩, hk.same B0 (.inl (by simp))⟩
      · exact .inr ⟨he, hj'⟩))
    (fun pre W m h => ⟨hJ.drewN m h.1, h.2⟩) W ((hW.block B0 hB).trans hc) ⟨h0, Nat.le_refl _⟩).mono (by
      rintro e W' ⟨hv, ⟨ys, rfl, hj⟩ | ⟨pre, hp, hj⟩⟩
      · exact ⟨hv, .inl hj.1⟩
      · exact ⟨hv, .inr ⟨pre, hp, hj⟩⟩)

/-- Sides with their signs. -/
def sgN (j : Nat) : Int := if j % 2 = 0 then 1 else -1
def signedL : Nat → List (Fin 64) → List (Fin 64 × Int)
  | _, [] => []
  | j, x :: l => (x, sgN j) :: signedL (j + 1) l
theorem signedL_append (l l' : List (Fin 64)) : ∀ j, signedL j (l ++ l') = signedL j l ++ signedL (j + l.length) l' := by
  induction l with
  | nil => intro j; simp [signedL]
  | cons x l ih => intro j; simp [signedL, ih, Nat.add_assoc, Nat.add_comm 1]
theorem signedL_snoc (l : List (Fin 64)) (x : Fin 64) : signedL 0 (l ++ [x]) = signedL 0 l ++ [(x, sgN l.length)] := by rw [signedL_append]; simp [signedL]
theorem signedL_len (l : List (Fin 64)) : ∀ j, (signedL j l).length = l.length := by
  induction l with
  | nil => intro j; rfl
  | cons x l ih => intro j; simp [signedL, ih]
theorem signedL_prefix {l l' : List (Fin 64)} (h : l <+: l') : signedL 0 l <+: signedL 0 l' := by
  obtain ⟨t, rfl⟩ := h
  rw [signedL_append]
  exact List.prefix_append _ _
theorem sgN_succ (j : Nat) : sgN (j + 1) = -sgN j := by
  unfold sgN
  rcases Nat.mod_two_eq_zero_or_one j with h | h <;> simp [h, Nat.add_mod]
theorem sgN_abs (j : Nat) : -1 ≤ sgN j ∧ sgN j ≤ 1 := by unfold sgN; split <;> omega
theorem sgN_neg (j : Nat) : wrap64 (-sgN j) = sgN (j + 1) := by
  rw [sgN_succ]
  have := sgN_abs j
  exact IntWalk.wrap64_in _ ⟨by omega, by omega⟩
def signedF (f : Nat) : List (Fin 64 × Int) := signedL 0 (sidesF f)

set_option maxHeartbeats 1000000 in
/-- signedSides: its argument is boxed; the function value captures the box. -/
theorem signedSides_in (n : Nat) (x : Int) (w : World) :
    CallsIn Fence.wide n Try.prog 251 #[.int .i64 x] w fun e w' => e = .returned (.func (.func 273) #[] #[.pointer (some ⟨w.heap.size, 0, none⟩)]) ∧ w' = w.alloc (.cells #[.int .i64 x] 2) := by
  refine callsIn_of_wp Try.func251 rfl trivial ?_ rfl
  simp only [Try.ntmps251, List.size_toArray, List.length_cons, List.length_nil, Nat.reduceAdd, Nat.reduceSub, Array.replicate_succ, Array.replicate_zero, List.push_toArray, List.append_toArray, List.nil_append, List.cons_append]
  gi_wp2
  go_ret
  exact ⟨rfl, rfl⟩

theorem yieldAny {m : Nat} (m' : Nat) {P : Program} {l : Nat} {args : Array Value} {W : World} {R : Ending → World → Prop} (h : YieldAt Fence.wide m P l args W R) : YieldAt Fence.wide m' P l args W R := by
  obtain ⟨fn, tmps, assign, body, hy, hR⟩ := h
  exact ⟨fn, tmps, assign, body, hy, ⟨hR.1, fun c cs _ => hR.2 c cs (fun d hd => by cases hd)⟩⟩
theorem yieldRound {m l0 : Nat} {P : Program} {l : Nat} {args : Array Value} {W : World} {R : Ending → World → Prop} (h : YieldAt Fence.wide m P l args W R) : YieldAt (Fence.wide.inRound l0) m P l args W R := h

theorem shut_grown {Ds : List Nat} {D : Nat} {w w' : World} (h : Shut Ds w w') (hD : ∀ E ∈ Ds, E = D) : w.grownBy w' (some D) :=
  ⟨h.os, h.tape, h.output, by rw [h.size]; exact Nat.le_refl _, fun k _ hk => h.block k (fun hm => hk (by rw [hD k hm]))⟩

set_option maxRecDepth 100000 in
set_option maxHeartbeats 2000000 in
/-- Its iterator. -/
theorem signed_P (n : Nat) (hn : 4 ≤ n) (B0 f : Nat) (hf : f < 64) (w : World) (hB : B0 < w.heap.size)
    (hc : w.heap[B0]? = some (.cells #[.int .i64 (f : Int)] 2 (0, 0))) :
    SeqStopsP Fence.wide n Try.prog 273 #[.pointer (some ⟨B0, 0, none⟩)] (fun x : Fin 64 × Int => #[Value.int .i64 (x.1.val : Int), .int .i64 x.2]) [B0] 5 (signedF f) w := by
  intro l J Jx W hW hJ hJx hY h0
  have hcW := (hW.block B0 hB).trans hc
  have c0 := (box_cell hcW).1
  have hBW : B0 < W.heap.size := lt_of_get hcW
  have HY := hid hY
  have Hc := hid hcW
  have h1 : 1 ≤ n := by omega
  clear hY hc hcW
  show CallsIn Fence.wide n Try.prog 273 #[.func (.yield l) #[] #[], .pointer (some ⟨B0, 0, none⟩)] W _
  refine callsIn_of_wp_marks Try.func273 rfl trivial ?_ rfl
  simp only [Try.ntmps273, List.size_toArray, List.length_cons, List.length_nil, Nat.reduceAdd, Nat.reduceSub, Array.replicate_succ, Array.replicate_zero, List.push_toArray, List.append_toArray, List.nil_append, List.cons_append]
  gi_wp2_with (first
    | (refine ⟨trivial, ?_⟩; gi_at_call 154; refine (sides_in _ _ _).mono ?_; rintro e w' ⟨rfl, rfl⟩))
  have hb1 := heap_alloc_new W (.cells #[.func (.yield l) #[] #[]] 242)
  have hb2 := heap_alloc_new (W.alloc (.cells #[.func (.yield l) #[] #[]] 242)) (.cells #[.int .i64 1] 2)
  have hb3 := heap_alloc_new ((W.alloc (.cells #[.func (.yield l) #[] #[]] 242)).alloc (.cells #[.int .i64 1] 2)) (.cells #[.int .i64 (f : Int)] 2)
  rw [World.size_alloc] at hb2
  rw [World.size_alloc, World.size_alloc] at hb3
  have hJ3 := hJ.alloc (.cells #[.int .i64 (f : Int)] 2) (hJ.alloc (.cells #[.int .i64 1] 2) (hJ.alloc (.cells #[.func (.yield l) #[] #[]] 242) h0))
  refine wpIn_rangeFunc_P rfl h1 (gf := 215) (lb := #[.pointer (some ⟨W.heap.size + 1 + 1, 0, none⟩)]) rfl trivial (enters_of Try.func215 (by kernel_rfl) rfl)
    (sides_P (n - 1) (by omega) (W.heap.size + 1 + 1) f hf _ (by simp) hb3) (by simp) (Below.refl _ _) (fun _ => rfl)
    (fun pre W' => J (signedL 0 pre) W' ∧ W'.heap[W.heap.size]? = some (.cells #[.func (.yield l) #[] #[]] 242 (0, 0)) ∧ W'.heap[W.heap.size + 1]? = some (.cells #[.int .i64 (sgN pre.length)] 2 (0, 0)))
    (fun c _ W' => c = .ret ∧ ∃ q, q <+: signedF f ∧ Jx q W')
    (OwnIn.and ((hJ.map (signedL 0)).less (by simp <;> omega) (by simp <;> omega)) (OwnIn.and (ownIn_block (β := List (Fin 64)) (fun _ => _) (by simp <;> omega)) (ownIn_block (β := List (Fin 64)) (fun s => .cells #[.int .i64 (sgN s.length)] 2 (0, 0)) (by simp <;> omega))))
    (fun c s A B row hs hg hr => ⟨hs.1, by obtain ⟨q, hq, hx⟩ := hs.2; exact ⟨q, hq, (hJx.less (by simp <;> omega) (by simp <;> omega)) q A B row hx hg hr⟩⟩)
    ⟨hJ3, ?_, ?_⟩
    (fun x => { tmps := #[.func (.yield l) #[] #[], .pointer (some ⟨B0, 0, none⟩), .pointer (some ⟨W.heap.size, 0, none⟩), .pointer (some ⟨W.heap.size + 1, 0, none⟩), .int .i64 (x.val : Int), .int .i64 (f : Int), .func (.func 215) #[] #[.pointer (some ⟨W.heap.size + 1 + 1, 0, none⟩)], .int .i64 (x.val : Int), undef, undef, undef, undef, undef, undef, undef], defers := [] }) ?assign ?body ?done ?stop
  · exact (Below.heap_alloc _ _ _ (by simp <;> omega)).trans ((Below.heap_alloc _ _ _ (by simp <;> omega)).trans hb1)
  · exact (Below.heap_alloc _ _ _ (by simp <;> omega)).trans hb2
  case assign =>
    intro l' x W3 K hK
    gi_wp2
    exact hK
  case body =>
    rintro l' pre x W3 hpre hsz ⟨hj, hyb, hsb⟩
    simp only [World.size_alloc] at hsz
    have cy := (box_cell hyb).1
    obtain ⟨cs, fs⟩ := box_cell hsb
    have e : signedL 0 pre ++ [(x, sgN pre.length)] = signedL 0 (pre ++ [x]) := (signedL_snoc pre x).symm
    have hys := HY.out (signedL 0 pre) (x, sgN pre.length) W3 (by rw [e]; exact signedL_prefix hpre) (by omega) hj
    rw [e] at hys
    have hab := sgN_abs pre.length
    have Hpre := hid (signedL_prefix hpre)
    obtain ⟨sg, hsg⟩ : ∃ sg, sg = sgN pre.length := ⟨_, rfl⟩
    have Hneg : Hid (wrap64 (-sg) = sgN (pre ++ [x]).length) := hid (by rw [hsg, sgN_neg]; simp)
    rw [← hsg] at cs hab hys
    obtain ⟨hab0, hab1⟩ := hab
    have Hsb := hid hsb
    have Hyb := hid hyb
    clear e hsb hyb hsg hj hpre
    obtain ⟨fn, tmps, assign, body, hy, hR⟩ := yieldRound (l0 := l') (yieldAny (n - 1 - 1 - 1) hys)
    dsimp only at hy
    gi_wp2
    refine ⟨fun _ => by omega, hR.mono ?_⟩
    rintro e W4 ⟨hk, (⟨rfl, hj4⟩ | ⟨rfl, hx4⟩)⟩
    · have hsb4 := (hk.same (W.heap.size + 1) (.inr ⟨by omega, by omega⟩)).trans Hsb.out
      have hyb4 := (hk.same W.heap.size (.inr ⟨by omega, by omega⟩)).trans Hyb.out
      obtain ⟨cs4, fs4⟩ := box_cell hsb4
      have Hsb4 := hid hsb4
      have Hyb4 := hid hyb4
      have Hk := hid hk
      clear hsb4 hyb4 hk
      gi_wp2
      refine ⟨?_, ?_⟩
      · exact (Hk.out.less (fun b hb => by simp at hb; subst hb; exact .inr ⟨by omega, by omega⟩) (by simp <;> omega) (by simp <;> omega)).trans (KeepP.setCell _ _ _ _ (by simp <;> omega))
      · refine ⟨hJ _ W4 _ (some (W.heap.size + 1)) hj4 (grownBy_set W4 ⟨W.heap.size + 1, 0, none⟩ _) (fun r e => by cases e; exact ⟨by omega, .inl (by omega)⟩), (Below.heap_setCell _ _ _ _ (by simp)).trans Hyb4.out, ?_⟩
        have e := Hsb4.out
        simp only [World.setCell, Array.getElem?_modify, e]
        rw [sgN_neg]
        simp
    · gi_wp2
      exact ⟨hk.less (fun b hb => by simp at hb; subst hb; exact .inr ⟨by omega, by omega⟩) (by simp <;> omega) (by simp <;> omega), rfl, _, Hpre.out, hx4⟩
  case done =>
    rintro W3 ⟨hj, _, _⟩ hD
    simp only [World.size_alloc] at hD
    gi_wp2
    refine leaves_marks (by simp) [_] _ (by simp) (fun D hD' => by simp only [List.mem_singleton] at hD'; subst hD'; simp only [World.size_alloc]; exact hD) (fun w' hw' => ?_)
    exact ⟨_, results_none rfl _ _ _, ⟨_, rfl⟩, .inl (hJ _ W3 w' (some (W.heap.size + 3)) hj (shut_grown hw' (by simp)) (fun r e => by cases e; exact ⟨by omega, .inl (by omega)⟩))⟩
  case stop =>
    rintro c pre W3 hpre ⟨rfl, q, hq, hx⟩ hD
    simp only [World.size_alloc] at hD
    gi_wp2
    refine leaves_marks (by simp) [_] _ (by simp) (fun D hD' => by simp only [List.mem_singleton] at hD'; subst hD'; simp only [World.size_alloc]; exact hD) (fun w' hw' => ?_)
    exact ⟨_, results_none rfl _ _ _, ⟨_, rfl⟩, .inr ⟨q, hq, hJx _ W3 w' (some (W.heap.size + 3)) hx (shut_grown hw' (by simp)) (fun r e => by cases e; exact ⟨by omega, .inl (by omega)⟩)⟩⟩

end Go.Proofs.Ytgefpllmelpahaa

/-! The model's test of a pair of faces. -/
namespace Go.Proofs.Ytgefpllmelpahaa
open Go.RowKit Go.Sort

/-- Two faces are a pair. -/
def pairB (fs : List Int) (x y : Int) : Bool := decide (x ∈ fs) && decide (y ∈ fs) && decide (x.toNat &&& y.toNat = x.toNat) && decide (ones y.toNat = ones x.toNat + 1)

set_option maxRecDepth 100000 in
set_option maxHeartbeats 4000000 in
theorem pair_any (V : Int) (a : Option Addr) (cap : Nat) (fs : List Int) (x y : Int) (w : World) (hx : SlI w w.heap.size a fs) (hl : fs.length ≤ 1048576) (hf : ∀ x ∈ fs, 1 ≤ x ∧ x ≤ 63) :
    Calls Try.prog 196 #[.agg #[.int .i64 V, .slice a fs.length cap], .agg #[.int .i64 x, .int .i64 y]] w fun e w' => e = .returned (.bool (pairB fs x y)) ∧ Below w.heap.size w w' := by
  obtain ⟨W, hW⟩ : ∃ W, W = (w.alloc (.cells #[.int .i64 V, .slice a fs.length cap] 30)).alloc (.cells #[.int .i64 x, .int .i64 y] 62) := ⟨_, rfl⟩
  have HB : Hid (Below w.heap.size w W) := hid (by rw [hW]; exact ((Below.refl _ w).alloc (Nat.le_refl _) _).alloc (by simp) _)
  have q0 : W.heap[w.heap.size]? = some (.cells #[.int .i64 V, .slice a fs.length cap] 30 (0, 0)) := by rw [hW]; exact (Below.heap_alloc _ _ _ (by simp)).trans (heap_alloc_new _ _)
  have q1 : W.heap[w.heap.size + 1]? = some (.cells #[.int .i64 x, .int .i64 y] 62 (0, 0)) := by rw [hW]; exact new2 _ _ _
  have HW := hid hW
  have Hx := hid (hx.later HB.out HB.out.size)
  obtain ⟨k0, k1, _, _⟩ := two_of q0
  obtain ⟨p0, p1, _, _⟩ := two_of q1
  clear hW q0 q1 hx
  have Hf := hid hf
  clear hf
  have cX : ∀ d os, Calls Try.prog 72 #[.agg #[.int .i64 V, .slice a fs.length cap], .int .i64 x] (grow (redrawn W d) os) fun e w'' => e = .returned (.bool (decide (x ∈ fs))) ∧ ∃ p : Regrown, w'' = grow (redrawn W p.d) p.os := fun d os => Calls.regrown_of (has_any V x a cap fs _ (Hx.out.later (below_regrown W d os) (below_regrown W d os).size) hl)
  have cY : ∀ d os, Calls Try.prog 72 #[.agg #[.int .i64 V, .slice a fs.length cap], .int .i64 y] (grow (redrawn W d) os) fun e w'' => e = .returned (.bool (decide (y ∈ fs))) ∧ ∃ p : Regrown, w'' = grow (redrawn W p.d) p.os := fun d os => Calls.regrown_of (has_any V y a cap fs _ (Hx.out.later (below_regrown W d os) (below_regrown W d os).size) hl)
  have CX := hid cX
  have CY := hid cY
  have r0 := cell_regrown k0
  have r1 := cell_regrown k1
  have r2 := cell_regrown p0
  have r3 := cell_regrown p1
  clear cX cY k0 k1 p0 p1 Hx
  by_cases hx1 : x ∈ fs
  · rw [decide_eq_true hx1] at CX
    by_cases hy1 : y ∈ fs
    · rw [decide_eq_true hy1] at CY
      have hxr := Hf.out x hx1
      have hyr := Hf.out y hy1
      have He : Hid (pairB fs x y = (decide (x.toNat &&& y.toNat = x.toNat) && decide (ones y.toNat = ones x.toNat + 1))) := hid (by unfold pairB; rw [decide_eq_true hx1, decide_eq_true hy1]; simp)
      clear hx1 hy1
      obtain ⟨x, rfl⟩ : ∃ n : Nat, x = n := ⟨x.toNat, by omega⟩
      obtain ⟨y, rfl⟩ : ∃ n : Nat, y = n := ⟨y.toNat, by omega⟩
      have hx64 : x < 64 := by omega
      have hy64 : y < 64 := by omega
      simp only [Int.toNat_natCast] at He
      have hbits : bits BinOp.and IntKind.i64 (x : Int) (y : Int) = ((x &&& y : Nat) : Int) := (bits_nat .i64 6 (by decide) (fun n h0 h1 => by rw [IntKind.wrap_i64]; omega) x y (by omega) (by omega)).1
      have ho := ones_le x
      have ho' := ones_le y
      have cO : ∀ (f : Nat), f < 64 → ∀ d os, Calls Try.prog 130 #[.int .i64 (f : Int)] (grow (redrawn W d) os) fun e w'' => e = .returned (.int .i64 (ones f : Int)) ∧ ∃ p : Regrown, w'' = grow (redrawn W p.d) p.os := fun f hf d os => Calls.regrown_of ((ones_any f _ hf).mono fun _ _ ⟨he, hw⟩ => ⟨he, by rw [← hw]; exact Below.refl _ _⟩)
      have COx := hid (cO x hx64)
      have COy := hid (cO y hy64)
      have hw : IntKind.i64.wrap (((ones x : Nat) : Int) + 1) = ((ones x : Nat) : Int) + 1 := by rw [IntKind.wrap_i64]; omega
      clear cO
      by_cases hb : x &&& y = x
      · have hd : (((x &&& y : Nat) : Int) == (x : Int)) = true := by simp; omega
        have He2 : Hid (pairB fs x y = decide (ones y = ones x + 1)) := hid (by rw [He.out, decide_eq_true hb]; simp)
        have Ho : Hid ((((ones y : Nat) : Int) == ((ones x : Nat) : Int) + 1) = decide (ones y = ones x + 1)) := hid (by rw [Bool.eq_iff_iff]; simp; omega)
        clear hb
        go_enter Try.func196, Try.ntmps196
        go_wp2_with fail
        rw [← HW.out]
        refine wp_region_quiet_below (by kernel_rfl) (by kernel_rfl) ?_
        iterate 3 (with_reducible refine wpQuiet_step (fun K hK => ?_); have HK := hid hK; clear hK; go_simp; with_reducible refine HK.out _ ?_; clear HK K)
        (with_reducible refine wpQuiet_step (fun K hK => ?_); have HK := hid hK; clear hK; go_simp; apply Exists.intro; with_reducible refine ⟨fun _ => ?_, HK.out _ ?_⟩; exact CX.out _ _; clear HK K)
        iterate 4 (with_reducible refine wpQuiet_step (fun K hK => ?_); have HK := hid hK; clear hK; go_simp; with_reducible refine HK.out _ ?_; clear HK K)
        (with_reducible refine wpQuiet_step (fun K hK => ?_); have HK := hid hK; clear hK; go_simp; apply Exists.intro; with_reducible refine ⟨fun _ => ?_, HK.out _ ?_⟩; exact CY.out _ _; clear HK K)
        iterate 14 (with_reducible refine wpQuiet_step (fun K hK => ?_); have HK := hid hK; clear hK; go_simp; with_reducible refine HK.out _ ?_; clear HK K)
        (with_reducible refine wpQuiet_step (fun K hK => ?_); have HK := hid hK; clear hK; go_simp; apply Exists.intro; with_reducible refine ⟨fun _ => ?_, HK.out _ ?_⟩; exact COy.out _ _; clear HK K)
        iterate 2 (with_reducible refine wpQuiet_step (fun K hK => ?_); have HK := hid hK; clear hK; go_simp; with_reducible refine HK.out _ ?_; clear HK K)
        (with_reducible refine wpQuiet_step (fun K hK => ?_); have HK := hid hK; clear hK; go_simp; apply Exists.intro; with_reducible refine ⟨fun _ => ?_, HK.out _ ?_⟩; exact COx.out _ _; clear HK K)
        iterate 4 (with_reducible refine wpQuiet_step (fun K hK => ?_); have HK := hid hK; clear hK; go_simp; with_reducible refine HK.out _ ?_; clear HK K)
        with_reducible refine wpQuiet_nil ?_
        intro _ hw'
        obtain ⟨⟨dq, osq⟩, hw''⟩ := hw'
        subst hw''
        go_wp2_with fail
        go_ret
        exact ⟨ret_bool (by rw [He2.out]; exact Ho.out), HB.out.trans ((below_regrown W dq osq).mono HB.out.size)⟩
      · have hd : (((x &&& y : Nat) : Int) == (x : Int)) = false := by simp; omega
        have He2 : Hid (pairB fs x y = false) := hid (by rw [He.out, decide_eq_false hb]; simp)
        clear hb
        go_enter Try.func196, Try.ntmps196
        go_wp2_with fail
        rw [← HW.out]
        refine wp_region_quiet_below (by kernel_rfl) (by kernel_rfl) ?_
        iterate 3 (with_reducible refine wpQuiet_step (fun K hK => ?_); have HK := hid hK; clear hK; go_simp; with_reducible refine HK.out _ ?_; clear HK K)
        (with_reducible refine wpQuiet_step (fun K hK => ?_); have HK := hid hK; clear hK; go_simp; apply Exists.intro; with_reducible refine ⟨fun _ => ?_, HK.out _ ?_⟩; exact CX.out _ _; clear HK K)
        iterate 4 (with_reducible refine wpQuiet_step (fun K hK => ?_); have HK := hid hK; clear hK; go_simp; with_reducible refine HK.out _ ?_; clear HK K)
        (with_reducible refine wpQuiet_step (fun K hK => ?_); have HK := hid hK; clear hK; go_simp; apply Exists.intro; with_reducible refine ⟨fun _ => ?_, HK.out _ ?_⟩; exact CY.out _ _; clear HK K)
        iterate 22 (with_reducible refine wpQuiet_step (fun K hK => ?_); have HK := hid hK; clear hK; go_simp; with_reducible refine HK.out _ ?_; clear HK K)
        with_reducible refine wpQuiet_nil ?_
        intro _ hw'
        obtain ⟨⟨dq, osq⟩, hw''⟩ := hw'
        subst hw''
        go_wp2_with fail
        go_ret
        exact ⟨ret_bool He2.out.symm, HB.out.trans ((below_regrown W dq osq).mono HB.out.size)⟩
    · rw [decide_eq_false hy1] at CY
      have He : Hid (pairB fs x y = false) := hid (by unfold pairB; rw [decide_eq_false hy1]; simp)
      clear hx1 hy1
      go_enter Try.func196, Try.ntmps196
      go_wp2_with fail
      rw [← HW.out]
      refine wp_region_quiet_below (by kernel_rfl) (by kernel_rfl) ?_
      iterate 3 (with_reducible refine wpQuiet_step (fun K hK => ?_); have HK := hid hK; clear hK; go_simp; with_reducible refine HK.out _ ?_; clear HK K)
      (with_reducible refine wpQuiet_step (fun K hK => ?_); have HK := hid hK; clear hK; go_simp; apply Exists.intro; with_reducible refine ⟨fun _ => ?_, HK.out _ ?_⟩; exact CX.out _ _; clear HK K)
      iterate 4 (with_reducible refine wpQuiet_step (fun K hK => ?_); have HK := hid hK; clear hK; go_simp; with_reducible refine HK.out _ ?_; clear HK K)
      (with_reducible refine wpQuiet_step (fun K hK => ?_); have HK := hid hK; clear hK; go_simp; apply Exists.intro; with_reducible refine ⟨fun _ => ?_, HK.out _ ?_⟩; exact CY.out _ _; clear HK K)
      iterate 22 (with_reducible refine wpQuiet_step (fun K hK => ?_); have HK := hid hK; clear hK; go_simp; with_reducible refine HK.out _ ?_; clear HK K)
      with_reducible refine wpQuiet_nil ?_
      intro _ hw'
      obtain ⟨⟨dq, osq⟩, hw''⟩ := hw'
      subst hw''
      go_wp2_with fail
      go_ret
      exact ⟨ret_bool He.out.symm, HB.out.trans ((below_regrown W dq osq).mono HB.out.size)⟩
  · rw [decide_eq_false hx1] at CX
    have He : Hid (pairB fs x y = false) := hid (by unfold pairB; rw [decide_eq_false hx1]; simp)
    clear hx1
    go_enter Try.func196, Try.ntmps196
    go_wp2_with fail
    rw [← HW.out]
    refine wp_region_quiet_below (by kernel_rfl) (by kernel_rfl) ?_
    iterate 3 (with_reducible refine wpQuiet_step (fun K hK => ?_); have HK := hid hK; clear hK; go_simp; with_reducible refine HK.out _ ?_; clear HK K)
    (with_reducible refine wpQuiet_step (fun K hK => ?_); have HK := hid hK; clear hK; go_simp; apply Exists.intro; with_reducible refine ⟨fun _ => ?_, HK.out _ ?_⟩; exact CX.out _ _; clear HK K)
    iterate 27 (with_reducible refine wpQuiet_step (fun K hK => ?_); have HK := hid hK; clear hK; go_simp; with_reducible refine HK.out _ ?_; clear HK K)
    with_reducible refine wpQuiet_nil ?_
    intro _ hw'
    obtain ⟨⟨dq, osq⟩, hw''⟩ := hw'
    subst hw''
    go_wp2_with fail
    go_ret
    exact ⟨ret_bool He.out.symm, HB.out.trans ((below_regrown W dq osq).mono HB.out.size)⟩

end Go.Proofs.Ytgefpllmelpahaa

/-! The model's test of a pairing. -/
namespace Go.Proofs.Ytgefpllmelpahaa
open Go.RowKit Go.Sort

/-- Two pairs have a face in common. -/
def clashB (x y x' y' : Int) : Bool := decide (x = x') || decide (x = y') || decide (y = x') || decide (y = y')

/-- The first k pairs are pairs, in order, and the pair i has no face of an earlier one. -/
def OkTo (fs ps : List Int) (k : Nat) : Prop := ∀ i, i < k → pairB fs (at0 ps (i * 2)) (at0 ps (i * 2 + 1)) = true ∧ (1 ≤ i → lessP (at0 ps ((i - 1) * 2)) (at0 ps ((i - 1) * 2 + 1)) (at0 ps (i * 2)) (at0 ps (i * 2 + 1)) = true) ∧ ∀ j, j < i → clashB (at0 ps (i * 2)) (at0 ps (i * 2 + 1)) (at0 ps (j * 2)) (at0 ps (j * 2 + 1)) = false

noncomputable def pairingB (fs ps : List Int) (n : Nat) : Bool := @decide (OkTo fs ps n) (Classical.propDecidable _)
theorem pairingB_true {fs ps : List Int} {n : Nat} (h : OkTo fs ps n) : pairingB fs ps n = true := by unfold pairingB; exact @decide_eq_true _ (Classical.propDecidable _) h
theorem pairingB_false {fs ps : List Int} {n : Nat} (h : ¬ OkTo fs ps n) : pairingB fs ps n = false := by unfold pairingB; exact @decide_eq_false _ (Classical.propDecidable _) h

set_option maxRecDepth 100000 in
set_option maxHeartbeats 8000000 in
theorem pis_some (V : Int) (a : Option Addr) (cap : Nat) (fs : List Int) (b off n c2 : Nat) (ps : List Int) (w : World) (hx : SlI w w.heap.size a fs) (hl : fs.length ≤ 1048576) (hf : ∀ x ∈ fs, 1 ≤ x ∧ x ≤ 63)
    (hb : b < w.heap.size) (hc : ∀ i, i < ps.length → w.cell? ⟨b, off + i, none⟩ = some (.int .i64 (ps[i]?.getD 0))) (hp : ps.length = 2 * n) (hn : n ≤ 1048576) :
    Calls Try.prog 116 #[.agg #[.int .i64 V, .slice a fs.length cap], .slice (some ⟨b, off, none⟩) n c2] w fun e w' => e = .returned (.bool (pairingB fs ps n)) ∧ Below w.heap.size w w' := by
  obtain ⟨W0, hW0⟩ : ∃ W0, W0 = w.alloc (.cells #[.int .i64 V, .slice a fs.length cap] 30) := ⟨_, rfl⟩
  have HW0 : Hid (Below w.heap.size w W0) := hid (by rw [hW0]; exact (Below.refl _ w).alloc (Nat.le_refl _) _)
  have hs0 : W0.heap.size = w.heap.size + 1 := by rw [hW0]; simp
  have q0 : W0.heap[w.heap.size]? = some (.cells #[.int .i64 V, .slice a fs.length cap] 30 (0, 0)) := by rw [hW0]; exact heap_alloc_new _ _
  obtain ⟨k0, k1, _, _⟩ := two_of q0
  have K0 := hid k0
  have K1 := hid k1
  have Hs0 := hid hs0
  have Hx := hid hx
  have Hc := hid hc
  have Hp := hid hp
  have Hf := hid hf
  have HW := hid hW0
  clear hc hp hf hx q0 k0 k1 hs0
  go_enter Try.func116, Try.ntmps116
  go_wp2_with fail
  rw [← HW.out]
  clear hW0
  go_loopw [5] (fun i wr => ∃ k : Nat, k ≤ n ∧ i = .int .i64 k ∧ Hid (OkTo fs ps k) ∧ Below (w.heap.size + 1) W0 wr) (fun i _ => n - (intOf i).toNat)
  case atStart => exact ⟨0, Nat.zero_le _, rfl, hid (fun i hi => by omega), Below.refl _ _⟩
  case round =>
    obtain ⟨k, hk, rfl, Hk, hB⟩ := hrel
    have HB := hid hB
    clear hB
    by_cases hlt : k < n
    · have hc0 : wr.cell? ⟨w.heap.size, 0, none⟩ = some (.int .i64 V) := (HB.out.cell (p := ⟨w.heap.size, 0, none⟩) (by simp)).trans K0.out
      have hc1 : wr.cell? ⟨w.heap.size, 1, none⟩ = some (.slice a fs.length cap) := (HB.out.cell (p := ⟨w.heap.size, 1, none⟩) (by simp)).trans K1.out
      have HBw : Hid (Below w.heap.size w wr) := hid (HW0.out.trans (HB.out.mono (Nat.le_succ _)))
      have hc2 : wr.cell? ⟨b, off + k * 2, none⟩ = some (.int .i64 (at0 ps (k * 2))) := (HBw.out.cell (p := ⟨b, off + k * 2, none⟩) hb).trans (Hc.out _ (by have := Hp.out; omega))
      have hc3 : wr.cell? ⟨b, off + k * 2 + 1, none⟩ = some (.int .i64 (at0 ps (k * 2 + 1))) := (HBw.out.cell (p := ⟨b, off + (k * 2 + 1), none⟩) hb).trans (Hc.out _ (by have := Hp.out; omega))
      obtain ⟨x, hx⟩ : ∃ x, x = at0 ps (k * 2) := ⟨_, rfl⟩
      obtain ⟨y, hy⟩ : ∃ y, y = at0 ps (k * 2 + 1) := ⟨_, rfl⟩
      rw [← hx] at hc2
      rw [← hy] at hc3
      have HX := hid hx
      have HY := hid hy
      clear hx hy
      have hi0 : (0 : Int) ≤ (k : Int) := by omega
      have hi1 : (k : Int) < (n : Int) := by omega
      have r0 := cell_regrown hc0
      have r1 := cell_regrown hc1
      have r2 := cell_regrown hc2
      have r3 := cell_regrown hc3
      have cP : ∀ d os, Calls Try.prog 196 #[.agg #[.int .i64 V, .slice a fs.length cap], .agg #[.int .i64 x, .int .i64 y]] (grow (redrawn wr d) os) fun e w'' => e = .returned (.bool (pairB fs x y)) ∧ ∃ p : Regrown, w'' = grow (redrawn wr p.d) p.os := fun d os => Calls.regrown_of (pair_any V a cap fs x y _ ((Hx.out.later HBw.out HBw.out.size).later (below_regrown wr d os) (below_regrown wr d os).size) hl Hf.out)
      have CP := hid cP
      clear cP
      by_cases hq : pairB fs x y = true
      · rw [hq] at CP
        have Hq := hid hq
        clear hq hc0 hc1 hc2 hc3
        by_cases hk0 : 0 < k
        rotate_left
        · have hd : decide (0 < k) = false := decide_eq_false hk0
          have Hk0 := hid hk0
          clear hk0
          go_wp2_with fail
          refine wp_region_quiet_below (by kernel_rfl) (by kernel_rfl) ?_
          iterate 5 (with_reducible refine wpQuiet_step (fun K hK => ?_); have HK := hid hK; clear hK; go_simp; (first | with_reducible refine HK.out _ ?_ | (rw [if_neg (by decide)]; with_reducible refine HK.out _ ?_)); clear HK K)
          (with_reducible refine wpQuiet_step (fun K hK => ?_); have HK := hid hK; clear hK; go_simp; apply Exists.intro; with_reducible refine ⟨fun _ => ?_, HK.out _ ?_⟩; exact CP.out _ _; clear HK K)
          iterate 18 (with_reducible refine wpQuiet_step (fun K hK => ?_); have HK := hid hK; clear hK; go_simp; (first | with_reducible refine HK.out _ ?_ | (rw [if_neg (by decide)]; with_reducible refine HK.out _ ?_)); clear HK K)
          with_reducible refine wpQuiet_nil ?_
          intro _ hw'
          obtain ⟨⟨dq, osq⟩, hw''⟩ := hw'
          subst hw''
          go_wp2_with fail
          have HB' : Hid (Below (w.heap.size + 1) W0 (grow (redrawn wr dq) osq)) := hid (HB.out.trans ((below_regrown wr dq osq).mono (by rw [← Hs0.out]; exact HB.out.size)))
          refine wp_loop_rounds 1 ?_; rw [rounds_succ]
          go_wp2_with fail
          go_roundw
          case rel =>
            have hk0 := Hk0.out
            refine ⟨k + 1, by omega, by go_num, fun i hi => ?_, HB'.out⟩
            obtain rfl : i = k := by omega
            exact ⟨by rw [← HX.out, ← HY.out]; exact Hq.out, fun h => by omega, fun j hj => by omega⟩
          case measure => simp [intOf]; omega
        · obtain ⟨m, rfl⟩ : ∃ m : Nat, k = m + 1 := ⟨k - 1, by omega⟩
          clear hk0
          have hd2 : wr.cell? ⟨b, off + m * 2, none⟩ = some (.int .i64 (at0 ps (m * 2))) := (HBw.out.cell (p := ⟨b, off + m * 2, none⟩) hb).trans (Hc.out _ (by have := Hp.out; omega))
          have hd3 : wr.cell? ⟨b, off + m * 2 + 1, none⟩ = some (.int .i64 (at0 ps (m * 2 + 1))) := (HBw.out.cell (p := ⟨b, off + (m * 2 + 1), none⟩) hb).trans (Hc.out _ (by have := Hp.out; omega))
          obtain ⟨x', hx'⟩ : ∃ x, x = at0 ps (m * 2) := ⟨_, rfl⟩
          obtain ⟨y', hy'⟩ : ∃ y, y = at0 ps (m * 2 + 1) := ⟨_, rfl⟩
          rw [← hx'] at hd2
          rw [← hy'] at hd3
          have HX' := hid hx'
          have HY' := hid hy'
          clear hx' hy'
          have s2 := cell_regrown hd2
          have s3 := cell_regrown hd3
          clear hd2 hd3
          have hi2 : (0 : Int) ≤ (m : Int) := by omega
          have hi3 : (m : Int) < (n : Int) := by omega
          have hw1 : IntKind.i64.wrap (m : Int) = m := by rw [IntKind.wrap_i64]; omega
          have hw2 : IntKind.i64.wrap ((m : Int) + 1 - 1) = m := by rw [show (m : Int) + 1 - 1 = m by omega]; exact hw1
          have hw3 : wrap64 (m : Int) = m := IntWalk.wrap64_in _ ⟨by omega, by omega⟩
          have hj0 : (0 : Int) ≤ (m : Int) + 1 := by omega
          have hj1 : (m : Int) + 1 < (n : Int) := by omega
          have hgt : (0 : Int) < (m : Int) + 1 := by omega
          have CL : Hid (∀ d os, Calls Try.prog 132 #[.agg #[.int .i64 x', .int .i64 y'], .agg #[.int .i64 x, .int .i64 y]] (grow (redrawn wr d) os) fun e w'' => e = .returned (.bool (lessP x' y' x y)) ∧ ∃ p : Regrown, w'' = grow (redrawn wr p.d) p.os) := hid (fun d os => Calls.regrown_of (less_any x' y' x y _))
          by_cases hql : lessP x' y' x y = true
          · rw [hql] at CL
            have Hql := hid hql
            clear hql
            go_wp2_with fail
            refine wp_region_quiet_below (by kernel_rfl) (by kernel_rfl) ?_
            iterate 5 (with_reducible refine wpQuiet_step (fun K hK => ?_); have HK := hid hK; clear hK; go_simp; (first | with_reducible refine HK.out _ ?_ | (rw [if_neg (by decide)]; with_reducible refine HK.out _ ?_)); clear HK K)
            (with_reducible refine wpQuiet_step (fun K hK => ?_); have HK := hid hK; clear hK; go_simp; apply Exists.intro; with_reducible refine ⟨fun _ => ?_, HK.out _ ?_⟩; exact CP.out _ _; clear HK K)
            iterate 14 (with_reducible refine wpQuiet_step (fun K hK => ?_); have HK := hid hK; clear hK; go_simp; (first | with_reducible refine HK.out _ ?_ | (rw [if_neg (by decide)]; with_reducible refine HK.out _ ?_)); clear HK K)
            (with_reducible refine wpQuiet_step (fun K hK => ?_); have HK := hid hK; clear hK; go_simp; apply Exists.intro; with_reducible refine ⟨fun _ => ?_, HK.out _ ?_⟩; exact CL.out _ _; clear HK K)
            iterate 3 (with_reducible refine wpQuiet_step (fun K hK => ?_); have HK := hid hK; clear hK; go_simp; (first | with_reducible refine HK.out _ ?_ | (rw [if_neg (by decide)]; with_reducible refine HK.out _ ?_)); clear HK K)
            with_reducible refine wpQuiet_nil ?_
            intro _ hw'
            obtain ⟨⟨dq, osq⟩, hw''⟩ := hw'
            subst hw''
            go_wp2_with fail
            have HB' : Hid (Below (w.heap.size + 1) W0 (grow (redrawn wr dq) osq)) := hid (HB.out.trans ((below_regrown wr dq osq).mono (by rw [← Hs0.out]; exact HB.out.size)))
            clear HB r0 r1 r2 r3 s2 s3 CP CL HBw
            go_loopw [6] (fun j wx => ∃ i : Nat, i ≤ m + 1 ∧ j = .int .i64 i ∧ Hid (∀ t, t < i → clashB x y (at0 ps (t * 2)) (at0 ps (t * 2 + 1)) = false) ∧ Below (w.heap.size + 1) W0 wx) (fun j _ => m + 1 - (intOf j).toNat)
            case atStart => exact ⟨0, Nat.zero_le _, rfl, hid (fun t ht => by omega), HB'.out⟩
            case round =>
              obtain ⟨i, hi, rfl, Hcl, hBx⟩ := hrel
              have HBx := hid hBx
              clear hBx HB'
              by_cases hlt2 : i < m + 1
              · have HBv : Hid (Below w.heap.size w wr) := hid (HW0.out.trans (HBx.out.mono (Nat.le_succ _)))
                have hc2 : wr.cell? ⟨b, off + (m + 1) * 2, none⟩ = some (.int .i64 x) := ((HBv.out.cell (p := ⟨b, off + (m + 1) * 2, none⟩) hb).trans (Hc.out _ (by have := Hp.out; omega))).trans (by rw [HX.out]; rfl)
                have hc3 : wr.cell? ⟨b, off + (m + 1) * 2 + 1, none⟩ = some (.int .i64 y) := ((HBv.out.cell (p := ⟨b, off + ((m + 1) * 2 + 1), none⟩) hb).trans (Hc.out _ (by have := Hp.out; omega))).trans (by rw [HY.out]; rfl)
                have hd2 : wr.cell? ⟨b, off + i * 2, none⟩ = some (.int .i64 (at0 ps (i * 2))) := (HBv.out.cell (p := ⟨b, off + i * 2, none⟩) hb).trans (Hc.out _ (by have := Hp.out; omega))
                have hd3 : wr.cell? ⟨b, off + i * 2 + 1, none⟩ = some (.int .i64 (at0 ps (i * 2 + 1))) := (HBv.out.cell (p := ⟨b, off + (i * 2 + 1), none⟩) hb).trans (Hc.out _ (by have := Hp.out; omega))
                obtain ⟨u, hu⟩ : ∃ u, u = at0 ps (i * 2) := ⟨_, rfl⟩
                obtain ⟨v, hv⟩ : ∃ v, v = at0 ps (i * 2 + 1) := ⟨_, rfl⟩
                rw [← hu] at hd2
                rw [← hv] at hd3
                have HU := hid hu
                have HV := hid hv
                clear hu hv
                have hi4 : (0 : Int) ≤ (i : Int) := by omega
                have hi5 : (i : Int) < (n : Int) := by omega
                have hi6 : (i : Int) < (m : Int) + 1 := by omega
                have Hbad : Hid (clashB x y u v = true → pairingB fs ps n = false) := hid (fun h => pairingB_false (fun ho => by have := (ho (m + 1) hlt).2.2 i hlt2; rw [← HX.out, ← HY.out, ← HU.out, ← HV.out, h] at this; cases this))
                by_cases h0 : x = u
                · have g0 : (x == u) = true := by simp [h0]
                  have He : Hid (pairingB fs ps n = false) := hid (Hbad.out (by unfold clashB; simp [h0]))
                  clear h0
                  go_wp2_with fail
                  refine wp_region_quiet_lit (by kernel_rfl) (by kernel_rfl) ?_
                  iterate 50 (with_reducible refine wpQuiet_step (fun K hK => ?_); have HK := hid hK; clear hK; go_simp; (first | with_reducible refine HK.out _ ?_ | (rw [if_neg (by decide)]; with_reducible refine HK.out _ ?_)); clear HK K)
                  with_reducible refine wpQuiet_nil ?_
                  intro _ hw'
                  obtain ⟨nq, hw''⟩ := hw'
                  subst hw''
                  go_wp2_with fail
                  go_ret
                  exact ⟨ret_bool He.out.symm, HBv.out.trans ⟨rfl, rfl, rfl, Nat.le_refl _, fun _ _ => rfl⟩⟩
                · have g0 : (x == u) = false := by simp [h0]
                  by_cases h1 : x = v
                  · have g1 : (x == v) = true := by simp [h1]
                    have He : Hid (pairingB fs ps n = false) := hid (Hbad.out (by unfold clashB; simp [h1]))
                    clear h0 h1
                    go_wp2_with fail
                    refine wp_region_quiet_lit (by kernel_rfl) (by kernel_rfl) ?_
                    iterate 50 (with_reducible refine wpQuiet_step (fun K hK => ?_); have HK := hid hK; clear hK; go_simp; (first | with_reducible refine HK.out _ ?_ | (rw [if_neg (by decide)]; with_reducible refine HK.out _ ?_)); clear HK K)
                    with_reducible refine wpQuiet_nil ?_
                    intro _ hw'
                    obtain ⟨nq, hw''⟩ := hw'
                    subst hw''
                    go_wp2_with fail
                    go_ret
                    exact ⟨ret_bool He.out.symm, HBv.out.trans ⟨rfl, rfl, rfl, Nat.le_refl _, fun _ _ => rfl⟩⟩
                  · have g1 : (x == v) = false := by simp [h1]
                    by_cases h2 : y = u
                    · have g2 : (y == u) = true := by simp [h2]
                      have He : Hid (pairingB fs ps n = false) := hid (Hbad.out (by unfold clashB; simp [h2]))
                      clear h0 h1 h2
                      go_wp2_with fail
                      refine wp_region_quiet_lit (by kernel_rfl) (by kernel_rfl) ?_
                      iterate 50 (with_reducible refine wpQuiet_step (fun K hK => ?_); have HK := hid hK; clear hK; go_simp; (first | with_reducible refine HK.out _ ?_ | (rw [if_neg (by decide)]; with_reducible refine HK.out _ ?_)); clear HK K)
                      with_reducible refine wpQuiet_nil ?_
                      intro _ hw'
                      obtain ⟨nq, hw''⟩ := hw'
                      subst hw''
                      go_wp2_with fail
                      go_ret
                      exact ⟨ret_bool He.out.symm, HBv.out.trans ⟨rfl, rfl, rfl, Nat.le_refl _, fun _ _ => rfl⟩⟩
                    · have g2 : (y == u) = false := by simp [h2]
                      by_cases h3 : y = v
                      · have g3 : (y == v) = true := by simp [h3]
                        have He : Hid (pairingB fs ps n = false) := hid (Hbad.out (by unfold clashB; simp [h3]))
                        clear h0 h1 h2 h3
                        go_wp2_with fail
                        refine wp_region_quiet_lit (by kernel_rfl) (by kernel_rfl) ?_
                        iterate 50 (with_reducible refine wpQuiet_step (fun K hK => ?_); have HK := hid hK; clear hK; go_simp; (first | with_reducible refine HK.out _ ?_ | (rw [if_neg (by decide)]; with_reducible refine HK.out _ ?_)); clear HK K)
                        with_reducible refine wpQuiet_nil ?_
                        intro _ hw'
                        obtain ⟨nq, hw''⟩ := hw'
                        subst hw''
                        go_wp2_with fail
                        go_ret
                        exact ⟨ret_bool He.out.symm, HBv.out.trans ⟨rfl, rfl, rfl, Nat.le_refl _, fun _ _ => rfl⟩⟩
                      · have g3 : (y == v) = false := by simp [h3]
                        have He : Hid (∀ t, t < i + 1 → clashB x y (at0 ps (t * 2)) (at0 ps (t * 2 + 1)) = false) := hid (fun t ht => by
                          by_cases hti : t < i
                          · exact Hcl.out t hti
                          · obtain rfl : t = i := by omega
                            rw [← HU.out, ← HV.out]; unfold clashB; simp only [decide_eq_false h0, decide_eq_false h1, decide_eq_false h2, decide_eq_false h3]; rfl)
                        clear h0 h1 h2 h3
                        go_wp2_with fail
                        refine wp_region_quiet_lit (by kernel_rfl) (by kernel_rfl) ?_
                        iterate 50 (with_reducible refine wpQuiet_step (fun K hK => ?_); have HK := hid hK; clear hK; go_simp; (first | with_reducible refine HK.out _ ?_ | (rw [if_neg (by decide)]; with_reducible refine HK.out _ ?_)); clear HK K)
                        with_reducible refine wpQuiet_nil ?_
                        intro _ hw'
                        obtain ⟨nq, hw''⟩ := hw'
                        subst hw''
                        go_wp2_with fail
                        go_roundw
                        case rel => exact ⟨i + 1, by omega, by go_num, He.out, HBx.out.trans ⟨rfl, rfl, rfl, Nat.le_refl _, fun _ _ => rfl⟩⟩
                        case measure => simp [intOf]; omega
              · obtain rfl : i = m + 1 := by omega
                go_wp2_with fail
                go_roundw
                case rel =>
                  refine ⟨m + 1 + 1, by omega, by go_num, fun i hi => ?_, HBx.out⟩
                  by_cases him : i < m + 1
                  · exact Hk.out i him
                  · obtain rfl : i = m + 1 := by omega
                    refine ⟨by rw [← HX.out, ← HY.out]; exact Hq.out, fun _ => ?_, fun j hj => ?_⟩
                    · rw [Nat.add_sub_cancel, ← HX.out, ← HY.out, ← HX'.out, ← HY'.out]; exact Hql.out
                    · rw [← HX.out, ← HY.out]; exact Hcl.out j hj
                case measure => simp [intOf]; omega
          · have hql' : lessP x' y' x y = false := by simpa using hql
            rw [hql'] at CL
            have He : Hid (pairingB fs ps n = false) := hid (pairingB_false (fun h => by have := (h (m + 1) hlt).2.1 (by omega); rw [Nat.add_sub_cancel, ← HX.out, ← HY.out, ← HX'.out, ← HY'.out, hql'] at this; cases this))
            clear hql hql'
            go_wp2_with fail
            refine wp_region_quiet_below (by kernel_rfl) (by kernel_rfl) ?_
            iterate 5 (with_reducible refine wpQuiet_step (fun K hK => ?_); have HK := hid hK; clear hK; go_simp; (first | with_reducible refine HK.out _ ?_ | (rw [if_neg (by decide)]; with_reducible refine HK.out _ ?_)); clear HK K)
            (with_reducible refine wpQuiet_step (fun K hK => ?_); have HK := hid hK; clear hK; go_simp; apply Exists.intro; with_reducible refine ⟨fun _ => ?_, HK.out _ ?_⟩; exact CP.out _ _; clear HK K)
            iterate 14 (with_reducible refine wpQuiet_step (fun K hK => ?_); have HK := hid hK; clear hK; go_simp; (first | with_reducible refine HK.out _ ?_ | (rw [if_neg (by decide)]; with_reducible refine HK.out _ ?_)); clear HK K)
            (with_reducible refine wpQuiet_step (fun K hK => ?_); have HK := hid hK; clear hK; go_simp; apply Exists.intro; with_reducible refine ⟨fun _ => ?_, HK.out _ ?_⟩; exact CL.out _ _; clear HK K)
            iterate 3 (with_reducible refine wpQuiet_step (fun K hK => ?_); have HK := hid hK; clear hK; go_simp; (first | with_reducible refine HK.out _ ?_ | (rw [if_neg (by decide)]; with_reducible refine HK.out _ ?_)); clear HK K)
            with_reducible refine wpQuiet_nil ?_
            intro _ hw'
            obtain ⟨⟨dq, osq⟩, hw''⟩ := hw'
            subst hw''
            go_wp2_with fail
            go_ret
            exact ⟨ret_bool He.out.symm, HBw.out.trans ((below_regrown wr dq osq).mono HBw.out.size)⟩
      · have hq' : pairB fs x y = false := by simpa using hq
        have He : Hid (pairingB fs ps n = false) := hid (pairingB_false (fun h => by have := (h k hlt).1; rw [← HX.out, ← HY.out, hq'] at this; cases this))
        rw [hq'] at CP
        clear hq hq' hc0 hc1 hc2 hc3
        go_wp2_with fail
        refine wp_region_quiet_below (by kernel_rfl) (by kernel_rfl) ?_
        iterate 5 (with_reducible refine wpQuiet_step (fun K hK => ?_); have HK := hid hK; clear hK; go_simp; (first | with_reducible refine HK.out _ ?_ | (rw [if_neg (by decide)]; with_reducible refine HK.out _ ?_)); clear HK K)
        (with_reducible refine wpQuiet_step (fun K hK => ?_); have HK := hid hK; clear hK; go_simp; apply Exists.intro; with_reducible refine ⟨fun _ => ?_, HK.out _ ?_⟩; exact CP.out _ _; clear HK K)
        iterate 18 (with_reducible refine wpQuiet_step (fun K hK => ?_); have HK := hid hK; clear hK; go_simp; (first | with_reducible refine HK.out _ ?_ | (rw [if_neg (by decide)]; with_reducible refine HK.out _ ?_)); clear HK K)
        with_reducible refine wpQuiet_nil ?_
        intro _ hw'
        obtain ⟨⟨dq, osq⟩, hw''⟩ := hw'
        subst hw''
        go_wp2_with fail
        go_ret
        exact ⟨ret_bool He.out.symm, HBw.out.trans ((below_regrown wr dq osq).mono HBw.out.size)⟩
    · obtain rfl : k = n := by omega
      have He : Hid (pairingB fs ps k = true) := hid (pairingB_true Hk.out)
      go_wp2
      go_ret
      exact ⟨ret_bool He.out.symm, HW0.out.trans (HB.out.mono (Nat.le_succ _))⟩

end Go.Proofs.Ytgefpllmelpahaa

/-! pairsByLow: a map from low faces to their pairs. -/
namespace Go.Proofs.Ytgefpllmelpahaa
open Go.RowKit

def pairV (x y : Int) : Value := .agg #[.int .i64 x, .int .i64 y]
def pairD (x y : Int) : DataW Unit := .agg [.lit (.int .i64 x), .lit (.int .i64 y)]
/-- How the map's values are read. -/
def pairElem (v : Value) : Option (DataW Unit × List MemPlace) := match v with
  | .agg a => match a.toList with
    | [.int .i64 x, .int .i64 y] => some (pairD x y, [])
    | _ => none
  | _ => none
theorem pairElem_mk (x y : Int) : pairElem (.agg #[.int .i64 x, .int .i64 y]) = some (pairD x y, []) := rfl
theorem pairElem_inv {v : Value} {x y : Int} {ps : List MemPlace} (h : pairElem v = some (pairD x y, ps)) : v = .agg #[.int .i64 x, .int .i64 y] := by
  unfold pairElem at h
  split at h
  · rename_i a
    split at h
    · rename_i x' y' he
      simp [pairD] at h
      obtain ⟨rfl, rfl⟩ := h.1
      have : a = #[.int .i64 x', .int .i64 y'] := by cases a; simp at he; simp [he]
      rw [this]
    · cases h
  · cases h
theorem zero_pair (w : World) : (zeroValue 62).run Try.prog w = .ok (.agg #[.int .i64 0, .int .i64 0]) w := by kernel_rfl

/-- The map with the first k pairs. -/
def lowsD (ps : List Int) : Nat → DataW Unit
  | 0 => .map []
  | k + 1 => (lowsD ps k).put (.int .i64 (at0 ps (k * 2))) (pairD (at0 ps (k * 2)) (at0 ps (k * 2 + 1)))
theorem lowsD_map (ps : List Int) : ∀ k, Maps.IsMap (lowsD ps k)
  | 0 => Maps.isMap_empty
  | k + 1 => (lowsD_map ps k).put _ _
/-- No two pairs have the same low face. -/
def LowsApart (ps : List Int) (n : Nat) : Prop := ∀ i j, i < j → j < n → at0 ps (i * 2) ≠ at0 ps (j * 2)
theorem okTo_apart {fs ps : List Int} {n : Nat} (h : OkTo fs ps n) : LowsApart ps n := by
  intro i j hij hj e
  have := (h j hj).2.2 i hij
  unfold clashB at this
  rw [decide_eq_true e.symm] at this
  simp at this
theorem lows_hit {ps : List Int} {a : Int} : ∀ (k i : Nat), LowsApart ps k → i < k → at0 ps (i * 2) = a → (∀ z, (lowsD ps k).atKey (.int .i64 a) z = pairD a (at0 ps (i * 2 + 1))) ∧ Maps.has (lowsD ps k) (.int .i64 a) = true
  | 0, _, _, h, _ => absurd h (Nat.not_lt_zero _)
  | k + 1, i, hd, hi, ha => by
    by_cases e : i = k
    · subst e
      unfold lowsD
      rw [ha]
      exact ⟨fun z => Maps.atKey_put_same (lowsD_map ps i) (show WideAt.IsKeyLit (.int .i64 a) from trivial) _ _, Maps.has_put_same (lowsD_map ps i) (show WideAt.IsKeyLit (.int .i64 a) from trivial) _⟩
    · have hne : a ≠ at0 ps (k * 2) := by rw [← ha]; exact hd i k (by omega) (by omega)
      obtain ⟨h1, h2⟩ := lows_hit k i (fun i j h1 h2 => hd i j h1 (by omega)) (by omega) ha
      unfold lowsD
      exact ⟨fun z => by rw [Maps.atKey_put_other (by simpa using hne)]; exact h1 z, by rw [Maps.has_put_other (by simpa using hne)]; exact h2⟩
theorem lows_miss {ps : List Int} {a : Int} : ∀ (k : Nat), (∀ i, i < k → at0 ps (i * 2) ≠ a) → (∀ z, (lowsD ps k).atKey (.int .i64 a) z = z) ∧ Maps.has (lowsD ps k) (.int .i64 a) = false
  | 0, _ => ⟨fun _ => rfl, rfl⟩
  | k + 1, h => by
    have hne : a ≠ at0 ps (k * 2) := fun e => h k (by omega) e.symm
    obtain ⟨h1, h2⟩ := lows_miss k (fun i hi => h i (by omega))
    unfold lowsD
    exact ⟨fun z => by rw [Maps.atKey_put_other (by simpa using hne)]; exact h1 z, by rw [Maps.has_put_other (by simpa using hne)]; exact h2⟩

/-- 'own, ok := lows[a]'. -/
theorem lows_look {w : World} {b N n : Nat} {ps : List Int} {a : Int} (hown : w.ownsMap Try.prog 2 pairElem b N (lowsD ps n)) (hd : LowsApart ps n) (ha : (Lit.int .i64 a).wf = true) :
    (∃ i, i < n ∧ at0 ps (i * 2) = a ∧ highOf ps n a = at0 ps (i * 2 + 1) ∧ (Instr.lookup 151 (.map (some b)) (.int .i64 a) true).run Try.prog w = .ok (.tuple #[.agg #[.int .i64 a, .int .i64 (highOf ps n a)], .bool true]) w) ∨
    (highOf ps n a = 0 ∧ (Instr.lookup 151 (.map (some b)) (.int .i64 a) true).run Try.prog w = .ok (.tuple #[.agg #[.int .i64 0, .int .i64 0], .bool false]) w) := by
  obtain ⟨v, qs, hrun, hv⟩ := hown.look_ok (Maps.int_keyed Try.underlying2) Try.underlying151 (zero_pair w) (pairElem_mk 0 0) (Maps.keyOf_int_mk Try.underlying2 ha)
  by_cases hex : ∃ i, i < n ∧ at0 ps (i * 2) = a
  · obtain ⟨i, hi, hia⟩ := hex
    have hh : highOf ps n a = at0 ps (i * 2 + 1) := highOf_some hi hia (fun j hj e => hd j i hj hi (e.trans hia.symm))
    obtain ⟨h1, h2⟩ := lows_hit n i hd hi hia
    rw [h1, ← hh] at hv
    rw [h2, pairElem_inv hv] at hrun
    exact .inl ⟨i, hi, hia, hh, hrun⟩
  · obtain ⟨h1, h2⟩ := lows_miss n (fun i hi e => hex ⟨i, hi, e⟩)
    rw [h1] at hv
    rw [h2, pairElem_inv hv] at hrun
    exact .inr ⟨highOf_none (fun i hi e => hex ⟨i, hi, e⟩), hrun⟩

set_option maxRecDepth 100000 in
set_option maxHeartbeats 4000000 in
theorem lows_any (a1 : Option Addr) (n cap1 : Nat) (ps : List Int) (w : World) (hx1 : SlI w w.heap.size a1 ps) (hp : ps.length = 2 * n) (hn : n ≤ 1048576) (hw : ∀ x ∈ ps, (Lit.int .i64 x).wf = true) :
    Calls Try.prog 139 #[.slice a1 n cap1] w fun e w' => e = .returned (.map (some w.heap.size)) ∧ w'.ownsMap Try.prog 2 pairElem w.heap.size n (lowsD ps n) ∧ Below w.heap.size w w' := by
  have Hy := hid hx1
  have Hp := hid hp
  have Hw := hid hw
  have hmm := @run_makeMap Try.prog
  clear hx1 hp hw
  have H0 : Hid ((w.alloc (.map #[] 0)).ownsMap Try.prog 2 pairElem w.heap.size 0 (lowsD ps 0)) := hid (World.ownsMap_made w Try.prog 2 pairElem)
  go_enter Try.func139, Try.ntmps139
  go_wp2_with fail
  clear hmm
  go_loopw [9] (fun i wr => ∃ k : Nat, k ≤ n ∧ i = .int .i64 k ∧ wr.ownsMap Try.prog 2 pairElem w.heap.size k (lowsD ps k) ∧ Below w.heap.size w wr) (fun i _ => n - (intOf i).toNat)
  case atStart => exact ⟨0, Nat.zero_le _, rfl, H0.out, (Below.refl _ w).alloc (Nat.le_refl _) _⟩
  case round =>
    obtain ⟨k, hk, rfl, hown, hB⟩ := hrel
    by_cases hlt : k < n
    · obtain ⟨b, off, hb, rfl, hc⟩ : ∃ b off, b < w.heap.size ∧ a1 = some ⟨b, off, none⟩ ∧ ∀ i, i < ps.length → w.cell? ⟨b, off + i, none⟩ = some (.int .i64 (ps[i]?.getD 0)) := by
        rcases Hy.out with h | h
        · have := Hp.out; rw [h] at this; simp at this; omega
        · exact h
      have hc2 : wr.cell? ⟨b, off + k * 2, none⟩ = some (.int .i64 (at0 ps (k * 2))) := (hB.cell (p := ⟨b, off + k * 2, none⟩) hb).trans (hc _ (by have := Hp.out; omega))
      have hc3 : wr.cell? ⟨b, off + k * 2 + 1, none⟩ = some (.int .i64 (at0 ps (k * 2 + 1))) := (hB.cell (p := ⟨b, off + (k * 2 + 1), none⟩) hb).trans (hc _ (by have := Hp.out; omega))
      obtain ⟨x, hx⟩ : ∃ x, x = at0 ps (k * 2) := ⟨_, rfl⟩
      obtain ⟨y, hy⟩ : ∃ y, y = at0 ps (k * 2 + 1) := ⟨_, rfl⟩
      have hlen := Hp.out
      have hwx : (Lit.int .i64 x).wf = true := Hw.out x (by rw [hx]; exact getD_mem (by omega))
      have Hsn : Hid (lowsD ps (k + 1) = (lowsD ps k).put (.int .i64 x) (pairD x y)) := hid (by rw [hx, hy]; rfl)
      rw [← hx] at hc2
      rw [← hy] at hc3
      have hi0 : (0 : Int) ≤ (k : Int) := by omega
      have hi1 : (k : Int) < (n : Int) := by omega
      have hlm := hown.lt
      obtain ⟨wa, hrun1, hwa, hga⟩ := World.ownsMap.update (w := wr.alloc (.cells #[.int .i64 x, .int .i64 y] 62)) (World.ownsMap.alloc hown _) (Maps.int_keyed Try.underlying2) Try.underlying151 (show k < maxLen by unfold maxLen; omega) (Maps.keyOf_int_mk Try.underlying2 hwx) (pairElem_mk x y)
      rw [← Hsn.out] at hwa
      have Hwa := hid hwa
      have HBa := hid (((hB.alloc hB.size (.cells #[.int .i64 x, .int .i64 y] 62))).grown hga (by have := hB.size; simp; omega) (fun r e => by cases e; exact Nat.le_refl _))
      clear hwa hga hx hy hc hlen hown hB
      go_wp2_with fail
      go_roundw
      case rel => exact ⟨k + 1, by omega, by go_num, Hwa.out, HBa.out⟩
      case measure => simp [intOf]; omega
    · obtain rfl : k = n := by omega
      have Hown := hid hown
      have HB := hid hB
      clear hown hB
      go_wp2_with fail
      go_ret
      exact ⟨rfl, Hown.out, HB.out⟩

end Go.Proofs.Ytgefpllmelpahaa

/-! FacesOf, the model's and the program's. -/
namespace Go.Proofs.Ytgefpllmelpahaa
open Go.RowKit

/-- The faces of a dimension. -/
def ofDim (fs : List Int) (d : Int) : List Int := fs.filter fun x => decide ((ones x.toNat : Int) = d + 1)

set_option maxHeartbeats 1000000 in
theorem of_any (V : Int) (a : Option Addr) (cap : Nat) (fs : List Int) (d : Int) (w : World) (hx : SlI w w.heap.size a fs) (hl : fs.length ≤ 1048576) (hf : ∀ x ∈ fs, 1 ≤ x ∧ x ≤ 63) (hd0 : 0 ≤ d) (hd1 : d ≤ 5) :
    Calls Try.prog 110 #[.agg #[.int .i64 V, .slice a fs.length cap], .int .i64 d] w fun e w' => ∃ v, e = .returned v ∧ Res w w' v (ofDim fs d) := by
  have hB0 : Below w.heap.size w (w.alloc (.cells #[.int .i64 V, .slice a fs.length cap] 30)) := (Below.refl _ w).alloc (Nat.le_refl _) _
  have hB00 := (hB0.alloc (by simp) (.cells #[] 2))
  have hown0 := World.ownsRow_made (base := w.heap.size + 1) (e := 2) (size := 1) (w.alloc (.cells #[.int .i64 V, .slice a fs.length cap] 30)) #[] 0 (by simp) (by simp [maxLen]) rfl
  rw [World.size_alloc] at hown0
  rcases hx with rfl | ⟨b, off, hb, rfl, hc⟩
  · have Hown0 := hid hown0
    clear hown0
    go_enter Try.func110, Try.ntmps110
    go_wp2
    refine wp_loop_rounds 1 ?_; rw [rounds_succ]
    go_wp2
    go_ret
    exact ⟨_, rfl, ownsRow_base (by simpa [ofDim] using Hown0.out) (Nat.le_succ _), hB00⟩
  · have Hc := hid hc
    have Hf := hid hf
    have Hown0 := hid hown0
    clear hc hf hown0
    go_enter Try.func110, Try.ntmps110
    go_wp2
    go_loopw [5, 6] (fun v i wr => ∃ k : Nat, k ≤ fs.length ∧ i = .int .i64 k ∧ wr.ownsRow (w.heap.size + 1) 2 1 v (ofDim (fs.take k) d).length ((ofDim (fs.take k) d).map (Value.int .i64)) ∧
        Below (w.heap.size + 1) (w.alloc (.cells #[.int .i64 V, .slice (some ⟨b, off, none⟩) fs.length cap] 30)) wr) (fun _ i _ => fs.length - (intOf i).toNat)
    case atStart => exact ⟨0, Nat.zero_le _, rfl, Hown0.out, (Below.refl _ _).alloc (by simp) _⟩
    case round =>
      obtain ⟨k, hk, rfl, hown, hB⟩ := hrel
      have c0 : wr.cell? ⟨w.heap.size, 0, none⟩ = some (.int .i64 V) := (hB.cell (p := ⟨w.heap.size, 0, none⟩) (by simp)).trans (by simp [go_sem])
      have c1 : wr.cell? ⟨w.heap.size, 1, none⟩ = some (.slice (some ⟨b, off, none⟩) fs.length cap) := (hB.cell (p := ⟨w.heap.size, 1, none⟩) (by simp)).trans (by simp [go_sem])
      have hBW := hB0.trans (hB.mono (by simp))
      have hsz := hB.size
      simp only [World.size_alloc] at hsz
      by_cases hlt : k < fs.length
      · obtain ⟨x, hx⟩ : ∃ x : Nat, (x : Int) = fs[k]?.getD 0 := ⟨(fs[k]?.getD 0).toNat, by have := Hf.out _ (getD_mem hlt); omega⟩
        have hx64 : x < 64 := by have := Hf.out _ (getD_mem hlt); omega
        have hck : wr.cell? ⟨b, off + k, none⟩ = some (.int .i64 (x : Int)) := by rw [hx]; exact (hBW.cell (p := ⟨b, off + k, none⟩) hb).trans (Hc.out k hlt)
        have hi0 : (0 : Int) ≤ (k : Int) := by omega
        have hi1 : (k : Int) < (fs.length : Int) := by omega
        have hfl : (ofDim (fs.take k) d).length ≤ 1048576 := Nat.le_trans (List.length_filter_le _ _) (by simp; omega)
        have Hp : Hid (∀ c, decide ((ones x : Int) = d + 1) = c → ofDim (fs.take (k + 1)) d = ofDim (fs.take k) d ++ (if c then [(x : Int)] else [])) := hid (fun c hc => by
          unfold ofDim
          rw [take_snoc hlt, List.filter_append, ← hx]
          cases c <;> simp [hc])
        clear hx hB0 hB00
        have ho := ones_le x
        by_cases hpx : (ones x : Int) = d + 1
        · have hd : ((ones x : Int) == d + 1) = true := by simpa using hpx
          have HP := hid (Hp.out true (decide_eq_true hpx))
          clear hpx Hp
          go_wp2_with (first
            | (go_at_call 130; refine (ones_any x _ hx64).mono ?_; rintro e w' ⟨rfl, rfl⟩)
            | (at_builtin; refine append_int rfl rfl hown hsz (by omega) rfl rfl ?_; intro v' w2 hown2 hgrow2 hB2))
          go_roundw
          case rel => exact ⟨k + 1, by omega, by go_num, by rw [HP.out]; exact hown2, hB.trans hB2⟩
          case measure => simp [intOf]; omega
        · have hd : ((ones x : Int) == d + 1) = false := by simpa using hpx
          have HP := hid (Hp.out false (decide_eq_false hpx))
          clear hpx Hp
          go_wp2_with (first
            | (go_at_call 130; refine (ones_any x _ hx64).mono ?_; rintro e w' ⟨rfl, rfl⟩))
          go_roundw
          case rel => exact ⟨k + 1, by omega, by go_num, by rw [HP.out]; simpa using hown, hB⟩
          case measure => simp [intOf]; omega
      · go_wp2
        go_ret
        obtain rfl : k = fs.length := by omega
        rw [List.take_of_length_le (Nat.le_refl _)] at hown
        exact ⟨_, rfl, ownsRow_base hown (by omega), hBW⟩

/-- What FacesOf hands back. -/
noncomputable def facesOfR (V : Int) (fs : List Int) (d : Int) : List Int × Int := if isCB V fs then (if 0 ≤ d ∧ d ≤ 5 then (ofDim fs d, 0) else ([], 2)) else ([], 1)

theorem facesOfR_len (V : Int) (fs : List Int) (d : Int) (h : fs.length ≤ 1048576) : (facesOfR V fs d).1.length ≤ 1048576 := by
  unfold facesOfR
  split
  · split
    · exact Nat.le_trans (List.length_filter_le _ _) h
    · simp
  · simp

theorem pair_mono {P : Program} {f : FuncId} {args : Array Value} {w : World} {r : List Int × Int} {xs : List Int} {c : Int} (hr : r = (xs, c))
    (h : Calls P f args w fun e w' => ∃ v, e = .returned (.tuple #[v, .int .i64 c]) ∧ Res w w' v xs) : Calls P f args w fun e w' => ∃ v, e = .returned (.tuple #[v, .int .i64 r.2]) ∧ Res w w' v r.1 := by
  subst hr; exact h



end Go.Proofs.Ytgefpllmelpahaa

/-! The dimension of a complex, the model's and the program's. -/
namespace Go.Proofs.Ytgefpllmelpahaa
open Go.RowKit

/-- The greater number, as the model has it. -/
def more (m y : Int) : Int := if m < y then y else m

/-- The dimension of a list of faces. -/
def top (fs : List Int) : Int := fs.foldl (fun m x => more m ((ones x.toNat : Int) - 1)) (-1)

theorem top_snoc (pre : List Int) (x : Int) : top (pre ++ [x]) = more (top pre) ((ones x.toNat : Int) - 1) := by simp [top]

theorem top_from (fs : List Int) : ∀ m : Int, -1 ≤ m → m ≤ 5 → -1 ≤ fs.foldl (fun m x => more m ((ones x.toNat : Int) - 1)) m ∧ fs.foldl (fun m x => more m ((ones x.toNat : Int) - 1)) m ≤ 5 ∧ m ≤ fs.foldl (fun m x => more m ((ones x.toNat : Int) - 1)) m ∧ ∀ x ∈ fs, (ones x.toNat : Int) - 1 ≤ fs.foldl (fun m x => more m ((ones x.toNat : Int) - 1)) m := by
  induction fs with
  | nil => intro m h0 h1; exact ⟨h0, h1, Int.le_refl _, by simp⟩
  | cons x fs ih =>
    intro m h0 h1
    have ho := ones_le x.toNat
    have hm : -1 ≤ more m ((ones x.toNat : Int) - 1) ∧ more m ((ones x.toNat : Int) - 1) ≤ 5 ∧ m ≤ more m ((ones x.toNat : Int) - 1) ∧ (ones x.toNat : Int) - 1 ≤ more m ((ones x.toNat : Int) - 1) := by
      unfold more
      split <;> omega
    obtain ⟨a1, a2, a3, a4⟩ := ih _ hm.1 hm.2.1
    simp only [List.foldl_cons]
    refine ⟨a1, a2, by omega, ?_⟩
    intro y hy
    rcases List.mem_cons.1 hy with rfl | hy
    · omega
    · exact a4 y hy

theorem top_lo (fs : List Int) : -1 ≤ top fs := (top_from fs (-1) (by omega) (by omega)).1
theorem top_hi (fs : List Int) : top fs ≤ 5 := (top_from fs (-1) (by omega) (by omega)).2.1
theorem top_ge (fs : List Int) {x : Int} (hx : x ∈ fs) : (ones x.toNat : Int) - 1 ≤ top fs := (top_from fs (-1) (by omega) (by omega)).2.2.2 x hx

theorem cell_alloc0 {W : World} {p : Addr} {v : Value} (h : W.cell? p = some v) (o : Obj) : (W.alloc o).cell? p = some v :=
  (World.cell?_alloc_some W p o (show (W.cell? p).isSome = true by rw [h]; rfl)).trans h

set_option maxHeartbeats 1000000 in
theorem dimS_any (V : Int) (a0 : Option Addr) (cap : Nat) (fs : List Int) (w : World) (hx : SlI w w.heap.size a0 fs) (hl : fs.length ≤ 1048576) (hf : ∀ x ∈ fs, 1 ≤ x ∧ x ≤ 63) :
    Calls Try.prog 189 #[.agg #[.int .i64 V, .slice a0 fs.length cap]] w fun e w' => e = .returned (.int .i64 (top fs)) ∧ Below w.heap.size w w' := by
  have hB0 : Below w.heap.size w (w.alloc (.cells #[.int .i64 V, .slice a0 fs.length cap] 30)) := (Below.refl _ w).alloc (Nat.le_refl _) _
  have Hx0 := hid hx
  have Hf := hid hf
  clear hx hf
  go_enter Try.func189, Try.ntmps189
  go_wp2
  go_loopw [3, 4] (fun m i wr => ∃ k : Nat, k ≤ fs.length ∧ i = .int .i64 k ∧ m = .int .i64 (top (fs.take k)) ∧ wr = w.alloc (.cells #[.int .i64 V, .slice a0 fs.length cap] 30)) (fun _ i _ => fs.length - (intOf i).toNat)
  case atStart => exact ⟨0, Nat.zero_le _, rfl, by simp [top], rfl⟩
  case round =>
    obtain ⟨k, hk, rfl, rfl, rfl⟩ := hrel
    by_cases hlt : k < fs.length
    · obtain ⟨b, off, hb, rfl, hc⟩ : ∃ b off, b < w.heap.size ∧ a0 = some ⟨b, off, none⟩ ∧ ∀ i, i < fs.length → w.cell? ⟨b, off + i, none⟩ = some (.int .i64 (fs[i]?.getD 0)) := by
        rcases Hx0.out with rfl | h
        · simp at hlt
        · exact h
      obtain ⟨x, hx⟩ : ∃ x : Nat, (x : Int) = fs[k]?.getD 0 := ⟨(fs[k]?.getD 0).toNat, by have := Hf.out _ (getD_mem hlt); omega⟩
      have hx64 : x < 64 := by have := Hf.out _ (getD_mem hlt); omega
      have hck : ∀ o, (w.alloc o).cell? ⟨b, off + k, none⟩ = some (.int .i64 (x : Int)) := cell_alloc0 (by rw [hx]; exact hc k hlt)
      have hi0 : (0 : Int) ≤ (k : Int) := by omega
      have hi1 : (k : Int) < (fs.length : Int) := by omega
      have Ht : Hid (top (fs.take (k + 1)) = more (top (fs.take k)) ((ones x : Int) - 1)) := hid (by rw [take_snoc hlt, ← hx, top_snoc]; simp)
      have ht0 := top_lo (fs.take k)
      have ht1 := top_hi (fs.take k)
      obtain ⟨t, htt⟩ : ∃ t, t = top (fs.take k) := ⟨_, rfl⟩
      rw [← htt] at Ht ht0 ht1 ⊢
      have ho := ones_le x
      clear hx hc htt
      by_cases hm : t < (ones x : Int) - 1
      · have hmm : more t ((ones x : Int) - 1) = (ones x : Int) - 1 := by unfold more; rw [if_pos hm]
        rw [hmm] at Ht
        clear hmm
        go_wp2_with (go_at_call 130; refine (ones_any x _ hx64).mono ?_; rintro e w' ⟨rfl, rfl⟩)
        go_roundw
        case rel => exact ⟨k + 1, by omega, by go_num, by first | (rw [Ht.out]; done) | (rw [Ht.out]; congr 1; omega), trivial⟩
        case measure => simp [intOf]; omega
      · have hmm : more t ((ones x : Int) - 1) = t := by unfold more; rw [if_neg hm]
        rw [hmm] at Ht
        have hm' : (ones x : Int) - 1 ≤ t := by omega
        clear hmm
        go_wp2_with (go_at_call 130; refine (ones_any x _ hx64).mono ?_; rintro e w' ⟨rfl, rfl⟩)
        go_roundw
        case rel => exact ⟨k + 1, by omega, by go_num, by first | (rw [Ht.out]; done) | (rw [Ht.out]; congr 1; omega), trivial⟩
        case measure => simp [intOf]; omega
    · go_wp2
      go_ret
      obtain rfl : k = fs.length := by omega
      exact ⟨ret_int (by rw [List.take_of_length_le (Nat.le_refl _)]), hB0⟩

set_option maxHeartbeats 1000000 in
theorem dimI_any (V : Int) (a0 : Option Addr) (cap : Nat) (fs : List Int) (w : World) (hx : SlI w w.heap.size a0 fs) (hl : fs.length ≤ 1048576) (hf : ∀ x ∈ fs, 1 ≤ x ∧ x ≤ 63) :
    Calls Try.prog 124 #[.agg #[.int .i64 V, .slice a0 fs.length cap]] w fun e w' => e = .returned (.int .i64 (top fs)) ∧ Below w.heap.size w w' := by
  have hB0 : Below w.heap.size w (w.alloc (.cells #[.int .i64 V, .slice a0 fs.length cap] 30)) := (Below.refl _ w).alloc (Nat.le_refl _) _
  have Hx0 := hid hx
  have Hf := hid hf
  clear hx hf
  go_enter Try.func124, Try.ntmps124
  go_wp2
  go_loopw [3, 9] (fun m i wr => ∃ k : Nat, k ≤ fs.length ∧ i = .int .i64 k ∧ m = .int .i64 (top (fs.take k)) ∧ wr = w.alloc (.cells #[.int .i64 V, .slice a0 fs.length cap] 30)) (fun _ i _ => fs.length - (intOf i).toNat)
  case atStart => exact ⟨0, Nat.zero_le _, rfl, by simp [top], rfl⟩
  case round =>
    obtain ⟨k, hk, rfl, rfl, rfl⟩ := hrel
    by_cases hlt : k < fs.length
    · obtain ⟨b, off, hb, rfl, hc⟩ : ∃ b off, b < w.heap.size ∧ a0 = some ⟨b, off, none⟩ ∧ ∀ i, i < fs.length → w.cell? ⟨b, off + i, none⟩ = some (.int .i64 (fs[i]?.getD 0)) := by
        rcases Hx0.out with rfl | h
        · simp at hlt
        · exact h
      obtain ⟨x, hx⟩ : ∃ x : Nat, (x : Int) = fs[k]?.getD 0 := ⟨(fs[k]?.getD 0).toNat, by have := Hf.out _ (getD_mem hlt); omega⟩
      have hx64 : x < 64 := by have := Hf.out _ (getD_mem hlt); omega
      have hck : ∀ o, (w.alloc o).cell? ⟨b, off + k, none⟩ = some (.int .i64 (x : Int)) := cell_alloc0 (by rw [hx]; exact hc k hlt)
      have hi0 : (0 : Int) ≤ (k : Int) := by omega
      have hi1 : (k : Int) < (fs.length : Int) := by omega
      have Ht : Hid (top (fs.take (k + 1)) = more (top (fs.take k)) ((ones x : Int) - 1)) := hid (by rw [take_snoc hlt, ← hx, top_snoc]; simp)
      have ht0 := top_lo (fs.take k)
      have ht1 := top_hi (fs.take k)
      obtain ⟨t, htt⟩ : ∃ t, t = top (fs.take k) := ⟨_, rfl⟩
      rw [← htt] at Ht ht0 ht1 ⊢
      have ho := ones_le x
      clear hx hc htt
      by_cases hm : t < (ones x : Int) - 1
      · have hmm : more t ((ones x : Int) - 1) = (ones x : Int) - 1 := by unfold more; rw [if_pos hm]
        rw [hmm] at Ht
        clear hmm
        go_wp2_with (go_at_call 125; refine (dim_any x _ hx64).mono ?_; rintro e w' ⟨rfl, rfl⟩)
        go_roundw
        case rel => exact ⟨k + 1, by omega, by go_num, by first | (rw [Ht.out]; done) | (rw [Ht.out]; congr 1; omega), trivial⟩
        case measure => simp [intOf]; omega
      · have hmm : more t ((ones x : Int) - 1) = t := by unfold more; rw [if_neg hm]
        rw [hmm] at Ht
        have hm' : (ones x : Int) - 1 ≤ t := by omega
        clear hmm
        go_wp2_with (go_at_call 125; refine (dim_any x _ hx64).mono ?_; rintro e w' ⟨rfl, rfl⟩)
        go_roundw
        case rel => exact ⟨k + 1, by omega, by go_num, by first | (rw [Ht.out]; done) | (rw [Ht.out]; congr 1; omega), trivial⟩
        case measure => simp [intOf]; omega
    · go_wp2
      go_ret
      obtain rfl : k = fs.length := by omega
      exact ⟨ret_int (by rw [List.take_of_length_le (Nat.le_refl _)]), hB0⟩

end Go.Proofs.Ytgefpllmelpahaa
