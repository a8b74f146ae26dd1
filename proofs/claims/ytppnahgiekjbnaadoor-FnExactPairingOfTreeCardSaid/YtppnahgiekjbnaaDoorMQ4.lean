import Derived.Lib.QuietBelow
import Derived.Lib.SliceRun
import Derived.Lib.Walk
import Derived.Deep.RegionHeld3
import Derived.Test.YtppnahgiekjbnaaDoorMQ1
import Derived.Test.YtppnahgiekjbnaaDoorMQ2
import Derived.Test.YtppnahgiekjbnaaDoorMQ3
/-! Iterators that keep a state of their own in cells: what lies in the blocks that they lay themselves. -/
namespace Go.Proofs.YtppnahgiekjbnaaDoor
open Go.RowKit Go.Shelf

attribute [local go_sem] Oper.semAt_some

/-- I abides new blocks, and the turn of one of the k blocks from lo on, or of one behind them that is no cells. -/
def OwnIn {β : Type} (lo k : Nat) (I : β → World → Prop) : Prop :=
  ∀ s W W' row, I s W → W.grownBy W' row → (∀ r, row = some r → lo ≤ r ∧ (r < lo + k ∨ ∃ o : Obj, W.heap[r]? = some o ∧ o.isCells = false)) → I s W'

/-- The blocks Bs and the k blocks from lo on lie as they lay; no block is lost. -/
structure KeepP (Bs : List Nat) (lo k : Nat) (W W' : World) : Prop where
  size : W.heap.size ≤ W'.heap.size
  same : ∀ r, (r ∈ Bs ∨ (lo ≤ r ∧ r < lo + k)) → W'.heap[r]? = W.heap[r]?

theorem KeepP.refl (Bs : List Nat) (lo k : Nat) (W : World) : KeepP Bs lo k W W := ⟨Nat.le_refl _, fun _ _ => rfl⟩
theorem KeepP.trans {Bs : List Nat} {lo k : Nat} {X Y Z : World} (h : KeepP Bs lo k X Y) (h' : KeepP Bs lo k Y Z) : KeepP Bs lo k X Z := ⟨Nat.le_trans h.size h'.size, fun r hr => (h'.same r hr).trans (h.same r hr)⟩
theorem KeepP.of_grownBy {Bs : List Nat} {lo k : Nat} {W W' : World} {row : Option Nat} (hg : W.grownBy W' row) (hB : ∀ b ∈ Bs, b < W.heap.size) (hlo : lo + k ≤ W.heap.size) (hrow : ∀ j, row = some j → j ∉ Bs ∧ (j < lo ∨ lo + k ≤ j)) : KeepP Bs lo k W W' :=
  ⟨hg.size, fun r hr => hg.block r (by rcases hr with h | h; exact hB r h; omega) (fun e => by have := hrow r e.symm; rcases hr with h | h; exact this.1 h; omega)⟩
theorem KeepP.of_below {Bs : List Nat} {lo k B : Nat} {W W' : World} (h : Below B W W') (hB : ∀ b ∈ Bs, b < B) (hlo : lo + k ≤ B) : KeepP Bs lo k W W' :=
  ⟨h.size, fun r hr => h.block r (by rcases hr with h | h; exact hB r h; omega)⟩
theorem KeepP.less {Bs Bs' : List Nat} {lo lo' k k' : Nat} {W W' : World} (h : KeepP Bs lo k W W') (hB : ∀ b ∈ Bs', b ∈ Bs ∨ (lo ≤ b ∧ b < lo + k)) (hlo : lo ≤ lo') (hk : lo' + k' ≤ lo + k) : KeepP Bs' lo' k' W W' :=
  ⟨h.size, fun r hr => h.same r (by rcases hr with h | h; exact hB r h; exact .inr (by omega))⟩
theorem KeepP.setCell {Bs : List Nat} {lo k : Nat} (W : World) (b : Nat) (o : Nat) (v : Value) (hb : b ∉ Bs ∧ (b < lo ∨ lo + k ≤ b)) : KeepP Bs lo k W (W.setCell ⟨b, o, none⟩ v) :=
  ⟨by simp [World.setCell], fun r hr => Below.heap_setCell _ _ _ _ (fun e => by simp only at e; subst e; rcases hr with h | h; exact hb.1 h; omega)⟩

theorem OwnIn.less {β : Type} {lo lo' k k' : Nat} {I : β → World → Prop} (h : OwnIn lo k I) (hlo : lo ≤ lo') (hk : lo' + k' ≤ lo + k) : OwnIn lo' k' I :=
  fun s W W' row hs hg hr => h s W W' row hs hg (fun r e => by
    obtain ⟨h1, h2⟩ := hr r e
    refine ⟨by omega, ?_⟩
    rcases h2 with h2 | h2
    · exact .inl (by omega)
    · exact .inr h2)
theorem OwnIn.and {β : Type} {lo k : Nat} {I I' : β → World → Prop} (h : OwnIn lo k I) (h' : OwnIn lo k I') : OwnIn lo k (fun s W => I s W ∧ I' s W) := fun s W W' row hs hg hr => ⟨h s W W' row hs.1 hg hr, h' s W W' row hs.2 hg hr⟩
theorem OwnIn.alloc {β : Type} {lo k : Nat} {I : β → World → Prop} (h : OwnIn lo k I) {s : β} {W : World} (o : Obj) (hs : I s W) : I s (W.alloc o) := h s W _ none hs (World.grownBy_alloc W o none) (fun r e => by cases e)
theorem OwnIn.drewN {β : Type} {lo k : Nat} {I : β → World → Prop} (h : OwnIn lo k I) {s : β} {W : World} (m : Nat) (hs : I s W) : I s (W.drewN m) := h s W _ none hs (grown_drewN W m) (fun r e => by cases e)
theorem OwnIn.putObj {β : Type} {lo k : Nat} {I : β → World → Prop} (h : OwnIn lo k I) {s : β} {W : World} {l : Nat} (o' : Obj) (hs : I s W) (h1 : lo ≤ l) (h2 : l < lo + k) : I s (W.putObj l o') :=
  h s W _ (some l) hs (grownBy_putObj' W l o') (fun r e => by cases e; exact ⟨h1, .inl h2⟩)
theorem OwnIn.map {β γ : Type} {lo k : Nat} {I : β → World → Prop} (h : OwnIn lo k I) (f : γ → β) : OwnIn lo k (fun s W => I (f s) W) := fun s W W' row hs hg hr => h (f s) W W' row hs hg hr
theorem ownIn_pure {β : Type} (lo k : Nat) (p : β → Prop) : OwnIn lo k (fun s (_ : World) => p s) := fun _ _ _ _ hs _ _ => hs
/-- What lies in a block of cells ahead of lo, or beyond the k blocks, stays. -/
theorem ownIn_block {β : Type} {lo k : Nat} {b : Nat} (f : β → Obj) (hb : b < lo) : OwnIn lo k (fun s (W : World) => W.heap[b]? = some (f s)) :=
  fun s W W' row hs hg hr => (hg.block b (Array.getElem?_eq_some_iff.1 hs).1 (fun e => by have := (hr b e.symm).1; omega)).trans hs
theorem ownIn_below {β : Type} {lo k n₀ : Nat} {w₀ : World} (h0 : n₀ ≤ lo) (hsz : n₀ ≤ w₀.heap.size) : OwnIn lo k (fun (_ : β) W => Below n₀ w₀ W) :=
  fun _ W W' row hs hg hr => hs.grown hg (Nat.le_trans hsz hs.size) (fun r e => by have := (hr r e).1; omega)

/-- An iterator's contract: it hands over the elements of L, one after the other, until a round says no more; it lays k blocks of its own when it begins, and reads the blocks Bs; every invariant that abides the turns of its own blocks is carried on. -/
def SeqStopsP {α : Type} (F : Fence) (n : Nat) (P : Program) (g : Nat) (lb : Array Value) (encs : α → Array Value) (Bs : List Nat) (k : Nat) (L : List α) (w0 : World) : Prop :=
  ∀ (l : Nat) (J Jx : List α → World → Prop) (W : World), Below w0.heap.size w0 W → OwnIn W.heap.size k J → OwnIn W.heap.size k Jx →
    (∀ pre x W1, pre ++ [x] <+: L → W.heap.size + k ≤ W1.heap.size → J pre W1 → YieldAt F (n - 1) P l (encs x) W1 fun e W' => KeepP Bs W.heap.size k W1 W' ∧ ((e = .returned (.bool true) ∧ J (pre ++ [x]) W') ∨ (e = .returned (.bool false) ∧ Jx (pre ++ [x]) W'))) →
    J [] W →
    CallsIn F n P g (#[.func (.yield l) #[] #[]] ++ lb) W fun e W' => (∃ v, e = .returned v) ∧ (J L W' ∨ ∃ pre, pre <+: L ∧ Jx pre W')

/-- How a round may be left. -/
def postP {α : Type} (Bs : List Nat) (lo k : Nat) (I : List α → World → Prop) (Ix : Code → List α → World → Prop) (xs : List α) (W : World) : Exit → Act → World → Prop
  | .normal, _, W' => KeepP Bs lo k W W' ∧ I xs W'
  | .ret, _, W' => KeepP Bs lo k W W' ∧ Ix .ret xs W'
  | .exit id, _, W' => KeepP Bs lo k W W' ∧ Ix (.exit id) xs W'
  | .goto t, _, W' => KeepP Bs lo k W W' ∧ Ix (.goto t) xs W'
  | .panic _, _, _ => False
  | .outgrown, _, _ => False

/-- A loop over such an iterator. -/
theorem wpIn_rangeFunc_P {α : Type} {F : Fence} {n : Nat} {P : Program} {w : World} {g : Operand} {ps : Array Tmp} {assign body : Code} {Q : Exit → Act → World → Prop} {a : Act}
    (hro : F.round = none) (h1 : 1 ≤ n) {gf : Nat} {lb : Array Value} (hg : a.eval g = .func (.func gf) #[] lb) (hFg : F.fn gf) (eg : ∀ args w, (callFunc gf args).run P w = .ok (.enter gf args) w)
    {encs : α → Array Value} {Bs : List Nat} {k : Nat} {L : List α} {w0 : World} (hseq : SeqStopsP F (n - 1) P gf lb encs Bs k L w0) (hBs : ∀ b ∈ Bs, b < w.heap.size)
    (hb0 : Below w0.heap.size w0 w) (hps : ∀ x, (encs x).size = ps.size)
    (I : List α → World → Prop) (Ix : Code → List α → World → Prop) (hI : OwnIn w.heap.size (2 + k) I) (hIx : ∀ c, OwnIn w.heap.size (2 + k) (Ix c)) (h0 : I [] w) (a₁ : α → Act)
    (hassign : ∀ (l : Nat) (x : α) (W : World) (K : Act → World → Prop), K (a₁ x) W →
      assign.wpIn (F.inRound l) (n - 1 - 1) P (Exit.then K (fun _ _ _ => False)) { tmps := (ps.zip (encs x)).foldl (fun t (p, v) => t.setIfInBounds p v) a.tmps, defers := [] } W)
    (hbody : ∀ (l : Nat) (pre : List α) (x : α) (W : World), pre ++ [x] <+: L → w.heap.size + (2 + k) ≤ W.heap.size → I pre W → body.wpIn (F.inRound l) (n - 1 - 1) P (postP Bs w.heap.size (2 + k) I Ix (pre ++ [x]) W) (a₁ x) W)
    (hdone : ∀ (W : World), I L W → W.heap[w.heap.size]? = some (.deferred (some [])) → Q .normal { a with defers := { target := .collected w.heap.size, args := #[] } :: a.defers } W)
    (hstop : ∀ (c : Code) (pre : List α) (W : World), pre <+: L → Ix c pre W → W.heap[w.heap.size]? = some (.deferred (some [])) → c.wpIn F n P Q { a with defers := { target := .collected w.heap.size, args := #[] } :: a.defers } W) :
    (Code.rangeFunc g ps assign body).wpIn F n P Q a w := by
  refine wpIn_rangeFunc ?_
  intro fn hfn
  rw [hro]
  let rec_ : LoopState → Option Code → Loop := fun st pe => { state := st, pending := pe, fn, tmps := a.tmps, params := ps, assign, body, defers := w.heap.size }
  obtain ⟨rec, hrec⟩ : ∃ rec, rec = rec_ := ⟨_, rfl⟩
  obtain ⟨W1, hW1⟩ : ∃ W1, (w.alloc (.deferred (some []))).alloc (.loop (rec .ready none)) = W1 := ⟨_, rfl⟩
  have hs1 : W1.heap.size = w.heap.size + 2 := by rw [← hW1]; simp
  have hL1 : W1.heap[w.heap.size + 1]? = some (.loop (rec .ready none)) := by
    rw [← hW1]; have := World.alloc_heap_new (w.alloc (.deferred (some []))) (.loop (rec .ready none)); rwa [World.size_alloc] at this
  have hK1 : W1.heap[w.heap.size]? = some (.deferred (some [])) := by
    rw [← hW1]; exact (Below.heap_alloc _ _ _ (by simp)).trans (World.alloc_heap_new w _)
  have hI1 : I [] W1 := by rw [← hW1]; exact hI.alloc _ (hI.alloc _ h0)
  have hb1 : Below w0.heap.size w0 W1 := by
    rw [← hW1]; exact hb0.trans ((((Below.refl _ w).alloc (Nat.le_refl _) _).alloc (by simp) _).mono hb0.size)
  have hIk : ∀ {I' : List α → World → Prop}, OwnIn w.heap.size (2 + k) I' → OwnIn W1.heap.size k I' := fun h => h.less (by omega) (by omega)
  refine ⟨w.heap.size + 1, [{ target := .collected w.heap.size, args := #[] }], W1, { target := .fn (.func gf) lb, args := #[.func (.yield (w.heap.size + 1)) #[] #[]] }, W1, gf,
    #[.func (.yield (w.heap.size + 1)) #[] #[]] ++ lb, W1, ?_, ?_, ?_, ?_, fun _ => h1, ?_⟩
  · rw [← hW1, hrec]; exact run_enterLoop_outer _ _ _ _ _
  · simp only [resolve, hg]
    simp [go_sem]
  · intro f' hf'; simp [Target.leads] at hf'; subst hf'; exact hFg
  · simp [invoke, go_sem, eg]
  · have hrow : ∀ {A B : World} {row : Option Nat} {b : Nat} {o : Obj}, A.grownBy B row → (∀ r, row = some r → W1.heap.size ≤ r ∧ (r < W1.heap.size + k ∨ ∃ o : Obj, A.heap[r]? = some o ∧ o.isCells = false)) → b < W1.heap.size → A.heap[b]? = some o → B.heap[b]? = some o :=
      fun hg' hr hb ho => (hg'.block _ (Array.getElem?_eq_some_iff.1 ho).1 (fun e => by have := (hr _ e.symm).1; omega)).trans ho
    refine (hseq (w.heap.size + 1)
      (fun pre W => I pre W ∧ W.heap[w.heap.size + 1]? = some (.loop (rec .ready none)) ∧ W.heap[w.heap.size]? = some (.deferred (some [])))
      (fun pre W => ∃ c, Ix c pre W ∧ W.heap[w.heap.size + 1]? = some (.loop (rec .done (some c))) ∧ W.heap[w.heap.size]? = some (.deferred (some [])))
      W1 hb1
      (fun s A B row hs hg' hr => ⟨hIk hI s A B row hs.1 hg' hr, hrow hg' hr (by omega) hs.2.1, hrow hg' hr (by omega) hs.2.2⟩)
      (fun s A B row hs hg' hr => by
        obtain ⟨c, hc, hl, hk⟩ := hs
        exact ⟨c, hIk (hIx c) s A B row hc hg' hr, hrow hg' hr (by omega) hl, hrow hg' hr (by omega) hk⟩)
      ?_ ⟨hI1, hL1, hK1⟩).mono ?_
    · rintro pre x W hpre hsk ⟨hi, hl, hk⟩
      have hlt : w.heap.size + 1 < W.heap.size := (Array.getElem?_eq_some_iff.1 hl).1
      have hy := run_yield (P := P) (args := encs x) hl (by rw [hrec]; exact hps x)
      rw [hrec] at hy
      refine ⟨fn, _, assign, body, hy, roundIn_of_wpIn hfn (hassign _ x W _ ?_)⟩
      clear hy
      refine ⟨_, run_beginRound hl (by rw [hrec]), ?_⟩
      obtain ⟨W2, hW2⟩ : ∃ W2, W2 = W.putObj (w.heap.size + 1) (.loop { rec .ready none with state := .busy }) := ⟨_, rfl⟩
      have hl2 : W2.heap[w.heap.size + 1]? = some (.loop { rec .ready none with state := .busy }) := by rw [hW2]; exact World.putObj_heap_same hlt
      have hk2 : W2.heap[w.heap.size]? = some (.deferred (some [])) := by rw [hW2]; exact (World.putObj_heap_other (by omega)).trans hk
      have hi2 : I pre W2 := by rw [hW2]; exact hI.putObj _ hi (by omega) (by omega)
      have hkp : ∀ {X Y : World} {o : Obj}, X = Y.putObj (w.heap.size + 1) o → KeepP Bs W1.heap.size k Y X := fun e => ⟨by rw [e, World.putObj_size]; exact Nat.le_refl _, fun r hr => by
        rw [e]
        refine World.putObj_heap_other ?_
        rcases hr with h | h
        · have := hBs r h; omega
        · omega⟩
      refine wpIn_mono (hbody _ pre x _ hpre (by rw [World.putObj_size]; omega) (by rw [← hW2]; exact hi2)) ?_
      rw [← hW2]
      have fin : ∀ (jump : Option Code) (W3 : World), KeepP Bs w.heap.size (2 + k) W2 W3 →
          (Instr.endRound (w.heap.size + 1) jump).run P W3 = .ok (.bool jump.isNone) (W3.putObj (w.heap.size + 1) (.loop (rec (if jump.isNone then .ready else .done) jump))) ∧
          (W3.putObj (w.heap.size + 1) (.loop (rec (if jump.isNone then .ready else .done) jump))).heap[w.heap.size + 1]? = some (.loop (rec (if jump.isNone then .ready else .done) jump)) ∧
          (W3.putObj (w.heap.size + 1) (.loop (rec (if jump.isNone then .ready else .done) jump))).heap[w.heap.size]? = some (.deferred (some [])) ∧
          KeepP Bs W1.heap.size k W (W3.putObj (w.heap.size + 1) (.loop (rec (if jump.isNone then .ready else .done) jump))) := fun jump W3 hk3 => by
        have hl3 := (hk3.same (w.heap.size + 1) (.inr ⟨by omega, by omega⟩)).trans hl2
        have hd3 := (hk3.same w.heap.size (.inr ⟨by omega, by omega⟩)).trans hk2
        have := run_endRound (P := P) jump hl3
        rw [hrec] at this ⊢
        exact ⟨this, World.putObj_heap_same (Array.getElem?_eq_some_iff.1 hl3).1, (World.putObj_heap_other (by omega)).trans hd3,
          (hkp hW2).trans ((hk3.less (fun b hb => .inl hb) (by omega) (by omega)).trans (hkp rfl))⟩
      rintro e a3 W3 hp
      cases e with
      | normal =>
        obtain ⟨hr, hl4, hk4, hkk⟩ := fin none W3 hp.1
        exact ⟨_, _, hr, hkk, .inl ⟨rfl, hI.putObj _ hp.2 (by omega) (by omega), hl4, hk4⟩⟩
      | ret =>
        obtain ⟨hr, hl4, hk4, hkk⟩ := fin (some .ret) W3 hp.1
        exact ⟨_, _, hr, hkk, .inr ⟨rfl, .ret, (hIx _).putObj _ hp.2 (by omega) (by omega), hl4, hk4⟩⟩
      | exit id =>
        obtain ⟨hr, hl4, hk4, hkk⟩ := fin (some (.exit id)) W3 hp.1
        exact ⟨_, _, hr, hkk, .inr ⟨rfl, .exit id, (hIx _).putObj _ hp.2 (by omega) (by omega), hl4, hk4⟩⟩
      | goto t =>
        obtain ⟨hr, hl4, hk4, hkk⟩ := fin (some (.goto t)) W3 hp.1
        exact ⟨_, _, hr, hkk, .inr ⟨rfl, .goto t, (hIx _).putObj _ hp.2 (by omega) (by omega), hl4, hk4⟩⟩
      | panic ch => exact hp.elim
      | outgrown => exact hp.elim
    · rintro e W2 ⟨⟨v, rfl⟩, (⟨hi, hl, hk⟩ | ⟨pre, hSp, c, hi, hl, hk⟩)⟩
      · exact ⟨none, _, by have := run_endLoop (P := P) hl (by rw [hrec]; simp [rec_]); rw [hrec] at this; exact this, hdone _ (hI.putObj _ hi (by omega) (by omega)) ((World.putObj_heap_other (by omega)).trans hk)⟩
      · exact ⟨some c, _, by have := run_endLoop (P := P) hl (by rw [hrec]; simp [rec_]); rw [hrec] at this; exact this, hstop c pre _ hSp ((hIx c).putObj _ hi (by omega) (by omega)) ((World.putObj_heap_other (by omega)).trans hk)⟩

end Go.Proofs.YtppnahgiekjbnaaDoor

/-! The way of a tree: the program's iterator. -/
namespace Go.Proofs.YtppnahgiekjbnaaDoor
open Go.RowKit Go.Shelf

attribute [local go_sem] Oper.semAt_some

/-- The questions with their answers. -/
def wayQ (T : List Int) (h k : Nat) : List (Nat × Nat) := (List.range k).map fun i => (qsA T h i, ansA T h i)
theorem wayQ_succ (T : List Int) (h k : Nat) : wayQ T h (k + 1) = wayQ T h k ++ [(qsA T h k, ansA T h k)] := by unfold wayQ; rw [List.range_succ, List.map_append]; rfl
theorem wayQ_prefix (T : List Int) (h : Nat) {k n : Nat} (hk : k ≤ n) : wayQ T h k <+: wayQ T h n := by
  have e : wayQ T h k = (wayQ T h n).take k := by unfold wayQ; rw [← List.map_take, List.take_range, Nat.min_eq_left hk]
  rw [e]
  exact List.take_prefix _ _

set_option maxHeartbeats 1000000 in
/-- way: its receiver and its argument are boxed; the function value captures the boxes. -/
theorem way_in (N : Nat) (A : Array Value) (x : Int) (w : World) :
    CallsIn Fence.wide N Tryd.prog 61 #[.agg A, .int .i64 x] w fun e w' => e = .returned (.func (.func 91) #[] #[.pointer (some ⟨w.heap.size, 0, none⟩), .pointer (some ⟨w.heap.size + 1, 0, none⟩)]) ∧ w' = (w.alloc (.cells A 54)).alloc (.cells #[.int .i64 x] 2) := by
  refine callsIn_of_wp Tryd.func61 rfl trivial ?_ rfl
  simp only [Tryd.ntmps61, List.size_toArray, List.length_cons, List.length_nil, Nat.reduceAdd, Nat.reduceSub, Array.replicate_succ, Array.replicate_zero, List.push_toArray, List.append_toArray, List.nil_append, List.cons_append]
  gi_wp2
  go_ret
  exact ⟨rfl, rfl⟩

set_option maxRecDepth 100000 in
set_option maxHeartbeats 4000000 in
/-- Its iterator. -/
theorem way_P (N : Nat) (hN : 2 ≤ N) (n h B0 B1 : Nat) (T : List Int) (w : World) (hB0 : B0 < w.heap.size) (hB1 : B1 < w.heap.size) (hc0 : w.heap[B0]? = some (.cells (tcells (n : Int) (padL T)).toArray 54 (0, 0))) (hc1 : w.heap[B1]? = some (.cells #[.int .i64 (h : Int)] 2 (0, 0)))
    (hT : IsT n T) (h1 : 1 ≤ n) (h6 : n ≤ 6) (hh : h < 64) :
    SeqStopsP Fence.wide N Tryd.prog 91 #[.pointer (some ⟨B0, 0, none⟩), .pointer (some ⟨B1, 0, none⟩)] (fun x : Nat × Nat => #[Value.int .i64 (x.1 : Int), .int .i64 (x.2 : Int)]) [B0, B1] 0 (wayQ T h n) w := by
  intro l J Jx W hW hJ hJx hY h0
  have hd0 := (hW.block B0 hB0).trans hc0
  have hd1 := (hW.block B1 hB1).trans hc1
  have hTl : T.length ≤ 63 := by have := pow_le64 h6; have := hT.len; omega
  have hav : allV (n : Int) = (T.length : Int) := by
    rw [hT.len]
    have : n = 1 ∨ n = 2 ∨ n = 3 ∨ n = 4 ∨ n = 5 ∨ n = 6 := by omega
    rcases this with rfl | rfl | rfl | rfl | rfl | rfl <;> rfl
  have HAv := hid (fun W => av_any (n : Int) W (by omega) (by omega))
  rw [hav] at HAv
  have hN1 : 1 ≤ N := by omega
  have HT := hid hT
  have HY := hid hY
  have HJ := hid hJ
  have Hd0 := hid hd0
  have Hd1 := hid hd1
  have HP : Hid (∀ k, k ≤ n → wayQ T h k <+: wayQ T h n) := hid (fun k hk => wayQ_prefix T h hk)
  clear hW hY hc0 hc1 hd0 hd1 hT hav hJ
  show CallsIn Fence.wide N Tryd.prog 91 #[.func (.yield l) #[] #[], .pointer (some ⟨B0, 0, none⟩), .pointer (some ⟨B1, 0, none⟩)] W _
  refine callsIn_of_wp Tryd.func91 rfl trivial ?_ rfl
  simp only [Tryd.ntmps91, List.size_toArray, List.length_cons, List.length_nil, Nat.reduceAdd, Nat.reduceSub, Array.replicate_succ, Array.replicate_zero, List.push_toArray, List.append_toArray, List.nil_append, List.cons_append]
  gi_wp2
  gi_loopw [4] (fun pv wr => ∃ (k p : Nat), Hid (k ≤ n ∧ p + 1 = plA T h k) ∧ pv = .int .i64 ((p : Int) + 1) ∧ Hid (W.heap.size ≤ wr.heap.size ∧ J (wayQ T h k) wr ∧ wr.heap[B0]? = some (.cells (tcells (n : Int) (padL T)).toArray 54 (0, 0)) ∧ wr.heap[B1]? = some (.cells #[.int .i64 (h : Int)] 2 (0, 0))))
    (fun pv _ => 64 - (intOf pv).toNat)
  case atStart => exact ⟨0, 0, hid ⟨Nat.zero_le _, rfl⟩, rfl, hid ⟨Nat.le_refl _, h0, Hd0.out, Hd1.out⟩⟩
  case round =>
    obtain ⟨k, p, HK, rfl, HW⟩ := hrel
    obtain ⟨hk, hp⟩ := HK.out
    obtain ⟨t0, tc⟩ := tree_cells HW.out.2.2.1
    have c1 := (box_cell HW.out.2.2.2).1
    by_cases hlt : k < n
    · obtain ⟨g1, g2, g3, g4⟩ := way_ok HT.out h hlt
      obtain ⟨q, hq⟩ : ∃ q, q = qsA T h k := ⟨_, rfl⟩
      obtain ⟨bt, hbt⟩ : ∃ bt, bt = ansA T h k := ⟨_, rfl⟩
      have hb2 := ansA_lt T h k
      have hcp := tc (p + 1) (by rw [padL_len hTl]; omega)
      rw [hp, padL_at g1 g2, g3, ← hq, ← hp] at hcp
      have hd : decide ((p : Int) + 1 ≤ (T.length : Int)) = true := decide_eq_true (by omega)
      have HN : Hid (k + 1 ≤ n ∧ (2 * p + 1 + bt) + 1 = plA T h (k + 1)) := hid ⟨hlt, by rw [plA_succ, ← hp, hbt]; omega⟩
      have HQ : Hid (wayQ T h (k + 1) = wayQ T h k ++ [(q, bt)]) := hid (by rw [wayQ_succ, hq, hbt])
      have hq6 : q < 6 := by omega
      have hq0 : (0 : Int) ≤ (q : Int) := by omega
      have hi0 : (0 : Int) ≤ (p : Int) + 1 := by omega
      have hi1 : (p : Int) + 1 < 64 := by omega
      have hbt2 : bt < 2 := by omega
      have Hm : Hid (p + 1 < 2 * p + 1 + bt + 1 ∧ p + 1 < 64) := hid (by omega)
      have HYk : Hid (∀ W1, W.heap.size ≤ W1.heap.size → J (wayQ T h k) W1 → YieldAt Fence.wide (N - 1) Tryd.prog l #[.int .i64 (q : Int), .int .i64 (bt : Int)] W1 fun e W' => KeepP [B0, B1] W.heap.size 0 W1 W' ∧ ((e = .returned (.bool true) ∧ J (wayQ T h (k + 1)) W') ∨ (e = .returned (.bool false) ∧ Jx (wayQ T h (k + 1)) W'))) := hid (fun W1 hs hj => by
        have := HY.out (wayQ T h k) (q, bt) W1 (by rw [← HQ.out]; exact HP.out _ hlt) (by omega) hj
        rw [← HQ.out] at this
        exact this)
      have Hs2 : Hid (bits BinOp.and IntKind.i64 ((h : Int) / 2 ^ q) 1 = (bt : Int)) := hid (by rw [shr_int h q hh hq6, hbt]; unfold ansA; rw [← hq])
      clear HK hk hp g1 g2 g3 g4 hq hbt hb2 tc
      have hs2 := Hs2.out
      obtain ⟨fn, tmps, assign, body, hy, hR⟩ := HYk.out wr HW.out.1 HW.out.2.1
      gi_wp2_with (first
        | (refine ⟨trivial, ?_⟩; gi_at_call 36; refine (callsIn_wide.2 (HAv.out _)).mono ?_; rintro e w' ⟨rfl, rfl⟩))
      clear hs2 Hs2 t0 c1 hcp
      refine hR.mono ?_
      rintro e W3 ⟨hkp, ⟨rfl, hJ3⟩ | ⟨rfl, hJx3⟩⟩
      · have HW3 := hid (show W.heap.size ≤ W3.heap.size ∧ J (wayQ T h (k + 1)) W3 ∧ W3.heap[B0]? = some (.cells (tcells (n : Int) (padL T)).toArray 54 (0, 0)) ∧ W3.heap[B1]? = some (.cells #[.int .i64 (h : Int)] 2 (0, 0)) from ⟨Nat.le_trans HW.out.1 hkp.size, hJ3, (hkp.same B0 (.inl (by simp))).trans HW.out.2.2.1, (hkp.same B1 (.inl (by simp))).trans HW.out.2.2.2⟩)
        clear hkp hJ3 hy hR
        gi_wp2
        go_roundw
        case rel => exact ⟨k + 1, 2 * p + 1 + bt, HN, by congr 1; omega, HW3⟩
        case measure => have := Hm.out; simp [intOf]; omega
      · gi_wp2
        refine bodyPost_ret (results_none rfl _ _ _) rfl ?_
        exact ⟨⟨_, rfl⟩, .inr ⟨_, HP.out _ hlt, hJx3⟩⟩
    · obtain rfl : k = n := by omega
      have hd : decide ((p : Int) + 1 ≤ (T.length : Int)) = false := by
        obtain ⟨l1, _⟩ := plA_in T h k
        have := HT.out.len
        exact decide_eq_false (by omega)
      clear HK hk hp tc
      gi_wp2_with (first
        | (refine ⟨trivial, ?_⟩; gi_at_call 36; refine (callsIn_wide.2 (HAv.out _)).mono ?_; rintro e w' ⟨rfl, rfl⟩))
      go_end0
      exact ⟨⟨_, rfl⟩, .inl HW.out.2.1⟩

end Go.Proofs.YtppnahgiekjbnaaDoor

/-! The model's games: what is told, the table of what is known. -/
namespace Go.Proofs.YtppnahgiekjbnaaDoor
open Go.RowKit

set_option maxRecDepth 100000 in
set_option maxHeartbeats 1000000 in
theorem counts_any (V : Int) (a0 : Option Addr) (cap : Nat) (fs : List Int) (h : Nat) (w : World) (hx : SlI w w.heap.size a0 fs) (hl : fs.length ≤ 1048576) :
    Calls Tryd.prog 86 #[.agg #[.int .i64 V, .slice a0 fs.length cap], .int .i64 (h : Int)] w fun e w' => e = .returned (.bool (cnt fs h)) ∧ Below w.heap.size w w' := by
  obtain ⟨W0, hW0⟩ : ∃ W0, W0 = w.alloc (.cells #[.int .i64 V, .slice a0 fs.length cap] 28) := ⟨_, rfl⟩
  have hB0 : Below w.heap.size w W0 := by rw [hW0]; exact (Below.refl _ w).alloc (Nat.le_refl _) _
  have HB0 := hid hB0
  have HH := hid (has_any V (h : Int) a0 cap fs W0 (hx.later hB0 hB0.size) hl)
  rw [hW0] at HH
  clear hx hB0
  by_cases h0 : h = 0
  · subst h0
    go_enter Tryd.func86, Tryd.ntmps86
    go_wp2_with fail
    go_ret
    rw [← hW0]
    exact ⟨rfl, HB0.out⟩
  · have hd : ((h : Int) == 0) = false := by simpa using h0
    have Hc : Hid (cnt fs h = decide ((h : Int) ∈ fs)) := hid (by unfold cnt; simp [h0])
    clear h0
    go_enter Tryd.func86, Tryd.ntmps86
    go_wp2_with fail
    refine HH.out.mono ?_
    rintro e w1 ⟨rfl, hB1⟩
    rw [← hW0] at hB1
    have HB1 := hid (HB0.out.trans (hB1.mono HB0.out.size))
    clear hB1
    go_wp2_with fail
    go_ret
    exact ⟨ret_bool Hc.out.symm, HB1.out⟩

/-- What the model is told: 1: all count, 0: none does. -/
def toldI (fs : List Int) (V a o : Nat) : Int := if allC fs V a o then 1 else if noneC fs V a o then 0 else -1
theorem toldI_neg {fs : List Int} {V a o : Nat} : decide (toldI fs V a o < 0) = !toldB fs V a o := by
  unfold toldI toldB
  cases allC fs V a o <;> cases noneC fs V a o <;> rfl
def someTo (fs : List Int) (V a o k : Nat) : Bool := (List.range k).any fun h => inS V a o h && cnt fs h
def allTo (fs : List Int) (V a o k : Nat) : Bool := (List.range k).all fun h => !inS V a o h || cnt fs h
theorem someTo_succ (fs : List Int) (V a o k : Nat) : someTo fs V a o (k + 1) = (someTo fs V a o k || (inS V a o k && cnt fs k)) := by unfold someTo; rw [List.range_succ, List.any_append]; simp
theorem allTo_succ (fs : List Int) (V a o k : Nat) : allTo fs V a o (k + 1) = (allTo fs V a o k && (!inS V a o k || cnt fs k)) := by unfold allTo; rw [List.range_succ, List.all_append]; simp
theorem allTo_full {fs : List Int} {V a o : Nat} (hV : V ≤ 6) : allTo fs V a o (2 ^ V) = allC fs V a o := by
  rw [Bool.eq_iff_iff, allC_iff hV]
  unfold allTo
  rw [List.all_eq_true]
  constructor
  · intro H h hi
    have := H h (by simpa using (inS_iff.1 hi).1)
    simpa [hi] using this
  · intro H h _
    cases e : inS V a o h
    · simp
    · simp [H h e]
theorem someTo_full {fs : List Int} {V a o : Nat} (hV : V ≤ 6) : someTo fs V a o (2 ^ V) = !noneC fs V a o := by
  have h1 : noneC fs V a o = !someTo fs V a o (2 ^ V) := by
    rw [Bool.eq_iff_iff, noneC_iff hV]
    unfold someTo
    rw [Bool.not_eq_true', List.any_eq_false]
    constructor
    · intro H h _
      cases e : inS V a o h
      · simp
      · simp [H h e]
    · intro H h hi
      have := H h (by simpa using (inS_iff.1 hi).1)
      simpa [hi] using this
  rw [h1, Bool.not_not]

set_option maxRecDepth 100000 in
set_option maxHeartbeats 2000000 in
theorem toldS_any (V : Nat) (a0 : Option Addr) (cap : Nat) (fs : List Int) (a o : Nat) (w : World) (hx : SlI w w.heap.size a0 fs) (hl : fs.length ≤ 1048576) (h6 : V ≤ 6) (ha : a < 64) (ho : o < 64) :
    Calls Tryd.prog 57 #[.agg #[.int .i64 (V : Int), .slice a0 fs.length cap], .int .i64 (a : Int), .int .i64 (o : Int)] w fun e w' => e = .returned (.int .i64 (toldI fs V a o)) ∧ Below w.heap.size w w' := by
  obtain ⟨W0, hW0⟩ : ∃ W0, W0 = w.alloc (.cells #[.int .i64 (V : Int), .slice a0 fs.length cap] 28) := ⟨_, rfl⟩
  have hB0 : Below w.heap.size w W0 := by rw [hW0]; exact (Below.refl _ w).alloc (Nat.le_refl _) _
  have Hk : Hid (W0.heap[w.heap.size]? = some (.cells #[.int .i64 (V : Int), .slice a0 fs.length cap] 28 (0, 0))) := hid (by rw [hW0]; exact heap_alloc_new _ _)
  have HB0 := hid hB0
  have HC := hid (fun W (h : Below w.heap.size w W) x => counts_any (V : Int) a0 cap fs x W (hx.later h h.size) hl)
  have hP64 : 2 ^ V ≤ 64 := show 2 ^ V ≤ 2 ^ 6 from Nat.pow_le_pow_right (by decide) h6
  have hsh : wrap64 (2 ^ V) = ((2 ^ V : Nat) : Int) := by
    rw [wrap64, show ((2 : Int) ^ V) = ((2 ^ V : Nat) : Int) by simp]
    generalize 2 ^ V = z at hP64
    omega
  have HA := hid (allTo_full (fs := fs) (V := V) (a := a) (o := o) h6)
  have HN := hid (someTo_full (fs := fs) (V := V) (a := a) (o := o) h6)
  have HR : Hid (toldI fs V a o = if allC fs V a o then 1 else if noneC fs V a o then 0 else -1) := hid rfl
  obtain ⟨R, hR⟩ : ∃ R, R = toldI fs V a o := ⟨_, rfl⟩
  rw [← hR] at HR ⊢
  clear hR
  obtain ⟨P, hP⟩ : ∃ P, P = 2 ^ V := ⟨_, rfl⟩
  have Hi : Hid (∀ h, h < P → inS V a o h = ((h &&& a == a) && (h &&& o == 0))) := hid (fun h hh => by unfold inS; rw [decide_eq_true (by rw [← hP]; exact hh), Bool.true_and])
  rw [← hP] at hsh hP64 HA HN
  have hV0 : (0 : Int) ≤ (V : Int) := by omega
  clear hx hB0 hP
  go_enter Tryd.func57, Tryd.ntmps57
  go_wp2_with fail
  rw [← hW0]
  clear hW0
  go_loopw [7, 8, 9] (fun sv av iv wx => ∃ k : Nat, k ≤ P ∧ sv = .bool (someTo fs V a o k) ∧ av = .bool (allTo fs V a o k) ∧ iv = .int .i64 (k : Int) ∧ Hid (Below w.heap.size w wx) ∧ Hid (wx.heap[w.heap.size]? = some (.cells #[.int .i64 (V : Int), .slice a0 fs.length cap] 28 (0, 0)))) (fun _ _ iv _ => P - (RowKit.intOf iv).toNat)
  case atStart => exact ⟨0, Nat.zero_le _, rfl, rfl, rfl, HB0, Hk⟩
  case round =>
    clear HB0 Hk
    obtain ⟨k, hk, rfl, rfl, rfl, HB, Hk⟩ := hrel
    obtain ⟨k0, k1, _, _⟩ := two_of Hk.out
    by_cases hlt : k < P
    · have hj1 : (k : Int) < (P : Int) := by omega
      have hin := Hi.out k hlt
      have e1 := and_int6 (show k < 64 by omega) ha
      have e2 := and_int6 (show k < 64 by omega) ho
      have HS1 := hid (someTo_succ fs V a o k)
      have HS2 := hid (allTo_succ fs V a o k)
      obtain ⟨s, hs⟩ : ∃ s, s = someTo fs V a o k := ⟨_, rfl⟩
      obtain ⟨t, ht⟩ : ∃ t, t = allTo fs V a o k := ⟨_, rfl⟩
      rw [← hs] at HS1 ⊢
      rw [← ht] at HS2 ⊢
      rw [hin] at HS1 HS2
      clear hin hs ht
      obtain ⟨x1, hx1⟩ : ∃ x, x = k &&& a := ⟨_, rfl⟩
      obtain ⟨x2, hx2⟩ : ∃ x, x = k &&& o := ⟨_, rfl⟩
      rw [← hx1] at e1 HS1 HS2
      rw [← hx2] at e2 HS1 HS2
      clear hx1 hx2
      by_cases h1 : x1 = a
      · have hd1 : ((x1 : Int) != (a : Int)) = false := by simp [h1]
        by_cases h2 : x2 = 0
        · subst h2
          have Hn1 : Hid (someTo fs V a o (k + 1) = (s || cnt fs k)) := hid (by rw [HS1.out, h1]; simp)
          have Hn2 : Hid (allTo fs V a o (k + 1) = (t && cnt fs k)) := hid (by rw [HS2.out, h1]; simp)
          have HCk := hid (HC.out wr HB.out k)
          obtain ⟨c, hc⟩ : ∃ c, c = cnt fs k := ⟨_, rfl⟩
          rw [← hc] at Hn1 Hn2 HCk
          clear h1 hc HS1 HS2
          go_wp2_with fail
          refine HCk.out.mono ?_
          rintro e w2 ⟨rfl, hB2⟩
          have HB2 := hid (HB.out.trans (hB2.mono HB.out.size))
          have Hk2 := hid ((hB2.block _ (lt_get Hk.out)).trans Hk.out)
          clear hB2 k0 k1
          cases c
          · go_wp2_with fail
            go_roundw
            case rel => exact ⟨k + 1, by omega, by rw [Hn1.out, Bool.or_false], by rw [Hn2.out, Bool.and_false], by go_num, HB2, Hk2⟩
            case measure => simp [RowKit.intOf]; omega
          · go_wp2_with fail
            go_roundw
            case rel => exact ⟨k + 1, by omega, by rw [Hn1.out, Bool.or_true], by rw [Hn2.out, Bool.and_true], by go_num, HB2, Hk2⟩
            case measure => simp [RowKit.intOf]; omega
        · have hd2 : ((x2 : Int) != 0) = true := by simpa using h2
          have Hn1 : Hid (someTo fs V a o (k + 1) = s) := hid (by rw [HS1.out]; simp [h2])
          have Hn2 : Hid (allTo fs V a o (k + 1) = t) := hid (by rw [HS2.out]; simp [h2])
          clear h1 h2 HS1 HS2
          go_wp2_with fail
          go_roundw
          case rel => exact ⟨k + 1, by omega, by rw [Hn1.out], by rw [Hn2.out], by go_num, HB, Hk⟩
          case measure => simp [RowKit.intOf]; omega
      · have hd1 : ((x1 : Int) != (a : Int)) = true := by simp; omega
        have Hn1 : Hid (someTo fs V a o (k + 1) = s) := hid (by rw [HS1.out]; simp [h1])
        have Hn2 : Hid (allTo fs V a o (k + 1) = t) := hid (by rw [HS2.out]; simp [h1])
        clear h1 HS1 HS2
        go_wp2_with fail
        go_roundw
        case rel => exact ⟨k + 1, by omega, by rw [Hn1.out], by rw [Hn2.out], by go_num, HB, Hk⟩
        case measure => simp [RowKit.intOf]; omega
    · obtain rfl : k = P := by omega
      rw [HA.out, HN.out]
      cases h1 : allC fs V a o
      · rw [h1] at HR
        cases h2 : noneC fs V a o
        · rw [h2] at HR
          clear h1 h2
          go_wp2_with fail
          go_ret
          exact ⟨ret_int HR.out.symm, HB.out⟩
        · rw [h2] at HR
          clear h1 h2
          go_wp2_with fail
          go_ret
          exact ⟨ret_int HR.out.symm, HB.out⟩
      · rw [h1] at HR
        clear h1
        go_wp2_with fail
        go_ret
        exact ⟨ret_int HR.out.symm, HB.out⟩


/-- The table, laid with -1 up to place k. -/
def laidT (k : Nat) : List Int := List.replicate k (-1) ++ List.replicate (4096 - k) 0
theorem laidT_len {k : Nat} (h : k ≤ 4096) : (laidT k).length = 4096 := by unfold laidT; simp; omega
theorem laidT_set {k : Nat} (h : k < 4096) : ((laidT k).map (Value.int .i64)).set k (.int .i64 (-1)) = (laidT (k + 1)).map (Value.int .i64) := by
  rw [← List.map_set]
  congr 1
  unfold laidT
  rw [show 4096 - k = (4096 - (k + 1)) + 1 by omega, List.replicate_succ, List.set_append_right _ _ (by simp)]
  simp
  rw [List.replicate_succ', List.append_assoc]
  rfl


end Go.Proofs.YtppnahgiekjbnaaDoor

/-! The way that a tree asks for a hidden set, and the questions needed: the model's. -/
namespace Go.Proofs.YtppnahgiekjbnaaDoor
open Go.RowKit

theorem wrap_next (p bt : Nat) (h : p < 64) (hb : bt < 2) : wrap64 (2 * ((p : Int) + 1) + (bt : Int)) = ((2 * p + 1 + bt : Nat) : Int) + 1 := by rw [wrap64]; omega

set_option maxRecDepth 100000 in
set_option maxHeartbeats 2000000 in
theorem wayS_any (n h : Nat) (a : Option Addr) (cap : Nat) (T : List Int) (w : World) (hx : SlI w w.heap.size a T) (hT : IsT n T) (h1 : 1 ≤ n) (h6 : n ≤ 6) (hh : h < 64) :
    Calls Tryd.prog 32 #[.int .i64 (n : Int), .slice a T.length cap, .int .i64 (h : Int)] w fun e w' => ∃ v, e = .returned v ∧ Res w w' v (wayL T h n) := by
  have hTl : T.length ≤ 63 := by have := pow_le64 h6; have := hT.len; omega
  obtain ⟨b, off, hb, rfl, hc⟩ : ∃ b off, b < w.heap.size ∧ a = some ⟨b, off, none⟩ ∧ ∀ i, i < T.length → w.cell? ⟨b, off + i, none⟩ = some (.int .i64 (T[i]?.getD 0)) := by
    rcases hx with h | h
    · have h2 : 2 ^ 1 ≤ 2 ^ n := Nat.pow_le_pow_right (by decide) h1
      have := hT.len
      rw [h] at this
      simp at this
      omega
    · exact h
  have Hc := hid hc
  have HT := hid hT
  have hown0 := World.ownsRow_made (base := w.heap.size) (e := 2) (size := 1) w #[] 0 (by simp) (by simp [maxLen]) rfl
  have Hown0 := hid hown0
  clear hc hx hT hown0
  go_enter Tryd.func32, Tryd.ntmps32
  go_wp2_with fail
  go_loopw [7, 8] (fun ov pv wx => ∃ (k : Nat) (av : Option Addr) (cv : Nat) (xs : List Int) (p : Nat), Hid (k ≤ n ∧ xs = wayL T h k ∧ p + 1 = plA T h k) ∧ ov = .slice av xs.length cv ∧ pv = .int .i64 ((p : Int) + 1) ∧ Hid (wx.ownsRow w.heap.size 2 1 (.slice av xs.length cv) xs.length (xs.map (Value.int .i64))) ∧ Hid (Below w.heap.size w wx)) (fun _ pv _ => 64 - (intOf pv).toNat)
  case atStart => exact ⟨0, _, _, [], 0, hid ⟨Nat.zero_le _, rfl, rfl⟩, rfl, rfl, Hown0, hid ((Below.refl _ w).alloc (Nat.le_refl _) _)⟩
  case round =>
    clear Hown0
    obtain ⟨k, av, cv, xs, p, HK, rfl, rfl, HO, HB⟩ := hrel
    obtain ⟨hk, hxs, hp⟩ := HK.out
    have hxl : xs.length = k := by rw [hxs, wayL_len]
    by_cases hlt : k < n
    · obtain ⟨g1, g2, g3, g4⟩ := way_ok HT.out h hlt
      obtain ⟨q, hq⟩ : ∃ q, q = qsA T h k := ⟨_, rfl⟩
      obtain ⟨bt, hbt⟩ : ∃ bt, bt = ansA T h k := ⟨_, rfl⟩
      have hb2 := ansA_lt T h k
      have hck := (HB.out.cell (p := ⟨b, off + p, none⟩) hb).trans (Hc.out p (by omega))
      have hat : T[p]?.getD 0 = (q : Int) := by rw [hq, ← g3, ← hp]; rfl
      rw [hat] at hck
      have HN : Hid (k + 1 ≤ n ∧ xs ++ [(q : Int)] = wayL T h (k + 1) ∧ (2 * p + 1 + bt) + 1 = plA T h (k + 1)) := hid ⟨hlt, by rw [wayL_succ, ← hxs, g3, hq], by rw [plA_succ, ← hp, hbt]; omega⟩
      have Hm : Hid (p + 1 < 2 * p + 1 + bt + 1 ∧ p + 1 < 64) := hid (by omega)
      have hi0 : (0 : Int) ≤ (p : Int) := by omega
      have hi1 : (p : Int) < (T.length : Int) := by omega
      have hv0 : (0 : Int) ≤ (q : Int) := by omega
      have hv6 : q ≤ 6 := by omega
      have hsz := HB.out.size
      have hq6 : q < 6 := by omega
      have hkn : (xs.length : Int) < (n : Int) := by omega
      have htl : xs.length ≤ 1099511627776 := by omega
      have hnx : p < 2 ^ 20 := by omega
      have hp64 : p < 64 := by omega
      have hbt2 : bt < 2 := by omega
      have Hw3 := hid (wrap_next p bt hp64 hbt2)
      have Hs2 : Hid (bits BinOp.and IntKind.i64 ((h : Int) / 2 ^ q) 1 = (bt : Int)) := hid (by rw [shr_int h q hh hq6, hbt]; unfold ansA; rw [← hq])
      clear HK hk hxs hp hxl g1 g2 g3 g4 hq hbt hb2 hat
      have hs2 := Hs2.out
      go_wp2_with (at_builtin; refine append_int rfl rfl HO.out hsz htl rfl rfl ?_; intro v' w4 hown4 hgrow4 hB4; obtain ⟨_, a4, c4, hv4, _⟩ := ownsRow_slI hown4; subst hv4; have Hown4 := hid hown4; have HB4 := hid (HB.out.trans hB4); clear hown4 hgrow4 hB4; (iterate 30 go_step); clear hs2 Hs2 Hw3)
      go_roundw
      case rel => exact ⟨k + 1, a4, c4, xs ++ [(q : Int)], 2 * p + 1 + bt, HN, by simp, by congr 1; omega, Hown4, HB4⟩
      case measure => have := Hm.out; simp [intOf]; omega
    · obtain rfl : k = n := by omega
      have hkn : ¬ ((xs.length : Int) < (k : Int)) := by omega
      clear hp hxl HK
      have HX := hid hxs
      clear hxs
      go_wp2_with fail
      go_ret
      rw [← HX.out]
      exact ⟨_, rfl, HO.out, HB.out⟩

theorem shl_two (q : Nat) (h : q < 6) : wrap64 (2 ^ q) = ((2 ^ q : Nat) : Int) := by
  have : q = 0 ∨ q = 1 ∨ q = 2 ∨ q = 3 ∨ q = 4 ∨ q = 5 := by omega
  rcases this with rfl | rfl | rfl | rfl | rfl | rfl <;> (rw [wrap64]; first | rfl | decide | omega)

set_option maxRecDepth 100000 in
set_option maxHeartbeats 4000000 in
theorem neededS_any (V h : Nat) (a0 : Option Addr) (cap : Nat) (fs : List Int) (a : Option Addr) (cap1 : Nat) (T : List Int) (w : World) (hx : SlI w w.heap.size a0 fs) (hl : fs.length ≤ 1048576) (hx1 : SlI w w.heap.size a T) (hT : IsT V T) (h1 : 1 ≤ V) (h6 : V ≤ 6) (hh : h < 64) :
    Calls Tryd.prog 34 #[.agg #[.int .i64 (V : Int), .slice a0 fs.length cap], .slice a T.length cap1, .int .i64 (h : Int)] w fun e w' => e = .returned (.int .i64 (neededN fs V T h : Int)) ∧ Below w.heap.size w w' := by
  obtain ⟨W0, hW0⟩ : ∃ W0, W0 = w.alloc (.cells #[.int .i64 (V : Int), .slice a0 fs.length cap] 28) := ⟨_, rfl⟩
  have hB0 : Below w.heap.size w W0 := by rw [hW0]; exact (Below.refl _ w).alloc (Nat.le_refl _) _
  have Hk : Hid (W0.heap[w.heap.size]? = some (.cells #[.int .i64 (V : Int), .slice a0 fs.length cap] 28 (0, 0))) := hid (by rw [hW0]; exact heap_alloc_new _ _)
  have HB0 := hid hB0
  have HWy := hid (wayS_any V h a cap1 T W0 (hx1.later hB0 hB0.size) hT h1 h6 hh)
  have HTo := hid (fun W (hb : Below w.heap.size w W) x y h2 h3 => toldS_any V a0 cap fs x y W (hx.later hb hb.size) hl h6 h2 h3)
  have HAs := hid (fun k hk => asA_lt hT h6 h k hk)
  have HOk := hid (fun k (hk : k < V) => way_ok hT h hk)
  rw [hW0] at HWy
  obtain ⟨k0, k1, _, _⟩ := two_of Hk.out
  rw [hW0] at k0
  clear hx hx1 hT hB0 k1
  go_enter Tryd.func34, Tryd.ntmps34
  go_wp2_with fail
  refine HWy.out.mono ?_
  rintro e w1 ⟨_, rfl, hr1⟩
  rw [← hW0] at hr1
  obtain ⟨_, av, cv, rfl, hs1⟩ := ownsRow_slI hr1.1
  have hB1 := HB0.out.trans (hr1.2.mono HB0.out.size)
  have Hk1 := hid ((hr1.2.block _ (lt_get Hk.out)).trans Hk.out)
  have HB1 := hid hB1
  have HS1 := hid hs1
  obtain ⟨xs, hxs⟩ : ∃ xs, xs = wayL T h V := ⟨_, rfl⟩
  have hxl : xs.length = V := by rw [hxs, wayL_len]
  have Hxs := hid hxs
  have Hxl := hid hxl
  rw [← hxs] at HS1 ⊢
  clear hr1 hs1 hB1 hxs HWy HB0 Hk k0 hW0 hxl
  go_wp2_with fail
  go_loopw [8, 9, 10] (fun av' ov iv wr => ∃ k : Nat, Hid (k ≤ V ∧ ∀ j, j < k → tolA fs V T h j = false) ∧ av' = .int .i64 ((asA T h k).1 : Int) ∧ ov = .int .i64 ((asA T h k).2 : Int) ∧ iv = .int .i64 (k : Int) ∧ Hid (Below w1.heap.size w1 wr)) (fun _ _ iv _ => 7 - (intOf iv).toNat)
  case atStart => exact ⟨0, hid ⟨Nat.zero_le _, fun j hj => absurd hj (by omega)⟩, rfl, rfl, rfl, hid (Below.refl _ _)⟩
  case round =>
    obtain ⟨k, HK, rfl, rfl, rfl, HB⟩ := hrel
    have hk := HK.out.1
    obtain ⟨q0, q1, _, _⟩ := two_of ((HB.out.block _ (lt_get Hk1.out)).trans Hk1.out)
    have hxl := Hxl.out
    by_cases hlt : k < V
    · obtain ⟨a1, a2⟩ := HAs.out k hk
      obtain ⟨x, hx⟩ : ∃ x, x = (asA T h k).1 := ⟨_, rfl⟩
      obtain ⟨y, hy⟩ : ∃ y, y = (asA T h k).2 := ⟨_, rfl⟩
      rw [← hx] at a1
      rw [← hy] at a2
      have HC := hid (HTo.out wr (HB1.out.trans (HB.out.mono HB1.out.size)) x y a1 a2)
      have Htl : Hid (tolA fs V T h k = toldB fs V x y) := hid (by unfold tolA; rw [hx, hy])
      have hkx : (k : Int) < (xs.length : Int) := by omega
      have hk0 : (0 : Int) ≤ (k : Int) := by omega
      rw [← hx, ← hy]
      by_cases htd : toldB fs V x y = true
      · have hge : decide (toldI fs V x y ≥ 0) = true := by
          have := toldI_neg (fs := fs) (V := V) (a := x) (o := y)
          rw [htd] at this
          have h3 := of_decide_eq_false this
          exact decide_eq_true (by omega)
        have HR := hid (needed_some hlt HK.out.2 (Htl.out.trans htd))
        obtain ⟨t, ht⟩ : ∃ t, t = toldI fs V x y := ⟨_, rfl⟩
        rw [← ht] at HC hge
        clear ht hx hy htd Htl hxl
        go_wp2_with fail
        refine HC.out.mono ?_
        rintro e w2 ⟨rfl, hb2⟩
        have HB2 := hid (HB1.out.trans ((HB.out.trans (hb2.mono HB.out.size)).mono HB1.out.size))
        clear hb2
        go_wp2_with fail
        go_ret
        exact ⟨ret_int (by rw [HR.out]), HB2.out⟩
      · have hge : decide (toldI fs V x y ≥ 0) = false := by
          have := toldI_neg (fs := fs) (V := V) (a := x) (o := y)
          rw [show toldB fs V x y = false by simpa using htd] at this
          have h3 := of_decide_eq_true this
          exact decide_eq_false (by omega)
        have hfl : tolA fs V T h k = false := by rw [Htl.out]; simpa using htd
        obtain ⟨g1, g2, g3, g4⟩ := HOk.out k hlt
        obtain ⟨q, hq⟩ : ∃ q, q = qsA T h k := ⟨_, rfl⟩
        rw [← hq] at g3 g4
        have hck0 : xs[k]?.getD 0 = (q : Int) := by rw [Hxs.out, wayL_at T h hlt]; exact g3
        have HN : Hid (k + 1 ≤ V ∧ ∀ j, j < k + 1 → tolA fs V T h j = false) := hid ⟨hlt, fun j hj => by
          by_cases e : j = k
          · subst e; exact hfl
          · exact HK.out.2 j (by omega)⟩
        obtain ⟨t, ht⟩ : ∃ t, t = toldI fs V x y := ⟨_, rfl⟩
        rw [← ht] at HC hge
        have hq6 : q < 6 := by omega
        have hq0 : (0 : Int) ≤ (q : Int) := by omega
        obtain ⟨Q, hQ⟩ : ∃ Q, Q = 2 ^ q := ⟨_, rfl⟩
        have hQ64 : Q < 64 := by rw [hQ]; exact Nat.pow_lt_pow_right (a := 2) (by decide) hq6
        have hQi : wrap64 (2 ^ q) = (Q : Int) := by rw [hQ]; exact shl_two q hq6
        have e1 : bits BinOp.and IntKind.i64 (h : Int) (Q : Int) = ((h &&& Q : Nat) : Int) := (bits_nat .i64 6 (by decide) (fun n h0 h1 => by rw [IntKind.wrap_i64]; omega) h Q (by omega) (by omega)).1
        have e2 : bits BinOp.or IntKind.i64 (x : Int) (Q : Int) = ((x ||| Q : Nat) : Int) := (bits_nat .i64 6 (by decide) (fun n h0 h1 => by rw [IntKind.wrap_i64]; omega) x Q (by omega) (by omega)).2
        have e3 : bits BinOp.or IntKind.i64 (y : Int) (Q : Int) = ((y ||| Q : Nat) : Int) := (bits_nat .i64 6 (by decide) (fun n h0 h1 => by rw [IntKind.wrap_i64]; omega) y Q (by omega) (by omega)).2
        have hbit := and_two ⟨h, hh⟩ ⟨q, hq6⟩
        simp only at hbit
        rw [← hQ] at hbit
        have Hst : Hid (asA T h (k + 1) = if (h >>> q) % 2 = 1 then (x ||| Q, y) else (x, y ||| Q)) := hid (by rw [hx, hy, hQ, hq]; rfl)
        obtain ⟨z, hz⟩ : ∃ z, z = h &&& Q := ⟨_, rfl⟩
        rw [← hz] at e1 hbit
        obtain ⟨b, off, hbl, rfl, hc⟩ : ∃ b off, b < w1.heap.size ∧ av = some ⟨b, off, none⟩ ∧ ∀ i, i < xs.length → w1.cell? ⟨b, off + i, none⟩ = some (.int .i64 (xs[i]?.getD 0)) := by
          rcases HS1.out with h | h
          · rw [h] at hxl; simp at hxl; omega
          · exact h
        have hcw := hc k (by omega)
        rw [hck0] at hcw
        have hv6 : q ≤ 6 := by omega
        have hk7 : k < 7 := by omega
        by_cases hb : (h >>> q) % 2 = 1
        · have hd : (((z : Nat) : Int) != 0) = true := by
            have h1 : (z != 0) = true := by rw [hbit, hb]; rfl
            simpa using h1
          have hst := Hst.out
          rw [if_pos hb] at hst
          have HE : Hid (((x ||| Q : Nat) : Int) = ((asA T h (k + 1)).1 : Int) ∧ (y : Int) = ((asA T h (k + 1)).2 : Int)) := hid (by rw [hst]; exact ⟨rfl, rfl⟩)
          obtain ⟨u, hu⟩ : ∃ u, u = x ||| Q := ⟨_, rfl⟩
          rw [← hu] at e2 HE
          clear ht hx hy htd Htl hxl hfl g1 g2 g3 g4 hq hck0 hQ hz hbit hb hst hc Hst hu e3
          go_wp2_with fail
          refine HC.out.mono ?_
          rintro e w2 ⟨rfl, hb2⟩
          have HB2 := hid (HB.out.trans (hb2.mono HB.out.size))
          have hc2 := (HB2.out.cell (p := ⟨b, off + k, none⟩) hbl).trans hcw
          clear hb2 q0 q1
          go_wp2_with fail
          go_roundw
          case rel => exact ⟨k + 1, HN, by rw [HE.out.1], by rw [HE.out.2], by go_num, HB2⟩
          case measure => simp [intOf]; omega
        · have hd : (((z : Nat) : Int) != 0) = false := by
            have h1 : (z != 0) = false := by rw [hbit]; simpa using hb
            simpa using h1
          have hst := Hst.out
          rw [if_neg hb] at hst
          have HE : Hid ((x : Int) = ((asA T h (k + 1)).1 : Int) ∧ ((y ||| Q : Nat) : Int) = ((asA T h (k + 1)).2 : Int)) := hid (by rw [hst]; exact ⟨rfl, rfl⟩)
          obtain ⟨u, hu⟩ : ∃ u, u = y ||| Q := ⟨_, rfl⟩
          rw [← hu] at e3 HE
          clear ht hx hy htd Htl hxl hfl g1 g2 g3 g4 hq hck0 hQ hz hbit hb hst hc Hst hu e2
          go_wp2_with fail
          refine HC.out.mono ?_
          rintro e w2 ⟨rfl, hb2⟩
          have HB2 := hid (HB.out.trans (hb2.mono HB.out.size))
          have hc2 := (HB2.out.cell (p := ⟨b, off + k, none⟩) hbl).trans hcw
          clear hb2 q0 q1
          go_wp2_with fail
          go_roundw
          case rel => exact ⟨k + 1, HN, by rw [HE.out.1], by rw [HE.out.2], by go_num, HB2⟩
          case measure => simp [intOf]; omega
    · obtain rfl : k = V := by omega
      have HR := hid (needed_none HK.out.2)
      have hkx : ¬ ((k : Int) < (xs.length : Int)) := by omega
      clear hxl
      go_wp2_with fail
      go_ret
      exact ⟨ret_int (by rw [HR.out]), HB1.out.trans (HB.out.mono HB1.out.size)⟩

end Go.Proofs.YtppnahgiekjbnaaDoor

/-! The program's games: what is told, what is left behind an answer. -/
namespace Go.Proofs.YtppnahgiekjbnaaDoor
open Go.RowKit Go.Sort

/-- The table of the hidden sets that have a number. -/
def HidW (w : World) : Prop := ∀ i, i < 6 → w.cell? ⟨0, i, none⟩ = some (.int .u64 (wN i : Int))
theorem below_dn' (w : World) (n : Nat) : Below w.heap.size w (w.drewN n) := ⟨rfl, rfl, rfl, Nat.le_refl _, fun _ _ => rfl⟩
theorem HidW.lt {w : World} (h : HidW w) : 0 < w.heap.size := World.block_lt_of_cell? w _ (h 0 (by decide))
theorem HidW.later {w W : World} {B : Nat} (h : HidW w) (hB : Below B w W) (hb : w.heap.size ≤ B) : HidW W := fun i hi => (hB.cell (p := ⟨0, i, none⟩) (Nat.lt_of_lt_of_le h.lt hb)).trans (h i hi)

set_option maxRecDepth 100000 in
set_option maxHeartbeats 1000000 in
theorem told_any (V : Int) (C L : Nat) (w : World) (hC : C < 2 ^ 64) (hL : L < 2 ^ 64) :
    Calls Tryd.prog 62 #[.agg #[.int .i64 V, .int .u64 (C : Int)], .int .u64 (L : Int)] w fun e w' => e = .returned (.bool ((L &&& C == 0) || (andN L C == 0))) ∧ Below w.heap.size w w' := by
  have hB : Below w.heap.size w (w.alloc (.cells #[.int .i64 V, .int .u64 (C : Int)] 60)) := (Below.refl _ w).alloc (Nat.le_refl _) _
  have e1 := and_u64 hL hC
  have e2 := andN_u64 hL hC
  have HB := hid hB
  obtain ⟨x, hx⟩ : ∃ x, x = L &&& C := ⟨_, rfl⟩
  obtain ⟨y, hy⟩ : ∃ y, y = andN L C := ⟨_, rfl⟩
  rw [← hx] at e1 ⊢
  rw [← hy] at e2 ⊢
  clear hB hx hy hC hL
  by_cases h0 : x = 0
  · subst h0
    go_enter Tryd.func62, Tryd.ntmps62
    go_wp2_with fail
    go_ret
    exact ⟨rfl, HB.out⟩
  · have hd : ((x : Int) == 0) = false := by simpa using h0
    have Hn : Hid ((x == 0) = false) := hid (by simpa using h0)
    have Hy : Hid (((y : Int) == 0) = (y == 0)) := hid (by rw [Bool.eq_iff_iff]; simp)
    clear h0
    go_enter Tryd.func62, Tryd.ntmps62
    go_wp2_with fail
    go_ret
    exact ⟨ret_bool (by rw [Hn.out, Bool.false_or, ← Hy.out]), HB.out⟩

set_option maxRecDepth 100000 in
set_option maxHeartbeats 1000000 in
theorem split_any (L v : Nat) (w : World) (hL : L < 2 ^ 64) (hv : v < 6) (hW : HidW w) :
    Calls Tryd.prog 63 #[.int .u64 (L : Int), .int .i64 (v : Int)] w fun e w' => e = .returned (.tuple #[.int .u64 (andN L (wN v) : Int), .int .u64 ((L &&& wN v : Nat) : Int)]) ∧ Below w.heap.size w w' := by
  have e1 := and_u64 hL (wN_lt ⟨v, hv⟩)
  have e2 := andN_u64 hL (wN_lt ⟨v, hv⟩)
  simp only at e1 e2
  have c0 := hW v hv
  obtain ⟨x, hx⟩ : ∃ x, x = wN v := ⟨_, rfl⟩
  rw [← hx] at e1 e2 c0 ⊢
  have hi0 : (0 : Int) ≤ (v : Int) := by omega
  have hi1 : (v : Int) < 6 := by omega
  clear hx hW hL
  go_enter Tryd.func63, Tryd.ntmps63
  go_wp2_with fail
  go_quiet (fail)
  go_wp2_with fail
  go_ret2
  exact ⟨rfl, below_dn' w _⟩

end Go.Proofs.YtppnahgiekjbnaaDoor

/-! The program's number of questions that are needed. -/
namespace Go.Proofs.YtppnahgiekjbnaaDoor
open Go.RowKit Go.Sort

theorem min_max {n1 n2 n3 : Nat} (h1 : n1 ≤ 1000) (h2 : n2 ≤ 1000) (_h3 : n3 ≤ 1000) : (if IntKind.i64.wrap (1 + if n2 < n1 then (n1 : Int) else (n2 : Int)) < (n3 : Int) then IntKind.i64.wrap (1 + if n2 < n1 then (n1 : Int) else (n2 : Int)) else (n3 : Int)) = ((min n3 (1 + max n1 n2) : Nat) : Int) := by
  have e : IntKind.i64.wrap (1 + if n2 < n1 then (n1 : Int) else (n2 : Int)) = ((1 + max n1 n2 : Nat) : Int) := by
    rw [IntKind.wrap_i64]
    split <;> omega
  rw [e]
  split <;> omega



/-- The hidden sets that count, as digits, over the first k faces. -/
def gameC (fs : List Int) : Nat → Nat
  | 0 => 1
  | k + 1 => gameC fs k ||| 2 ^ (fs[k]?.getD 0).toNat
theorem gameC_bit {fs : List Int} (hf : ∀ x ∈ fs, 1 ≤ x ∧ x ≤ 63) : ∀ k, k ≤ fs.length → gameC fs k < 2 ^ 64 ∧ ∀ h, (gameC fs k).testBit h = (h == 0 || decide ((h : Int) ∈ fs.take k))
  | 0, _ => ⟨(by decide : 1 < 2 ^ 64), fun h => by
    show (2 ^ 0).testBit h = _
    rw [tb_two]
    by_cases e : h = 0
    · subst e; rfl
    · have e2 : ¬ 0 = h := fun x => e x.symm
      simp [e, e2]⟩
  | k + 1, hk => by
    obtain ⟨h1, h2⟩ := gameC_bit hf k (by omega)
    have hx := hf _ (getD_mem (xs := fs) (show k < fs.length by omega))
    refine ⟨Nat.or_lt_two_pow h1 (Nat.pow_lt_pow_right (by decide) (by omega)), fun h => ?_⟩
    rw [gameC, Nat.testBit_or, h2, tb_two, take_snoc (by omega), Bool.eq_iff_iff]
    simp only [Bool.or_eq_true, decide_eq_true_eq, List.mem_append, List.mem_singleton, beq_iff_eq]
    constructor
    · rintro ((h | h) | h)
      · exact .inl h
      · exact .inr (.inl h)
      · exact .inr (.inr (by omega))
    · rintro (h | h | h)
      · exact .inl (.inl h)
      · exact .inl (.inr h)
      · exact .inr (by omega)
theorem gameC_is {fs : List Int} (hf : ∀ x ∈ fs, 1 ≤ x ∧ x ≤ 63) : IsK fs (gameC fs fs.length) := ⟨(gameC_bit hf _ (Nat.le_refl _)).1, fun h _ => by rw [(gameC_bit hf _ (Nat.le_refl _)).2, List.take_length]; rfl⟩

set_option maxRecDepth 100000 in
theorem load_game {w : World} {b o : Nat} {x y : Value} (h0 : w.cell? ⟨b, o, none⟩ = some x) (h1 : w.cell? ⟨b, o + 1, none⟩ = some y) :
    (loadVar 60 ⟨b, o, none⟩).run Tryd.prog w = .ok (.agg #[x, y]) w := by
  go_simp
set_option maxRecDepth 100000 in
theorem done_game {fn : Func} {R : Ending → World → Prop} {a : Act} {w : World} {p : Tmp} (hr : fn.results = #[.cell p 60]) (hd : a.defers = []) {b o : Nat} {x y : Value}
    (hp : a.tmps.getD p undef = .pointer (some ⟨b, o, none⟩)) (h0 : w.cell? ⟨b, o, none⟩ = some x) (h1 : w.cell? ⟨b, o + 1, none⟩ = some y) (hR : R (.returned (.agg #[x, y])) w) : bodyPost Tryd.prog fn R .ret a w := by
  refine bodyPost_ret (v := .agg #[x, y]) ?_ hd hR
  have hp' : a.tmps[p]?.getD undef = .pointer (some ⟨b, o, none⟩) := by simpa using hp
  simp [results, hr, hp', asAddr, load_game h0 h1]

set_option maxRecDepth 100000 in
set_option maxHeartbeats 2000000 in
theorem game_any (V : Int) (a0 : Option Addr) (cap : Nat) (fs : List Int) (w : World) (hx : SlI w w.heap.size a0 fs) (hl : fs.length ≤ 1048576) (hf : ∀ x ∈ fs, 1 ≤ x ∧ x ≤ 63) :
    Calls Tryd.prog 37 #[.agg #[.int .i64 V, .slice a0 fs.length cap]] w fun e w' => e = .returned (.agg #[.int .i64 V, .int .u64 (gameC fs fs.length : Int)]) ∧ Below w.heap.size w w' := by
  obtain ⟨W0, hW0⟩ : ∃ W0, W0 = (w.alloc (.cells #[.int .i64 V, .slice a0 fs.length cap] 28)).alloc (.cells #[.int .i64 0, .int .u64 0] 60) := ⟨_, rfl⟩
  have hB0 : Below w.heap.size w W0 := by rw [hW0]; exact ((Below.refl _ w).alloc (Nat.le_refl _) _).alloc (by simp) _
  have Hk : Hid (W0.heap[w.heap.size]? = some (.cells #[.int .i64 V, .slice a0 fs.length cap] 28 (0, 0))) := hid (by rw [hW0]; exact (Below.heap_alloc _ _ _ (by simp)).trans (heap_alloc_new _ _))
  have Hr : Hid (W0.heap[w.heap.size + 1]? = some (.cells #[.int .i64 0, .int .u64 0] 60 (0, 0))) := hid (by rw [hW0]; exact new2 _ _ _)
  have Hx := hid hx
  have HB0 := hid hB0
  have Hf := hid hf
  have HG := hid (fun k (h : k ≤ fs.length) => (gameC_bit hf k h).1)
  obtain ⟨k0, k1, _, _⟩ := two_of Hk.out
  clear hx hB0 hf
  go_enter Tryd.func37, Tryd.ntmps37
  go_wp2_with fail
  rw [← hW0]
  have HW0 := hid hW0
  clear k0 k1 hW0
  go_loopw [3, 9] (fun cv iv wx => ∃ k : Nat, k ≤ fs.length ∧ cv = .int .u64 (gameC fs k : Int) ∧ iv = .int .i64 (k : Int) ∧ wx = W0) (fun _ iv _ => fs.length - (RowKit.intOf iv).toNat)
  case atStart => exact ⟨0, Nat.zero_le _, rfl, rfl, rfl⟩
  case round =>
    obtain ⟨k, hk, rfl, rfl, rfl⟩ := hrel
    by_cases hlt : k < fs.length
    · obtain ⟨b, off, hb, rfl, hcl⟩ : ∃ b off, b < w.heap.size ∧ a0 = some ⟨b, off, none⟩ ∧ ∀ i, i < fs.length → w.cell? ⟨b, off + i, none⟩ = some (.int .i64 (fs[i]?.getD 0)) := by
        rcases Hx.out with h | h
        · rw [h] at hlt; simp at hlt
        · exact h
      have hxr := Hf.out _ (getD_mem hlt)
      have hsn : gameC fs (k + 1) = gameC fs k ||| 2 ^ (fs[k]?.getD 0).toNat := rfl
      obtain ⟨x, hxe⟩ : ∃ x : Nat, (x : Int) = fs[k]?.getD 0 := ⟨(fs[k]?.getD 0).toNat, by omega⟩
      have hck : wr.cell? ⟨b, off + k, none⟩ = some (.int .i64 (x : Int)) := by rw [hxe]; exact (HB0.out.cell (p := ⟨b, off + k, none⟩) hb).trans (hcl k hlt)
      rw [← hxe, Int.toNat_natCast] at hsn
      have hg := HG.out k hk
      obtain ⟨c, hc⟩ : ∃ c, c = gameC fs k := ⟨_, rfl⟩
      rw [← hc] at hsn hg ⊢
      have Hsn := hid hsn
      have hx64 : x < 64 := by omega
      have hp : (2 : Nat) ^ x < 2 ^ 64 := Nat.pow_lt_pow_right (by decide) hx64
      have hor := or_u64 hg hp
      have hsh : IntKind.u64.wrap (2 ^ x) = ((2 ^ x : Nat) : Int) := by
        rw [IntKind.wrap_u64, show ((2 : Int) ^ x) = ((2 ^ x : Nat) : Int) by simp]
        generalize 2 ^ x = z at hp
        omega
      obtain ⟨z, hz⟩ : ∃ z, z = 2 ^ x := ⟨_, rfl⟩
      rw [← hz] at hor hsn Hsn hsh
      have hi0 : (0 : Int) ≤ (k : Int) := by omega
      have hi1 : (k : Int) < (fs.length : Int) := by omega
      clear hcl hxe hsn hg hp hz hc hxr
      go_wp2_with fail
      go_roundw
      case rel => exact ⟨k + 1, by omega, by rw [Hsn.out], by go_num, by trivial⟩
      case measure => simp [RowKit.intOf]; omega
    · obtain rfl : k = fs.length := by omega
      obtain ⟨k0, k1, _, _⟩ := two_of Hk.out
      obtain ⟨r0, r1, g0, g1⟩ := two_of Hr.out
      go_wp2_with fail
      have R3 := two_of (two_set Hr.out (.int .i64 V) (.int .u64 (gameC fs fs.length : Int)))
      refine done_game (p := 2) (by kernel_rfl) rfl rfl R3.1 R3.2.1 ⟨rfl, ?_⟩
      exact (HB0.out.setCell (Nat.le_succ _) _).setCell (Nat.le_succ _) _

/-- All hidden sets of V numbers. -/
def allL (V : Nat) : Nat := 2 ^ 2 ^ V - 1
theorem allL_is {V : Nat} (hV : V ≤ 6) : IsL V 0 0 (allL V) := by
  have h64 : 2 ^ V ≤ 64 := show 2 ^ V ≤ 2 ^ 6 from Nat.pow_le_pow_right (by decide) hV
  refine ⟨?_, fun h _ => ?_⟩
  · unfold allL
    have h1 : 2 ^ 2 ^ V ≤ 2 ^ 64 := Nat.pow_le_pow_right (by decide) h64
    have h2 := Nat.two_pow_pos (2 ^ V)
    omega
  · unfold allL
    rw [Nat.testBit_two_pow_sub_one, Bool.eq_iff_iff, decide_eq_true_eq, inS_iff]
    simp
set_option maxRecDepth 100000 in
set_option maxHeartbeats 1000000 in
theorem allH_any (V : Nat) (w : World) (h1 : 1 ≤ V) (h2 : V ≤ 6) :
    Calls Tryd.prog 60 #[.int .i64 (V : Int)] w fun e w' => e = .returned (.int .u64 (allL V : Int)) ∧ w = w' := by
  have hc : V = 1 ∨ V = 2 ∨ V = 3 ∨ V = 4 ∨ V = 5 ∨ V = 6 := by omega
  clear h1 h2
  rcases hc with rfl | rfl | rfl | rfl | rfl | rfl
  all_goals
    go_enter Tryd.func60, Tryd.ntmps60
    go_wp2_with fail
    go_ret
    exact ⟨ret_int (by unfold allL; decide +kernel), rfl⟩

end Go.Proofs.YtppnahgiekjbnaaDoor

/-! The signs of the sides of a face, the model's. -/
namespace Go.Proofs.YtppnahgiekjbnaaDoor
open Go.RowKit

/-- The first j signs of a face with n + 1 vertices. -/
def sgTo (n j : Nat) : List Int := (List.range j).map fun i => 1 - 2 * (((n - i) % 2 : Nat) : Int)
def signL (f : Nat) : List Int := if ones f = 1 then [] else sgTo (ones f - 1) (ones f)
theorem sgTo_succ (n j : Nat) : sgTo n (j + 1) = sgTo n j ++ [1 - 2 * (((n - j) % 2 : Nat) : Int)] := by simp [sgTo, List.range_succ]
theorem sgTo_len (n j : Nat) : (sgTo n j).length = j := by simp [sgTo]

set_option maxRecDepth 100000 in
set_option maxHeartbeats 1000000 in
theorem signs_any (f : Nat) (w : World) (hf : f < 64) (h0 : f ≠ 0) :
    Calls Tryd.prog 104 #[.int .i64 (f : Int)] w fun e w' => ∃ v, e = .returned v ∧ Res w w' v (signL f) := by
  have hown0 := World.ownsRow_made (base := w.heap.size) (e := 2) (size := 1) w #[] 0 (by simp) (by simp [maxLen]) rfl
  have Hown0 := hid hown0
  have hop := ones_pos ⟨f, hf⟩ h0
  have ho := ones_le f
  obtain ⟨n, hn⟩ : ∃ n, ones f = n + 1 := ⟨ones f - 1, by have : 0 < ones f := hop; omega⟩
  have HO : Hid (∀ w, Calls Tryd.prog 49 #[.int .i64 (f : Int)] w fun e w' => e = .returned (.int .i64 ((n : Int) + 1)) ∧ w = w') := hid (fun w => (ones_any f w hf).mono fun _ _ ⟨he, hw⟩ => ⟨by rw [he, hn]; rfl, hw⟩)
  have hn5 : n ≤ 5 := by omega
  have hsg : signL f = if n = 0 then [] else sgTo n (n + 1) := by unfold signL; rw [hn]; simp
  rw [hsg]
  clear hown0 hop ho hn hsg
  by_cases hz : n = 0
  · subst hz
    go_enter Tryd.func104, Tryd.ntmps104
    go_wp2_with (go_at_call 49; refine (HO.out _).mono ?_; rintro e w' ⟨rfl, rfl⟩)
    go_ret
    exact ⟨_, rfl, by simpa using Hown0.out, (Below.refl _ w).alloc (Nat.le_refl _) _⟩
  · rw [if_neg hz]
    have hd : ((n : Int) == 0) = false := beq_eq_false_iff_ne.2 (by omega)
    clear hz
    go_enter Tryd.func104, Tryd.ntmps104
    go_wp2_with (go_at_call 49; refine (HO.out _).mono ?_; rintro e w' ⟨rfl, rfl⟩)
    go_loopw [3, 4] (fun v p wr => ∃ j : Nat, j ≤ n + 1 ∧ p = .int .i64 ((n : Int) - j) ∧ wr.ownsRow w.heap.size 2 1 v (sgTo n j).length ((sgTo n j).map (Value.int .i64)) ∧ Below w.heap.size w wr) (fun _ p _ => (intOf p + 1).toNat)
    case atStart => exact ⟨0, Nat.zero_le _, by simp, by simpa [sgTo] using Hown0.out, (Below.refl _ w).alloc (Nat.le_refl _) _⟩
    case round =>
      obtain ⟨j, hj, rfl, hown, hB⟩ := hrel
      have HB := hid hB
      have Hown := hid hown
      have Hsz := hid hB.size
      have hle := sgTo_len n j
      by_cases hjn : j = n + 1
      · subst hjn
        have e : (n : Int) - ((n + 1 : Nat) : Int) = -1 := by omega
        rw [e]
        clear e hown hB
        go_wp2
        go_ret
        exact ⟨_, rfl, Hown.out, HB.out⟩
      · obtain ⟨q, hq⟩ : ∃ q : Nat, n = q + j := ⟨n - j, by omega⟩
        have e : (n : Int) - (j : Int) = (q : Int) := by omega
        have He : Hid (((n : Int) - ((j + 1 : Nat) : Int)) = (q : Int) - 1) := hid (by omega)
        have hs := sgTo_succ n j
        rw [show n - j = q by omega] at hs
        rw [e]
        have hq0 : (0 : Int) ≤ (q : Int) := by omega
        have hqw : IntKind.i64.wrap ((q : Int) - 1) = (q : Int) - 1 := by rw [IntKind.wrap_i64]; omega
        have hmod : (q : Int).tmod 2 = ((q % 2 : Nat) : Int) := by rw [Int.tmod_eq_emod_of_nonneg (by omega)]; omega
        rcases Nat.mod_two_eq_zero_or_one q with h2 | h2
        · rw [h2] at hmod hs
          have Hs := hid hs
          clear e hown hB hs h2 hq
          have hmod' : (q : Int).tmod 2 = 0 := hmod
          clear hmod
          · skip
            go_wp2_with (at_builtin; refine append_int rfl rfl Hown.out Hsz.out (by omega) rfl rfl ?_; intro v' w2 hown2 hgrow2 hB2)
            go_roundw
            case rel => exact ⟨j + 1, by omega, by rw [He.out], by rw [Hs.out]; exact hown2, HB.out.trans hB2⟩
            case measure => simp [intOf] <;> omega
        · rw [h2] at hmod hs
          have Hs := hid hs
          clear e hown hB hs h2 hq
          have hmod' : (q : Int).tmod 2 = 1 := hmod
          clear hmod
          · skip
            go_wp2_with (at_builtin; refine append_int rfl rfl Hown.out Hsz.out (by omega) rfl rfl ?_; intro v' w2 hown2 hgrow2 hB2)
            go_roundw
            case rel => exact ⟨j + 1, by omega, by rw [He.out], by rw [Hs.out]; exact hown2, HB.out.trans hB2⟩
            case measure => simp [intOf] <;> omega

/-- What SignsOf hands back. -/
noncomputable def signsOfR (V : Int) (fs : List Int) (f : Int) : List Int × Int := if isCB V fs then (if f ∈ fs then (signL f.toNat, 0) else ([], 2)) else ([], 1)

theorem signsOfR_len (V : Int) (fs : List Int) (f : Int) (_h : fs.length ≤ 1048576) : (signsOfR V fs f).1.length ≤ 1048576 := by
  unfold signsOfR
  have := ones_le f.toNat
  split
  · split
    · unfold signL
      split
      · simp
      · simp only [sgTo_len]; omega
    · simp
  · simp

theorem sign_mono {P : Program} {fn : FuncId} {args : Array Value} {w : World} {r : List Int × Int} {xs : List Int} {c : Int} (hr : r = (xs, c))
    (h : Calls P fn args w fun e w' => ∃ v, e = .returned (.tuple #[v, .int .i64 c]) ∧ Res w w' v xs) : Calls P fn args w fun e w' => ∃ v, e = .returned (.tuple #[v, .int .i64 r.2]) ∧ Res w w' v r.1 := by
  subst hr; exact h

end Go.Proofs.YtppnahgiekjbnaaDoor

/-! The sides of a face with their signs: an iterator over an iterator. -/
namespace Go.Proofs.YtppnahgiekjbnaaDoor
open Go.RowKit Go.Shelf

attribute [local go_sem] Oper.semAt_some

theorem sides_P (n : Nat) (hn : 1 ≤ n) (B0 f : Nat) (hf : f < 64) (w : World) (hB : B0 < w.heap.size)
    (hc : w.heap[B0]? = some (.cells #[.int .i64 (f : Int)] 2 (0, 0))) :
    SeqStopsP Fence.wide n Tryd.prog 118 #[.pointer (some ⟨B0, 0, none⟩)] (fun x : Fin 64 => #[Value.int .i64 (x.val : Int)]) [B0] 0 (sidesF f) w :=
  fun l J Jx W hW hJ _ hY h0 => (sides1_in n hn l B0 f hf (fun pre W1 => J pre W1 ∧ W.heap.size ≤ W1.heap.size) Jx
    (fun pre x W1 hj hp => YieldAt.mono (hY pre x W1 hp hj.2 hj.1) (fun e W' ⟨hk, h⟩ => by
      rcases h with ⟨he, hj'⟩ | ⟨he, hj'⟩
      · exact .inl ⟨he, ⟨hj', Nat.le_trans hj.2 hk.size⟩, hk.same B0 (.inl (by simp))⟩
      · exact .inr ⟨he, hj'⟩))
    (fun pre W m h => ⟨hJ.drewN m h.1, h.2⟩) W ((hW.block B0 hB).trans hc) ⟨h0, Nat.le_refl _⟩).mono (by
      rintro e W' ⟨hv, ⟨ys, rfl, hj⟩ | ⟨pre, hp, hj⟩⟩
      · exact ⟨hv, .inl hj.1⟩
      · exact ⟨hv, .inr ⟨pre, hp, hj⟩⟩)

/-- Sides with their signs. -/
def sgN (j : Nat) : Int := if j % 2 = 0 then 1 else -1
def signedL : Nat → List (Fin 64) → List (Fin 64 × Int)
  | _, [] => []
  | j, x :: l => (x, sgN j) :: signedL (j + 1) l
theorem signedL_append (l l' : List (Fin 64)) : ∀ j, signedL j (l ++ l') = signedL j l ++ signedL (j + l.length) l' := by
  induction l with
  | nil => intro j; simp [signedL]
  | cons x l ih => intro j; simp [signedL, ih, Nat.add_assoc, Nat.add_comm 1]
theorem signedL_snoc (l : List (Fin 64)) (x : Fin 64) : signedL 0 (l ++ [x]) = signedL 0 l ++ [(x, sgN l.length)] := by rw [signedL_append]; simp [signedL]
theorem signedL_len (l : List (Fin 64)) : ∀ j, (signedL j l).length = l.length := by
  induction l with
  | nil => intro j; rfl
  | cons x l ih => intro j; simp [signedL, ih]
theorem signedL_prefix {l l' : List (Fin 64)} (h : l <+: l') : signedL 0 l <+: signedL 0 l' := by
  obtain ⟨t, rfl⟩ := h
  rw [signedL_append]
  exact List.prefix_append _ _
theorem sgN_succ (j : Nat) : sgN (j + 1) = -sgN j := by
  unfold sgN
  rcases Nat.mod_two_eq_zero_or_one j with h | h <;> simp [h, Nat.add_mod]
theorem sgN_abs (j : Nat) : -1 ≤ sgN j ∧ sgN j ≤ 1 := by unfold sgN; split <;> omega
theorem sgN_neg (j : Nat) : wrap64 (-sgN j) = sgN (j + 1) := by
  rw [sgN_succ]
  have := sgN_abs j
  exact IntWalk.wrap64_in _ ⟨by omega, by omega⟩
def signedF (f : Nat) : List (Fin 64 × Int) := signedL 0 (sidesF f)

set_option maxHeartbeats 1000000 in
/-- signedSides: its argument is boxed; the function value captures the box. -/
theorem signedSides_in (n : Nat) (x : Int) (w : World) :
    CallsIn Fence.wide n Tryd.prog 106 #[.int .i64 x] w fun e w' => e = .returned (.func (.func 115) #[] #[.pointer (some ⟨w.heap.size, 0, none⟩)]) ∧ w' = w.alloc (.cells #[.int .i64 x] 2) := by
  refine callsIn_of_wp Tryd.func106 rfl trivial ?_ rfl
  simp only [Tryd.ntmps106, List.size_toArray, List.length_cons, List.length_nil, Nat.reduceAdd, Nat.reduceSub, Array.replicate_succ, Array.replicate_zero, List.push_toArray, List.append_toArray, List.nil_append, List.cons_append]
  gi_wp2
  go_ret
  exact ⟨rfl, rfl⟩

theorem yieldAny {m : Nat} (m' : Nat) {P : Program} {l : Nat} {args : Array Value} {W : World} {R : Ending → World → Prop} (h : YieldAt Fence.wide m P l args W R) : YieldAt Fence.wide m' P l args W R := by
  obtain ⟨fn, tmps, assign, body, hy, hR⟩ := h
  exact ⟨fn, tmps, assign, body, hy, ⟨hR.1, fun c cs _ => hR.2 c cs (fun d hd => by cases hd)⟩⟩
theorem yieldRound {m l0 : Nat} {P : Program} {l : Nat} {args : Array Value} {W : World} {R : Ending → World → Prop} (h : YieldAt Fence.wide m P l args W R) : YieldAt (Fence.wide.inRound l0) m P l args W R := h

theorem shut_grown {Ds : List Nat} {D : Nat} {w w' : World} (h : Shut Ds w w') (hD : ∀ E ∈ Ds, E = D) : w.grownBy w' (some D) :=
  ⟨h.os, h.tape, h.output, by rw [h.size]; exact Nat.le_refl _, fun k _ hk => h.block k (fun hm => hk (by rw [hD k hm]))⟩

set_option maxRecDepth 100000 in
set_option maxHeartbeats 2000000 in
/-- Its iterator. -/
theorem signed_P (n : Nat) (hn : 4 ≤ n) (B0 f : Nat) (hf : f < 64) (w : World) (hB : B0 < w.heap.size)
    (hc : w.heap[B0]? = some (.cells #[.int .i64 (f : Int)] 2 (0, 0))) :
    SeqStopsP Fence.wide n Tryd.prog 115 #[.pointer (some ⟨B0, 0, none⟩)] (fun x : Fin 64 × Int => #[Value.int .i64 (x.1.val : Int), .int .i64 x.2]) [B0] 5 (signedF f) w := by
  intro l J Jx W hW hJ hJx hY h0
  have hcW := (hW.block B0 hB).trans hc
  have c0 := (box_cell hcW).1
  have hBW : B0 < W.heap.size := lt_of_get hcW
  have HY := hid hY
  have Hc := hid hcW
  have h1 : 1 ≤ n := by omega
  clear hY hc hcW
  show CallsIn Fence.wide n Tryd.prog 115 #[.func (.yield l) #[] #[], .pointer (some ⟨B0, 0, none⟩)] W _
  refine callsIn_of_wp_marks Tryd.func115 rfl trivial ?_ rfl
  simp only [Tryd.ntmps115, List.size_toArray, List.length_cons, List.length_nil, Nat.reduceAdd, Nat.reduceSub, Array.replicate_succ, Array.replicate_zero, List.push_toArray, List.append_toArray, List.nil_append, List.cons_append]
  gi_wp2_with (first
    | (refine ⟨trivial, ?_⟩; gi_at_call 116; refine (sides_in _ _ _).mono ?_; rintro e w' ⟨rfl, rfl⟩))
  have hb1 := heap_alloc_new W (.cells #[.func (.yield l) #[] #[]] 113)
  have hb2 := heap_alloc_new (W.alloc (.cells #[.func (.yield l) #[] #[]] 113)) (.cells #[.int .i64 1] 2)
  have hb3 := heap_alloc_new ((W.alloc (.cells #[.func (.yield l) #[] #[]] 113)).alloc (.cells #[.int .i64 1] 2)) (.cells #[.int .i64 (f : Int)] 2)
  rw [World.size_alloc] at hb2
  rw [World.size_alloc, World.size_alloc] at hb3
  have hJ3 := hJ.alloc (.cells #[.int .i64 (f : Int)] 2) (hJ.alloc (.cells #[.int .i64 1] 2) (hJ.alloc (.cells #[.func (.yield l) #[] #[]] 113) h0))
  refine wpIn_rangeFunc_P rfl h1 (gf := 118) (lb := #[.pointer (some ⟨W.heap.size + 1 + 1, 0, none⟩)]) rfl trivial (enters_of Tryd.func118 (by kernel_rfl) rfl)
    (sides_P (n - 1) (by omega) (W.heap.size + 1 + 1) f hf _ (by simp) hb3) (by simp) (Below.refl _ _) (fun _ => rfl)
    (fun pre W' => J (signedL 0 pre) W' ∧ W'.heap[W.heap.size]? = some (.cells #[.func (.yield l) #[] #[]] 113 (0, 0)) ∧ W'.heap[W.heap.size + 1]? = some (.cells #[.int .i64 (sgN pre.length)] 2 (0, 0)))
    (fun c _ W' => c = .ret ∧ ∃ q, q <+: signedF f ∧ Jx q W')
    (OwnIn.and ((hJ.map (signedL 0)).less (by simp <;> omega) (by simp <;> omega)) (OwnIn.and (ownIn_block (β := List (Fin 64)) (fun _ => _) (by simp <;> omega)) (ownIn_block (β := List (Fin 64)) (fun s => .cells #[.int .i64 (sgN s.length)] 2 (0, 0)) (by simp <;> omega))))
    (fun c s A B row hs hg hr => ⟨hs.1, by obtain ⟨q, hq, hx⟩ := hs.2; exact ⟨q, hq, (hJx.less (by simp <;> omega) (by simp <;> omega)) q A B row hx hg hr⟩⟩)
    ⟨hJ3, ?_, ?_⟩
    (fun x => { tmps := #[.func (.yield l) #[] #[], .pointer (some ⟨B0, 0, none⟩), .pointer (some ⟨W.heap.size, 0, none⟩), .pointer (some ⟨W.heap.size + 1, 0, none⟩), .int .i64 (x.val : Int), .int .i64 (f : Int), .func (.func 118) #[] #[.pointer (some ⟨W.heap.size + 1 + 1, 0, none⟩)], .int .i64 (x.val : Int), undef, undef, undef, undef, undef, undef, undef], defers := [] }) ?assign ?body ?done ?stop
  · exact (Below.heap_alloc _ _ _ (by simp <;> omega)).trans ((Below.heap_alloc _ _ _ (by simp <;> omega)).trans hb1)
  · exact (Below.heap_alloc _ _ _ (by simp <;> omega)).trans hb2
  case assign =>
    intro l' x W3 K hK
    gi_wp2
    exact hK
  case body =>
    rintro l' pre x W3 hpre hsz ⟨hj, hyb, hsb⟩
    simp only [World.size_alloc] at hsz
    have cy := (box_cell hyb).1
    obtain ⟨cs, fs⟩ := box_cell hsb
    have e : signedL 0 pre ++ [(x, sgN pre.length)] = signedL 0 (pre ++ [x]) := (signedL_snoc pre x).symm
    have hys := HY.out (signedL 0 pre) (x, sgN pre.length) W3 (by rw [e]; exact signedL_prefix hpre) (by omega) hj
    rw [e] at hys
    have hab := sgN_abs pre.length
    have Hpre := hid (signedL_prefix hpre)
    obtain ⟨sg, hsg⟩ : ∃ sg, sg = sgN pre.length := ⟨_, rfl⟩
    have Hneg : Hid (wrap64 (-sg) = sgN (pre ++ [x]).length) := hid (by rw [hsg, sgN_neg]; simp)
    rw [← hsg] at cs hab hys
    obtain ⟨hab0, hab1⟩ := hab
    have Hsb := hid hsb
    have Hyb := hid hyb
    clear e hsb hyb hsg hj hpre
    obtain ⟨fn, tmps, assign, body, hy, hR⟩ := yieldRound (l0 := l') (yieldAny (n - 1 - 1 - 1) hys)
    dsimp only at hy
    gi_wp2
    refine ⟨fun _ => by omega, hR.mono ?_⟩
    rintro e W4 ⟨hk, (⟨rfl, hj4⟩ | ⟨rfl, hx4⟩)⟩
    · have hsb4 := (hk.same (W.heap.size + 1) (.inr ⟨by omega, by omega⟩)).trans Hsb.out
      have hyb4 := (hk.same W.heap.size (.inr ⟨by omega, by omega⟩)).trans Hyb.out
      obtain ⟨cs4, fs4⟩ := box_cell hsb4
      have Hsb4 := hid hsb4
      have Hyb4 := hid hyb4
      have Hk := hid hk
      clear hsb4 hyb4 hk
      gi_wp2
      refine ⟨?_, ?_⟩
      · exact (Hk.out.less (fun b hb => by simp at hb; subst hb; exact .inr ⟨by omega, by omega⟩) (by simp <;> omega) (by simp <;> omega)).trans (KeepP.setCell _ _ _ _ (by simp <;> omega))
      · refine ⟨hJ _ W4 _ (some (W.heap.size + 1)) hj4 (grownBy_set W4 ⟨W.heap.size + 1, 0, none⟩ _) (fun r e => by cases e; exact ⟨by omega, .inl (by omega)⟩), (Below.heap_setCell _ _ _ _ (by simp)).trans Hyb4.out, ?_⟩
        have e := Hsb4.out
        simp only [World.setCell, Array.getElem?_modify, e]
        rw [sgN_neg]
        simp
    · gi_wp2
      exact ⟨hk.less (fun b hb => by simp at hb; subst hb; exact .inr ⟨by omega, by omega⟩) (by simp <;> omega) (by simp <;> omega), rfl, _, Hpre.out, hx4⟩
  case done =>
    rintro W3 ⟨hj, _, _⟩ hD
    simp only [World.size_alloc] at hD
    gi_wp2
    refine leaves_marks (by simp) [_] _ (by simp) (fun D hD' => by simp only [List.mem_singleton] at hD'; subst hD'; simp only [World.size_alloc]; exact hD) (fun w' hw' => ?_)
    exact ⟨_, results_none rfl _ _ _, ⟨_, rfl⟩, .inl (hJ _ W3 w' (some (W.heap.size + 3)) hj (shut_grown hw' (by simp)) (fun r e => by cases e; exact ⟨by omega, .inl (by omega)⟩))⟩
  case stop =>
    rintro c pre W3 hpre ⟨rfl, q, hq, hx⟩ hD
    simp only [World.size_alloc] at hD
    gi_wp2
    refine leaves_marks (by simp) [_] _ (by simp) (fun D hD' => by simp only [List.mem_singleton] at hD'; subst hD'; simp only [World.size_alloc]; exact hD) (fun w' hw' => ?_)
    exact ⟨_, results_none rfl _ _ _, ⟨_, rfl⟩, .inr ⟨q, hq, hJx _ W3 w' (some (W.heap.size + 3)) hx (shut_grown hw' (by simp)) (fun r e => by cases e; exact ⟨by omega, .inl (by omega)⟩)⟩⟩

end Go.Proofs.YtppnahgiekjbnaaDoor

/-! The questions needed: the program's. -/
namespace Go.Proofs.YtppnahgiekjbnaaDoor
open Go.RowKit Go.Shelf

attribute [local go_sem] Oper.semAt_some

theorem wayQ_len (T : List Int) (h k : Nat) : (wayQ T h k).length = k := by unfold wayQ; simp
theorem wayQ_take (T : List Int) (h : Nat) {k m : Nat} (hm : m ≤ k) : (wayQ T h k).take m = wayQ T h m := by unfold wayQ; rw [← List.map_take, List.take_range, Nat.min_eq_left hm]
theorem wayQ_ints {n : Nat} {T : List Int} (hT : IsT n T) (h : Nat) {k : Nat} (hk : k ≤ n) : (wayQ T h k).map (fun x => (x.1 : Int)) = wayL T h k := by
  unfold wayQ wayL
  rw [List.map_map]
  refine List.map_congr_left fun i hi => ?_
  have := List.mem_range.1 hi
  exact (way_ok hT h (show i < n by omega)).2.2.1.symm
/-- A beginning of the questions, with one more. -/
theorem wayQ_snoc {T : List Int} {h n : Nat} {pre : List (Nat × Nat)} {x : Nat × Nat} (hp : pre ++ [x] <+: wayQ T h n) : pre = wayQ T h pre.length ∧ pre.length < n ∧ x = (qsA T h pre.length, ansA T h pre.length) := by
  have hl := hp.length_le
  rw [wayQ_len] at hl
  simp at hl
  have e : pre ++ [x] = wayQ T h (pre.length + 1) := by
    have h1 := List.prefix_iff_eq_take.1 hp
    rw [wayQ_take T h (by simp; omega)] at h1
    simpa using h1
  rw [wayQ_succ] at e
  have h2 := List.append_inj e (by rw [wayQ_len])
  refine ⟨h2.1, by omega, ?_⟩
  have := h2.2
  simpa using this

/-- The worlds of questionsNeeded: its boxes, what is left, the row of questions. -/
structure QnW (w W : World) (V C : Int) (L : Nat) (v : Value) (xs : List Int) : Prop where
  below : Below w.heap.size w W
  k3 : W.heap[w.heap.size]? = some (.cells #[.int .i64 V, .int .u64 C] 60 (0, 0))
  k7 : W.heap[w.heap.size + 1 + 1]? = some (.cells #[v] 22 (0, 0))
  k8 : W.heap[w.heap.size + 1 + 1 + 1]? = some (.cells #[.int .u64 (L : Int)] 58 (0, 0))
  row : W.ownsRow (w.heap.size + 8) 2 1 v xs.length (xs.map (Value.int .i64))
theorem QnW.grown {w W W' : World} {V C : Int} {L : Nat} {v : Value} {xs : List Int} (h : QnW w W V C L v xs) {row : Option Nat} (hg : W.grownBy W' row) (hr : ∀ r, row = some r → w.heap.size + 4 ≤ r ∧ v.ownBlock ≠ some r) : QnW w W' V C L v xs where
  below := h.below.grown hg h.below.size (fun r e => by have := (hr r e).1; omega)
  k3 := (hg.block _ (lt_get h.k3) (fun e => by have := (hr _ e.symm).1; omega)).trans h.k3
  k7 := (hg.block _ (lt_get h.k7) (fun e => by have := (hr _ e.symm).1; omega)).trans h.k7
  k8 := (hg.block _ (lt_get h.k8) (fun e => by have := (hr _ e.symm).1; omega)).trans h.k8
  row := h.row.kept hg (by
    cases hv : v.ownBlock with
    | none => exact .inl rfl
    | some g => exact .inr (fun e => (hr g e.symm).2 hv))
theorem QnW.later {w W W' : World} {V C : Int} {L : Nat} {v : Value} {xs : List Int} (h : QnW w W V C L v xs) (hb : Below W.heap.size W W') : QnW w W' V C L v xs :=
  ⟨h.below.trans (hb.mono h.below.size), (hb.block _ (lt_get h.k3)).trans h.k3, (hb.block _ (lt_get h.k7)).trans h.k7, (hb.block _ (lt_get h.k8)).trans h.k8, ownsRow_below h.row hb (fun g hg => (h.row.lt g hg).2)⟩
/-- One question more. -/
theorem QnW.step {w W W' : World} {V C : Int} {L : Nat} {v v' : Value} {xs : List Int} {x : Int} (h : QnW w W V C L v xs) (ho : W'.ownsRow (w.heap.size + 8) 2 1 v' (xs ++ [x]).length ((xs ++ [x]).map (Value.int .i64))) (hg : W.grownBy W' v.ownBlock) :
    QnW w (W'.setCell ⟨w.heap.size + 1 + 1, 0, none⟩ v') V C L v' (xs ++ [x]) := by
  have hlow : ∀ b, b < w.heap.size + 8 → some b ≠ v.ownBlock := fun b hb e => by have := (h.row.lt b e.symm).1; omega
  have h7 := (hg.block _ (lt_get h.k7) (hlow _ (by omega))).trans h.k7
  refine ⟨(h.below.grown hg h.below.size (fun r e => by have := (h.row.lt r e).1; omega)).setCell (p := ⟨w.heap.size + 1 + 1, 0, none⟩) (by simp only; omega) _, ?_, ?_, ?_, ?_⟩
  · exact (Below.heap_setCell _ _ _ _ (by simp only; omega)).trans ((hg.block _ (lt_get h.k3) (hlow _ (by omega))).trans h.k3)
  · simp only [World.setCell, Array.getElem?_modify, h7]
    simp
  · exact (Below.heap_setCell _ _ _ _ (by simp only; omega)).trans ((hg.block _ (lt_get h.k8) (hlow _ (by omega))).trans h.k8)
  · exact ownsRow_set ho (by have := row_ne ho h7 (by decide); exact fun e => this e.symm) _
/-- What is left. -/
theorem QnW.left {w W : World} {V C : Int} {L : Nat} {v : Value} {xs : List Int} (h : QnW w W V C L v xs) (L' : Nat) : QnW w (W.setCell ⟨w.heap.size + 1 + 1 + 1, 0, none⟩ (.int .u64 (L' : Int))) V C L' v xs where
  below := h.below.setCell (p := ⟨w.heap.size + 1 + 1 + 1, 0, none⟩) (by simp only; omega) _
  k3 := (Below.heap_setCell _ _ _ _ (by simp only; omega)).trans h.k3
  k7 := (Below.heap_setCell _ _ _ _ (by simp only; omega)).trans h.k7
  k8 := by simp only [World.setCell, Array.getElem?_modify, h.k8]; simp
  row := ownsRow_set h.row (by have := row_ne h.row h.k8 (by decide); exact fun e => this e.symm) _

/-- What the program's digits tell. -/
theorem told_tol {fs : List Int} {V a o L C : Nat} (hV : V ≤ 6) (h : IsL V a o L) (hC : IsK fs C) : ((L &&& C == 0) || (andN L C == 0)) = toldB fs V a o := by
  rw [told_none hV h hC, told_all hV h hC, toldB, Bool.or_comm]

/-- 'append' of a number inside a fence. -/
theorem append_intQ {F : Fence} {nF : Nat} {w : World} {ops : Array Oper} {rest : List Oper} {o : Oper} {a : Act} {Q : Exit → Act → World → Prop} (hgd : o.guard = none) {s y : Operand}
    (ho : o.op = .call { callee := .builtin .append, args := #[s, y], argTypes := #[22, 22] })
    {base : Nat} {v : Value} {xs : List Int} {x : Int} (hown : w.ownsRow base 2 1 v xs.length (xs.map (Value.int .i64))) (hbase : base ≤ w.heap.size) (hl : xs.length ≤ 1099511627776)
    (hs : a.eval s = v) (hy : a.eval y = .slice (some ⟨w.heap.size, 0, none⟩) 1 1)
    (hK : ∀ g cap w', w'.ownsRow base 2 1 (.slice (some ⟨g, 0, none⟩) (xs.length + 1) cap) (xs.length + 1) ((xs ++ [x]).map (Value.int .i64)) → w.grownBy w' v.ownBlock →
      wpListIn F nF Tryd.prog ops Q rest (a.put o.dst (.slice (some ⟨g, 0, none⟩) (xs.length + 1) cap)) w') :
    wpListIn F nF Tryd.prog ops Q (o :: rest) a (w.alloc (.cells #[.int .i64 x] 2)) := by
  obtain ⟨i0, hi, hz0, hz1, hz2⟩ := info_parts info_i64
  refine wpListIn_append_own _ hgd s y 22 ho base 2 i0 (.int .i64 0) 1 8 Tryd.underlying22 hi hz0 hz1 hz2 rfl (by decide) v _ _ hs (hown.alloc _) ⟨w.heap.size, 0, none⟩ 1 1 [.int .i64 x] hy rfl (cell_one_new _ _ _) (by simp [Value.oneCell']) (by unfold maxLen; omega) (by omega) (by simp; omega) ?_
  intro v' w1 hown1 hgrow1 _
  obtain ⟨g, cap, rfl⟩ := ownsRow_succ hown1
  exact hK g cap w1 (by simpa using hown1) ((World.grownBy_alloc w _ _).trans hgrow1)

set_option maxRecDepth 100000 in
set_option maxHeartbeats 8000000 in
theorem qneed_in (V h C : Nat) (fs T : List Int) (w : World) (hK : IsK fs C) (hT : IsT V T) (h1 : 1 ≤ V) (h6 : V ≤ 6) (hh : h < 64) (hW : HidW w) :
    CallsIn Fence.wide 14 Tryd.prog 38 #[.agg #[.int .i64 (V : Int), .int .u64 (C : Int)], .agg (tcells (V : Int) (padL T)).toArray, .int .i64 (h : Int)] w fun e w' => ∃ v, e = .returned v ∧ Res w w' v (wayL T h (neededN fs V T h)) := by
  have hTl : T.length ≤ 63 := by have := pow_le64 h6; have := hT.len; omega
  obtain ⟨_, _, _, _, hi⟩ := zero_tree
  obtain ⟨A, hA⟩ : ∃ A, A = (tcells (V : Int) (padL T)).toArray := ⟨_, rfl⟩
  have hAs : A.size = 65 := by rw [hA]; unfold tcells; simp [padL_len hTl]
  have hi66 : (Tryd.prog.info? 54).map (·.size) = some A.size := by rw [hi, hAs]
  have HAe := hid hA
  rw [← hA]
  have HT := hid hT
  have HK := hid hK
  have HHw := hid hW
  have HL0 := hid (allL_is h6)
  clear hA hT hK hW hi
  refine callsIn_of_wp_marks Tryd.func38 rfl trivial ?_ rfl
  simp only [Tryd.ntmps38, List.size_toArray, List.length_cons, List.length_nil, Nat.reduceAdd, Nat.reduceSub, Array.replicate_succ, Array.replicate_zero, List.push_toArray, List.append_toArray, List.nil_append, List.cons_append]
  have hb4 : ((((w.alloc (.cells #[.int .i64 (V : Int), .int .u64 (C : Int)] 60)).alloc (.cells A 54)).alloc (.cells #[.slice none 0 0] 22)).alloc (.cells #[.int .u64 (allL V : Int)] 58)).heap[w.heap.size + 1]? = some (.cells A 54 (0, 0)) := (Below.heap_alloc _ _ _ (by simp <;> omega)).trans ((Below.heap_alloc _ _ _ (by simp <;> omega)).trans (new2 _ _ _))
  refine wpIn_wide.2 ?_
  go_wp2_with (first
    | (go_at_call 60; refine (allH_any V _ h1 h6).mono ?_; rintro e w' ⟨rfl, rfl⟩)
    | (refine wpList_load_row rfl 54 _ rfl (w.heap.size + 1) rfl 54 A (0, 0) _ hb4 Tryd.underlying54 rfl hi66 ?_)
    | (go_at_call 61; refine (callsIn_wide.1 (way_in 14 A _ _)).mono ?_; rintro e w' ⟨rfl, rfl⟩))
  rename_i Q1 K1 hk1
  obtain ⟨W0, hW0⟩ : ∃ W0, W0 = ((((((w.alloc (.cells #[.int .i64 (V : Int), .int .u64 (C : Int)] 60)).alloc (.cells A 54)).alloc (.cells #[.slice none 0 0] 22)).alloc (.cells #[.int .u64 (allL V : Int)] 58)).alloc (.cells A 54)).alloc (.cells #[.int .i64 (h : Int)] 2)) := ⟨_, rfl⟩
  rw [← hW0]
  have hs0 : W0.heap.size = w.heap.size + 6 := by rw [hW0]; simp
  have hk4 : W0.heap[w.heap.size + 1 + 1 + 1 + 1]? = some (.cells A 54 (0, 0)) := by rw [hW0]; exact (Below.heap_alloc _ _ _ (by simp)).trans (by have := heap_alloc_new ((((w.alloc (.cells #[.int .i64 (V : Int), .int .u64 (C : Int)] 60)).alloc (.cells A 54)).alloc (.cells #[.slice none 0 0] 22)).alloc (.cells #[.int .u64 (allL V : Int)] 58)) (.cells A 54); simpa using this)
  have hk5 : W0.heap[w.heap.size + 1 + 1 + 1 + 1 + 1]? = some (.cells #[.int .i64 (h : Int)] 2 (0, 0)) := by rw [hW0]; have := heap_alloc_new (((((w.alloc (.cells #[.int .i64 (V : Int), .int .u64 (C : Int)] 60)).alloc (.cells A 54)).alloc (.cells #[.slice none 0 0] 22)).alloc (.cells #[.int .u64 (allL V : Int)] 58)).alloc (.cells A 54)) (.cells #[.int .i64 (h : Int)] 2); simpa using this
  have hQ0 : QnW w W0 V C (allL V) (.slice none 0 0) [] := by
    refine ⟨?_, ?_, ?_, ?_, World.ownsRow_nil _ _ _ _⟩
    · rw [hW0]
      exact ((((((Below.refl _ w).alloc (Nat.le_refl _) _).alloc (by simp) _).alloc (by simp <;> omega) _).alloc (by simp <;> omega) _).alloc (by simp <;> omega) _).alloc (by simp <;> omega) _
    · rw [hW0]
      exact (Below.heap_alloc _ _ _ (by simp <;> omega)).trans ((Below.heap_alloc _ _ _ (by simp <;> omega)).trans ((Below.heap_alloc _ _ _ (by simp <;> omega)).trans ((Below.heap_alloc _ _ _ (by simp <;> omega)).trans ((Below.heap_alloc _ _ _ (by simp <;> omega)).trans (heap_alloc_new _ _)))))
    · rw [hW0]
      exact (Below.heap_alloc _ _ _ (by simp <;> omega)).trans ((Below.heap_alloc _ _ _ (by simp <;> omega)).trans ((Below.heap_alloc _ _ _ (by simp <;> omega)).trans (by have := heap_alloc_new ((w.alloc (.cells #[.int .i64 (V : Int), .int .u64 (C : Int)] 60)).alloc (.cells A 54)) (.cells #[.slice none 0 0] 22); simpa using this)))
    · rw [hW0]
      exact (Below.heap_alloc _ _ _ (by simp <;> omega)).trans ((Below.heap_alloc _ _ _ (by simp <;> omega)).trans (by have := heap_alloc_new (((w.alloc (.cells #[.int .i64 (V : Int), .int .u64 (C : Int)] 60)).alloc (.cells A 54)).alloc (.cells #[.slice none 0 0] 22)) (.cells #[.int .u64 (allL V : Int)] 58); simpa using this))
  rw [HAe.out] at hk4
  have Hs0 := hid hs0
  clear hW0 hb4 hs0
  refine (wpIn_wide (n := 14)).1 ?_
  refine wpIn_rangeFunc_P rfl (by decide) (gf := 91) (lb := #[.pointer (some ⟨w.heap.size + 1 + 1 + 1 + 1, 0, none⟩), .pointer (some ⟨w.heap.size + 1 + 1 + 1 + 1 + 1, 0, none⟩)]) rfl trivial (enters_of Tryd.func91 (by kernel_rfl) rfl)
    (way_P 13 (by decide) V h (w.heap.size + 1 + 1 + 1 + 1) (w.heap.size + 1 + 1 + 1 + 1 + 1) T W0 (by have := Hs0.out; omega) (by have := Hs0.out; omega) hk4 hk5 HT.out h1 h6 hh) (by have := Hs0.out; simp; omega) (Below.refl _ _) (fun _ => rfl)
    (fun pre W' => ∃ v L, QnW w W' V C L v (pre.map fun x => (x.1 : Int)) ∧ IsL V (asA T h pre.length).1 (asA T h pre.length).2 L ∧ ∀ j, j < pre.length → tolA fs V T h j = false)
    (fun c pre W' => c = .exit 0 ∧ ∃ v L, QnW w W' V C L v (wayL T h (neededN fs V T h)))
    (fun s A B row hs hg hr => by
      obtain ⟨v, L, h1, h2⟩ := hs
      refine ⟨v, L, h1.grown hg (fun r e => ?_), h2⟩
      obtain ⟨r1, r2⟩ := hr r e
      have hs1 := Hs0.out
      refine ⟨by omega, fun e2 => ?_⟩
      have h3 := (h1.row.lt r e2).1
      rcases r2 with r2 | ⟨o, ho, hc⟩
      · omega
      · rcases h1.row.2 with ⟨hn, _⟩ | ⟨g', cp', cur, hv', _, hh, _⟩
        · rw [hn] at e2; simp [Value.ownBlock] at e2
        · rw [hv'] at e2; simp [Value.ownBlock] at e2; subst e2; rw [hh] at ho; cases ho; cases hc)
    (fun c s A B row hs hg hr => by
      obtain ⟨hc0, v, L, h1⟩ := hs
      refine ⟨hc0, v, L, h1.grown hg (fun r e => ?_)⟩
      obtain ⟨r1, r2⟩ := hr r e
      have hs1 := Hs0.out
      refine ⟨by omega, fun e2 => ?_⟩
      have h3 := (h1.row.lt r e2).1
      rcases r2 with r2 | ⟨o, ho, hc⟩
      · omega
      · rcases h1.row.2 with ⟨hn, _⟩ | ⟨g', cp', cur, hv', _, hh, _⟩
        · rw [hn] at e2; simp [Value.ownBlock] at e2
        · rw [hv'] at e2; simp [Value.ownBlock] at e2; subst e2; rw [hh] at ho; cases ho; cases hc)
    ⟨_, _, hQ0, HL0.out, fun j hj => absurd hj (by simp)⟩
    (fun x => { tmps := #[.agg #[.int .i64 (V : Int), .int .u64 (C : Int)], .agg A, .int .i64 (h : Int), .pointer (some ⟨w.heap.size, 0, none⟩), .pointer (some ⟨w.heap.size + 1, 0, none⟩), undef, .slice none 0 0, .pointer (some ⟨w.heap.size + 1 + 1, 0, none⟩), .pointer (some ⟨w.heap.size + 1 + 1 + 1, 0, none⟩), .int .i64 (x.1 : Int), .int .i64 (x.2 : Int), undef, undef, .pointer (some ⟨w.heap.size, 0, none⟩), .int .i64 (V : Int), .int .u64 (allL V : Int), .agg A, .int .i64 (h : Int), .func (.func 91) #[] #[.pointer (some ⟨w.heap.size + 1 + 1 + 1 + 1, 0, none⟩), .pointer (some ⟨w.heap.size + 1 + 1 + 1 + 1 + 1, 0, none⟩)], .int .i64 (x.1 : Int), .int .i64 (x.2 : Int), undef, undef, undef, undef, undef, undef, undef, undef, undef, undef, undef, undef, undef, undef, undef, undef, undef, undef], defers := [] }) ?assign ?body ?done ?stop
  case assign =>
    intro l x W K hK
    gi_wp2
    exact hK
  case body =>
    rintro l pre x W hpre hsz ⟨v, L, hQ, hL, hno⟩
    obtain ⟨p1, p2, rfl⟩ := wayQ_snoc hpre
    obtain ⟨k, hk⟩ : ∃ k, k = pre.length := ⟨_, rfl⟩
    rw [← hk] at p2 hL hno
    have hw := way_ok HT.out h p2
    have hxs : pre.map (fun x => (x.1 : Int)) = wayL T h k := by rw [p1, hk]; exact wayQ_ints HT.out h (by omega)
    have hq6 : qsA T h k < 6 := by omega
    have hC := HK.out
    have htol : ((L &&& C == 0) || (andN L C == 0)) = tolA fs V T h k := told_tol h6 hL hC
    have HT1 := hid (fun W1 => told_any (V : Int) C L W1 hC.1 hL.1)
    rw [htol] at HT1
    have HS1 := hid (fun W1 (hb : Below w.heap.size w W1) => split_any L (qsA T h k) W1 hL.1 hq6 (HHw.out.later hb (Nat.le_refl _)))
    have HY1 := hid (hL.yes hq6)
    have HN1 := hid (hL.no hq6)
    have hsl := Hs0.out
    have HQ := hid hQ
    have Hno := hid hno
    have Hk := hid hk
    have Hxs := hid hxs
    have hb2 := ansA_lt T h k
    obtain ⟨k0, k1, _, _⟩ := two_of hQ.k3
    obtain ⟨c7, f7⟩ := box_cell hQ.k7
    obtain ⟨c8, f8⟩ := box_cell hQ.k8
    have hbase : w.heap.size + 8 ≤ W.heap.size := by omega
    obtain ⟨q, hq⟩ : ∃ q, q = qsA T h k := ⟨_, rfl⟩
    obtain ⟨bt, hbt⟩ : ∃ bt, bt = ansA T h k := ⟨_, rfl⟩
    have Hw : Hid (atP T (plA T h k) = (q : Int)) := hid (by rw [hq]; exact hw.2.2.1)
    have Has : Hid (asA T h (k + 1) = if bt = 1 then ((asA T h k).1 ||| 2 ^ q, (asA T h k).2) else ((asA T h k).1, (asA T h k).2 ||| 2 ^ q)) := hid (by rw [hq, hbt]; rfl)
    obtain ⟨xs, hxv⟩ : ∃ xs, xs = pre.map (fun x => (x.1 : Int)) := ⟨_, rfl⟩
    have Hxv := hid hxv
    have hxl : xs.length ≤ 1099511627776 := by rw [hxv, List.length_map, ← hk]; omega
    have Hp2 := hid p2
    rw [← hq] at HS1 HY1 HN1
    rw [← hxv] at HQ
    rw [← hbt] at hb2
    clear hpre
    rw [← hk, ← hq, ← hbt]
    have Hlen : Hid ((pre ++ [(q, bt)]).length = k + 1) := hid (by simp [hk])
    have Hmap : Hid ((pre ++ [(q, bt)]).map (fun x => (x.1 : Int)) = xs ++ [(q : Int)]) := hid (by rw [hxv]; simp)
    clear p1 p2 hk hw hC htol hQ hL hno hxs hq hbt hxv hq6
    cases htl : tolA fs V T h k with
    | true =>
      rw [htl] at HT1
      have Hnd : Hid (xs = wayL T h (neededN fs V T h)) := hid (by rw [needed_some Hp2.out Hno.out htl, Hxv.out]; exact Hxs.out)
      clear htl
      gi_wp2_with (first
        | (refine ⟨trivial, ?_⟩; gi_at_call 62; refine (callsIn_wide.2 (HT1.out _)).mono ?_; rintro e w1 ⟨rfl, hb1⟩))
      refine ⟨KeepP.of_below hb1 (by simp; omega) (by omega), rfl, v, L, ?_⟩
      rw [← Hnd.out]
      exact HQ.out.later hb1
    | false =>
      rw [htl] at HT1
      have Hno2 : Hid (∀ j, j < k + 1 → tolA fs V T h j = false) := hid (fun j hj => by
        by_cases e : j = k
        · rw [e]; exact htl
        · exact Hno.out j (by omega))
      clear htl
      have hbt2 : bt = 1 ∨ bt = 0 := by omega
      rcases hbt2 with rfl | rfl
      all_goals
        gi_wp2_with (first
          | (refine ⟨trivial, ?_⟩; gi_at_call 62; refine (callsIn_wide.2 (HT1.out _)).mono ?_; rintro e w1 ⟨rfl, hb1⟩; have HQ1 := hid (HQ.out.later hb1); have HK1 := hid (KeepP.of_below (Bs := [w.heap.size + 1 + 1 + 1 + 1, w.heap.size + 1 + 1 + 1 + 1 + 1]) (lo := W0.heap.size) (k := 2 + 0) hb1 (by simp; omega) (by omega)); have hbs1 := Nat.le_trans hbase hb1.size; clear k0 k1 c7 f7 c8 f8 HQ hb1; obtain ⟨c7, f7⟩ := box_cell HQ1.out.k7)
          | (gi_at_builtin; refine append_intQ rfl rfl HQ1.out.row hbs1 hxl rfl rfl ?_; intro g cap' w3 hown3 hgrow3; have hv3 := (hgrow3.block _ (lt_get HQ1.out.k7) (row_ne HQ1.out.row HQ1.out.k7 (by decide))).trans HQ1.out.k7; obtain ⟨cv3, fv3⟩ := box_cell hv3; obtain ⟨cw3, fw3⟩ := box_cell ((hgrow3.block _ (lt_get HQ1.out.k8) (row_ne HQ1.out.row HQ1.out.k8 (by decide))).trans HQ1.out.k8); have HG3 := hid hgrow3; have HQ3 := hid (HQ1.out.step (by simpa using hown3) hgrow3); clear c7 f7 hown3 hgrow3 hv3)
          | (refine ⟨trivial, ?_⟩; gi_at_call 63; refine (callsIn_wide.2 (HS1.out _ HQ3.out.below)).mono ?_; rintro e w4 ⟨rfl, hb4⟩; have HQ4 := hid (HQ3.out.later hb4); have HB4 := hid hb4; obtain ⟨d8, g8⟩ := box_cell HQ4.out.k8; clear hb4 cv3 fv3 cw3 fw3))
        have HX := hid (Has.out)
        refine ⟨HK1.out.trans (((KeepP.of_grownBy HG3.out (by simp; omega) (by omega) (fun j e => ?_)).trans (KeepP.setCell _ _ _ _ (by simp <;> omega))).trans ((KeepP.of_below HB4.out (by simp [World.setCell]; have := HG3.out.size; omega) (by have := HG3.out.size; simp [World.setCell]; omega)).trans ?_)), .slice (some ⟨g, 0, none⟩) (xs.length + 1) cap', ?_⟩
        · have := (HQ1.out.row.lt j e).1
          simp
          omega
        · first
            | exact KeepP.setCell _ _ _ _ (by simp <;> omega)
            | exact (KeepP.setCell _ _ _ _ (by simp <;> omega)).trans (KeepP.setCell _ _ _ _ (by simp <;> omega))
        · rw [Hlen.out, Hmap.out, HX.out]
          first
            | exact ⟨_, HQ4.out.left _, HN1.out, Hno2.out⟩
            | exact ⟨_, (HQ4.out.left _).left _, HY1.out, Hno2.out⟩
  case done =>
    rintro W ⟨v, L, hQ, hL, hno⟩ hD
    rw [wayQ_len] at hno
    have hnd : neededN fs V T h = V := needed_none hno
    rw [wayQ_ints HT.out h (Nat.le_refl _)] at hQ
    rw [show wayL T h V = wayL T h (neededN fs V T h) by rw [hnd]] at hQ
    obtain ⟨c7, f7⟩ := box_cell hQ.k7
    have HQ := hid hQ
    have HD := hid hD
    clear hQ hD hnd hno hL
    refine hk1 _ _ ?_
    go_wp2_with fail
    refine leaves_marks (by simp) [_] _ (by simp) (fun D hD' => by simp only [List.mem_singleton] at hD'; subst hD'; exact HD.out) (fun w' hw' => ?_)
    have hlt := HQ.out.row.lt
    have hdf := HD.out
    refine ⟨_, ?_, v, rfl, ownsRow_base (HQ.out.row.kept (shut_grown hw' (D := W0.heap.size) (by simp)) (by
      cases hv : v.ownBlock with
      | none => exact .inl rfl
      | some g => exact .inr (fun e => by cases e; have := (hlt _ hv).1; have := Hs0.out; omega))) (by omega), HQ.out.below.grown (shut_grown hw' (D := W0.heap.size) (by simp)) HQ.out.below.size (fun r e => by cases e; have := Hs0.out; omega)⟩
    simp [results, Tryd.results38, go_sem]
  case stop =>
    rintro c pre W hpre ⟨rfl, v, L, hQ⟩ hD
    obtain ⟨c7, f7⟩ := box_cell hQ.k7
    have HQ := hid hQ
    have HD := hid hD
    clear hQ hD hpre
    gi_wp2
    go_wp2_with fail
    refine leaves_marks (by simp) [_] _ (by simp) (fun D hD' => by simp only [List.mem_singleton] at hD'; subst hD'; exact HD.out) (fun w' hw' => ?_)
    have hlt := HQ.out.row.lt
    have hdf := HD.out
    refine ⟨_, ?_, v, rfl, ownsRow_base (HQ.out.row.kept (shut_grown hw' (D := W0.heap.size) (by simp)) (by
      cases hv : v.ownBlock with
      | none => exact .inl rfl
      | some g => exact .inr (fun e => by cases e; have := (hlt _ hv).1; have := Hs0.out; omega))) (by omega), HQ.out.below.grown (shut_grown hw' (D := W0.heap.size) (by simp)) HQ.out.below.size (fun r e => by cases e; have := Hs0.out; omega)⟩
    simp [results, Tryd.results38, go_sem]

end Go.Proofs.YtppnahgiekjbnaaDoor

/-! Joins: copies of lists. -/
namespace Go.Proofs.YtppnahgiekjbnaaDoor
open Go.RowKit

/-- 'append([]int64{}, list...)' of a list that lies in memory. -/
theorem append_all {w : World} {ops : Array Oper} {rest : List Oper} {o : Oper} {a : Act} {Q : Exit → Act → World → Prop} (hgd : o.guard = none) {s y : Operand}
    (ho : o.op = .call { callee := .builtin .append, args := #[s, y], argTypes := #[22, 22] })
    {b off cap : Nat} {xs : List Int} (hl : xs.length ≤ 1048576) (hc : ∀ i, i < xs.length → w.cell? ⟨b, off + i, none⟩ = some (.int .i64 (xs[i]?.getD 0)))
    (hs : a.eval s = .slice (some ⟨w.heap.size, 0, none⟩) 0 0) (hy : a.eval y = .slice (some ⟨b, off, none⟩) xs.length cap)
    (hK : ∀ v' w', w'.ownsRow w.heap.size 2 1 v' xs.length (xs.map (Value.int .i64)) → Below w.heap.size w w' → (v' = .slice none 0 0 → False) → wpList Tryd.prog ops Q rest (a.put o.dst v') w') :
    wpList Tryd.prog ops Q (o :: rest) a (w.alloc (.cells #[] 2)) := by
  obtain ⟨i0, hi, hz0, hz1, hz2⟩ := info_parts info_i64
  refine wpList_append_own _ hgd s y 22 ho w.heap.size 2 i0 (.int .i64 0) 1 8 Tryd.underlying22 hi hz0 hz1 hz2 rfl (by decide) (.slice (some ⟨w.heap.size, 0, none⟩) 0 0) 0 [] hs (World.ownsRow_made w #[] 0 (Nat.le_refl _) (Nat.zero_le _) rfl) ⟨b, off, none⟩ xs.length cap (xs.map (Value.int .i64)) hy (by simp) ?_ (fun u hu => by obtain ⟨x, _, rfl⟩ := List.mem_map.1 hu; rfl) (by unfold maxLen; omega) (by omega) (by simp) ?_
  · intro j u hj
    have hjn : j < xs.length := by
      have := (List.getElem?_eq_some_iff.1 hj).1
      simpa using this
    rw [Addr.add_lit]
    refine (World.cell?_alloc_some w _ _ (show (w.cell? _).isSome = true by rw [hc j hjn]; rfl)).trans ?_
    rw [hc j hjn, ← hj]
    simp [List.getElem?_eq_getElem hjn]
  · intro v' w1 hown hgrow hnil
    refine hK v' w1 (by simpa using hown) (((Below.refl _ w).alloc (Nat.le_refl _) _).grown hgrow (by simp) (by intro k hk; simp [Value.ownBlock] at hk; omega)) (fun e => ?_)
    have := (hnil.1 e).1
    simp at this

theorem own_any (a0 : Option Addr) (cap : Nat) (xs : List Int) (w : World) (hx : SlI w w.heap.size a0 xs) (hl : xs.length ≤ 1048576) :
    Calls Tryd.prog 33 #[.slice a0 xs.length cap] w fun e w' => ∃ v, e = .returned v ∧ Res w w' v xs := by
  rcases hx with rfl | ⟨b, off, hb, rfl, hc⟩
  · have hr : Res w (w.alloc (.cells #[] 2)) (.slice (some ⟨w.heap.size, 0, none⟩) 0 0) [] := ⟨World.ownsRow_made w #[] 0 (Nat.le_refl _) (Nat.zero_le _) rfl, (Below.refl _ w).alloc (Nat.le_refl _) _⟩
    have Hr := hid hr
    clear hr
    cases a0 with
    | none =>
      go_enter Tryd.func33, Tryd.ntmps33
      go_wp2_with fail
      go_ret
      exact ⟨_, rfl, Hr.out⟩
    | some ad =>
      go_enter Tryd.func33, Tryd.ntmps33
      go_wp2_with fail
      go_ret
      exact ⟨_, rfl, Hr.out⟩
  · have Hc := hid hc
    clear hc
    go_enter Tryd.func33, Tryd.ntmps33
    go_wp2_with (at_builtin; refine append_all rfl rfl hl Hc.out rfl rfl ?_; intro v' w1 hown hB _)
    go_ret
    exact ⟨v', rfl, hown, hB⟩

/-- step_append_new in a plain region. -/
theorem plain_append_new {W : World} {H : Nat} {ops : Array Oper} {rest : List Oper} {o : Oper} {a : Act} {Q : Exit → Act → World → Prop} (hgd : o.guard = none) {s y : Operand}
    (ho : o.op = .call { callee := .builtin .append, args := #[s, y], argTypes := #[22, 22] })
    {base : Nat} {v : Value} {xs : List Int} {x : Int} (hown : W.ownsRow base 2 1 v xs.length (xs.map (Value.int .i64))) (hH : W.heap.size = H) (hbase : base ≤ H) (hl : xs.length ≤ 1099511627776)
    (hs : a.eval s = v) (hy : a.eval y = .slice (some ⟨H, 0, none⟩) 1 1)
    (hK : ∀ g cap w', w'.ownsRow base 2 1 (.slice (some ⟨g, 0, none⟩) (xs ++ [x]).length cap) (xs ++ [x]).length ((xs ++ [x]).map (Value.int .i64)) → (W.alloc (.cells #[.int .i64 x] 2)).grownBy w' v.ownBlock →
      wpList Tryd.prog ops Q rest (a.put o.dst (.slice (some ⟨g, 0, none⟩) (xs ++ [x]).length cap)) w') :
    wpList Tryd.prog ops Q (o :: rest) a (W.alloc (.cells #[.int .i64 x] 2)) := by
  subst hH
  obtain ⟨i0, hi, hz0, hz1, hz2⟩ := info_parts info_i64
  refine wpList_append_lies (W.alloc (.cells #[.int .i64 x] 2)) hgd s y 22 ho base 2 i0 (.int .i64 0) 1 8 Tryd.underlying22 hi hz0 hz1 hz2 rfl (by decide) v _ _ hs (hown.alloc _) ⟨W.heap.size, 0, none⟩ 1 1 [.int .i64 x] hy rfl (cell_one_new _ _ _) (by simp [Value.oneCell']) (by decide) (by unfold maxLen; omega) (by omega) (by simp; omega) _ rfl ?_
  intro g cap w1 hown1 hg _ _
  have e : (xs ++ [x]).length = xs.length + 1 := by simp
  have h := hK g cap w1 (by rw [e]; simpa using hown1) hg
  rw [e] at h
  exact h

end Go.Proofs.YtppnahgiekjbnaaDoor

/-! A region that draws its order, whose last operation writes what others read: what is held of the world is asked behind every operation but that one. -/
namespace Go.Proofs.YtppnahgiekjbnaaDoor
open Go.RowKit

section
variable {P : Program} {ops : Array Oper} {Q : Exit → Act → World → Prop} {md : Region.Mode} {S : World → Prop} {m : Nat}

/-- Whatever order is picked; S holds behind every operation but number m. -/
def anyM (P : Program) (md : Region.Mode) (ops : Array Oper) (Q : Exit → Act → World → Prop) (S : World → Prop) (m : Nat) : Nat → Array Bool → Act → World → Prop
  | 0, listed, a, w => Region.ready md ops listed = [] ∧ Q .normal a w
  | fuel + 1, listed, a, w => (Region.ready md ops listed = [] → Q .normal a w) ∧
      ∀ i ∈ Region.ready md ops listed, wpOp P ops Q i (fun a' w' => (i ≠ m → S w') ∧ anyM P md ops Q S m fuel (listed.setIfInBounds i true) a' w') a w

theorem any_of_M : ∀ (fuel : Nat) (listed : Array Bool) (a : Act) (w : World), anyM P md ops Q S m fuel listed a w → wpAny P md ops Q fuel listed a w
  | 0, _, _, _, h => h
  | fuel + 1, _, _, _, h => ⟨h.1, fun i hi => wpOp_mono (fun a' w' h' => any_of_M fuel _ a' w' h'.2) (h.2 i hi)⟩

/-- Each number waits for the one ahead of it. -/
def queueB (md : Region.Mode) (ops : Array Oper) : List Nat → Bool
  | x :: y :: r => (match ops[y]? with | some o => o.after.any (fun e => Region.binds md e && e.on == x) | none => false) && queueB md ops (y :: r)
  | _ => true

theorem queue_unready {listed : Array Bool} : ∀ (cs : List Nat) (i : Nat), queueB md ops (i :: cs) = true → (∀ c ∈ i :: cs, listed.getD c true = false) → ∀ c ∈ cs, c ∉ Region.ready md ops listed
  | [], _, _, _ => fun c hc => by cases hc
  | y :: r, i, h, hu => fun c hc => by
    simp only [queueB, Bool.and_eq_true] at h
    rcases List.mem_cons.1 hc with rfl | hc
    · intro hr
      obtain ⟨_, o, ho, hall⟩ := mem_ready.1 hr
      have h1 := h.1
      rw [ho] at h1
      simp only [Array.any_eq_true', Bool.and_eq_true, beq_iff_eq] at h1
      obtain ⟨e, he, hb, heq⟩ := h1
      have h2 := hall e he hb
      have h0 := hu i (List.mem_cons_self ..)
      rw [heq] at h2
      rcases Nat.lt_or_ge i listed.size with h' | h'
      · simp [h'] at h0 h2; rw [h0] at h2; cases h2
      · simp [Array.getElem?_eq_none h'] at h2
    · exact queue_unready r y h.2 (fun c hc => hu c (List.mem_cons_of_mem _ hc)) c hc

theorem anyM_first {i : Nat} {oi : Oper} {v : Value} (hi : ops[i]? = some oi) (hsel : ∀ (j : Nat) (o : Oper) cs b, ops[j]? = some o → o.op ≠ .select cs b)
    (hQ : ∀ c a w, Q (.panic c) (a.put oi.dst v) w → Q (.panic c) a w) {cs : List Nat} (hcs : queueB md ops (i :: cs) = true) (hm : m ∈ cs) :
    ∀ (fuel : Nat) (listed : Array Bool) (a : Act) (w : World),
      (∀ j oj, ops[j]? = some oj → j ≠ i → listed.getD j true = false → (∀ e ∈ oj.after, Region.binds md e = true → e.on ≠ i) → oi.apart ops oj = true) →
      i ∈ Region.ready md ops listed → (∀ c ∈ i :: cs, listed.getD c true = false) → YieldsIf P ops S oi v a → S w →
      anyM P md ops Q S m fuel (listed.setIfInBounds i true) (a.put oi.dst v) w → anyM P md ops Q S m (fuel + 1) listed a w := by
  intro fuel
  induction fuel with
  | zero =>
    intro listed a w _ hr _ hy hS H
    refine ⟨fun h => (by rw [h] at hr; cases hr), fun j hj => ?_⟩
    by_cases hji : j = i
    · subst hji; exact hy.wpOp hi hS ⟨fun _ => hS, H⟩
    · have := ready_mono hj hji
      rw [H.1] at this
      cases this
  | succ fuel ih =>
    intro listed a w hfree hr hu hy hS H
    refine ⟨fun h => (by rw [h] at hr; cases hr), fun j hj => ?_⟩
    by_cases hji : j = i
    · subst hji; exact hy.wpOp hi hS ⟨fun _ => hS, H⟩
    · have hjcs : j ∉ cs := fun hc => queue_unready cs i hcs hu j hc hj
      have hjm : j ≠ m := fun e => hjcs (e ▸ hm)
      have h1 := H.2 j (ready_mono hj hji)
      obtain ⟨hjun, oj, hoj, hall⟩ := mem_ready.1 hj
      have hnot : ∀ e ∈ oj.after, Region.binds md e = true → e.on ≠ i := fun e he hb heq => by
        have h1 := hall e he hb
        have h0 := (mem_ready.1 hr).1
        rw [heq] at h1
        rcases Nat.lt_or_ge i listed.size with h' | h'
        · simp [h'] at h0 h1; rw [h0] at h1; cases h1
        · simp [Array.getElem?_eq_none h'] at h1
      have h2 := wpOp_putIf hoj (hfree j oj hoj hji hjun hnot) (fun cs b => hsel i oi cs b hi) (fun cs b => hsel j oj cs b hoj) hQ hy h1
      have hfree' : ∀ k ok, ops[k]? = some ok → k ≠ i → (listed.setIfInBounds j true).getD k true = false →
          (∀ e ∈ ok.after, Region.binds md e = true → e.on ≠ i) → oi.apart ops ok = true := fun k ok hk hki hun hno => by
        refine hfree k ok hk hki ?_ hno
        by_cases hjk : j = k
        · subst hjk; exact hjun
        · rw [getD_set_ne true hjk] at hun; exact hun
      have hu' : ∀ c ∈ i :: cs, (listed.setIfInBounds j true).getD c true = false := fun c hc => by
        rw [getD_set_ne true (fun e => ?_)]
        · exact hu c hc
        · rcases List.mem_cons.1 hc with h | h
          · exact hji (e.trans h)
          · exact hjcs (e ▸ h)
      refine wpOp_mono (fun a' w' h3 => ⟨h3.2.1, ih (listed.setIfInBounds j true) a' w' hfree' (ready_mono hr (Ne.symm hji)) hu' h3.1 (h3.2.1 hjm) ?_⟩) h2
      rw [Array.setIfInBounds_comm _ _ hji]
      exact h3.2.2

theorem anyM_take {i : Nat} {oi : Oper} {v : Value} {fuel : Nat} {listed : Array Bool} {a : Act} {w : World} (cs : List Nat) (hi : ops[i]? = some oi)
    (hs : (Region.noSelect ops && queueB md ops (i :: cs) && cs.contains m && (i :: cs).all (fun c => !listed.getD c true) && Region.free md ops listed i && (Region.ready md ops listed).contains i) = true)
    (hQ : ∀ c a w, Q (.panic c) (a.put oi.dst v) w → Q (.panic c) a w) (hy : YieldsIf P ops S oi v a) (hS : S w)
    (h : anyM P md ops Q S m fuel (listed.setIfInBounds i true) (a.put oi.dst v) w) : anyM P md ops Q S m (fuel + 1) listed a w := by
  simp only [Bool.and_eq_true] at hs
  obtain ⟨⟨⟨⟨⟨h1, h2⟩, h3⟩, h4⟩, h5⟩, h6⟩ := hs
  exact anyM_first hi (Region.noSelect_spec h1) hQ h2 (by simpa using h3) fuel listed a w (Region.free_spec hi h5) (by simpa using h6) (fun c hc => by simpa using List.all_eq_true.1 h4 c hc) hy hS h

/-- Each of the operations 'rs' comes up next. -/
def AllM (P : Program) (md : Region.Mode) (ops : Array Oper) (Q : Exit → Act → World → Prop) (S : World → Prop) (m fuel : Nat) (listed : Array Bool) (a : Act) (w : World) (rs : List Nat) : Prop :=
  ∀ i ∈ rs, wpOp P ops Q i (fun a' w' => (i ≠ m → S w') ∧ anyM P md ops Q S m fuel (listed.setIfInBounds i true) a' w') a w
theorem AllM.nil {fuel : Nat} {listed : Array Bool} {a : Act} {w : World} : AllM P md ops Q S m fuel listed a w [] := fun _ h => by cases h
theorem AllM.cons {fuel : Nat} {listed : Array Bool} {a : Act} {w : World} {i : Nat} {o : Oper} {rs : List Nat} (ho : ops[i]? = some o)
    (h : ∀ K' : Act → World → Prop, Go.Shut (∀ a w, (i ≠ m → S w) → anyM P md ops Q S m fuel (listed.setIfInBounds i true) a w → K' a w) → if Region.wanted o (yielded ops a.tmps) = true then Oper.wp P o a w K' Q else K' (a.put o.dst undef) w)
    (hs : AllM P md ops Q S m fuel listed a w rs) : AllM P md ops Q S m fuel listed a w (i :: rs) := fun j hj => by
  rcases List.mem_cons.1 hj with rfl | hj
  · exact wpOp_step ho (fun K' hK => h K' (fun a w hS hW => hK a w ⟨hS, hW⟩))
  · exact hs j hj
theorem anyM_ready {rs : List Nat} {fuel : Nat} {listed : Array Bool} {a : Act} {w : World} (hr : (Region.ready md ops listed == rs) = true) (hne : rs ≠ [])
    (h : AllM P md ops Q S m fuel listed a w rs) : anyM P md ops Q S m (fuel + 1) listed a w :=
  ⟨fun h0 => absurd (eq_of_beq hr ▸ h0) hne, eq_of_beq hr ▸ h⟩
theorem anyM_done {listed : Array Bool} {a : Act} {w : World} (hr : (Region.ready md ops listed).isEmpty = true) (h : Q .normal a w) : ∀ fuel, anyM P md ops Q S m fuel listed a w
  | 0 => ⟨List.isEmpty_iff.1 hr, h⟩
  | _ + 1 => ⟨fun _ => h, by rw [List.isEmpty_iff.1 hr]; simp⟩
/-- The beginning. -/
theorem region_M {id : Nat} {a : Act} {w : World} (m : Nat) (S : World → Prop) (hm : P.follows .mixedOrders = true)
    (h : anyM P .any ops Q S m ops.size (Array.replicate ops.size false) a w.drew) : (Code.region id ops true).wp P Q a w :=
  wp_region_any hm (any_of_M _ _ _ _ h)
end

end Go.Proofs.YtppnahgiekjbnaaDoor
