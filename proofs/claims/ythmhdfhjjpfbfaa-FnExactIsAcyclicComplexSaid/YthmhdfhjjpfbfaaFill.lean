import Derived.Test.YthmhdfhjjpfbfaaRound
import Derived.Test.YthmhdfhjjpfbfaaBndM
import Derived.Test.YthmhdfhjjpfbfaaPlace
import Derived.Test.YthmhdfhjjpfbfaaClear
import Derived.Test.YthmhdfhjjpfbfaaFw
/-! fillBoundaries: the boundaries of faces, put into rows of zeros. -/
namespace Go.Proofs.Ythmhdfhjjpfbfaa
open Go.RowKit Go.Shelf

attribute [local go_sem] Oper.semAt_some

/-- The rows while row k is being filled: it has got the sides pre. -/
def fillM (F S : List Int) (p : Int) (w k : Nat) (pre : List (Fin 64 × Int)) : List (List Int) :=
  F.mapIdx fun i f => if i < k then bndRow S p (signedF f.toNat) else if i = k then bndRow S p pre else List.replicate w 0
theorem fillM_len (F S : List Int) (p : Int) (w k : Nat) (pre : List (Fin 64 × Int)) : (fillM F S p w k pre).length = F.length := by simp [fillM]
theorem fillM_get {F S : List Int} {p : Int} {w k : Nat} {pre : List (Fin 64 × Int)} {i : Nat} (hi : i < F.length) :
    (fillM F S p w k pre)[i]? = some (if i < k then bndRow S p (signedF (F[i]?.getD 0).toNat) else if i = k then bndRow S p pre else List.replicate w 0) := by
  simp [fillM, List.getElem?_eq_getElem hi]
theorem fillM_zero {F S : List Int} {p : Int} {w : Nat} (hp : p = 2 ∨ p = 3) (hw : S.length = w) : fillM F S p w 0 [] = List.replicate F.length (List.replicate w 0) := by
  apply List.ext_getElem?
  intro i
  by_cases hi : i < F.length
  · rw [fillM_get hi, List.getElem?_replicate, if_pos hi, if_neg (by omega)]
    split
    · rw [bndRow_nil S hp, hw]
    · rfl
  · rw [List.getElem?_eq_none (by rw [fillM_len]; omega), List.getElem?_eq_none (by simp; omega)]
theorem fillM_next {F S : List Int} {p : Int} {w k : Nat} (hp : p = 2 ∨ p = 3) (hw : S.length = w) : fillM F S p w k (signedF (F[k]?.getD 0).toNat) = fillM F S p w (k + 1) [] := by
  apply List.ext_getElem?
  intro i
  by_cases hi : i < F.length
  · rw [fillM_get hi, fillM_get hi]
    congr 1
    by_cases h1 : i < k
    · rw [if_pos h1, if_pos (by omega)]
    · by_cases h2 : i = k
      · subst h2; rw [if_neg h1, if_pos rfl, if_pos (by omega)]
      · rw [if_neg h1, if_neg h2, if_neg (by omega)]
        split
        · rw [bndRow_nil S hp, hw]
        · rfl
  · rw [List.getElem?_eq_none (by rw [fillM_len]; omega), List.getElem?_eq_none (by rw [fillM_len]; omega)]
theorem fillM_done {F S : List Int} {p : Int} {w : Nat} : fillM F S p w F.length [] = F.map fun f => bndRow S p (signedF f.toNat) := by
  apply List.ext_getElem?
  intro i
  by_cases hi : i < F.length
  · rw [fillM_get hi, if_pos hi]
    simp [List.getElem?_eq_getElem hi]
  · rw [List.getElem?_eq_none (by rw [fillM_len]; omega), List.getElem?_eq_none (by simp; omega)]
/-- One side more. -/
theorem fillM_snoc {F S : List Int} {p : Int} {w k : Nat} {pre : List (Fin 64 × Int)} {x : Fin 64 × Int} (hk : k < F.length) (hS : S.Pairwise (· < ·)) (h0 : ∀ s ∈ S, 0 ≤ s) (hn : ∀ y ∈ pre, y.1 ≠ x.1) (hm : ((x.1.val : Nat) : Int) ∈ S) :
    fillM F S p w k (pre ++ [x]) = (fillM F S p w k pre).set k (((fillM F S p w k pre)[k]?.getD []).set (S.idxOf ((x.1.val : Nat) : Int)) ((x.2 + p) % p)) := by
  have ek : (fillM F S p w k pre)[k]?.getD [] = bndRow S p pre := by rw [fillM_get hk, if_neg (by omega), if_pos rfl]; rfl
  rw [ek, ← bndRow_snoc hS h0 hn hm]
  apply List.ext_getElem?
  intro i
  by_cases hi : i < F.length
  · by_cases e : k = i
    · subst e
      rw [List.getElem?_set_self (by rw [fillM_len]; exact hi), fillM_get hi, if_neg (by omega), if_pos rfl]
    · rw [List.getElem?_set_ne e, fillM_get hi, fillM_get hi]
      congr 1
      by_cases h1 : i < k
      · rw [if_pos h1, if_pos h1]
      · rw [if_neg h1, if_neg h1, if_neg (fun h => e h.symm), if_neg (fun h => e h.symm)]
  · rw [List.getElem?_eq_none (by rw [fillM_len]; omega), List.getElem?_eq_none (by rw [List.length_set, fillM_len]; omega)]

/-- One number of a row is written. -/
theorem MatW.set1 {W : World} {B R n w : Nat} {ad : Ads} {M : List (List Int)} (h : MatW W B R n w ad M) {k j : Nat} (hk : k < n) (hj : j < w) (v : Int) :
    MatW (W.setCell ⟨(adr ad k).1, (adr ad k).2 + j, none⟩ (.int .i64 v)) B R n w ad (M.set k ((M[k]?.getD []).set j v)) := by
  have hl := h.wid k hk
  have e : W.setCell ⟨(adr ad k).1, (adr ad k).2 + j, none⟩ (.int .i64 v) = Sort.putRow encI (Sort.ahead W 0) (adr ad k).1 (adr ad k).2 ((M[k]?.getD []).set j v).toArray := by
    rw [← putRow_at W 0 _ _ (M[k]?.getD []) j v (by omega), Sort.ahead_zero, Sort.putRow_self encI W _ _ _ (h.row k hk)]
  rw [e]
  exact h.put hk 0 (by simp [hl])

/-- What the walk keeps of the world. -/
structure FillW (W W' : World) (B R n w : Nat) (ad : Ads) (p : Int) (sl sd : Value) (M : List (List Int)) (Ds : List Nat) : Prop where
  below : Below B W W'
  b4 : W'.heap[W.heap.size]? = some (.cells #[sl] 107 (0, 0))
  b6 : W'.heap[W.heap.size + 1]? = some (.cells #[sd] 22 (0, 0))
  b7 : W'.heap[W.heap.size + 2]? = some (.cells #[.int .i64 p] 2 (0, 0))
  mat : MatW W' B R n w ad M
  nodup : Ds.Nodup
  marks : ∀ D ∈ Ds, W.heap.size + 3 ≤ D ∧ W'.heap[D]? = some (.deferred (some []))

theorem FillW.size {W W' : World} {B R n w : Nat} {ad : Ads} {p : Int} {sl sd : Value} {M : List (List Int)} {Ds : List Nat} (h : FillW W W' B R n w ad p sl sd M Ds) : W.heap.size + 3 ≤ W'.heap.size := by
  have := lt_of_get h.b7; omega

/-- A turn of what lies beyond. -/
theorem FillW.turn {W W' W'' : World} {B R n w : Nat} {ad : Ads} {p : Int} {sl sd : Value} {M : List (List Int)} {Ds : List Nat} (h : FillW W W' B R n w ad p sl sd M Ds) (hB : B ≤ W.heap.size) (hR : R < W.heap.size) (ha : ∀ i, i < n → (adr ad i).1 < W.heap.size)
    {row : Option Nat} (hg : W'.grownBy W'' row) (hr : ∀ r, row = some r → W.heap.size + 3 ≤ r ∧ r ∉ Ds) : FillW W W'' B R n w ad p sl sd M Ds where
  below := h.below.grown hg (by have := h.size; omega) (fun k e => by have := (hr k e).1; omega)
  b4 := (hg.block _ (lt_of_get h.b4) (fun e => by have := (hr _ e.symm).1; omega)).trans h.b4
  b6 := (hg.block _ (lt_of_get h.b6) (fun e => by have := (hr _ e.symm).1; omega)).trans h.b6
  b7 := (hg.block _ (lt_of_get h.b7) (fun e => by have := (hr _ e.symm).1; omega)).trans h.b7
  mat := h.mat.keep hg.size (hg.block _ h.mat.head.2 (fun e => by have := (hr _ e.symm).1; omega)) (fun i hi => hg.block _ (h.mat.base i hi).2 (fun e => by have := (hr _ e.symm).1; have := ha i hi; omega))
  nodup := h.nodup
  marks := fun D hD => ⟨(h.marks D hD).1, (hg.block _ (lt_of_get (h.marks D hD).2) (fun e => (hr _ e.symm).2 hD)).trans (h.marks D hD).2⟩

theorem FillW.mark {W W' : World} {B R n w : Nat} {ad : Ads} {p : Int} {sl sd : Value} {M : List (List Int)} {Ds : List Nat} (h : FillW W W' B R n w ad p sl sd M Ds) {D : Nat} (hD : W'.heap[D]? = some (.deferred (some []))) (hb : W.heap.size + 3 ≤ D) (hn : D ∉ Ds) : FillW W W' B R n w ad p sl sd M (D :: Ds) where
  below := h.below
  b4 := h.b4
  b6 := h.b6
  b7 := h.b7
  mat := h.mat
  nodup := List.nodup_cons.2 ⟨hn, h.nodup⟩
  marks := fun E hE => by
    rcases List.mem_cons.1 hE with rfl | hE
    · exact ⟨hb, hD⟩
    · exact h.marks E hE

/-- A number more. -/
theorem FillW.set1 {W W' : World} {B R n w : Nat} {ad : Ads} {p : Int} {sl sd : Value} {M : List (List Int)} {Ds : List Nat} (h : FillW W W' B R n w ad p sl sd M Ds) (ha : ∀ i, i < n → (adr ad i).1 < W.heap.size) {k j : Nat} (hk : k < n) (hj : j < w) (v : Int) :
    FillW W (W'.setCell ⟨(adr ad k).1, (adr ad k).2 + j, none⟩ (.int .i64 v)) B R n w ad p sl sd (M.set k ((M[k]?.getD []).set j v)) Ds where
  below := h.below.setCell (p := ⟨(adr ad k).1, (adr ad k).2 + j, none⟩) (h.mat.base k hk).1 _
  b4 := (Below.heap_setCell _ _ _ _ (by have := ha k hk; simp only; omega)).trans h.b4
  b6 := (Below.heap_setCell _ _ _ _ (by have := ha k hk; simp only; omega)).trans h.b6
  b7 := (Below.heap_setCell _ _ _ _ (by have := ha k hk; simp only; omega)).trans h.b7
  mat := h.mat.set1 hk hj v
  nodup := h.nodup
  marks := fun D hD => ⟨(h.marks D hD).1, (Below.heap_setCell _ _ _ _ (by have := ha k hk; have := (h.marks D hD).1; simp only; omega)).trans (h.marks D hD).2⟩

theorem fill_ownIn {W : World} {B R n w : Nat} {ad : Ads} {p : Int} {sl sd : Value} {g : List (Fin 64 × Int) → List (List Int)} {Ds : List Nat} {lo k : Nat} (hB : B ≤ W.heap.size) (hR : R < W.heap.size) (ha : ∀ i, i < n → (adr ad i).1 < W.heap.size) (hlo : W.heap.size + 3 ≤ lo) (hD : ∀ D ∈ Ds, D < lo) :
    OwnIn lo k (fun pre W' => FillW W W' B R n w ad p sl sd (g pre) Ds) :=
  fun _ _ _ _ hs hg hr => hs.turn hB hR ha hg (fun r e => ⟨by have := (hr r e).1; omega, fun hm => by have := hD r hm; have := (hr r e).1; omega⟩)

theorem HI_of (a : Option Addr) (cap : Nat) (xs : List Int) (x : Int) (w : World) (B : Nat) (hx : SlI w B a xs) (hB : B ≤ w.heap.size) (hl : xs.length ≤ 1048576) (hm : x ∈ xs) :
    Calls Try.prog 120 #[.slice a xs.length cap, .int .i64 x] w fun e w' => e = .returned (.int .i64 (xs.idxOf x : Int)) ∧ w' = w :=
  (index_at a cap xs x w (hx.mono hB) hl hm).mono fun _ _ ⟨he, hw⟩ => ⟨he, hw.symm⟩

/-- The loop's state ahead of a round: k faces are done. -/
def FillInv (W : World) (B R n w cf cs b1 o1 : Nat) (ad : Ads) (p : Int) (F S : List Int) (as_ : Option Addr) (a' : Act) (W' : World) : Prop :=
  ∃ (k : Nat) (Ds : List Nat) (us : Nat → Value), a' = { tmps := #[.slice (some ⟨R, 0, none⟩) n n, .slice (some ⟨b1, o1, none⟩) n cf, .slice as_ w cs, .int .i64 p, .pointer (some ⟨W.heap.size, 0, none⟩), undef, .pointer (some ⟨W.heap.size + 1, 0, none⟩), .pointer (some ⟨W.heap.size + 1 + 1, 0, none⟩), us 8, us 9, us 10, us 11, .slice (some ⟨b1, o1, none⟩) n cf, .int .i64 (n : Int), .int .i64 (k : Int), us 15, us 16, us 17, us 18, us 19, us 20, us 21, us 22, us 23, us 24, us 25, us 26, us 27, us 28, us 29, us 30, us 31, us 32, us 33, us 34, us 35, us 36], defers := marks Ds } ∧ k ≤ n ∧ Hid (FillW W W' B R n w ad p (.slice (some ⟨R, 0, none⟩) n n) (.slice as_ w cs) (fillM F S p w k []) Ds)
theorem fillInv_of {W W' : World} {B R n w cf cs b1 o1 : Nat} {ad : Ads} {p : Int} {F S : List Int} {as_ : Option Addr} {k : Nat} {Ds : List Nat} (tm : Array Value) (ds : List Deferred) (hds : ds = marks Ds) (h : tm = #[.slice (some ⟨R, 0, none⟩) n n, .slice (some ⟨b1, o1, none⟩) n cf, .slice as_ w cs, .int .i64 p, .pointer (some ⟨W.heap.size, 0, none⟩), undef, .pointer (some ⟨W.heap.size + 1, 0, none⟩), .pointer (some ⟨W.heap.size + 1 + 1, 0, none⟩), tm.getD 8 undef, tm.getD 9 undef, tm.getD 10 undef, tm.getD 11 undef, .slice (some ⟨b1, o1, none⟩) n cf, .int .i64 (n : Int), .int .i64 (k : Int), tm.getD 15 undef, tm.getD 16 undef, tm.getD 17 undef, tm.getD 18 undef, tm.getD 19 undef, tm.getD 20 undef, tm.getD 21 undef, tm.getD 22 undef, tm.getD 23 undef, tm.getD 24 undef, tm.getD 25 undef, tm.getD 26 undef, tm.getD 27 undef, tm.getD 28 undef, tm.getD 29 undef, tm.getD 30 undef, tm.getD 31 undef, tm.getD 32 undef, tm.getD 33 undef, tm.getD 34 undef, tm.getD 35 undef, tm.getD 36 undef]) (hk : k ≤ n)
    (H : Hid (FillW W W' B R n w ad p (.slice (some ⟨R, 0, none⟩) n n) (.slice as_ w cs) (fillM F S p w k []) Ds)) : FillInv W B R n w cf cs b1 o1 ad p F S as_ { tmps := tm, defers := ds } W' :=
  ⟨k, Ds, fun i => tm.getD i undef, by rw [hds]; exact congrArg (fun t => ({ tmps := t, defers := marks Ds } : Act)) h, hk, H⟩

set_option maxRecDepth 1000000 in
set_option maxHeartbeats 4000000 in
theorem fill_in (B R n w cf cs : Nat) (ad : Ads) (p : Int) (F S : List Int) (b1 o1 : Nat) (as_ : Option Addr) (W : World) (hM : MatW W B R n w ad (List.replicate n (List.replicate w 0))) (hF : F.length = n) (hS : S.length = w)
    (hb1 : b1 < B) (cF : ∀ i, i < F.length → W.cell? ⟨b1, o1 + i, none⟩ = some (.int .i64 (F[i]?.getD 0))) (xS : SlI W B as_ S) (hB : B ≤ W.heap.size) (hp : p = 2 ∨ p = 3) (hFr : ∀ x ∈ F, 1 ≤ x ∧ x ≤ 63) (hSa : S.Pairwise (· < ·)) (hS0 : ∀ s ∈ S, 0 ≤ s)
    (hsd : ∀ f ∈ F, ∀ x ∈ signedF f.toNat, ((x.1.val : Nat) : Int) ∈ S) (hn : n ≤ 1000) (hw : w ≤ 1000) :
    CallsIn Fence.wide 10 Try.prog 127 #[.slice (some ⟨R, 0, none⟩) n n, .slice (some ⟨b1, o1, none⟩) n cf, .slice as_ w cs, .int .i64 p] W fun e W' => (∃ v, e = .returned v) ∧ MatW W' B R n w ad (F.map fun f => bndRow S p (signedF f.toNat)) ∧ Below B W W' := by
  have hRW := hM.head.2
  have haW : ∀ i, i < n → (adr ad i).1 < W.heap.size := fun i hi => (hM.base i hi).2
  have hF0 : FillW W (((W.alloc (.cells #[.slice (some ⟨R, 0, none⟩) n n] 107)).alloc (.cells #[.slice as_ w cs] 22)).alloc (.cells #[.int .i64 p] 2)) B R n w ad p (.slice (some ⟨R, 0, none⟩) n n) (.slice as_ w cs) (fillM F S p w 0 []) [] := by
    have e3 := heap_alloc_new ((W.alloc (.cells #[.slice (some ⟨R, 0, none⟩) n n] 107)).alloc (.cells #[.slice as_ w cs] 22)) (.cells #[.int .i64 p] 2)
    rw [World.size_alloc, World.size_alloc] at e3
    have e2 := heap_alloc_new (W.alloc (.cells #[.slice (some ⟨R, 0, none⟩) n n] 107)) (.cells #[.slice as_ w cs] 22)
    rw [World.size_alloc] at e2
    exact {
      below := ((((Below.refl _ W).alloc (Nat.le_refl _) _).alloc (by simp) _).alloc (by simp <;> omega) _).mono hB
      b4 := (Below.heap_alloc _ _ _ (by simp <;> omega)).trans ((Below.heap_alloc _ _ _ (by simp)).trans (heap_alloc_new _ _))
      b6 := (Below.heap_alloc _ _ _ (by simp <;> omega)).trans e2
      b7 := e3
      mat := by
        rw [fillM_zero hp hS, hF]
        have hk : ∀ b, b < W.heap.size → (((W.alloc (.cells #[.slice (some ⟨R, 0, none⟩) n n] 107)).alloc (.cells #[.slice as_ w cs] 22)).alloc (.cells #[.int .i64 p] 2)).heap[b]? = W.heap[b]? := fun b hb =>
          (Below.heap_alloc _ _ _ (by simp <;> omega)).trans ((Below.heap_alloc _ _ _ (by simp <;> omega)).trans (Below.heap_alloc _ _ _ hb))
        exact hM.keep (by simp <;> omega) (hk R hRW) (fun i hi => hk _ (haW i hi))
      nodup := by simp
      marks := by simp }
  have HF0 := hid hF0
  have HFr := hid hFr
  have CF := hid cF
  have XS := hid xS
  have Hsd := hid hsd
  have HaW := hid haW
  clear hF0 hM hFr cF xS hsd haW
  refine callsIn_of_wp_marks Try.func127 rfl trivial ?_ rfl
  simp only [Try.ntmps127, List.size_toArray, List.length_cons, List.length_nil, Nat.reduceAdd, Nat.reduceSub, Array.replicate_succ, Array.replicate_zero, List.push_toArray, List.append_toArray, List.nil_append, List.cons_append]
  gi_wp2
  refine wpIn_loop (FillInv W B R n w cf cs b1 o1 ad p F S as_) (fun a' _ => n - (intOf (a'.tmps.getD 14 undef)).toNat) ?start ?round
  case start => exact fillInv_of (k := 0) (Ds := []) _ _ rfl rfl (Nat.zero_le _) HF0
  case round =>
    rintro a Wk ⟨k, Ds, us, rfl, hk, HW⟩
    clear HF0
    have hsz := HW.out.size
    by_cases hlt : k < n
    · obtain ⟨x, hx⟩ : ∃ x, x = F[k]?.getD 0 := ⟨_, rfl⟩
      have hxm : x ∈ F := by rw [hx]; exact getD_mem (by omega)
      have hxr := HFr.out _ hxm
      have hck : Wk.cell? ⟨b1, o1 + k, none⟩ = some (.int .i64 x) := by rw [hx]; exact (HW.out.below.cell (p := ⟨b1, o1 + k, none⟩) hb1).trans (CF.out k (by omega))
      have Hsx := hid (Hsd.out x hxm)
      have Hx1 := hid hx
      have hi0 : (0 : Int) ≤ (k : Int) := by omega
      have hi1 : (k : Int) < (n : Int) := by omega
      obtain ⟨f, rfl⟩ : ∃ f : Nat, x = f := ⟨x.toNat, by omega⟩
      rw [Int.toNat_natCast] at Hsx
      have hf : f < 64 := by omega
      clear hx hxm
      gi_wp2_with (first
        | (refine ⟨trivial, ?_⟩; gi_at_call 60; refine (signedSides_in _ _ _).mono ?_; rintro e w' ⟨rfl, rfl⟩))
      obtain ⟨W2, hW2⟩ : ∃ W2, W2 = ((Wk.alloc (.cells #[.int .i64 (k : Int)] 3)).alloc (.cells #[.int .i64 (f : Int)] 2)) := ⟨_, rfl⟩
      have hbi : W2.heap[Wk.heap.size]? = some (.cells #[.int .i64 (k : Int)] 3 (0, 0)) := by rw [hW2]; exact (Below.heap_alloc _ _ _ (by simp)).trans (heap_alloc_new _ _)
      have hbf : W2.heap[Wk.heap.size + 1]? = some (.cells #[.int .i64 (f : Int)] 2 (0, 0)) := by rw [hW2]; have := heap_alloc_new (Wk.alloc (.cells #[.int .i64 (k : Int)] 3)) (.cells #[.int .i64 (f : Int)] 2); rwa [World.size_alloc] at this
      have hs2 : W2.heap.size = Wk.heap.size + 2 := by rw [hW2]; simp
      have hFW2 : FillW W W2 B R n w ad p (.slice (some ⟨R, 0, none⟩) n n) (.slice as_ w cs) (fillM F S p w k []) Ds := by
        rw [hW2]
        exact (HW.out.turn hB hRW HaW.out (World.grownBy_alloc Wk _ none) (fun r e => by cases e)).turn hB hRW HaW.out (World.grownBy_alloc _ _ none) (fun r e => by cases e)
      have hDs : ∀ D ∈ Ds, D < Wk.heap.size := fun D hD => lt_of_get (HW.out.marks D hD).2
      have HDs := hid hDs
      rw [← hW2]
      clear hW2 HW hck hDs
      refine wpIn_rangeFunc_P rfl (by decide) (gf := 103) (lb := #[.pointer (some ⟨Wk.heap.size + 1, 0, none⟩)]) rfl trivial (enters_of Try.func103 (by kernel_rfl) rfl)
        (signed_P 9 (by decide) (Wk.heap.size + 1) f hf W2 (by omega) hbf) (by simp; omega) (Below.refl _ _) (fun _ => rfl)
        (fun pre W' => FillW W W' B R n w ad p (.slice (some ⟨R, 0, none⟩) n n) (.slice as_ w cs) (fillM F S p w k pre) Ds ∧ W'.heap[Wk.heap.size]? = some (.cells #[.int .i64 (k : Int)] 3 (0, 0)))
        (fun _ _ _ => False)
        (OwnIn.and (fill_ownIn hB hRW HaW.out (by omega) (fun D hD => by have := HDs.out D hD; omega)) (ownIn_block (β := List (Fin 64 × Int)) (fun _ => _) (by omega)))
        (fun _ => ownIn_pure _ _ _)
        ⟨hFW2, hbi⟩
        (fun x => { tmps := #[.slice (some ⟨R, 0, none⟩) n n, .slice (some ⟨b1, o1, none⟩) n cf, .slice as_ w cs, .int .i64 p, .pointer (some ⟨W.heap.size, 0, none⟩), undef, .pointer (some ⟨W.heap.size + 1, 0, none⟩), .pointer (some ⟨W.heap.size + 1 + 1, 0, none⟩), .pointer (some ⟨Wk.heap.size, 0, none⟩), .int .i64 (f : Int), .int .i64 (x.1.val : Int), .int .i64 x.2, .slice (some ⟨b1, o1, none⟩) n cf, .int .i64 (n : Int), .int .i64 (k : Int), .bool true, .int .i64 (k : Int), .pointer (some ⟨b1, o1 + k, none⟩), .int .i64 (f : Int), .int .i64 (f : Int), .func (.func 103) #[] #[.pointer (some ⟨Wk.heap.size + 1, 0, none⟩)], .int .i64 (x.1.val : Int), .int .i64 x.2, us 23, us 24, us 25, us 26, us 27, us 28, us 29, us 30, us 31, us 32, us 33, us 34, us 35, us 36], defers := [] }) ?assign ?body ?done ?stop
      case assign =>
        intro l x W3 K hK
        gi_wp2
        exact hK
      case body =>
        rintro l pre x W3 hpre hsz3 ⟨hW3, hb8⟩
        have hxm : x ∈ signedF f := by
          obtain ⟨t, ht⟩ := hpre
          rw [← ht]; simp
        have hss := (signed_sub ⟨f, hf⟩ x hxm).2.2.2
        have hmS := Hsx.out x hxm
        have hnew := nodup_snoc (signed_nodup ⟨f, hf⟩) hpre
        have hst := fillM_snoc (F := F) (w := w) (p := p) (k := k) (by omega) hSa hS0 hnew hmS
        have hil := List.idxOf_lt_length_of_mem hmS
        have hq := HI_of as_ cs S ((x.1.val : Nat) : Int) W3.drew B (XS.out.below (below_drewN hW3.below 1)) (by have := hW3.size; simp; omega) (by omega) hmS
        rw [hS] at hq hil
        obtain ⟨q, hqq⟩ : ∃ q, q = S.idxOf ((x.1.val : Nat) : Int) := ⟨_, rfl⟩
        rw [← hqq] at hst hil hq
        obtain ⟨c4, _⟩ := box_cell hW3.b4
        obtain ⟨c6, _⟩ := box_cell hW3.b6
        obtain ⟨c7, _⟩ := box_cell hW3.b7
        obtain ⟨c8, _⟩ := box_cell hb8
        have crow := (hW3.mat.hd k hlt).1
        obtain ⟨cst, fst_⟩ := hW3.mat.at hlt hil
        obtain ⟨v, hv⟩ : ∃ v, v = (x.2 + p) % p := ⟨_, rfl⟩
        rw [← hv] at hst
        have hsum : IntKind.i64.wrap (x.2 + p) = x.2 + p := IntWalk.i64_in _ (by omega)
        have hrem : (x.2 + p).tmod p = v := by rw [hv, Int.tmod_eq_emod_of_nonneg (by omega)]
        have hpn : ¬ (p = 0) := by omega
        have hq0 : (0 : Int) ≤ (q : Int) := by omega
        have hq1 : (q : Int) < (w : Int) := by omega
        have hset := hW3.set1 HaW.out hlt hil v
        rw [← hst] at hset
        have Hset := hid hset
        have HQ := hid hq
        have Hb8 := hid hb8
        have Hsz3 := hid hsz3
        have HbR := hid (HaW.out k hlt)
        clear hpre hxm hmS hnew hst hv hqq hset hq hb8 hW3 hsz3
        gi_wp2
        refine wpIn_round_tail 13 (by kernel_rfl) (by kernel_rfl) (by kernel_rfl) ?_
        simp only [List.take_succ_cons, List.take_zero, List.drop_succ_cons, List.drop_zero]
        iterate 6 still_step
        still_call HQ.out
        iterate 6 still_step
        refine wpStill_nil ?_
        go_wp2
        refine ⟨rfl, ?_, ?_, ?_⟩
        · exact (KeepP.setCell _ _ _ _ (by have := HbR.out; simp <;> omega)).trans ⟨Nat.le_refl _, fun _ _ => rfl⟩
        · exact Hset.out.turn hB hRW HaW.out (grown_drewN _ 1) (fun r e => by cases e)
        · exact (Below.heap_setCell _ _ _ _ (by have := HbR.out; simp only; omega)).trans Hb8.out
      case done =>
        rintro W3 ⟨hW3, hb8⟩ hD
        have hWm := hW3.mark hD (by omega) (fun hm => by have := HDs.out _ hm; omega)
        have hnx := fillM_next (F := F) (S := S) (p := p) (w := w) (k := k) hp hS
        rw [← Hx1.out, Int.toNat_natCast] at hnx
        have hWm' : FillW W W3 B R n w ad p (.slice (some ⟨R, 0, none⟩) n n) (.slice as_ w cs) (fillM F S p w (k + 1) []) (W2.heap.size :: Ds) := by
          rw [← hnx]; exact hWm
        have HWm := hid hWm'
        clear hWm hWm' hnx hW3 hb8 hD
        gi_wp2
        refine ⟨fillInv_of (k := k + 1) (Ds := W2.heap.size :: Ds) _ _ rfl rfl (by omega) HWm, ?_⟩
        simp [intOf]
        omega
      case stop =>
        rintro c pre W3 hpre hF hD
        exact hF.elim
    · obtain rfl : k = n := by omega
      have hMd := HW.out.mat
      rw [show fillM F S p w k [] = F.map (fun f => bndRow S p (signedF f.toNat)) by rw [← hF]; exact fillM_done] at hMd
      have HMd := hid hMd
      clear hMd
      gi_wp2
      refine leaves_marks (by simp) Ds _ HW.out.nodup (fun D hD => (HW.out.marks D hD).2) (fun w' hw' => ?_)
      refine ⟨_, results_none rfl _ _ _, ⟨_, rfl⟩, ?_, HW.out.below.trans (hw'.below (fun D hD => by have := (HW.out.marks D hD).1; omega))⟩
      exact HMd.out.keep (by rw [hw'.size]; exact Nat.le_refl _) (hw'.block _ (fun hm => by have := (HW.out.marks _ hm).1; omega)) (fun i hi => hw'.block _ (fun hm => by have := (HW.out.marks _ hm).1; have := HaW.out i hi; omega))

end Go.Proofs.Ythmhdfhjjpfbfaa
