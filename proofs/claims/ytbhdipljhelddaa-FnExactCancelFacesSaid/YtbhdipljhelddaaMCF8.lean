import Derived.Shelf.SlSortCmp.WholeK
import Derived.Sort.OwnSortedInts
import Derived.Deep.RegionHeld3
import Derived.OrdersIn
import Derived.Test.YtbhdipljhelddaaMCF1
import Derived.Test.YtbhdipljhelddaaMCF2
import Derived.Test.YtbhdipljhelddaaMCF3
import Derived.Test.YtbhdipljhelddaaMCF5
import Derived.Test.YtbhdipljhelddaaMCF6
import Derived.Test.YtbhdipljhelddaaMCF7
/-! slices.SortFunc over pairs. -/
namespace Go.Proofs.Ytbhdipljhelddaa
open Go.RowKit Go.Sort Go.Lib

set_option maxRecDepth 100000 in
set_option maxHeartbeats 1000000 in
/-- comparePairs: what it lays. -/
theorem cp_lays (x y x' y' : Int) (w : World) :
    Calls Try.prog 59 #[.agg #[.int .i64 x, .int .i64 y], .agg #[.int .i64 x', .int .i64 y']] w fun e w' => e = .returned (.int .i64 (cmpP x y x' y')) ∧ ∃ q os, w' = grow (w.drewN q) os := by
  go_enter Try.func59, Try.ntmps59
  go_wp2
  have q0 : ((w.alloc (.cells #[.int .i64 x, .int .i64 y] 65)).alloc (.cells #[.int .i64 x', .int .i64 y'] 65)).cell? ⟨w.heap.size, 0, none⟩ = some (.int .i64 x) := by simp [go_sem]
  have q1 : ((w.alloc (.cells #[.int .i64 x, .int .i64 y] 65)).alloc (.cells #[.int .i64 x', .int .i64 y'] 65)).cell? ⟨w.heap.size, 1, none⟩ = some (.int .i64 y) := by simp [go_sem]
  have q2 : ((w.alloc (.cells #[.int .i64 x, .int .i64 y] 65)).alloc (.cells #[.int .i64 x', .int .i64 y'] 65)).cell? ⟨w.heap.size + 1, 0, none⟩ = some (.int .i64 x') := by simp [go_sem]
  have q3 : ((w.alloc (.cells #[.int .i64 x, .int .i64 y] 65)).alloc (.cells #[.int .i64 x', .int .i64 y'] 65)).cell? ⟨w.heap.size + 1, 1, none⟩ = some (.int .i64 y') := by simp [go_sem]
  have hsz : ((w.alloc (.cells #[.int .i64 x, .int .i64 y] 65)).alloc (.cells #[.int .i64 x', .int .i64 y'] 65)).heap.size = w.heap.size + 1 + 1 := by simp
  obtain ⟨W, hW⟩ : ∃ W, W = (w.alloc (.cells #[.int .i64 x, .int .i64 y] 65)).alloc (.cells #[.int .i64 x', .int .i64 y'] 65) := ⟨_, rfl⟩
  rw [← hW] at q0 q1 q2 q3 hsz ⊢
  have HW := hid hW
  clear hW
  go_region_held3 (fun w' => w'.cell? ⟨w.heap.size, 0, none⟩ = some (.int .i64 x) ∧ w'.cell? ⟨w.heap.size, 1, none⟩ = some (.int .i64 y) ∧ w'.cell? ⟨w.heap.size + 1, 0, none⟩ = some (.int .i64 x') ∧ w'.cell? ⟨w.heap.size + 1, 1, none⟩ = some (.int .i64 y')) (go_keep) (first
    | (go_at_call 123; refine (cmp_any _ _ _).mono ?_; rintro e w' ⟨rfl, rfl⟩)
    | (go_at_call 122; refine (or_any (cmpI x x') (cmpI y y') _ _ (two_new_d W _ hsz _ _ _).1 (two_new_d W _ hsz _ _ _).2).mono ?_; rintro e w' ⟨rfl, rfl⟩))
  all_goals
    go_wp2_with fail
    go_ret
    exact ⟨rfl, 1, _, by rw [HW.out, alloc_eq_grow, alloc_eq_grow, alloc_eq_grow, grow_grow, grow_grow]; rfl⟩

/-- A pair's two cells. -/
def encP (p : Int × Int) : List Value := [.int .i64 p.1, .int .i64 p.2]
def cmpF (p q : Int × Int) : Int := cmpP p.1 p.2 q.1 q.2
theorem ltF (p q : Int × Int) : ltOf cmpF p q = lessP p.1 p.2 q.1 q.2 := by
  unfold ltOf cmpF
  rw [Bool.eq_iff_iff, decide_eq_true_eq]
  exact cmpP_neg ..
theorem sworder : SWO (ltOf cmpF) where
  irrefl x := by rw [ltF]; unfold lessP; simp
  trans x y z h1 h2 := by
    rw [ltF] at *
    unfold lessP at *
    simp only [Bool.or_eq_true, Bool.and_eq_true, decide_eq_true_eq] at *
    omega
  ntrans x y z h1 h2 := by
    rw [ltF] at *
    unfold lessP at *
    simp only [Bool.or_eq_false_iff, Bool.and_eq_false_iff, decide_eq_false_iff_not] at *
    omega

theorem flatP_map (L : List (Int × Int)) : (flatP L).map (Value.int .i64) = L.flatMap encP := by
  unfold flatP encP
  rw [List.map_flatMap]
  rfl
theorem flatMap_at : ∀ (L : List (Int × Int)) (t : Nat), t < 2 * L.length → (L.flatMap encP)[t]? = (encP (L[t / 2]?.getD (0, 0)))[t % 2]?
  | [], t, h => by simp at h
  | p :: L, 0, _ => rfl
  | p :: L, 1, _ => rfl
  | p :: L, t + 2, h => by
    have ih := flatMap_at L t (by simp at h; omega)
    have e : (p :: L).flatMap encP = .int .i64 p.1 :: .int .i64 p.2 :: L.flatMap encP := rfl
    rw [e, List.getElem?_cons_succ, List.getElem?_cons_succ, ih]
    have h1 : (t + 2) / 2 = t / 2 + 1 := by omega
    have h2 : (t + 2) % 2 = t % 2 := by omega
    rw [h1, h2, List.getElem?_cons_succ]
theorem flatMap_len (L : List (Int × Int)) : (L.flatMap encP).length = 2 * L.length := by rw [← flatP_map, List.length_map, flatP_len]
theorem flatK_eq (d : Array (Int × Int)) : flatK encP 2 d = (d.toList.flatMap encP).toArray := by
  refine ext_get! (by have h := flatMap_len d.toList; rw [Array.length_toList] at h; rw [size_flatK]; refine Eq.trans ?_ h.symm; exact Nat.mul_comm _ _) fun t ht => ?_
  have ht' : t < d.size * 2 := by simpa using ht
  rw [get_flatK _ _ _ _ ht']
  have h1 := flatMap_at d.toList t (by simp; omega)
  have h2 : t / 2 < d.size := by omega
  have h3 : t < (d.toList.flatMap encP).length := by rw [flatMap_len]; simp; omega
  rw [getElem!_pos d _ h2]
  rw [getElem!_pos (d.toList.flatMap encP).toArray t (by simpa using h3)]
  rw [List.getElem_toArray]
  rw [List.getElem?_eq_getElem h3] at h1
  have h4 : (d.toList[t / 2]?.getD (0, 0)) = d[t / 2] := by rw [List.getElem?_eq_getElem (by simpa using h2)]; simp
  rw [h4] at h1
  have h5 : t % 2 = 0 ∨ t % 2 = 1 := by omega
  rcases h5 with e | e
  · rw [e] at h1 ⊢
    simp only [encP, List.getElem?_cons_zero, Option.some.injEq] at h1
    simp [encP, h1]
  · rw [e] at h1 ⊢
    simp only [encP, List.getElem?_cons_succ, List.getElem?_cons_zero, Option.some.injEq] at h1
    simp [encP, h1]

theorem holdsV {w : World} {g : Nat} {cur : Array Value} {e : TypeId} {vs : List Value} (hb : w.heap[g]? = some (.cells cur e (0, 0))) (ht : cur.toList.take vs.length = vs) : Holds id w g 0 vs.toArray := by
  intro j hj
  have hj' : j < vs.length := by simpa using hj
  refine ⟨?_, by simp [World.frozen?, hb]⟩
  have h1 : (cur.toList.take vs.length)[j]? = vs[j]? := by rw [ht]
  rw [List.getElem?_take_of_lt hj'] at h1
  simp only [World.cell?, hb, Nat.zero_add]
  simp only [Option.isSome_none, Bool.false_eq_true, if_false]
  rw [← Array.getElem?_toList, h1]
  simp [hj']
theorem heapV {w : World} {g n : Nat} {os : Array Obj} {cur : Array Value} {e : TypeId} {fr : Nat × Nat} (d : Array Value) (hb : w.heap[g]? = some (.cells cur e fr)) :
    (grow (putRow id (Sort.ahead w n) g 0 d) os).heap[g]? = some (.cells (putCells id 0 d cur) e fr) := by
  have hg : g < w.heap.size := (Array.getElem?_eq_some_iff.1 hb).1
  rw [heap_grow_old _ _ (by simpa using hg)]
  simp [putRow, mapBlock, Sort.ahead, Array.getElem?_modify, hb, onCells]
theorem grownV {w : World} {g n : Nat} {os : Array Obj} (d : Array Value) : w.grownBy (grow (putRow id (Sort.ahead w n) g 0 d) os) (some g) := by
  refine ⟨rfl, rfl, rfl, by simp, fun k hk hne => ?_⟩
  rw [heap_grow_old _ _ (by simpa using hk)]
  have : g ≠ k := fun e => hne (by rw [e])
  simp [putRow, mapBlock, Sort.ahead, Array.getElem?_modify, this]
theorem takeV (cur : Array Value) (ts : List Value) (h : ts.length ≤ cur.size) : (putCells id 0 ts.toArray cur).toList.take ts.length = ts := by
  apply List.ext_getElem?
  intro j
  by_cases hj : j < ts.length
  · rw [List.getElem?_take_of_lt hj, Array.getElem?_toList]
    simp [putCells, hj, show j < cur.size by omega]
  · rw [List.getElem?_take_eq_none (by omega), List.getElem?_eq_none (by omega)]

/-- slices.SortFunc with comparePairs on a row of the call's own. -/
theorem sortP_any (base g n cap : Nat) (L : List (Int × Int)) (w : World) (hL : L.length = n) (hown : w.ownsRow base 65 2 (.slice (some ⟨g, 0, none⟩) n cap) n ((flatP L).map (Value.int .i64))) (hn : n ≤ 1048576) :
    Calls Try.prog 177 #[.slice (some ⟨g, 0, none⟩) n cap, .func (.func 59) #[] #[]] w fun e w' =>
      e = .returned (.tuple #[]) ∧ w'.ownsRow base 65 2 (.slice (some ⟨g, 0, none⟩) n cap) n ((flatP (insAll L)).map (Value.int .i64)) ∧ w.grownBy w' (some g) := by
  subst hL
  rcases hown.2 with ⟨hv, _⟩ | ⟨g', cap', cur, hv, hg, hh, h1, h2, h3, h4⟩
  · cases hv
  cases hv
  have hfl : (flatK encP 2 L.toArray) = ((flatP L).map (Value.int .i64)).toArray := by rw [flatK_eq, flatP_map]
  have hH : HoldsK encP 2 w g 0 L.toArray := by
    unfold HoldsK
    rw [hfl]
    refine holdsV hh ?_
    rw [List.length_map, flatP_len, Nat.mul_comm]
    exact h4
  have hent : ∀ args w, (callFunc 59 args).run Try.prog w = .ok (.enter 59 args) w := enters_of Try.func59 (by kernel_rfl) rfl
  have hcon := AnyQ.slices_SortFunc sortFL 2 Try.isAgg65 Try.sizeOf65 encP (fun _ => rfl) (fun x v hv => by simp [encP] at hv; rcases hv with rfl | rfl <;> rfl) cmpF sworder 59 #[] g 0 cap L.toArray w hent
    (fun m os dk _ x y => cp_lays x.1 x.2 y.1 y.2 _) hH (lt_of_get hh) (by simp; omega)
  refine Calls.mono hcon ?_
  rintro e w' ⟨rfl, d', m, os, hp, hs, rfl⟩
  obtain ⟨p1, _, p3⟩ := hp
  have hsz : d'.size = L.length := by simpa using p1
  have hperm : d'.toList.Perm L := by
    have e1 : d'.extract 0 L.toArray.size = d' := by rw [show L.toArray.size = d'.size by rw [p1]]; exact Array.extract_size ..
    have e2 : L.toArray.extract 0 L.toArray.size = L.toArray := Array.extract_size ..
    rw [e1, e2] at p3
    exact p3
  have hasc : d'.toList.Pairwise leP := by
    refine List.pairwise_iff_getElem.2 fun i j hi hj hij => ?_
    have hi' : i < d'.size := by simpa using hi
    have hj' : j < d'.size := by simpa using hj
    have h := hs i j (Nat.zero_le _) hij (by rw [← p1]; exact hj')
    rw [ltF, getElem!_pos d' j hj', getElem!_pos d' i hi'] at h
    exact h
  have he : d'.toList = insAll L := insAll_eq hperm hasc
  have hfl' : flatK encP 2 d' = ((flatP (insAll L)).map (Value.int .i64)).toArray := by rw [flatK_eq, flatP_map, he]
  unfold sortWorldK putRowK
  rw [hfl']
  have hlen : ((flatP (insAll L)).map (Value.int .i64)).length = L.length * 2 := by rw [List.length_map, flatP_len, insAll_len, Nat.mul_comm]
  refine ⟨rfl, ⟨hlen, .inr ⟨g, cap, _, rfl, hg, heapV _ hh, h1, h2, by simp [putCells, h3], ?_⟩⟩, grownV _⟩
  rw [← hlen]
  exact takeV cur _ (by rw [hlen, h3]; exact Nat.mul_le_mul_right 2 h1)

end Go.Proofs.Ytbhdipljhelddaa

/-! sumModuloTwo over pairs. -/
namespace Go.Proofs.Ytbhdipljhelddaa
open Go.RowKit Go.Sort Go.Lib

/-- slices.SortedFunc over slices.Values, from the world in which the iterator lies. -/
theorem sortedFP_any (a : Option Addr) (cap : Nat) (xs : List (Int × Int)) (w : World) (hx : SlI w w.heap.size a (flatP xs)) (hl : xs.length ≤ 1048576) (h0 : xs ≠ []) :
    Calls Try.prog 119 #[.func (.func 178) #[] #[.pointer (some ⟨w.heap.size, 0, none⟩)], .func (.func 59) #[] #[]] (w.alloc (.cells #[.slice a xs.length cap] 37)) fun e w' => ∃ v, e = .returned v ∧ ResP (w.alloc (.cells #[.slice a xs.length cap] 37)) w' v (insAll xs) := by
  have hB : Go.RowKit.Below w.heap.size w (w.alloc (.cells #[.slice a xs.length cap] 37)) := (Go.RowKit.Below.refl _ w).alloc (Nat.le_refl _) _
  have h := collectP_in (α := Int × Int) 20 (by decide) 178 #[.pointer (some ⟨w.heap.size, 0, none⟩)] (enters_of Try.func178 (by kernel_rfl) rfl) (fun x => x) (w.heap.size :: rowBp a xs) xs (w.alloc (.cells #[.slice a xs.length cap] 37)) (fun b hb => by
    rcases List.mem_cons.1 hb with rfl | hb
    · simp
    · unfold rowBp at hb
      split at hb
      · simp at hb
      · rcases hx with h | ⟨b', off, hb', rfl, _⟩
        · have := flatP_len xs
          rw [h] at this; simp at this; omega
        · simp at hb; subst hb; simp; omega) hl (valuesP_P 18 (by decide) w.heap.size a cap xs _ (heap_alloc_new _ _) (hx.later hB hB.size) hl)
  rw [List.map_id'] at h
  obtain ⟨W, hW⟩ : ∃ W, W = w.alloc (.cells #[.slice a xs.length cap] 37) := ⟨_, rfl⟩
  rw [← hW] at h ⊢
  have HC := hid (callsIn_wide.1 h)
  have Hl := hid hl
  have H0 := hid h0
  clear h hB hx hW h0
  go_enter Try.func119, Try.ntmps119
  go_wp2_with fail
  refine HC.out.mono ?_
  rintro e w1 ⟨v, rfl, hr⟩
  obtain ⟨k, hk⟩ : ∃ k, xs.length = k + 1 := ⟨xs.length - 1, by have := List.length_pos_iff.2 H0.out; omega⟩
  have ho := hr.1
  rw [hk] at ho
  obtain ⟨g, c, rfl⟩ := ownsRow_succ ho
  have HS := hid (sortP_any W.heap.size g (k + 1) c xs w1 hk ho (by have := Hl.out; omega))
  have HB := hid hr.2
  have Hk := hid hk
  clear hr ho hk
  go_wp2_with fail
  refine HS.out.mono ?_
  rintro e w2 ⟨rfl, hown2, hg2⟩
  have Ho2 := hid hown2
  have HB2 := hid (HB.out.grown hg2 HB.out.size (fun r e => by cases e; exact (hown2.lt g rfl).1))
  clear hown2 hg2
  go_wp2_with fail
  go_ret
  refine ⟨_, rfl, ?_, HB2.out⟩
  rw [insAll_len, Hk.out]
  exact Ho2.out

/-! What is in a list an odd number of times. -/
theorem OddP.nil : OddP [] [] := ⟨List.Pairwise.nil, List.nodup_nil, fun p => by simp⟩
/-- One pair more, not ahead of any. -/
def stkP (s : List (Int × Int)) (x : Int × Int) : List (Int × Int) := if s[s.length - 1]?.getD (0, 0) = x ∧ s ≠ [] then s.take (s.length - 1) else s ++ [x]
theorem ascP_last {s : List (Int × Int)} (h : s.Pairwise leP) {x : Int × Int} (hx : x ∈ s) (hle : ∀ y ∈ s, leP y x) : s[s.length - 1]?.getD (0, 0) = x := by
  have hl : 0 < s.length := List.length_pos_of_mem hx
  obtain ⟨i, hi, rfl⟩ := List.getElem_of_mem hx
  rw [List.getElem?_eq_getElem (by omega)]
  simp only [Option.getD_some]
  by_cases e : i = s.length - 1
  · simp [e]
  · have h1 := List.pairwise_iff_getElem.1 h i (s.length - 1) hi (by omega) (by omega)
    have h2 := hle _ (List.getElem_mem (by omega : s.length - 1 < s.length))
    exact leP_anti h2 h1
theorem OddP.step {p s : List (Int × Int)} {x : Int × Int} (h : OddP p s) (hp : ∀ y ∈ p, leP y x) : OddP (p ++ [x]) (stkP s x) := by
  have hs : ∀ y ∈ s, leP y x := fun y hy => by
    have := (h.odd y).1 hy
    exact hp y (List.count_pos_iff.1 (by omega))
  have hcnt : ∀ y, (p ++ [x]).count y = p.count y + (if x = y then 1 else 0) := fun y => by
    rw [List.count_append, List.count_singleton]
    by_cases e : x = y <;> simp [e]
  unfold stkP
  by_cases e : s[s.length - 1]?.getD (0, 0) = x ∧ s ≠ []
  · rw [if_pos e]
    have hl : 0 < s.length := List.length_pos_iff.2 e.2
    have hsp : s = s.take (s.length - 1) ++ [x] := by
      have e1 := e.1
      rw [List.getElem?_eq_getElem (by omega)] at e1
      simp only [Option.getD_some] at e1
      have h2 := List.take_append_drop (s.length - 1) s
      rw [List.drop_eq_getElem_cons (by omega), e1, List.drop_eq_nil_of_le (by omega)] at h2
      exact h2.symm
    have hpw := h.asc
    have hnd := h.nodup
    rw [hsp] at hpw hnd
    obtain ⟨p1, _, _⟩ := List.pairwise_append.1 hpw
    obtain ⟨n1, _, n3⟩ := List.nodup_append.1 hnd
    refine ⟨p1, n1, fun y => ?_⟩
    rw [hcnt]
    have hm := h.odd y
    rw [hsp] at hm
    by_cases ey : x = y
    · subst ey
      have h1 : x ∉ s.take (s.length - 1) := fun hy => n3 x hy x (by simp) rfl
      have h2 := hm.1 (by simp)
      simp only [if_true]
      exact ⟨fun h => absurd h h1, fun h => by omega⟩
    · have ey' : ¬ y = x := fun h => ey h.symm
      simp only [List.mem_append, List.mem_singleton, ey', or_false] at hm
      rw [if_neg ey, Nat.add_zero]
      exact hm
  · rw [if_neg e]
    have hxs : x ∉ s := fun hx => e ⟨ascP_last h.asc hx hs, fun hn => by rw [hn] at hx; simp at hx⟩
    have hpx : ¬ p.count x % 2 = 1 := fun hc => hxs ((h.odd x).2 hc)
    refine ⟨List.pairwise_append.2 ⟨h.asc, by simp, fun a ha b hb => ?_⟩, List.nodup_append.2 ⟨h.nodup, by simp, fun a ha b hb hab => ?_⟩, fun y => ?_⟩
    · simp at hb
      subst hb
      exact hs a ha
    · simp at hb
      subst hb
      subst hab
      exact hxs ha
    · rw [hcnt, List.mem_append, List.mem_singleton]
      by_cases ey : x = y
      · subst ey
        simp only [if_true, or_true, true_iff]
        omega
      · have ey' : ¬ y = x := fun h => ey h.symm
        rw [if_neg ey, Nat.add_zero]
        simp only [ey', or_false]
        exact h.odd y
theorem OddP.perm {p q s : List (Int × Int)} (h : OddP p s) (hp : p.Perm q) : OddP q s := ⟨h.asc, h.nodup, fun y => by rw [h.odd, hp.count_eq]⟩
theorem OddP.len {p s : List (Int × Int)} (h : OddP p s) : s.length ≤ p.length := by
  have key : ∀ (s p : List (Int × Int)), s.Nodup → (∀ x ∈ s, x ∈ p) → s.length ≤ p.length := by
    intro s
    induction s with
    | nil => intro p _ _; simp
    | cons x s ih =>
      intro p hn hm
      obtain ⟨h1, h2⟩ := List.nodup_cons.1 hn
      have hx := hm x (by simp)
      have h3 := ih (p.erase x) h2 (fun y hy => (List.mem_erase_of_ne (fun e => by subst e; exact h1 hy)).2 (hm y (List.mem_cons_of_mem _ hy)))
      rw [List.length_erase_of_mem hx] at h3
      have := List.length_pos_of_mem hx
      simp; omega
  exact key s p h.nodup (fun x hx => List.count_pos_iff.1 (by have := (h.odd x).1 hx; omega))

theorem own_takeP {w : World} {base n m g cap : Nat} {xs : List (Int × Int)} (h : w.ownsRow base 65 2 (.slice (some ⟨g, 0, none⟩) n cap) n ((flatP xs).map (Value.int .i64))) (hm : m ≤ n) : w.ownsRow base 65 2 (.slice (some ⟨g, 0, none⟩) m cap) m ((flatP (xs.take m)).map (Value.int .i64)) := by
  have hl := h.1
  rw [List.length_map, flatP_len] at hl
  rcases h.2 with ⟨h0, _⟩ | ⟨g', cap', cur, hv, hg, hh, h1, h2, h3, h4⟩
  · cases h0
  · injection hv with e1 _ e3
    injection e1 with e1
    injection e1 with e1 _ _
    subst e1; subst e3
    have hft : (flatP (xs.take m)).map (Value.int .i64) = ((flatP xs).map (Value.int .i64)).take (m * 2) := by
      rw [← List.map_take]
      congr 1
      have : ∀ (L : List (Int × Int)) (P : Nat), flatP (L.take P) = (flatP L).take (P * 2) := by
        intro L
        induction L with
        | nil => intro P; simp [flatP]
        | cons p L ih =>
          intro P
          cases P with
          | zero => simp [flatP]
          | succ P =>
            have e : flatP (p :: L) = p.1 :: p.2 :: flatP L := by simp [flatP]
            have e2 : flatP ((p :: L).take (P + 1)) = p.1 :: p.2 :: flatP (L.take P) := by simp [flatP]
            rw [e, e2, show (P + 1) * 2 = P * 2 + 1 + 1 by omega, List.take_succ_cons, List.take_succ_cons, ih P]
      exact this xs m
    rw [hft]
    refine ⟨by simp [flatP_len]; omega, .inr ⟨g, cap, cur, rfl, hg, hh, by omega, h2, h3, ?_⟩⟩
    rw [← h4, List.take_take]
    congr 1
    omega
theorem own_capP {w : World} {base e s n g cap : Nat} {xs : List Value} (h : w.ownsRow base e s (.slice (some ⟨g, 0, none⟩) n cap) n xs) : n ≤ cap := by
  rcases h.2 with ⟨h0, _⟩ | ⟨g', cap', cur, hv, hg, hh, h1, h2, h3, h4⟩
  · cases h0
  · injection hv with _ _ e3
    omega

end Go.Proofs.Ytbhdipljhelddaa

/-! sumModuloTwo over pairs. -/
namespace Go.Proofs.Ytbhdipljhelddaa
open Go.RowKit

set_option maxRecDepth 100000 in
set_option maxHeartbeats 4000000 in
theorem sum3_any (g cp m : Nat) (gs : List (List (Int × Int))) (w : World) (hm : m = gs.length) (hn : m ≤ 1048576) (hg : g < w.heap.size) (hc : ∀ i, i < m → ∃ a c, w.cell? ⟨g, i, none⟩ = some (.slice a (gs[i]?.getD []).length c) ∧ SlI w w.heap.size a (flatP (gs[i]?.getD []))) (hl : gs.flatten.length ≤ 1048576) (h0 : gs.flatten ≠ []) :
    Calls Try.prog 58 #[.func (.func 59) #[] #[], .slice (some ⟨g, 0, none⟩) m cp] w fun e w' => ∃ v s, e = .returned v ∧ OddP gs.flatten s ∧ ResP w w' v s := by
  have HC := hid (concatP_any g cp m gs w hm hn hg hc hl)
  obtain ⟨F, hF⟩ : ∃ F, F = gs.flatten := ⟨_, rfl⟩
  rw [← hF] at HC hl h0 ⊢
  have H0 := hid h0
  clear hF hm hn hg hc h0
  go_enter Try.func58, Try.ntmps58
  go_wp2_with fail
  refine HC.out.mono ?_
  rintro e w1 ⟨v1, rfl, ho1, hb1⟩
  obtain ⟨_, a1, c1, rfl, _⟩ := pairs_form ho1
  have hs1 : SlI w1 w1.heap.size a1 (flatP F) := by
    rcases ho1.2 with ⟨h, hh⟩ | ⟨g', cap', cur, hv, hgb, hh, h1, h2, h3, h4⟩
    · exact absurd (List.length_eq_zero_iff.1 hh) H0.out
    · injection hv with e1 _ e3
      subst e1
      subst e3
      exact .inr ⟨g', 0, lt_of_get hh, rfl, (own_pairs ho1).2.2⟩
  have HV := hid (callsIn_wide.1 (valuesP_in 20 a1 F.length c1 w1))
  have HSF := hid (sortedFP_any a1 c1 F w1 hs1 hl H0.out)
  have HB1 := hid hb1
  clear ho1 hs1 hb1 HC
  go_wp2_with fail
  refine HV.out.mono ?_
  rintro e w2 ⟨rfl, rfl⟩
  go_wp2_with fail
  refine HSF.out.mono ?_
  rintro e w3 ⟨v3, rfl, hr3⟩
  obtain ⟨L, hL⟩ : ∃ L, L = insAll F := ⟨_, rfl⟩
  rw [← hL] at hr3
  have hLl : L.length = F.length := by rw [hL, insAll_len]
  obtain ⟨_, a3, c3, rfl, _⟩ := pairs_form hr3.1
  have hs3 : ∃ b, b < w3.heap.size ∧ a3 = some ⟨b, 0, none⟩ ∧ ∀ i, i < (flatP L).length → w3.cell? ⟨b, 0 + i, none⟩ = some (.int .i64 ((flatP L)[i]?.getD 0)) := by
    rcases hr3.1.2 with ⟨h, hh⟩ | ⟨g', cap', cur, hv, hgb, hh, h1, h2, h3, h4⟩
    · exact absurd (List.length_eq_zero_iff.1 (hLl ▸ hh)) H0.out
    · injection hv with e1 _ e3
      subst e1
      subst e3
      exact ⟨g', lt_of_get hh, rfl, (own_pairs hr3.1).2.2⟩
  obtain ⟨b3, hb3, rfl, hc3⟩ := hs3
  have HB3 := hid (HB1.out.trans (((Below.refl _ w1).alloc (Nat.le_refl _) (.cells #[.slice a1 F.length c1] 37)).trans (hr3.2.mono (by simp)) |>.mono HB1.out.size))
  have hLle : L.length ≤ 1048576 := by rw [hLl]; exact hl
  obtain ⟨i1, i2⟩ := insAll_from F [] List.Pairwise.nil
  have HPerm : Hid (L.Perm F) := hid (by rw [hL]; rw [List.append_nil] at i2; exact i2)
  have HSrt : Hid (L.Pairwise leP) := hid (by rw [hL]; exact i1)
  have HS3 := hid hc3
  clear hr3 hc3 hL hLl HSF HV i1 i2
  go_wp2_with fail
  go_loopw [5, 15] (fun sv iv wx => ∃ (k : Nat) (av : Option Addr) (cv : Nat) (s : List (Int × Int)), Hid (k ≤ L.length ∧ OddP (L.take k) s) ∧ sv = .slice av s.length cv ∧ iv = .int .i64 (k : Int) ∧ Hid (wx.ownsRow w3.heap.size 65 2 (.slice av s.length cv) s.length ((flatP s).map (Value.int .i64))) ∧ Hid (Below w3.heap.size w3 wx)) (fun _ iv _ => L.length - (intOf iv).toNat)
  case atStart => exact ⟨0, none, 0, [], hid ⟨Nat.zero_le _, by rw [List.take_zero]; exact OddP.nil⟩, rfl, rfl, hid (World.ownsRow_nil _ _ _ _), hid (Below.refl _ _)⟩
  case round =>
    obtain ⟨k, av, cv, s, HK, rfl, rfl, HO, HB⟩ := hrel
    obtain ⟨hk, hodd⟩ := HK.out
    have hk0 : (0 : Int) ≤ (k : Int) := by omega
    by_cases hlt : k < L.length
    · obtain ⟨x, hx⟩ : ∃ x, x = L[k]?.getD (0, 0) := ⟨_, rfl⟩
      obtain ⟨e1, e2⟩ := flatP_at L k hlt
      rw [← hx] at e1 e2
      have hck1 : wr.cell? ⟨b3, k * 2, none⟩ = some (.int .i64 x.1) := by
        have := (HB.out.cell (p := ⟨b3, 0 + k * 2, none⟩) hb3).trans (HS3.out (k * 2) (by rw [flatP_len]; omega))
        rw [Nat.zero_add] at this
        rw [this, ← e1]; rfl
      have hck2 : wr.cell? ⟨b3, k * 2 + 1, none⟩ = some (.int .i64 x.2) := by
        have := (HB.out.cell (p := ⟨b3, 0 + (k * 2 + 1), none⟩) hb3).trans (HS3.out (k * 2 + 1) (by rw [flatP_len]; omega))
        rw [Nat.zero_add] at this
        rw [this, ← e2]; rfl
      have hki : (k : Int) < (L.length : Int) := by omega
      have hle : ∀ y ∈ L.take k, leP y x := fun y hy => by
        obtain ⟨i, hi, rfl⟩ := List.getElem_of_mem hy
        have hik : i < k := by simp at hi; omega
        have := List.pairwise_iff_getElem.1 HSrt.out i k (by omega) hlt hik
        rw [hx, List.getElem?_eq_getElem hlt]
        simpa using this
      have HN := hid (hodd.step hle)
      have htk : L.take (k + 1) = L.take k ++ [x] := by rw [List.take_succ_eq_append_getElem hlt, hx, List.getElem?_eq_getElem hlt]; rfl
      rw [← htk] at HN
      have hsl : s.length ≤ 1048576 := by
        have := hodd.len
        rw [List.length_take] at this
        omega
      obtain ⟨x1, x2⟩ := x
      simp only at hck1 hck2
      obtain ⟨W2, hW2⟩ : ∃ W2, W2 = wr.alloc (.cells #[.int .i64 x1, .int .i64 x2] 65) := ⟨_, rfl⟩
      have hp2 : W2.heap[wr.heap.size]? = some (.cells #[.int .i64 x1, .int .i64 x2] 65 (0, 0)) := by rw [hW2]; exact heap_alloc_new _ _
      have HB2 : Hid (Below w3.heap.size w3 W2) := hid (by rw [hW2]; exact HB.out.alloc HB.out.size _)
      have HO2 : Hid (W2.ownsRow w3.heap.size 65 2 (.slice av s.length cv) s.length ((flatP s).map (Value.int .i64))) := hid (by rw [hW2]; exact HO.out.alloc _)
      obtain ⟨p0, p1, _, _⟩ := two_of hp2
      have hbs := HB2.out.size
      subst hW2
      have hsz1 : (wr.alloc (.cells #[.int .i64 x1, .int .i64 x2] 65)).heap.size = wr.heap.size + 1 := World.size_alloc _ _
      have Heq := eq_pair
      have Hbs := hid hbs
      have Hsz := hid hsz1
      by_cases hsn : s = []
      · subst hsn
        have HN' : Hid (OddP (L.take (k + 1)) [(x1, x2)]) := hid (by have := HN.out; unfold stkP at this; simpa using this)
        clear hx hle HN htk hodd HK hp2 e1 e2 hbs hsz1
        simp only [List.length_nil] at HO2 ⊢
        go_wp2_with fail
        go_quiet (fail)
        obtain ⟨W3, hW3⟩ : ∃ W3, W3 = (wr.alloc (.cells #[.int .i64 x1, .int .i64 x2] 65)).drewN nq := ⟨_, rfl⟩
        have HB3' : Hid (Below w3.heap.size w3 W3) := hid (by rw [hW3]; exact below_drewN HB2.out _)
        have HO3 : Hid (W3.ownsRow w3.heap.size 65 2 (.slice av 0 cv) 0 ((flatP []).map (Value.int .i64))) := hid (by rw [hW3]; exact HO2.out)
        have p0' : W3.cell? ⟨wr.heap.size, 0, none⟩ = some (.int .i64 x1) := by rw [hW3]; exact p0
        have p1' : W3.cell? ⟨wr.heap.size, 1, none⟩ = some (.int .i64 x2) := by rw [hW3]; exact p1
        rw [← hW3]
        clear hW3 p0 p1 HO2 HB2 Hbs Hsz hck1 hck2
        have Hbs3 := hid HB3'.out.size
        go_wp2_with (first
          | (at_builtin; refine append_pair (L := []) rfl rfl HO3.out Hbs3.out (by simp) rfl rfl ?_; intro v' w4 hown4 hgrow4 hB4; obtain ⟨_, a4, c4, hv4, _⟩ := pairs_form hown4; subst hv4; have Hown4 := hid hown4; have HB4 := hid (HB3'.out.trans hB4); clear hown4 hgrow4 hB4))
        go_roundw
        case rel => exact ⟨k + 1, a4, c4, [(x1, x2)], hid ⟨hlt, HN'.out⟩, rfl, by go_num, Hown4, HB4⟩
        case measure => simp [intOf]; omega
      · obtain ⟨n, hn⟩ : ∃ n, s.length = n + 1 := ⟨s.length - 1, by have := List.length_pos_iff.2 hsn; omega⟩
        have hO1 := HO2.out
        rw [hn] at hO1
        obtain ⟨bs, cs, hav⟩ := ownsRow_succ hO1
        injection hav with hav1 _ hav3
        subst hav1; subst hav3
        have hcap := own_capP hO1
        obtain ⟨y, hy⟩ : ∃ y, y = s[n]?.getD (0, 0) := ⟨_, rfl⟩
        obtain ⟨f1, f2⟩ := flatP_at s n (by omega)
        rw [← hy] at f1 f2
        have hcy := (own_pairs (qs := flatP s) hO1).2.2
        obtain ⟨y1, y2⟩ := y
        have hcy1 : (wr.alloc (.cells #[.int .i64 x1, .int .i64 x2] 65)).cell? ⟨bs, n * 2, none⟩ = some (.int .i64 y1) := by
          have := hcy (n * 2) (by rw [flatP_len]; omega)
          rw [Nat.zero_add] at this
          rw [this]; exact congrArg (fun z => some (Value.int .i64 z)) f1
        have hcy2 : (wr.alloc (.cells #[.int .i64 x1, .int .i64 x2] 65)).cell? ⟨bs, n * 2 + 1, none⟩ = some (.int .i64 y2) := by
          have := hcy (n * 2 + 1) (by rw [flatP_len]; omega)
          rw [Nat.zero_add] at this
          rw [this]; exact congrArg (fun z => some (Value.int .i64 z)) f2
        have hn0 : (0 : Int) ≤ (n : Int) := by omega
        have hn1 : (n : Int) < (n : Int) + 1 := by omega
        have hcap2 : (n : Int) ≤ (cv : Int) := by omega
        have Hnl : Hid (n ≤ 1048576) := hid (by omega)
        have HO1 := hid hO1
        have Hhn := hid hn
        have Hy := hid hy
        have Hsn := hid hsn
        rw [hn]
        clear hx hle htk hodd HK hy hO1 HO hp2 e1 e2 f1 f2 hcy hbs hsz1 HO2 hn hsn hsl
        have hwn : wrap64 (n : Int) = (n : Int) := IntWalk.wrap64_in _ ⟨by omega, by have := Hnl.out; omega⟩
        by_cases hxy : (y1, y2) = (x1, x2)
        · have HN' : Hid (OddP (L.take (k + 1)) (s.take n)) := hid (by
            have := HN.out
            unfold stkP at this
            rw [Hhn.out, Nat.add_sub_cancel, if_pos ⟨by rw [← Hy.out]; exact hxy, Hsn.out⟩] at this
            exact this)
          have HT := hid (own_takeP HO1.out (m := n) (by omega))
          have Htl : Hid ((s.take n).length = n) := hid (by have := Hhn.out; simp; omega)
          injection hxy with hx1 hx2
          have hb1 : (y1 == x1) = true := by simp [hx1]
          have hb2 : (y2 == x2) = true := by simp [hx2]
          clear hx1 hx2 HN
          go_wp2_with fail
          go_quiet (fail)
          obtain ⟨W3, hW3⟩ : ∃ W3, W3 = (wr.alloc (.cells #[.int .i64 x1, .int .i64 x2] 65)).drewN nq := ⟨_, rfl⟩
          have HB3' : Hid (Below w3.heap.size w3 W3) := hid (by rw [hW3]; exact below_drewN HB2.out _)
          have HO3 : Hid (W3.ownsRow w3.heap.size 65 2 (.slice (some ⟨bs, 0, none⟩) n cv) n ((flatP (s.take n)).map (Value.int .i64))) := hid (by rw [hW3]; exact HT.out)
          rw [← hW3]
          clear hW3 p0 p1 HB2 Hbs Hsz hck1 hck2 hcy1 hcy2 Heq hwn
          go_wp2_with fail
          go_roundw
          case rel => exact ⟨k + 1, _, cv, s.take n, hid ⟨hlt, HN'.out⟩, by rw [Htl.out], by go_num, by rw [Htl.out]; exact HO3, HB3'⟩
          case measure => simp [intOf]; omega
        · have HN' : Hid (OddP (L.take (k + 1)) (s ++ [(x1, x2)])) := hid (by
            have := HN.out
            unfold stkP at this
            rw [Hhn.out, Nat.add_sub_cancel, if_neg (fun h => hxy (by rw [Hy.out]; exact h.1))] at this
            exact this)
          have hb : (y1 == x1 && y2 == x2) = false := by
            rw [Bool.eq_false_iff]
            intro h
            simp at h
            exact hxy (by rw [h.1, h.2])
          clear hxy HN
          go_wp2_with fail
          go_quiet (fail)
          obtain ⟨W3, hW3⟩ : ∃ W3, W3 = (wr.alloc (.cells #[.int .i64 x1, .int .i64 x2] 65)).drewN nq := ⟨_, rfl⟩
          have HB3' : Hid (Below w3.heap.size w3 W3) := hid (by rw [hW3]; exact below_drewN HB2.out _)
          have HO3 : Hid (W3.ownsRow w3.heap.size 65 2 (.slice (some ⟨bs, 0, none⟩) (n + 1) cv) s.length ((flatP s).map (Value.int .i64))) := hid (by rw [hW3, Hhn.out]; exact HO1.out)
          have p0' : W3.cell? ⟨wr.heap.size, 0, none⟩ = some (.int .i64 x1) := by rw [hW3]; exact p0
          have p1' : W3.cell? ⟨wr.heap.size, 1, none⟩ = some (.int .i64 x2) := by rw [hW3]; exact p1
          rw [← hW3]
          clear hW3 p0 p1 HB2 Hbs Hsz hck1 hck2 hcy1 hcy2 Heq hwn hb
          have Hbs3 := hid HB3'.out.size
          go_wp2_with (first
            | (at_builtin; refine append_pair (L := s) rfl rfl HO3.out Hbs3.out (by have := Hnl.out; have := Hhn.out; omega) rfl rfl ?_; intro v' w4 hown4 hgrow4 hB4; obtain ⟨_, a4, c4, hv4, _⟩ := pairs_form hown4; subst hv4; have Hown4 := hid hown4; have HB4 := hid (HB3'.out.trans hB4); clear hown4 hgrow4 hB4))
          go_roundw
          case rel => exact ⟨k + 1, a4, c4, s ++ [(x1, x2)], hid ⟨hlt, HN'.out⟩, by simp, by go_num, Hown4, HB4⟩
          case measure => simp [intOf]; omega
    · obtain rfl : k = L.length := by omega
      rw [List.take_length] at hodd
      have HOd : Hid (OddP F s) := hid (hodd.perm HPerm.out)
      clear hodd HK
      go_wp2_with fail
      go_ret
      have hr : ResP w3 wr (.slice av s.length cv) s := ⟨HO.out, HB.out⟩
      exact ⟨_, _, rfl, HOd.out, hr.later HB3.out⟩

end Go.Proofs.Ytbhdipljhelddaa

/-! A region that draws its order, whose last operation writes what others read: what is held of the world is asked behind every operation but that one. -/
namespace Go.Proofs.Ytbhdipljhelddaa
open Go.RowKit

section
variable {P : Program} {ops : Array Oper} {Q : Exit → Act → World → Prop} {md : Region.Mode} {S : World → Prop} {m : Nat}

/-- Whatever order is picked; S holds behind every operation but number m. -/
def anyM (P : Program) (md : Region.Mode) (ops : Array Oper) (Q : Exit → Act → World → Prop) (S : World → Prop) (m : Nat) : Nat → Array Bool → Act → World → Prop
  | 0, listed, a, w => Region.ready md ops listed = [] ∧ Q .normal a w
  | fuel + 1, listed, a, w => (Region.ready md ops listed = [] → Q .normal a w) ∧
      ∀ i ∈ Region.ready md ops listed, wpOp P ops Q i (fun a' w' => (i ≠ m → S w') ∧ anyM P md ops Q S m fuel (listed.setIfInBounds i true) a' w') a w

theorem any_of_M : ∀ (fuel : Nat) (listed : Array Bool) (a : Act) (w : World), anyM P md ops Q S m fuel listed a w → wpAny P md ops Q fuel listed a w
  | 0, _, _, _, h => h
  | fuel + 1, _, _, _, h => ⟨h.1, fun i hi => wpOp_mono (fun a' w' h' => any_of_M fuel _ a' w' h'.2) (h.2 i hi)⟩

/-- Each number waits for the one ahead of it. -/
def queueB (md : Region.Mode) (ops : Array Oper) : List Nat → Bool
  | x :: y :: r => (match ops[y]? with | some o => o.after.any (fun e => Region.binds md e && e.on == x) | none => false) && queueB md ops (y :: r)
  | _ => true

theorem queue_unready {listed : Array Bool} : ∀ (cs : List Nat) (i : Nat), queueB md ops (i :: cs) = true → (∀ c ∈ i :: cs, listed.getD c true = false) → ∀ c ∈ cs, c ∉ Region.ready md ops listed
  | [], _, _, _ => fun c hc => by cases hc
  | y :: r, i, h, hu => fun c hc => by
    simp only [queueB, Bool.and_eq_true] at h
    rcases List.mem_cons.1 hc with rfl | hc
    · intro hr
      obtain ⟨_, o, ho, hall⟩ := mem_ready.1 hr
      have h1 := h.1
      rw [ho] at h1
      simp only [Array.any_eq_true', Bool.and_eq_true, beq_iff_eq] at h1
      obtain ⟨e, he, hb, heq⟩ := h1
      have h2 := hall e he hb
      have h0 := hu i (List.mem_cons_self ..)
      rw [heq] at h2
      rcases Nat.lt_or_ge i listed.size with h' | h'
      · simp [h'] at h0 h2; rw [h0] at h2; cases h2
      · simp [Array.getElem?_eq_none h'] at h2
    · exact queue_unready r y h.2 (fun c hc => hu c (List.mem_cons_of_mem _ hc)) c hc

theorem anyM_first {i : Nat} {oi : Oper} {v : Value} (hi : ops[i]? = some oi) (hsel : ∀ (j : Nat) (o : Oper) cs b, ops[j]? = some o → o.op ≠ .select cs b)
    (hQ : ∀ c a w, Q (.panic c) (a.put oi.dst v) w → Q (.panic c) a w) {cs : List Nat} (hcs : queueB md ops (i :: cs) = true) (hm : m ∈ cs) :
    ∀ (fuel : Nat) (listed : Array Bool) (a : Act) (w : World),
      (∀ j oj, ops[j]? = some oj → j ≠ i → listed.getD j true = false → (∀ e ∈ oj.after, Region.binds md e = true → e.on ≠ i) → oi.apart ops oj = true) →
      i ∈ Region.ready md ops listed → (∀ c ∈ i :: cs, listed.getD c true = false) → YieldsIf P ops S oi v a → S w →
      anyM P md ops Q S m fuel (listed.setIfInBounds i true) (a.put oi.dst v) w → anyM P md ops Q S m (fuel + 1) listed a w := by
  intro fuel
  induction fuel with
  | zero =>
    intro listed a w _ hr _ hy hS H
    refine ⟨fun h => (by rw [h] at hr; cases hr), fun j hj => ?_⟩
    by_cases hji : j = i
    · subst hji; exact hy.wpOp hi hS ⟨fun _ => hS, H⟩
    · have := ready_mono hj hji
      rw [H.1] at this
      cases this
  | succ fuel ih =>
    intro listed a w hfree hr hu hy hS H
    refine ⟨fun h => (by rw [h] at hr; cases hr), fun j hj => ?_⟩
    by_cases hji : j = i
    · subst hji; exact hy.wpOp hi hS ⟨fun _ => hS, H⟩
    · have hjcs : j ∉ cs := fun hc => queue_unready cs i hcs hu j hc hj
      have hjm : j ≠ m := fun e => hjcs (e ▸ hm)
      have h1 := H.2 j (ready_mono hj hji)
      obtain ⟨hjun, oj, hoj, hall⟩ := mem_ready.1 hj
      have hnot : ∀ e ∈ oj.after, Region.binds md e = true → e.on ≠ i := fun e he hb heq => by
        have h1 := hall e he hb
        have h0 := (mem_ready.1 hr).1
        rw [heq] at h1
        rcases Nat.lt_or_ge i listed.size with h' | h'
        · simp [h'] at h0 h1; rw [h0] at h1; cases h1
        · simp [Array.getElem?_eq_none h'] at h1
      have h2 := wpOp_putIf hoj (hfree j oj hoj hji hjun hnot) (fun cs b => hsel i oi cs b hi) (fun cs b => hsel j oj cs b hoj) hQ hy h1
      have hfree' : ∀ k ok, ops[k]? = some ok → k ≠ i → (listed.setIfInBounds j true).getD k true = false →
          (∀ e ∈ ok.after, Region.binds md e = true → e.on ≠ i) → oi.apart ops ok = true := fun k ok hk hki hun hno => by
        refine hfree k ok hk hki ?_ hno
        by_cases hjk : j = k
        · subst hjk; exact hjun
        · rw [getD_set_ne true hjk] at hun; exact hun
      have hu' : ∀ c ∈ i :: cs, (listed.setIfInBounds j true).getD c true = false := fun c hc => by
        rw [getD_set_ne true (fun e => ?_)]
        · exact hu c hc
        · rcases List.mem_cons.1 hc with h | h
          · exact hji (e.trans h)
          · exact hjcs (e ▸ h)
      refine wpOp_mono (fun a' w' h3 => ⟨h3.2.1, ih (listed.setIfInBounds j true) a' w' hfree' (ready_mono hr (Ne.symm hji)) hu' h3.1 (h3.2.1 hjm) ?_⟩) h2
      rw [Array.setIfInBounds_comm _ _ hji]
      exact h3.2.2

theorem anyM_take {i : Nat} {oi : Oper} {v : Value} {fuel : Nat} {listed : Array Bool} {a : Act} {w : World} (cs : List Nat) (hi : ops[i]? = some oi)
    (hs : (Region.noSelect ops && queueB md ops (i :: cs) && cs.contains m && (i :: cs).all (fun c => !listed.getD c true) && Region.free md ops listed i && (Region.ready md ops listed).contains i) = true)
    (hQ : ∀ c a w, Q (.panic c) (a.put oi.dst v) w → Q (.panic c) a w) (hy : YieldsIf P ops S oi v a) (hS : S w)
    (h : anyM P md ops Q S m fuel (listed.setIfInBounds i true) (a.put oi.dst v) w) : anyM P md ops Q S m (fuel + 1) listed a w := by
  simp only [Bool.and_eq_true] at hs
  obtain ⟨⟨⟨⟨⟨h1, h2⟩, h3⟩, h4⟩, h5⟩, h6⟩ := hs
  exact anyM_first hi (Region.noSelect_spec h1) hQ h2 (by simpa using h3) fuel listed a w (Region.free_spec hi h5) (by simpa using h6) (fun c hc => by simpa using List.all_eq_true.1 h4 c hc) hy hS h

/-- Each of the operations 'rs' comes up next. -/
def AllM (P : Program) (md : Region.Mode) (ops : Array Oper) (Q : Exit → Act → World → Prop) (S : World → Prop) (m fuel : Nat) (listed : Array Bool) (a : Act) (w : World) (rs : List Nat) : Prop :=
  ∀ i ∈ rs, wpOp P ops Q i (fun a' w' => (i ≠ m → S w') ∧ anyM P md ops Q S m fuel (listed.setIfInBounds i true) a' w') a w
theorem AllM.nil {fuel : Nat} {listed : Array Bool} {a : Act} {w : World} : AllM P md ops Q S m fuel listed a w [] := fun _ h => by cases h
theorem AllM.cons {fuel : Nat} {listed : Array Bool} {a : Act} {w : World} {i : Nat} {o : Oper} {rs : List Nat} (ho : ops[i]? = some o)
    (h : ∀ K' : Act → World → Prop, Go.Shut (∀ a w, (i ≠ m → S w) → anyM P md ops Q S m fuel (listed.setIfInBounds i true) a w → K' a w) → if Region.wanted o (yielded ops a.tmps) = true then Oper.wp P o a w K' Q else K' (a.put o.dst undef) w)
    (hs : AllM P md ops Q S m fuel listed a w rs) : AllM P md ops Q S m fuel listed a w (i :: rs) := fun j hj => by
  rcases List.mem_cons.1 hj with rfl | hj
  · exact wpOp_step ho (fun K' hK => h K' (fun a w hS hW => hK a w ⟨hS, hW⟩))
  · exact hs j hj
theorem anyM_ready {rs : List Nat} {fuel : Nat} {listed : Array Bool} {a : Act} {w : World} (hr : (Region.ready md ops listed == rs) = true) (hne : rs ≠ [])
    (h : AllM P md ops Q S m fuel listed a w rs) : anyM P md ops Q S m (fuel + 1) listed a w :=
  ⟨fun h0 => absurd (eq_of_beq hr ▸ h0) hne, eq_of_beq hr ▸ h⟩
theorem anyM_done {listed : Array Bool} {a : Act} {w : World} (hr : (Region.ready md ops listed).isEmpty = true) (h : Q .normal a w) : ∀ fuel, anyM P md ops Q S m fuel listed a w
  | 0 => ⟨List.isEmpty_iff.1 hr, h⟩
  | _ + 1 => ⟨fun _ => h, by rw [List.isEmpty_iff.1 hr]; simp⟩
/-- The beginning. -/
theorem region_M {id : Nat} {a : Act} {w : World} (m : Nat) (S : World → Prop) (hm : P.follows .mixedOrders = true)
    (h : anyM P .any ops Q S m ops.size (Array.replicate ops.size false) a w.drew) : (Code.region id ops true).wp P Q a w :=
  wp_region_any hm (any_of_M _ _ _ _ h)
end

end Go.Proofs.Ytbhdipljhelddaa

/-! A drawn region within a round of a loop over an iterator, by the law for drawn regions. -/
namespace Go.Proofs.Ytbhdipljhelddaa
open Go.RowKit

section
variable {P : Program} {ops : Array Oper} {Q : Exit → Act → World → Prop} {l n : Nat}

theorem rows_in {row : String} {args : Array Value} {w : World} {R : Value → World → Prop} (h : Rows P row args w R) : RowsIn (Fence.wide.inRound l) n P row args w R :=
  fun c cs _ => let ⟨v, w', r, s⟩ := h c cs; ⟨v, w', r, stepsIn_wide.2 s⟩
theorem upon_in {o : Oper} {a : Act} {K : Act → World → Prop} {r : Result Next} (h : o.upon P a K Q r) : o.uponIn (Fence.wide.inRound l) n P a K Q r := by
  cases r with
  | ok x w' =>
    cases x <;> simp only [Oper.upon, Oper.uponIn] at h ⊢ <;>
      first
        | exact h
        | exact ⟨fun e => absurd (show (false = true) from e) (by decide), callsIn_wide.2 h⟩
        | exact ⟨fun e => absurd (show (false = true) from e) (by decide), rows_in h⟩
  | halt x w' => cases x <;> simp only [Oper.upon, Oper.uponIn] at h ⊢ <;> exact h
theorem oper_in {o : Oper} {a : Act} {w : World} {K : Act → World → Prop} (hd : ∀ c, o.op ≠ .defer c) (h : o.wp P a w K Q) : o.wpIn (Fence.wide.inRound l) n P a w K Q := by
  refine ⟨fun _ _ => trivial, ?_⟩
  rw [Fence.inRound_round, Oper.semAt_some l _ o hd]
  exact upon_in h
def noDefer (ops : Array Oper) : Bool := ops.all fun o => match o.op with | .defer _ => false | _ => true
theorem noDefer_at (h : noDefer ops = true) {i : Nat} {o : Oper} (ho : ops[i]? = some o) : ∀ c, o.op ≠ .defer c := fun c e => by
  unfold noDefer at h
  rw [Array.all_eq_true] at h
  obtain ⟨hi, he⟩ := Array.getElem?_eq_some_iff.1 ho
  have := h i hi
  rw [he, e] at this
  cases this
theorem op_in (hd : noDefer ops = true) (hno : ¬ LetsOut Q) {i : Nat} {a : Act} {w : World} {K : Act → World → Prop} (h : wpOp P ops Q i K a w) : wpOpIn (Fence.wide.inRound l) n P ops Q i K a w := by
  unfold wpOp at h
  unfold wpOpIn
  cases ho : ops[i]? with
  | none => simp only [ho] at h ⊢; exact h
  | some o =>
    simp only [ho] at h ⊢
    split
    · rename_i hw
      simp only [hw, if_true] at h
      exact oper_in (noDefer_at hd ho) (h.resolve_right (fun h => hno h.2))
    · rename_i hw
      simp only [hw] at h
      exact ⟨fun _ _ => trivial, h⟩
theorem any_in (hd : noDefer ops = true) (hno : ¬ LetsOut Q) {md : Region.Mode} : ∀ (fuel : Nat) (listed : Array Bool) (a : Act) (w : World), wpAny P md ops Q fuel listed a w → wpAnyIn (Fence.wide.inRound l) n P md ops Q fuel listed a w
  | 0, _, _, _, h => h
  | fuel + 1, _, _, _, h => ⟨h.1, fun i hi => op_in hd hno (wpOp_mono (fun a' w' h' => any_in hd hno fuel _ a' w' h') (h.2 i hi))⟩
/-- The beginning, in a round. -/
theorem region_MR {id : Nat} {a : Act} {w : World} (m : Nat) (S : World → Prop) (hm : P.follows .mixedOrders = true) (hd : noDefer ops = true) (hno : ¬ LetsOut Q)
    (h : anyM P .any ops Q S m ops.size (Array.replicate ops.size false) a w.drew) : (Code.region id ops true).wpIn (Fence.wide.inRound l) n P Q a w :=
  wpIn_region_any hm (any_in hd hno _ _ _ _ (any_of_M _ _ _ _ h))
end

end Go.Proofs.Ytbhdipljhelddaa

/-! exchangedPairs, the program's. -/
namespace Go.Proofs.Ytbhdipljhelddaa
open Go.RowKit Go.Shelf

attribute [local go_sem] Oper.semAt_some

/-- 'order = append(order, p, q)', at the operation. -/
theorem append_twoIn {F : Fence} {nF : Nat} {w : World} {ops : Array Oper} {rest : List Oper} {o : Oper} {a : Act} {Q : Exit → Act → World → Prop} (hgd : o.guard = none) {s y : Operand}
    (ho : o.op = .call { callee := .builtin .append, args := #[s, y], argTypes := #[37, 37] })
    {base : Nat} {v : Value} {L : List (Int × Int)} {x x' z z' : Int} (hown : w.ownsRow base 65 2 v L.length ((flatP L).map (Value.int .i64))) (hbase : base ≤ w.heap.size) (hl : L.length ≤ 1099511627776)
    (hs : a.eval s = v) (hy : a.eval y = .slice (some ⟨w.heap.size, 0, none⟩) 2 2)
    (hK : ∀ v' w', w'.ownsRow base 65 2 v' (L ++ [(x, x'), (z, z')]).length ((flatP (L ++ [(x, x'), (z, z')])).map (Value.int .i64)) → w.grownBy w' v.ownBlock → (v'.ownBlock = v.ownBlock ∨ ∃ k, v'.ownBlock = some k ∧ w.heap.size ≤ k) → wpListIn F nF Try.prog ops Q rest (a.put o.dst v') w') :
    wpListIn F nF Try.prog ops Q (o :: rest) a (w.alloc (.cells #[.int .i64 x, .int .i64 x', .int .i64 z, .int .i64 z'] 65)) := by
  obtain ⟨i0, hi, hz0, hz1, hz2⟩ := info_parts info_pair
  refine wpListIn_append_own_at _ hgd s y 37 ho base 65 i0 (.agg #[.int .i64 0, .int .i64 0]) 2 16 Try.underlying37 hi hz0 hz1 hz2 rfl (by decide) v _ _ hs (hown.alloc _) ⟨w.heap.size, 0, none⟩ 2 2 [.int .i64 x, .int .i64 x', .int .i64 z, .int .i64 z'] hy rfl ?_ (by simp [Value.oneCell']) (by unfold maxLen; omega) (by omega) (by simp; omega) ?_
  · intro j u hj
    match j, hj with
    | 0, hj => simp at hj; subst hj; simp [go_sem, Addr.add]
    | 1, hj => simp at hj; subst hj; simp [go_sem, Addr.add]
    | 2, hj => simp at hj; subst hj; simp [go_sem, Addr.add]
    | 3, hj => simp at hj; subst hj; simp [go_sem, Addr.add]
    | j + 4, hj => simp at hj
  · intro v' w1 hown1 hgrow1 _ hat
    refine hK v' w1 ?_ ((World.grownBy_alloc w _ _).trans hgrow1) ?_
    · have e : flatP (L ++ [(x, x'), (z, z')]) = flatP L ++ [x, x', z, z'] := by simp [flatP]
      rw [e]
      simpa using hown1
    · rcases hat with h | h
      · exact .inl h
      · exact .inr ⟨_, h, by simp⟩

/-- What the loop keeps. -/
structure ExW (w W : World) (M D B n N : Nat) (qs : List Int) (a : Int) (f : Int → Int) (v : Value) (st : List (Int × Int) × Int) : Prop where
  below : Below w.heap.size w W
  mb : w.heap.size < M ∧ M < B
  db : w.heap.size < D ∧ D < B
  ba : W.heap[w.heap.size]? = some (.cells #[.int .i64 a] 2 (0, 0))
  lows : W.ownsMap Try.prog 2 pairElem M n (lowsD qs n)
  cnt : CntM W D N f
  b7 : W.heap[B]? = some (.cells #[.map (some M)] 147 (0, 0))
  b8 : W.heap[B + 1]? = some (.cells #[.map (some D)] 92 (0, 0))
  b9 : W.heap[B + 1 + 1]? = some (.cells #[v] 37 (0, 0))
  b10 : W.heap[B + 1 + 1 + 1]? = some (.cells #[.int .i64 st.2] 2 (0, 0))
  row : W.ownsRow (B + 7) 65 2 v st.1.length ((flatP st.1).map (Value.int .i64))
  nil : st.1.length ≤ 1 → v = .slice none 0 0
/-- The list doesn't lie in a block of one pair. -/
theorem ExW.off {w W : World} {M D B n N : Nat} {qs : List Int} {a : Int} {f : Int → Int} {v : Value} {st : List (Int × Int) × Int} (h : ExW w W M D B n N qs a f v st) {bx : Nat} {p q : Value} (hb : W.heap[bx]? = some (.cells #[p, q] 65 (0, 0))) : v.ownBlock ≠ some bx := by
  intro e
  rcases h.row.2 with ⟨rfl, _⟩ | ⟨g, cap, cur, rfl, _, hg, h1, h2, h3, h4⟩
  · simp [Value.ownBlock] at e
  · simp [Value.ownBlock] at e
    subst e
    rw [hg] at hb
    injection hb with hb
    injection hb with hb _ _
    subst hb
    have := h.nil (by simp at h3; omega)
    simp at this
theorem ExW.size {w W : World} {M D B n N : Nat} {qs : List Int} {a : Int} {f : Int → Int} {v : Value} {st : List (Int × Int) × Int} (h : ExW w W M D B n N qs a f v st) : w.heap.size < B ∧ B + 4 ≤ W.heap.size := by
  have := lt_of_get h.b10
  have := h.mb
  omega
theorem ExW.turn {w W W' : World} {M D B n N : Nat} {qs : List Int} {a : Int} {f : Int → Int} {v : Value} {st : List (Int × Int) × Int} (h : ExW w W M D B n N qs a f v st) {row : Option Nat} (hg : W.grownBy W' row) (hr : ∀ r, row = some r → B + 4 ≤ r ∧ v.ownBlock ≠ some r) : ExW w W' M D B n N qs a f v st where
  below := h.below.grown hg (by have := h.size; omega) (fun k e => by have := (hr k e).1; have := h.size; omega)
  mb := h.mb
  db := h.db
  ba := (hg.block _ (lt_of_get h.ba) (fun e => by have := (hr _ e.symm).1; have := h.size; omega)).trans h.ba
  lows := h.lows.kept hg (fun e => by have := (hr _ e.symm).1; have := h.mb; omega)
  cnt := h.cnt.kept hg (fun e => by have := (hr _ e.symm).1; have := h.db; omega)
  b7 := (hg.block _ (lt_of_get h.b7) (fun e => by have := (hr _ e.symm).1; omega)).trans h.b7
  b8 := (hg.block _ (lt_of_get h.b8) (fun e => by have := (hr _ e.symm).1; omega)).trans h.b8
  b9 := (hg.block _ (lt_of_get h.b9) (fun e => by have := (hr _ e.symm).1; omega)).trans h.b9
  b10 := (hg.block _ (lt_of_get h.b10) (fun e => by have := (hr _ e.symm).1; omega)).trans h.b10
  row := by
    cases hv : v.ownBlock with
    | none => exact h.row.kept hg (.inl hv)
    | some g => exact h.row.kept hg (.inr (fun e => by rw [hv] at e; exact (hr g e.symm).2 hv))
  nil := h.nil
theorem ExW.alloc {w W : World} {M D B n N : Nat} {qs : List Int} {a : Int} {f : Int → Int} {v : Value} {st : List (Int × Int) × Int} (h : ExW w W M D B n N qs a f v st) (o : Obj) : ExW w (W.alloc o) M D B n N qs a f v st := h.turn (World.grownBy_alloc W o none) (fun r e => by cases e)
theorem ExW.later {w W W' : World} {M D B n N : Nat} {qs : List Int} {a : Int} {f : Int → Int} {v : Value} {st : List (Int × Int) × Int} (h : ExW w W M D B n N qs a f v st) (hb : Below W.heap.size W W') : ExW w W' M D B n N qs a f v st :=
  h.turn (row := none) ⟨hb.os, hb.tape, hb.output, hb.size, fun q hq _ => hb.block q hq⟩ (fun r e => by cases e)
theorem ex_ownIn {w : World} {M D B n N : Nat} {qs : List Int} {a : Int} {f : Int → Int} (g : List Nat → List (Int × Int) × Int) : OwnIn (B + 1 + 1 + 1 + 1 + 1) 2 (fun pre W' => ∃ v, ExW w W' M D B n N qs a f v (g pre)) := by
  rintro s A C row ⟨v, h⟩ hg hr
  refine ⟨v, h.turn hg (fun r e => ?_)⟩
  obtain ⟨h1, h2⟩ := hr r e
  refine ⟨by omega, fun ev => ?_⟩
  have hb := (h.row.lt r ev).1
  rcases h2 with h2 | ⟨o, ho, hc⟩
  · omega
  · rcases h.row.2 with ⟨rfl, _⟩ | ⟨g, cp, cur, rfl, _, hg', _⟩
    · simp [Value.ownBlock] at ev
    · simp [Value.ownBlock] at ev
      subst ev
      rw [hg'] at ho
      injection ho with ho
      rw [← ho] at hc
      simp [Obj.isCells] at hc
/-- The list has grown, and both variables are told. -/
theorem ExW.put {w W W1 : World} {M D B n N : Nat} {qs : List Int} {a : Int} {f : Int → Int} {v v' : Value} {st : List (Int × Int) × Int} {L : List (Int × Int)} (h : ExW w W M D B n N qs a f v st) (hq : W1.ownsRow (B + 7) 65 2 v' L.length ((flatP L).map (Value.int .i64))) (hg : W.grownBy W1 v.ownBlock) (y : Int) (hL : 2 ≤ L.length) :
    ExW w ((W1.setCell ⟨B + 1 + 1, 0, none⟩ v').setCell ⟨B + 1 + 1 + 1, 0, none⟩ (.int .i64 y)) M D B n N qs a f v' (L, y) := by
  have hlt := h.row.lt
  have hsz := h.size
  have ne : ∀ j, j < B + 7 → v.ownBlock ≠ some j := fun j hj e => by have := (hlt j e).1; omega
  have ne1 : v'.ownBlock ≠ some (B + 1 + 1) := fun e => by have := (hq.lt _ e).1; omega
  have ne2 : v'.ownBlock ≠ some (B + 1 + 1 + 1) := fun e => by have := (hq.lt _ e).1; omega
  have g1 := grownBy_set W1 ⟨B + 1 + 1, 0, none⟩ v'
  have g2 := grownBy_set (W1.setCell ⟨B + 1 + 1, 0, none⟩ v') ⟨B + 1 + 1 + 1, 0, none⟩ (.int .i64 y)
  have b9' : W1.heap[B + 1 + 1]? = some (.cells #[v] 37 (0, 0)) := (hg.block _ (lt_of_get h.b9) (fun e => ne _ (by omega) e.symm)).trans h.b9
  have b10' : W1.heap[B + 1 + 1 + 1]? = some (.cells #[.int .i64 st.2] 2 (0, 0)) := (hg.block _ (lt_of_get h.b10) (fun e => ne _ (by omega) e.symm)).trans h.b10
  have same : ∀ (j : Nat) (o : Obj), j < B + 7 → j ≠ B + 1 + 1 → j ≠ B + 1 + 1 + 1 → W.heap[j]? = some o → ((W1.setCell ⟨B + 1 + 1, 0, none⟩ v').setCell ⟨B + 1 + 1 + 1, 0, none⟩ (.int .i64 y)).heap[j]? = some o := fun j o hj h1 h2 ho => by
    refine (Below.heap_setCell _ _ _ _ (fun e => h2 (by first | exact e | exact e.symm))).trans ((Below.heap_setCell _ _ _ _ (fun e => h1 (by first | exact e | exact e.symm))).trans ((hg.block _ (lt_of_get ho) (fun e => ne _ hj e.symm)).trans ho))
  refine {
    below := ?_
    mb := h.mb
    db := h.db
    ba := same _ _ (by omega) (by omega) (by omega) h.ba
    lows := ((h.lows.kept hg (fun e => ne M (by have := h.mb; omega) e.symm)).kept g1 (fun e => by injection e with e; have := h.mb; simp at e; omega)).kept g2 (fun e => by injection e with e; have := h.mb; simp at e; omega)
    cnt := ((h.cnt.kept hg (fun e => ne D (by have := h.db; omega) e.symm)).kept g1 (fun e => by injection e with e; have := h.db; simp at e; omega)).kept g2 (fun e => by injection e with e; have := h.db; simp at e; omega)
    b7 := same _ _ (by omega) (by omega) (by omega) h.b7
    b8 := same _ _ (by omega) (by omega) (by omega) h.b8
    b9 := ?_
    b10 := ?_
    row := ownsRow_set (ownsRow_set hq ne1 _) ne2 _
    nil := fun h => absurd h (by simp only; omega) }
  · have hb := h.below.grown hg (by omega) (fun k e => by have := (hlt k e).1; omega)
    have hb1 := hb.grown g1 hb.size (fun k e => by injection e with e; simp at e; omega)
    exact hb1.grown g2 hb1.size (fun k e => by injection e with e; simp at e; omega)
  · refine (Below.heap_setCell _ _ _ _ (by simp)).trans ?_
    simp only [World.setCell, Array.getElem?_modify, b9']
    simp
  · have hthis : (W1.setCell ⟨B + 1 + 1, 0, none⟩ v').heap[B + 1 + 1 + 1]? = some (.cells #[.int .i64 st.2] 2 (0, 0)) := (Below.heap_setCell _ _ _ _ (by simp)).trans b10'
    obtain ⟨W2, hW2⟩ : ∃ W2, W2 = W1.setCell ⟨B + 1 + 1, 0, none⟩ v' := ⟨_, rfl⟩
    rw [← hW2] at hthis ⊢
    simp only [World.setCell, Array.getElem?_modify, hthis]
    simp

/-- What holds behind the region. -/
def XpQ (T : Bool → Array Value) (S : Bool → World → Prop) : Exit → Act → World → Prop
  | .normal, a', w' => ∃ c, a' = { tmps := T c, defers := [] } ∧ S c w'
  | _, _, _ => False

set_option maxRecDepth 1000000 in
set_option maxHeartbeats 4000000 in
theorem exc_in (a1 : Option Addr) (n cap1 : Nat) (qs : List Int) (b : Nat) (a : Int) (w : World) (hx1 : SlI w w.heap.size a1 qs) (hp : qs.length = 2 * n) (hn : n ≤ 1048576) (hw : ∀ x ∈ qs, (Lit.int .i64 x).wf = true) (hd : LowsApart qs n) (hh : HighsB qs n) (hO : OrdQ qs n) (hlo : ∀ i, i < n → 0 ≤ at0 qs (i * 2) ∧ at0 qs (i * 2) < 64) (hb : b < 64) (ha : (Lit.int .i64 a).wf = true)
    (hws : ∀ x, 0 ≤ wsum qs n (b : Int) x ∧ wsum qs n (b : Int) x ≤ 25769803776) :
    CallsIn Fence.wide 24 Try.prog 60 #[.slice a1 n cap1, .int .i64 (b : Int), .int .i64 a] w fun e w' => ∃ v, e = .returned v ∧ ResP w w' v (excL qs n (b : Int) a (downL n)) := by
  have HLw := hid (fun w1 (hb : Below w.heap.size w w1) => lows_any a1 n cap1 qs w1 (hx1.later hb hb.size) hp hn hw)
  have HWf := hid (fun w1 (h1 : Below w.heap.size w w1) => callsIn_wide.1 (wfrom_in a1 n cap1 qs b w1 (hx1.later h1 h1.size) hp hn hw hd hh hO hlo hb))
  have Hy := hid hx1
  have Hp := hid hp
  have Hw := hid hw
  have HD := hid hd
  have HH := hid hh
  have HO := hid hO
  have Hlo := hid hlo
  have Hws := hid hws
  have Ha := hid ha
  clear hx1 hp hw hd hh hO hlo hws ha
  refine callsIn_of_wp_marks Try.func60 rfl trivial ?_ rfl
  simp only [Try.ntmps60, List.size_toArray, List.length_cons, List.length_nil, Nat.reduceAdd, Nat.reduceSub, Array.replicate_succ, Array.replicate_zero, List.push_toArray, List.append_toArray, List.nil_append, List.cons_append]
  obtain ⟨W0, hW0⟩ : ∃ W0, W0 = w.alloc (.cells #[.int .i64 a] 2) := ⟨_, rfl⟩
  have hB0 : Below w.heap.size w W0 := by rw [hW0]; exact (Below.refl _ w).alloc (Nat.le_refl _) _
  have hs0 : W0.heap.size = w.heap.size + 1 := by rw [hW0]; simp
  have hba : W0.heap[w.heap.size]? = some (.cells #[.int .i64 a] 2 (0, 0)) := by rw [hW0]; exact heap_alloc_new _ _
  gi_wp2_with fail
  rw [← hW0]
  have HB0 := hid hB0
  have Hba := hid hba
  have Hs0 := hid hs0
  clear hW0 hB0 hba hs0
  gi_wp2_with (first
    | (refine ⟨trivial, ?_⟩; gi_at_call 124; refine (callsIn_wide.2 (HLw.out _ HB0.out)).mono ?_; rintro e w5 ⟨rfl, hown, hB5⟩; have Hown := hid hown; have HB5 := hid hB5; clear hown hB5)
    | (refine ⟨trivial, ?_⟩; gi_at_call 118; refine (callsIn_wide.2 (HWf.out _ (HB0.out.trans (HB5.out.mono HB0.out.size)))).mono ?_; rintro e w6 ⟨N, f, rfl, hcnt, hf, hB6⟩; have Hcnt := hid hcnt; have Hf := hid hf; have HB6 := hid hB6; clear hcnt hf hB6)
    | (refine ⟨trivial, ?_⟩; gi_at_call 125; refine (backward_in _ _ _ _ _).mono ?_; rintro e w' ⟨rfl, rfl⟩))
  obtain ⟨B, hBe⟩ : ∃ B, B = w6.heap.size := ⟨_, rfl⟩
  obtain ⟨M, hMe⟩ : ∃ M, M = W0.heap.size := ⟨_, rfl⟩
  obtain ⟨D, hDe⟩ : ∃ D, D = w5.heap.size := ⟨_, rfl⟩
  have hB6w : Below w.heap.size w w6 := (HB0.out.trans (HB5.out.mono HB0.out.size)).trans (HB6.out.mono (Nat.le_trans HB0.out.size HB5.out.size))
  have hba6 : w6.heap[w.heap.size]? = some (.cells #[.int .i64 a] 2 (0, 0)) := (HB6.out.block _ (by have := HB5.out.size; have := Hs0.out; omega)).trans ((HB5.out.block _ (by have := Hs0.out; omega)).trans Hba.out)
  have hlw6 : w6.ownsMap Try.prog 2 pairElem M n (lowsD qs n) := by rw [hMe]; exact Hown.out.kept (row := none) ⟨HB6.out.os, HB6.out.tape, HB6.out.output, HB6.out.size, fun q hq _ => HB6.out.block q hq⟩ (by simp)
  have hct6 := Hcnt.out
  have hMl : M < D := by rw [hMe, hDe]; exact Hown.out.lt
  have hDl : D < B := by rw [hDe, hBe]; exact Hcnt.out.lt
  have hMw : w.heap.size < M := by rw [hMe, Hs0.out]; omega
  rw [← hDe] at hct6
  rw [← hBe, ← hMe, ← hDe]
  obtain ⟨A1, hA1⟩ : ∃ A, A = w6.alloc (.cells #[.map (some M)] 147) := ⟨_, rfl⟩
  obtain ⟨A2, hA2⟩ : ∃ A, A = A1.alloc (.cells #[.map (some D)] 92) := ⟨_, rfl⟩
  obtain ⟨A3, hA3⟩ : ∃ A, A = A2.alloc (.cells #[.slice none 0 0] 37) := ⟨_, rfl⟩
  obtain ⟨A4, hA4⟩ : ∃ A, A = A3.alloc (.cells #[.int .i64 (b : Int)] 2) := ⟨_, rfl⟩
  obtain ⟨W6, hW6⟩ : ∃ A, A = A4.alloc (.cells #[.slice a1 n cap1] 37) := ⟨_, rfl⟩
  rw [← hA1, ← hA2, ← hA3, ← hA4, ← hW6]
  have z1 : A1.heap.size = B + 1 := by rw [hA1, World.size_alloc, hBe]
  have z2 : A2.heap.size = B + 1 + 1 := by rw [hA2, World.size_alloc, z1]
  have z3 : A3.heap.size = B + 1 + 1 + 1 := by rw [hA3, World.size_alloc, z2]
  have z4 : A4.heap.size = B + 1 + 1 + 1 + 1 := by rw [hA4, World.size_alloc, z3]
  have z6 : W6.heap.size = B + 1 + 1 + 1 + 1 + 1 := by rw [hW6, World.size_alloc, z4]
  have k6 : ∀ (j : Nat) (o : Obj), j < B + 1 + 1 + 1 + 1 → A4.heap[j]? = some o → W6.heap[j]? = some o := fun j o hj ho => by rw [hW6]; exact (Below.heap_alloc _ _ _ (by omega)).trans ho
  have k4 : ∀ (j : Nat) (o : Obj), j < B + 1 + 1 + 1 → A3.heap[j]? = some o → W6.heap[j]? = some o := fun j o hj ho => k6 j o (by omega) (by rw [hA4]; exact (Below.heap_alloc _ _ _ (by omega)).trans ho)
  have k3 : ∀ (j : Nat) (o : Obj), j < B + 1 + 1 → A2.heap[j]? = some o → W6.heap[j]? = some o := fun j o hj ho => k4 j o (by omega) (by rw [hA3]; exact (Below.heap_alloc _ _ _ (by omega)).trans ho)
  have k2 : ∀ (j : Nat) (o : Obj), j < B + 1 → A1.heap[j]? = some o → W6.heap[j]? = some o := fun j o hj ho => k3 j o (by omega) (by rw [hA2]; exact (Below.heap_alloc _ _ _ (by omega)).trans ho)
  have k1 : ∀ (j : Nat) (o : Obj), j < B → w6.heap[j]? = some o → W6.heap[j]? = some o := fun j o hj ho => k2 j o (by omega) (by rw [hA1]; exact (Below.heap_alloc _ _ _ (by omega)).trans ho)
  have hBw : Below w.heap.size w W6 := by
    rw [hW6, hA4, hA3, hA2, hA1]
    have h0 := hB6w.size
    exact ((((hB6w.alloc (by omega) _).alloc (by simp; omega) _).alloc (by simp; omega) _).alloc (by simp; omega) _).alloc (by simp; omega) _
  have hX6 : ExW w W6 M D B n N qs a f (.slice none 0 0) ([], (b : Int)) := {
    below := hBw
    mb := ⟨hMw, by omega⟩
    db := ⟨by omega, hDl⟩
    ba := k1 _ _ (by omega) hba6
    lows := by rw [hW6, hA4, hA3, hA2, hA1]; exact ((((hlw6.alloc _).alloc _).alloc _).alloc _).alloc _
    cnt := by rw [hW6, hA4, hA3, hA2, hA1]; exact ((((hct6.alloc _).alloc _).alloc _).alloc _).alloc _
    b7 := k2 _ _ (by omega) (by rw [hA1, hBe]; exact heap_alloc_new _ _)
    b8 := k3 _ _ (by omega) (by rw [hA2, ← z1]; exact heap_alloc_new _ _)
    b9 := k4 _ _ (by omega) (by rw [hA3, ← z2]; exact heap_alloc_new _ _)
    b10 := k6 _ _ (by omega) (by rw [hA4, ← z3]; exact heap_alloc_new _ _)
    row := World.ownsRow_nil _ _ _ _
    nil := fun _ => rfl }
  have hsb6 : W6.heap[B + 1 + 1 + 1 + 1]? = some (.cells #[.slice a1 n cap1] 37 (0, 0)) := by rw [hW6, ← z4]; exact heap_alloc_new _ _
  obtain ⟨lb, off, hlbs, hcl⟩ : ∃ lb off, lb < B ∧ (n = 0 ∨ (a1 = some ⟨lb, off, none⟩ ∧ ∀ i, i < 2 * n → W6.cell? ⟨lb, off + i, none⟩ = some (.int .i64 (at0 qs i)))) := by
    rcases Hy.out with h | ⟨lb, off, h1, h2, h3⟩
    · refine ⟨w.heap.size, 0, by omega, .inl ?_⟩
      have := Hp.out
      rw [h] at this
      simp at this
      omega
    · refine ⟨lb, off, by omega, .inr ⟨h2, fun i hi => ?_⟩⟩
      exact (hBw.cell (p := ⟨lb, off + i, none⟩) h1).trans (h3 i (by have := Hp.out; omega))
  have HX6 := hid hX6
  have Hlw := hid hlbs
  have Hz6 := hid z6
  clear hX6 k1 k2 k3 k4 k6 hBw hA1 hA2 hA3 hA4 hW6 hct6 hlw6 hba6 hB6w Hown Hcnt HB6 HB5 HLw HWf hBe hMe hDe z1 z2 z3 z4 Hba HB0 Hs0
  refine wpIn_rangeFunc_PH rfl (by decide) (gf := 181) (lb := #[.pointer (some ⟨B + 1 + 1 + 1 + 1, 0, none⟩)]) rfl trivial (enters_of Try.func181 (by kernel_rfl) rfl)
    (backward_P 23 (by decide) (B + 1 + 1 + 1 + 1) lb off n cap1 a1 qs W6 hsb6 (by omega) hn hcl) (by simp; omega) (Below.refl _ _) (fun _ => rfl)
    (fun pre W' => ∃ v, ExW w W' M D B n N qs a f v (excTo qs n (b : Int) a pre))
    (fun _ _ _ => False)
    (by rw [z6]; exact ex_ownIn (fun pre => excTo qs n (b : Int) a pre))
    (fun _ => ownIn_pure _ _ _)
    ⟨_, HX6.out⟩
    (fun i => .cells #[.int .i64 (at0 qs (i * 2)), .int .i64 (at0 qs (i * 2 + 1))] 65)
    (fun i bx => { tmps := List.toArray ((.slice a1 n cap1) :: (.int .i64 (b : Int)) :: (.int .i64 a) :: (undef) :: (undef) :: (.pointer (some ⟨w.heap.size, 0, none⟩)) :: (.slice none 0 0) :: (.pointer (some ⟨B, 0, none⟩)) :: (.pointer (some ⟨B + 1, 0, none⟩)) :: (.pointer (some ⟨B + 1 + 1, 0, none⟩)) :: (.pointer (some ⟨B + 1 + 1 + 1, 0, none⟩)) :: (undef) :: (.pointer (some ⟨bx, 0, none⟩)) :: (.slice a1 n cap1) :: (.map (some M)) :: (.slice a1 n cap1) :: (.int .i64 (b : Int)) :: (.map (some D)) :: (.int .i64 (b : Int)) :: (.slice a1 n cap1) :: (.func (.func 181) #[] #[.pointer (some ⟨B + 1 + 1 + 1 + 1, 0, none⟩)]) :: (.int .i64 (i : Int)) :: (.agg #[.int .i64 (at0 qs (i * 2)), .int .i64 (at0 qs (i * 2 + 1))]) :: (undef) :: (undef) :: (undef) :: (undef) :: (undef) :: (undef) :: (undef) :: (undef) :: (undef) :: (undef) :: (undef) :: (undef) :: (undef) :: (undef) :: (undef) :: (undef) :: (undef) :: (undef) :: (undef) :: (undef) :: (undef) :: (undef) :: (undef) :: (undef) :: (undef) :: (undef) :: (undef) :: (undef) :: (undef) :: []), defers := [] }) ?assign ?body ?done ?stop
  case assign =>
    intro l i W7 K hK
    gi_wp2
    exact hK
  case stop =>
    rintro c pre W7 hpre hF hD7
    exact hF.elim
  case body =>
    rintro pre i bx W7 hpre hbx hsz7 hob _ ⟨v, hX⟩
    obtain ⟨hkn, hi⟩ := downL_prefix hpre
    have hin : i < n := by omega
    have hx64 := Hlo.out i hin
    have hxw : (Lit.int .i64 (at0 qs (i * 2))).wf = true := WalkArith.wf_i64 (by omega)
    obtain ⟨st, hst⟩ : ∃ st, st = excTo qs n (b : Int) a pre := ⟨_, rfl⟩
    rw [← hst] at hX
    have Hst : Hid (excTo qs n (b : Int) a (pre ++ [i]) = excStep qs n (b : Int) a st i) := hid (by rw [hst]; exact excTo_snoc ..)
    have hstl : st.1.length ≤ 2 * n := by
      have h1 := excTo_len qs n (b : Int) a pre
      rw [← hst] at h1
      have := hpre.length_le
      rw [downL_len] at this
      simp at this
      omega
    have hfx : f (at0 qs (i * 2)) = wsum qs n (b : Int) (at0 qs (i * 2)) := by
      rw [Hf.out _ hx64.1 hx64.2]
      have := Hws.out (at0 qs (i * 2))
      exact IntWalk.wrap64_in _ ⟨by omega, by omega⟩
    have hXd := hX.later ((Below.refl W7.heap.size W7).drew)
    have hlk := hXd.cnt.lookup hxw
    rw [hfx] at hlk
    obtain ⟨u, hu⟩ : ∃ u, u = wsum qs n (b : Int) (at0 qs (i * 2)) := ⟨_, rfl⟩
    rw [← hu] at hlk
    have HRf := hid (reachedF_in M n n qs (at0 qs (i * 2)) W7.drew hXd.lows HD.out HH.out hxw)
    have Hstep : Hid (∀ c, reachB qs n (at0 qs (i * 2)) a = c → excStep qs n (b : Int) a st i = if (decide (0 < u) && c) then (st.1 ++ [(at0 qs (i * 2), at0 qs (i * 2 + 1)), (at0 qs (i * 2), st.2)], at0 qs (i * 2 + 1)) else st) := hid (fun c hc => by unfold excStep keepW; rw [hc, ← hu]; rfl)
    obtain ⟨x, hx⟩ : ∃ x, x = at0 qs (i * 2) := ⟨_, rfl⟩
    obtain ⟨y, hy⟩ : ∃ y, y = at0 qs (i * 2 + 1) := ⟨_, rfl⟩
    rw [← hx, ← hy] at hob Hstep ⊢
    rw [← hx] at hlk HRf
    obtain ⟨p0, p1, _, _⟩ := two_of hob
    obtain ⟨q5, _⟩ := box_cell hX.ba
    obtain ⟨q7, _⟩ := box_cell hX.b7
    obtain ⟨q8, _⟩ := box_cell hX.b8
    obtain ⟨q9, g9⟩ := box_cell hX.b9
    obtain ⟨q10, g10⟩ := box_cell hX.b10
    have HX := hid hXd
    clear hXd
    have hmix : Try.prog.follows .mixedOrders = true := by kernel_rfl
    have Hsz7 := hid hsz7
    have Hbx := hid hbx
    have Hob := hid hob
    have Hhx := hid hx
    have Hlkx : Hid (∀ W : World, ExW w W M D B n N qs a f v st → (Instr.lookup 92 (.map (some D)) (.int .i64 x) false).run Try.prog W = .ok (.int .i64 u) W) := hid (fun W hW => by have h := hW.cnt.lookup (p := x) (by rw [hx]; exact hxw); rw [h, hx, hfx, ← hu])
    have Hu0 := hid (show 0 ≤ u by rw [hu]; exact (Hws.out _).1)
    clear hX hsz7 hbx hob hu hfx hx hy hst hpre hi hxw hcl hsb6 z6
    obtain ⟨x0, hx0⟩ : ∃ x0, x0 = W7.drew := ⟨_, rfl⟩
    have HXo := hid (show ExW w x0 M D B n N qs a f v st ∧ x0.heap[bx]? = some (.cells #[.int .i64 x, .int .i64 y] 65 (0, 0)) by rw [hx0]; exact ⟨HX.out, Hob.out⟩)
    have Hz0 : Hid (x0.heap.size = bx + 1) := hid (by rw [hx0]; exact Hsz7.out)
    have H70 : Hid (Below W7.heap.size W7 x0) := hid (by rw [hx0]; exact (Below.refl _ _).drew)
    rw [← hx0] at HRf
    have Hlk := hid (fun (W : World) (hW : ExW w W M D B n N qs a f v st) => Hlkx.out W hW)
    by_cases hup : 0 < u
    · have hgt : (u > 0) = True := by simp [hup]
      gi_wp2_with fail
      clear q5 q7 q8 q9 q10 g9 g10 p0 p1 hlk
      refine wpIn_mono (Q := XpQ (fun c => List.toArray ((.slice a1 n cap1) :: (.int .i64 (b : Int)) :: (.int .i64 a) :: (undef) :: (undef) :: (.pointer (some ⟨w.heap.size, 0, none⟩)) :: (.slice none 0 0) :: (.pointer (some ⟨B, 0, none⟩)) :: (.pointer (some ⟨B + 1, 0, none⟩)) :: (.pointer (some ⟨B + 1 + 1, 0, none⟩)) :: (.pointer (some ⟨B + 1 + 1 + 1, 0, none⟩)) :: (undef) :: (.pointer (some ⟨bx, 0, none⟩)) :: (.slice a1 n cap1) :: (.map (some M)) :: (.slice a1 n cap1) :: (.int .i64 (b : Int)) :: (.map (some D)) :: (.int .i64 (b : Int)) :: (.slice a1 n cap1) :: (.func (.func 181) #[] #[.pointer (some ⟨B + 1 + 1 + 1 + 1, 0, none⟩)]) :: (.int .i64 (i : Int)) :: (.agg #[.int .i64 x, .int .i64 y]) :: (.map (some D)) :: (.pointer (some ⟨bx, 0, none⟩)) :: (.int .i64 x) :: (.int .i64 u) :: (.bool true) :: (.bool true) :: (.map (some M)) :: (.pointer (some ⟨bx, 0, none⟩)) :: (.int .i64 x) :: (.map (some x0.heap.size)) :: (.int .i64 a) :: (.bool c) :: (.bool c) :: (undef) :: (undef) :: (undef) :: (undef) :: (undef) :: (undef) :: (undef) :: (undef) :: (undef) :: (undef) :: (undef) :: (undef) :: (undef) :: (undef) :: (undef) :: (undef) :: [])) (fun c W => (ExW w W M D B n N qs a f v st ∧ W.heap[bx]? = some (.cells #[.int .i64 x, .int .i64 y] 65 (0, 0))) ∧ Below W7.heap.size W7 W ∧ reachB qs n x a = c)) ?_ ?_
      · refine region_MR 12 (fun W : World => ExW w W M D B n N qs a f v st ∧ W.heap[bx]? = some (.cells #[.int .i64 x, .int .i64 y] 65 (0, 0))) (by kernel_rfl) (by kernel_rfl) (by rintro ⟨a', w', h⟩; exact h) ?_
        rw [← hx0]
        clear hx0
        refine anyM_take (i := 0) (v := .map (some D)) [3, 4, 5, 6, 9, 11, 12] rfl (by kernel_rfl) (fun _ _ _ h => h) (Or.inl ⟨by rfl, fun W hW => by (have q8 := (box_cell hW.1.b8).1; clear hW; go_simp)⟩) HXo.out ?_
        refine anyM_take (i := 1) (v := .pointer (some ⟨bx, 0, none⟩)) [2, 3, 4, 5, 6, 9, 11, 12] rfl (by kernel_rfl) (fun _ _ _ h => h) (Or.inl ⟨by rfl, fun W hW => by (clear hW; go_simp)⟩) HXo.out ?_
        refine anyM_take (i := 2) (v := .int .i64 x) [3, 4, 5, 6, 9, 11, 12] rfl (by kernel_rfl) (fun _ _ _ h => h) (Or.inl ⟨by rfl, fun W hW => by (have p0 := (two_of hW.2).1; clear hW; go_simp)⟩) HXo.out ?_
        refine anyM_take (i := 3) (v := .int .i64 u) [4, 5, 6, 9, 11, 12] rfl (by kernel_rfl) (fun _ _ _ h => h) (Or.inl ⟨by rfl, fun W hW => by (have hl := Hlk.out W hW.1; clear hW; go_simp)⟩) HXo.out ?_
        refine anyM_take (i := 4) (v := .bool true) [5, 6, 9, 11, 12] rfl (by kernel_rfl) (fun _ _ _ h => h) (Or.inl ⟨by rfl, fun W hW => by (clear hW; go_simp)⟩) HXo.out ?_
        refine anyM_take (i := 5) (v := .bool true) [6, 9, 11, 12] rfl (by kernel_rfl) (fun _ _ _ h => h) (Or.inl ⟨by rfl, fun W hW => by (clear hW; go_simp)⟩) HXo.out ?_
        refine anyM_take (i := 6) (v := .map (some M)) [9, 11, 12] rfl (by kernel_rfl) (fun _ _ _ h => h) (Or.inl ⟨by kernel_rfl, fun W hW => by (have q7 := (box_cell hW.1.b7).1; clear hW; go_simp)⟩) HXo.out ?_
        refine anyM_take (i := 7) (v := .pointer (some ⟨bx, 0, none⟩)) [8, 9, 11, 12] rfl (by kernel_rfl) (fun _ _ _ h => h) (Or.inl ⟨by kernel_rfl, fun W hW => by (clear hW; go_simp)⟩) HXo.out ?_
        refine anyM_take (i := 8) (v := .int .i64 x) [9, 11, 12] rfl (by kernel_rfl) (fun _ _ _ h => h) (Or.inl ⟨by kernel_rfl, fun W hW => by (have p0 := (two_of hW.2).1; clear hW; go_simp)⟩) HXo.out ?_
        refine anyM_take (i := 10) (v := .int .i64 a) [11, 12] rfl (by kernel_rfl) (fun _ _ _ h => h) (Or.inl ⟨by kernel_rfl, fun W hW => by (have q5 := (box_cell hW.1.ba).1; clear hW; go_simp)⟩) HXo.out ?_
        refine anyM_ready (rs := [9]) (by kernel_rfl) (by simp) ?_
        refine AllM.cons rfl (fun K hK => ?_) AllM.nil
        go_simp
        go_at_call 126
        refine (callsIn_wide.1 HRf.out).mono ?_
        rintro e w8 ⟨met, rfl, hown8, hbf, hB8⟩
        have hlk8 : (Instr.lookup 82 (.map (some x0.heap.size)) (.int .i64 a) false).run Try.prog w8 = .ok (.bool (decide (a ∈ met))) w8 := lookup_known hown8 Ha.out
        have HX8 := hid (show ExW w w8 M D B n N qs a f v st ∧ w8.heap[bx]? = some (.cells #[.int .i64 x, .int .i64 y] 65 (0, 0)) from ⟨HXo.out.1.later hB8, (hB8.block _ (by rw [Hz0.out]; omega)).trans HXo.out.2⟩)
        have HB8 := hid hB8
        have Hrb : Hid (reachB qs n x a = decide (a ∈ met)) := hid (by
          by_cases h : a ∈ met
          · rw [decide_eq_true h, reachB_true ((hbf.out.done a).1 h)]
          · rw [decide_eq_false h, reachB_false (fun e => h ((hbf.out.done a).2 e))])
        obtain ⟨c, hc⟩ : ∃ c, c = decide (a ∈ met) := ⟨_, rfl⟩
        rw [← hc] at hlk8 Hrb
        clear hown8 hB8 hbf hc
        refine hK.out _ _ (fun _ => HX8.out) ?_
        clear hK K
        refine anyM_ready (rs := [11]) (by kernel_rfl) (by simp) ?_
        refine AllM.cons rfl (fun K hK => ?_) AllM.nil
        go_simp
        refine hK.out _ _ (fun _ => HX8.out) ?_
        clear hK K
        refine anyM_ready (rs := [12]) (by kernel_rfl) (by simp) ?_
        refine AllM.cons rfl (fun K hK => ?_) AllM.nil
        go_simp
        refine hK.out _ _ (fun h => absurd rfl h) ?_
        refine anyM_done (by kernel_rfl) ?_ _
        refine ⟨c, ?_, HX8.out, H70.out.trans (HB8.out.mono H70.out.size), Hrb.out⟩
        first | rfl | (cases c <;> rfl)
      · rintro e a' w8 hq
        cases e <;> try exact hq.elim
        obtain ⟨c, rfl, ⟨hX8, hob8⟩, hB8, hrb⟩ := hq
        have hstep := Hstep.out c hrb
        have HX8 := hid hX8
        have Hob8 := hid hob8
        have HB8 := hid hB8
        have hs8 := hB8.size
        have Hs8 : Hid (bx + 1 ≤ w8.heap.size) := hid (by have := Hsz7.out; omega)
        obtain ⟨p0, p1, _, _⟩ := two_of hob8
        obtain ⟨q9, g9⟩ := box_cell hX8.b9
        obtain ⟨q10, g10⟩ := box_cell hX8.b10
        have HBsz : Hid (B + 4 ≤ bx) := hid (by have := Hbx.out; have := Hz6.out; omega)
        dsimp only
        have HE := hid (Hst.out.trans hstep)
        clear hX8 hob8 hB8 hrb hs8 hstep HRf HXo hx0 HX Hlk Hlkx
        cases c
        · gi_wp2_with fail
          refine ⟨⟨HB8.out.size, fun r hr => HB8.out.block r ?_⟩, ⟨v, by rw [HE.out]; simpa using HX8.out⟩⟩
          have h1 := Hsz7.out
          have h2 := Hbx.out
          have h3 := Hz6.out
          have h4 := Hlw.out
          rcases hr with h | h
          · simp at h; omega
          · omega
        · have hb7 : B + 7 ≤ w8.heap.size := by have := Hs8.out; have := Hbx.out; have := Hz6.out; omega
          have Hb7 := hid hb7
          clear hb7
          gi_wp2_with (gi_at_builtin; refine append_twoIn (L := st.1) rfl rfl HX8.out.row Hb7.out (by omega) rfl rfl ?_; intro v' w9 hq9 hg9 _; have hne : ∀ j, j < B + 7 → v.ownBlock ≠ some j := (fun j hj e => by have := (HX8.out.row.lt j e).1; omega); have b9' := (hg9.block _ (lt_of_get HX8.out.b9) (fun e => hne _ (by omega) e.symm)).trans HX8.out.b9; have b10' := (hg9.block _ (lt_of_get HX8.out.b10) (fun e => hne _ (by omega) e.symm)).trans HX8.out.b10; have ob' := (hg9.block _ (lt_of_get Hob8.out) (fun e => by exact HX8.out.off Hob8.out e.symm)).trans Hob8.out; have xh : ∀ (V : Value) (j : Nat) (o : Obj), j ≠ B + 1 + 1 → w9.heap[j]? = some o → (w9.setCell ⟨B + 1 + 1, 0, none⟩ V).heap[j]? = some o := (fun V j o hj ho => (Below.heap_setCell _ _ _ _ (by first | exact hj | exact hj.symm)).trans ho); obtain ⟨L9, hL9⟩ : ∃ L9, L9 = st.1 ++ [(x, y), (x, st.2)] := ⟨_, rfl⟩; rw [← hL9] at hq9; obtain ⟨_, av9, cp9, rfl, _⟩ := pairs_form hq9; have HL9 := hid hL9; clear hL9; obtain ⟨s9, t9⟩ := box_cell b9'; have y10 := box_cell (xh (.slice av9 L9.length cp9) _ _ (by omega) b10'); obtain ⟨y1, y2⟩ := y10; have yob := two_of (xh (.slice av9 L9.length cp9) bx _ (by have := HBsz.out; omega) ob'); obtain ⟨z1, z2, _, _⟩ := yob; have Hq9 := hid hq9; have Hg9 := hid hg9; clear hq9 hg9 b9' b10' ob' xh hne)
          have hL2 : 2 ≤ L9.length := by rw [HL9.out]; simp
          refine ⟨⟨?_, fun r hr => ?_⟩, ⟨.slice av9 L9.length cp9, ?_⟩⟩
          · have h1 := HB8.out.size
            have h2 := Hg9.out.size
            simp only [World.setCell, Array.size_modify]
            omega
          · have h1 := Hsz7.out
            have h2 := Hbx.out
            have h3 := Hz6.out
            have h4 := Hlw.out
            have h5 := HB8.out.size
            have hr2 : r < B + 7 ∧ r ≠ B + 1 + 1 ∧ r ≠ B + 1 + 1 + 1 := by
              rcases hr with h | h
              · simp at h; omega
              · omega
            have hrv : v.ownBlock ≠ some r := fun e => by have := (HX8.out.row.lt r e).1; omega
            exact (Below.heap_setCell _ _ _ _ (by first | exact hr2.2.2 | exact hr2.2.2.symm)).trans ((Below.heap_setCell _ _ _ _ (by first | exact hr2.2.1 | exact hr2.2.1.symm)).trans ((Hg9.out.block r (by omega) (fun e => hrv e.symm)).trans (HB8.out.block r (by omega))))
          · have h := HX8.out.put Hq9.out Hg9.out y hL2
            rw [HE.out, if_pos (by simp [hup]), ← HL9.out]
            exact h
    · obtain rfl : u = 0 := by have := Hu0.out; omega
      gi_wp2_with fail
      clear q5 q7 q8 q9 q10 g9 g10 p0 p1 hlk
      refine wpIn_mono (Q := XpQ (fun _ => List.toArray ((.slice a1 n cap1) :: (.int .i64 (b : Int)) :: (.int .i64 a) :: (undef) :: (undef) :: (.pointer (some ⟨w.heap.size, 0, none⟩)) :: (.slice none 0 0) :: (.pointer (some ⟨B, 0, none⟩)) :: (.pointer (some ⟨B + 1, 0, none⟩)) :: (.pointer (some ⟨B + 1 + 1, 0, none⟩)) :: (.pointer (some ⟨B + 1 + 1 + 1, 0, none⟩)) :: (undef) :: (.pointer (some ⟨bx, 0, none⟩)) :: (.slice a1 n cap1) :: (.map (some M)) :: (.slice a1 n cap1) :: (.int .i64 (b : Int)) :: (.map (some D)) :: (.int .i64 (b : Int)) :: (.slice a1 n cap1) :: (.func (.func 181) #[] #[.pointer (some ⟨B + 1 + 1 + 1 + 1, 0, none⟩)]) :: (.int .i64 (i : Int)) :: (.agg #[.int .i64 x, .int .i64 y]) :: (.map (some D)) :: (.pointer (some ⟨bx, 0, none⟩)) :: (.int .i64 x) :: (.int .i64 0) :: (.bool false) :: (.bool false) :: (undef) :: (undef) :: (undef) :: (undef) :: (undef) :: (undef) :: (.bool false) :: (undef) :: (undef) :: (undef) :: (undef) :: (undef) :: (undef) :: (undef) :: (undef) :: (undef) :: (undef) :: (undef) :: (undef) :: (undef) :: (undef) :: (undef) :: (undef) :: [])) (fun _ W => W = x0)) ?_ ?_
      · refine region_MR 12 (fun W : World => W = x0) (by kernel_rfl) (by kernel_rfl) (by rintro ⟨a', w', h⟩; exact h) ?_
        rw [← hx0]
        clear hx0
        have HS : Hid (x0 = x0) := hid rfl
        refine anyM_take (i := 0) (v := .map (some D)) [3, 4, 5, 6, 9, 11, 12] rfl (by kernel_rfl) (fun _ _ _ h => h) (Or.inl ⟨by rfl, fun W hW => by (subst hW; have q8 := (box_cell HXo.out.1.b8).1; go_simp)⟩) HS.out ?_
        refine anyM_take (i := 1) (v := .pointer (some ⟨bx, 0, none⟩)) [2, 3, 4, 5, 6, 9, 11, 12] rfl (by kernel_rfl) (fun _ _ _ h => h) (Or.inl ⟨by rfl, fun W hW => by (clear hW; go_simp)⟩) HS.out ?_
        refine anyM_take (i := 2) (v := .int .i64 x) [3, 4, 5, 6, 9, 11, 12] rfl (by kernel_rfl) (fun _ _ _ h => h) (Or.inl ⟨by rfl, fun W hW => by (subst hW; have p0 := (two_of HXo.out.2).1; go_simp)⟩) HS.out ?_
        refine anyM_take (i := 3) (v := .int .i64 0) [4, 5, 6, 9, 11, 12] rfl (by kernel_rfl) (fun _ _ _ h => h) (Or.inl ⟨by rfl, fun W hW => by (subst hW; have hl := Hlk.out _ HXo.out.1; go_simp)⟩) HS.out ?_
        refine anyM_take (i := 4) (v := .bool false) [5, 6, 9, 11, 12] rfl (by kernel_rfl) (fun _ _ _ h => h) (Or.inl ⟨by rfl, fun W hW => by (clear hW; go_simp)⟩) HS.out ?_
        refine anyM_take (i := 5) (v := .bool false) [6, 9, 11, 12] rfl (by kernel_rfl) (fun _ _ _ h => h) (Or.inl ⟨by rfl, fun W hW => by (clear hW; go_simp)⟩) HS.out ?_
        refine anyM_take (i := 6) (v := undef) [9, 11, 12] rfl (by kernel_rfl) (fun _ _ _ h => h) (Or.inr ⟨by kernel_rfl, rfl⟩) HS.out ?_
        refine anyM_take (i := 7) (v := undef) [8, 9, 11, 12] rfl (by kernel_rfl) (fun _ _ _ h => h) (Or.inr ⟨by kernel_rfl, rfl⟩) HS.out ?_
        refine anyM_take (i := 8) (v := undef) [9, 11, 12] rfl (by kernel_rfl) (fun _ _ _ h => h) (Or.inr ⟨by kernel_rfl, rfl⟩) HS.out ?_
        refine anyM_take (i := 9) (v := undef) [11, 12] rfl (by kernel_rfl) (fun _ _ _ h => h) (Or.inr ⟨by kernel_rfl, rfl⟩) HS.out ?_
        refine anyM_take (i := 10) (v := undef) [11, 12] rfl (by kernel_rfl) (fun _ _ _ h => h) (Or.inr ⟨by kernel_rfl, rfl⟩) HS.out ?_
        refine anyM_take (i := 11) (v := undef) [12] rfl (by kernel_rfl) (fun _ _ _ h => h) (Or.inr ⟨by kernel_rfl, rfl⟩) HS.out ?_
        refine anyM_ready (rs := [12]) (by kernel_rfl) (by simp) ?_
        refine AllM.cons rfl (fun K hK => ?_) AllM.nil
        go_simp
        refine hK.out _ _ (fun h => absurd rfl h) ?_
        refine anyM_done (by kernel_rfl) ?_ _
        exact ⟨true, rfl, rfl⟩
      · rintro e a' w8 hq
        cases e <;> try exact hq.elim
        obtain ⟨c, rfl, rfl⟩ := hq
        have hstep := Hstep.out _ rfl
        rw [show (decide ((0 : Int) < 0) && reachB qs n x a) = false by simp] at hstep
        have HE := hid (Hst.out.trans hstep)
        dsimp only
        clear hstep HRf HX Hlk Hlkx hx0
        gi_wp2_with fail
        refine ⟨⟨H70.out.size, fun r hr => H70.out.block r ?_⟩, ⟨v, by rw [HE.out]; simpa using HXo.out.1⟩⟩
        have h1 := Hsz7.out
        have h2 := Hbx.out
        have h3 := Hz6.out
        have h4 := Hlw.out
        rcases hr with h | h
        · simp at h; omega
        · omega
  case done =>
    rintro W7 ⟨v, hX⟩ hD7
    obtain ⟨st, hst⟩ : ∃ st, st = excTo qs n (b : Int) a (downL n) := ⟨_, rfl⟩
    rw [← hst] at hX
    have HR : Hid (excL qs n (b : Int) a (downL n) = st.1 ++ [(a, st.2)]) := hid (by rw [hst]; rfl)
    have hstl : st.1.length ≤ 2 * n := by
      have h1 := excTo_len qs n (b : Int) a (downL n)
      rw [← hst, downL_len] at h1
      exact h1
    obtain ⟨q5, _⟩ := box_cell hX.ba
    obtain ⟨q9, g9⟩ := box_cell hX.b9
    obtain ⟨q10, g10⟩ := box_cell hX.b10
    have HX := hid hX
    have hoD : v.ownBlock ≠ some (B + 1 + 1 + 1 + 1 + 1) := fun e => by have := (hX.row.lt _ e).1; omega
    rw [z6] at hD7
    have HD7 := hid hD7
    have HoD := hid hoD
    have HrowL := hid (ownsRow_base hX.row (show B + 5 ≤ B + 7 by omega))
    have Hb5 : Hid (B + 5 ≤ W7.heap.size) := hid (by have := lt_of_get hD7; omega)
    clear hX hst hD7 hoD
    gi_wp2_with (gi_at_builtin; refine append_pairIn (L := st.1) rfl rfl HrowL.out Hb5.out (by omega) rfl rfl ?_; intro v' w9 hq9 hg9 hat9; have Hq9 := hid hq9; have Hg9 := hid hg9; have Hat9 := hid hat9; clear hq9 hg9 hat9)
    have hlt5 := lt_of_get HD7.out
    refine leaves_marks (by simp) [_] _ (by simp) (fun q hq => by simp only [List.mem_singleton] at hq; subst hq; exact (Hg9.out.block _ hlt5 (fun e => HoD.out e.symm)).trans HD7.out) (fun w' hw' => ?_)
    refine ⟨_, results_tmp rfl _ _ _, _, rfl, ?_⟩
    rw [HR.out]
    have hr := ownsRow_base Hq9.out (show w.heap.size ≤ B + 5 by omega)
    have hb9 : Below w.heap.size w w9 := HX.out.below.grown Hg9.out (by have := HX.out.below.size; omega) (fun k e => by have := (HX.out.row.lt k e).1; omega)
    refine ⟨⟨hr.1, ?_⟩, hb9.trans (hw'.below (fun q hq => by simp at hq; omega))⟩
    rcases hr.2 with hn | ⟨g, cap, cur, hv, hbg, hg, rest⟩
    · exact .inl hn
    · refine .inr ⟨g, cap, cur, hv, hbg, (hw'.block g (fun hm => ?_)).trans hg, rest⟩
      simp at hm
      subst hm
      rcases Hat9.out with h | ⟨k, h, h2⟩
      · exact HoD.out (by rw [← h, hv]; rfl)
      · rw [hv] at h
        simp [Value.ownBlock] at h
        omega

end Go.Proofs.Ytbhdipljhelddaa

/-! WaysBetween, the program's door. -/
namespace Go.Proofs.Ytbhdipljhelddaa
open Go.RowKit

attribute [local go_sem] Oper.semAt_some

theorem acode_such {V : Int} {fs : List Int} {n : Nat} {ps : List Int} {b a : Int} {s : Bool} (h : pcodeR V fs n ps = 0 → s = suchB fs ps b a) : acodeR V fs n ps s = givenR V fs n ps b a := by
  unfold acodeR givenR
  by_cases hp : pcodeR V fs n ps = 0
  · rw [if_pos hp, if_pos hp, h hp]
  · rw [if_neg hp, if_neg hp]

set_option maxRecDepth 1000000 in
set_option maxHeartbeats 8000000 in
theorem implWaysBetween (V : Int) (a0 : Option Addr) (cap : Nat) (fs : List Int) (a1 : Option Addr) (n cap1 : Nat) (ps : List Int) (b a : Int) (w : World) (hx : SlI w w.heap.size a0 fs) (hx1 : SlI w w.heap.size a1 ps) (hl : fs.length ≤ 1048576) (hp : ps.length = 2 * n) (hn : n ≤ 1048576) (hw : ∀ x ∈ ps, (Lit.int .i64 x).wf = true) (_wb : (Lit.int .i64 b).wf = true) (wa : (Lit.int .i64 a).wf = true) :
    Calls Try.prog 57 #[.agg #[.int .i64 V, .slice a0 fs.length cap], .slice a1 n cap1, .int .i64 b, .int .i64 a] w fun e w' => e = .returned (.tuple #[.int .i64 (waysBR V fs n ps b a).1, .int .i64 (waysBR V fs n ps b a).2]) ∧ Below w.heap.size w w' := by
  have hB0 : Below w.heap.size w (w.alloc (.cells #[.int .i64 V, .slice a0 fs.length cap] 28)) := (Below.refl _ w).alloc (Nat.le_refl _) _
  have HCb0 := hid (isCr_any V a0 cap fs a1 n cap1 ps b _ (hx.later hB0 hB0.size) (hx1.later hB0 hB0.size) hl hp hn)
  have HCa := hid (fun w1 (h : Below w.heap.size w w1) => isCr_any V a0 cap fs a1 n cap1 ps a w1 (hx.later h h.size) (hx1.later h h.size) hl hp hn)
  have HAc := hid (fun s w1 (h : Below w.heap.size w w1) => acode_any V a0 cap fs a1 n cap1 ps s w1 (hx.later h h.size) (hx1.later h h.size) hl hp hn hw)
  have HB0 := hid hB0
  by_cases h0 : givenR V fs n ps b a = 0
  · obtain ⟨hpc, hs, hac⟩ := given_zero h0
    have hCO : IsC V fs ∧ OkTo fs ps n := by
      rcases pcode_cases V fs n ps with ⟨hC, ho, _⟩ | ⟨_, _, h2, _⟩ | ⟨_, h2, _⟩
      · exact ⟨hC, ho⟩
      · rw [h2] at hpc; cases hpc
      · rw [h2] at hpc; cases hpc
    refine num_mono3 (show waysBR V fs n ps b a = (wrap64 (wsum ps n b a), 0) by rw [waysBR, if_pos h0]) ?_
    obtain ⟨⟨bn, rfl, hbn⟩, ha0, ha1⟩ := such_lt hCO.1.range63 hs
    obtain ⟨an, rfl⟩ : ∃ an : Nat, a = (an : Int) := ⟨a.toNat, by omega⟩
    have han : an < 64 := by omega
    have hwan := wa
    have hac0 : acodeR V fs n ps true = 0 := by rw [acode_such (b := (bn : Int)) (a := (an : Int)) (fun _ => hs.symm), h0]
    have hsb := hs
    unfold suchB at hsb
    simp only [Bool.and_eq_true, decide_eq_true_eq, Int.toNat_natCast] at hsb
    obtain ⟨hcb, hca, hones⟩ := hsb
    have hob := ones_le bn
    have hoa := ones_le an
    have hon : ((ones bn : Int) - 1 == (ones an : Int) - 1 + 1) = true := by simp; omega
    have hon2 : ((ones bn : Int) - 1 == (ones an : Int)) = true := by simp; omega
    rw [hcb] at HCb0
    rw [hca] at HCa
    have HSe := hid (fun w1 (h : Below w.heap.size w w1) => callsIn_wide.1 (settled_in a1 n cap1 ps w1 (hx1.later h h.size) hp hn hw (okTo_apart hCO.2) (okTo_highs hCO.1 hCO.2)))
    have Hp := hid hp
    have Hw := hid hw
    have HD := hid (okTo_apart hCO.2)
    have HH := hid (okTo_highs hCO.1 hCO.2)
    have Hlo := hid (okTo_lows hCO.1 hCO.2)
    have HN := hid hac
    clear hx hx1 h0 hpc hCO hp hac hs hB0 hw hcb hca hones wa ha0 ha1
    go_enter Try.func57, Try.ntmps57
    go_wp2_with (first
      | (go_at_call 116; refine HCb0.out.mono ?_; rintro e w1 ⟨rfl, hB1⟩; have HB1 := hid (HB0.out.trans (hB1.mono (by simp))); have m0 : w1.cell? ⟨w.heap.size, 0, none⟩ = some (.int .i64 V) := (hB1.cell (p := ⟨w.heap.size, 0, none⟩) (by simp)).trans (by simp [go_sem]); have m1 : w1.cell? ⟨w.heap.size, 1, none⟩ = some (.slice a0 fs.length cap) := (hB1.cell (p := ⟨w.heap.size, 1, none⟩) (by simp)).trans (by simp [go_sem]); have hs1 : w.heap.size < w1.heap.size := (by have := hB1.size; simp at this; omega); have HCa1 := hid (HCa.out w1 HB1.out); clear hB1 HCb0) | (go_at_call 116; refine HCa1.out.mono ?_; rintro e w2 ⟨rfl, hB2⟩; have n0 := (hB2.cell (p := ⟨w.heap.size, 0, none⟩) hs1).trans m0; have n1 := (hB2.cell (p := ⟨w.heap.size, 1, none⟩) hs1).trans m1; have HB2 := hid (HB1.out.trans (hB2.mono HB1.out.size)); have hs2 := Nat.lt_of_lt_of_le hs1 hB2.size; clear hB2 m0 m1 HCa1)
      | (go_at_call 107; refine (dim_any _ _ (by assumption)).mono ?_; rintro e w' ⟨rfl, rfl⟩)
      | (go_at_call 117; refine (HAc.out _ w2 HB2.out).mono ?_; rintro e w3 ⟨rfl, hB3⟩; rw [hac0]; have HB3 := hid (HB2.out.trans (hB3.mono HB2.out.size)); clear hB3)
      | (go_at_call 61; refine (HSe.out w3 HB3.out).mono ?_; rintro e w4 ⟨L, v, rfl, hS, hsat, hr⟩; have hLn := (stl_all hS hsat).1 HN.out; have hall := acyclic_settled HN.out hsat; obtain ⟨_, a2, c2, rfl, hs4⟩ := pairs_slI hr.1; have HB4 := hid (HB3.out.trans (hr.2.mono HB3.out.size)); have hqn : (setP ps L).length = L.length := setP_len ps L; have HWf := hid (callsIn_wide.1 (wfrom_in a2 L.length c2 (flatP (setP ps L)) bn w4 hs4 (by rw [flatP_len, hqn]) (by omega) (flat_wf Hp.out Hw.out hS) (flat_apart HD.out hS) (flat_highs HD.out HH.out hS hall) (flat_ord HD.out hS hall) (fun i hi => (by rw [(at_flat hi).1]; exact Hlo.out _ (hS.lt _ (List.getElem_mem hi)))) hbn)); have Hws : Hid (wsum (flatP (setP ps L)) L.length (bn : Int) (an : Int) = wsum ps n (bn : Int) (an : Int)) := hid (flat_wsum HD.out hS hall hLn _ _); rw [hLn] at HWf Hws; rw [hqn, hLn]; clear hS hsat hr hs4 hall hqn hLn)
      | (go_at_call 118; refine HWf.out.mono ?_; rintro e w5 ⟨N5, f5, rfl, hc5, hf5, hB5⟩; have hlk := hc5.lookup hwan; have hlv := hf5 (an : Int) (by omega) (by omega); rw [Hws.out] at hlv; rw [hlv] at hlk; have HB5 := hid (HB4.out.trans (hB5.mono HB4.out.size)); clear hc5 hf5 hB5 hlv))
    go_ret2
    exact ⟨rfl, HB5.out⟩
  · obtain ⟨c, hc⟩ : ∃ c, c = givenR V fs n ps b a := ⟨_, rfl⟩
    refine num_mono3 (show waysBR V fs n ps b a = (0, c) by rw [waysBR, if_neg h0, hc]) ?_
    rw [← hc] at h0
    have hcn : (c != 0) = true := by simpa using h0
    cases hcb : critB fs ps b
    · have hcode : acodeR V fs n ps false = c := by rw [hc]; exact acode_such (fun _ => by unfold suchB; rw [hcb]; rfl)
      rw [hcb] at HCb0
      clear hx hx1 hp hw hB0 hc h0 hcb
      go_enter Try.func57, Try.ntmps57
      go_wp2_with (first
        | (go_at_call 116; refine HCb0.out.mono ?_; rintro e w1 ⟨rfl, hB1⟩; have HB1 := hid (HB0.out.trans (hB1.mono (by simp))); have m0 : w1.cell? ⟨w.heap.size, 0, none⟩ = some (.int .i64 V) := (hB1.cell (p := ⟨w.heap.size, 0, none⟩) (by simp)).trans (by simp [go_sem]); have m1 : w1.cell? ⟨w.heap.size, 1, none⟩ = some (.slice a0 fs.length cap) := (hB1.cell (p := ⟨w.heap.size, 1, none⟩) (by simp)).trans (by simp [go_sem]); have hs1 : w.heap.size < w1.heap.size := (by have := hB1.size; simp at this; omega); have HCa1 := hid (HCa.out w1 HB1.out); clear hB1 HCb0)
        | (go_at_call 117; refine (HAc.out _ w1 HB1.out).mono ?_; rintro e w3 ⟨rfl, hB3⟩; rw [hcode]; have HB3 := hid (HB1.out.trans (hB3.mono HB1.out.size)); clear hB3))
      go_ret2
      exact ⟨rfl, HB3.out⟩
    · cases hca : critB fs ps a
      · have hcode : acodeR V fs n ps false = c := by rw [hc]; exact acode_such (fun _ => by unfold suchB; rw [hcb, hca]; rfl)
        rw [hcb] at HCb0
        rw [hca] at HCa
        clear hx hx1 hp hw hB0 hc h0 hcb hca
        go_enter Try.func57, Try.ntmps57
        go_wp2_with (first
          | (go_at_call 116; refine HCb0.out.mono ?_; rintro e w1 ⟨rfl, hB1⟩; have HB1 := hid (HB0.out.trans (hB1.mono (by simp))); have m0 : w1.cell? ⟨w.heap.size, 0, none⟩ = some (.int .i64 V) := (hB1.cell (p := ⟨w.heap.size, 0, none⟩) (by simp)).trans (by simp [go_sem]); have m1 : w1.cell? ⟨w.heap.size, 1, none⟩ = some (.slice a0 fs.length cap) := (hB1.cell (p := ⟨w.heap.size, 1, none⟩) (by simp)).trans (by simp [go_sem]); have hs1 : w.heap.size < w1.heap.size := (by have := hB1.size; simp at this; omega); have HCa1 := hid (HCa.out w1 HB1.out); clear hB1 HCb0) | (go_at_call 116; refine HCa1.out.mono ?_; rintro e w2 ⟨rfl, hB2⟩; have n0 := (hB2.cell (p := ⟨w.heap.size, 0, none⟩) hs1).trans m0; have n1 := (hB2.cell (p := ⟨w.heap.size, 1, none⟩) hs1).trans m1; have HB2 := hid (HB1.out.trans (hB2.mono HB1.out.size)); have hs2 := Nat.lt_of_lt_of_le hs1 hB2.size; clear hB2 m0 m1 HCa1)
          | (go_at_call 117; refine (HAc.out _ w2 HB2.out).mono ?_; rintro e w3 ⟨rfl, hB3⟩; rw [hcode]; have HB3 := hid (HB2.out.trans (hB3.mono HB2.out.size)); clear hB3))
        go_ret2
        exact ⟨rfl, HB3.out⟩
      · rw [hcb] at HCb0
        rw [hca] at HCa
        by_cases hpc : pcodeR V fs n ps = 0
        · have hC : IsC V fs := by
            rcases pcode_cases V fs n ps with ⟨hC, ho, _⟩ | ⟨_, _, h2, _⟩ | ⟨_, h2, _⟩
            · exact hC
            · rw [h2] at hpc; cases hpc
            · rw [h2] at hpc; cases hpc
          have hmb : b ∈ fs := by unfold critB at hcb; simp at hcb; exact hcb.1
          have hma : a ∈ fs := by unfold critB at hca; simp at hca; exact hca.1
          obtain ⟨bn, rfl⟩ : ∃ bn : Nat, b = (bn : Int) := ⟨b.toNat, by have := hC.range63 b hmb; omega⟩
          obtain ⟨an, rfl⟩ : ∃ an : Nat, a = (an : Int) := ⟨a.toNat, by have := hC.range63 a hma; omega⟩
          have hbn : bn < 64 := by have := hC.range63 _ hmb; omega
          have han : an < 64 := by have := hC.range63 _ hma; omega
          have hob := ones_le bn
          have hoa := ones_le an
          obtain ⟨sv, hsv⟩ : ∃ sv, ((ones bn : Int) - 1 == (ones an : Int)) = sv := ⟨_, rfl⟩
          have hsv2 : ((ones bn : Int) - 1 == (ones an : Int) - 1 + 1) = sv := by rw [← hsv]; congr 1; omega
          have hcode : acodeR V fs n ps sv = c := by
            rw [hc]
            refine acode_such (fun _ => ?_)
            unfold suchB
            rw [hcb, hca, ← hsv]
            simp only [Bool.true_and, Int.toNat_natCast]
            rw [Bool.eq_iff_iff]
            simp
            omega
          clear hx hx1 hp hw hB0 hc h0 hcb hca hpc hC hmb hma
          go_enter Try.func57, Try.ntmps57
          go_wp2_with (first
            | (go_at_call 116; refine HCb0.out.mono ?_; rintro e w1 ⟨rfl, hB1⟩; have HB1 := hid (HB0.out.trans (hB1.mono (by simp))); have m0 : w1.cell? ⟨w.heap.size, 0, none⟩ = some (.int .i64 V) := (hB1.cell (p := ⟨w.heap.size, 0, none⟩) (by simp)).trans (by simp [go_sem]); have m1 : w1.cell? ⟨w.heap.size, 1, none⟩ = some (.slice a0 fs.length cap) := (hB1.cell (p := ⟨w.heap.size, 1, none⟩) (by simp)).trans (by simp [go_sem]); have hs1 : w.heap.size < w1.heap.size := (by have := hB1.size; simp at this; omega); have HCa1 := hid (HCa.out w1 HB1.out); clear hB1 HCb0) | (go_at_call 116; refine HCa1.out.mono ?_; rintro e w2 ⟨rfl, hB2⟩; have n0 := (hB2.cell (p := ⟨w.heap.size, 0, none⟩) hs1).trans m0; have n1 := (hB2.cell (p := ⟨w.heap.size, 1, none⟩) hs1).trans m1; have HB2 := hid (HB1.out.trans (hB2.mono HB1.out.size)); have hs2 := Nat.lt_of_lt_of_le hs1 hB2.size; clear hB2 m0 m1 HCa1)
            | (go_at_call 107; refine (dim_any _ _ (by assumption)).mono ?_; rintro e w' ⟨rfl, rfl⟩)
            | (go_at_call 117; refine (HAc.out _ w2 HB2.out).mono ?_; rintro e w3 ⟨rfl, hB3⟩; rw [hcode]; have HB3 := hid (HB2.out.trans (hB3.mono HB2.out.size)); clear hB3))
          go_ret2
          exact ⟨rfl, HB3.out⟩
        · have hcode : ∀ s, acodeR V fs n ps s = c := fun s => by rw [hc]; exact acode_such (fun h => absurd h hpc)
          clear hx hx1 hp hw hB0 hc h0 hcb hca hpc
          go_enter Try.func57, Try.ntmps57
          go_wp2_with (first
            | (go_at_call 116; refine HCb0.out.mono ?_; rintro e w1 ⟨rfl, hB1⟩; have HB1 := hid (HB0.out.trans (hB1.mono (by simp))); have m0 : w1.cell? ⟨w.heap.size, 0, none⟩ = some (.int .i64 V) := (hB1.cell (p := ⟨w.heap.size, 0, none⟩) (by simp)).trans (by simp [go_sem]); have m1 : w1.cell? ⟨w.heap.size, 1, none⟩ = some (.slice a0 fs.length cap) := (hB1.cell (p := ⟨w.heap.size, 1, none⟩) (by simp)).trans (by simp [go_sem]); have hs1 : w.heap.size < w1.heap.size := (by have := hB1.size; simp at this; omega); have HCa1 := hid (HCa.out w1 HB1.out); clear hB1 HCb0) | (go_at_call 116; refine HCa1.out.mono ?_; rintro e w2 ⟨rfl, hB2⟩; have n0 := (hB2.cell (p := ⟨w.heap.size, 0, none⟩) hs1).trans m0; have n1 := (hB2.cell (p := ⟨w.heap.size, 1, none⟩) hs1).trans m1; have HB2 := hid (HB1.out.trans (hB2.mono HB1.out.size)); have hs2 := Nat.lt_of_lt_of_le hs1 hB2.size; clear hB2 m0 m1 HCa1)
            | (go_at_call 107; refine (dim_free _ _).mono ?_; rintro e w' ⟨c1, rfl, rfl⟩)
            | (go_at_call 117; refine (HAc.out _ w2 HB2.out).mono ?_; rintro e w3 ⟨rfl, hB3⟩; rw [hcode]; have HB3 := hid (HB2.out.trans (hB3.mono HB2.out.size)); clear hB3))
          go_ret2
          exact ⟨rfl, HB3.out⟩

end Go.Proofs.Ytbhdipljhelddaa

/-! CancelFaces, the program's door. -/
namespace Go.Proofs.Ytbhdipljhelddaa
open Go.RowKit

attribute [local go_sem] Oper.semAt_some

theorem cancR_len (V : Int) (fs : List Int) (n : Nat) (ps : List Int) (b a : Int) (_hl : fs.length ≤ 1048576) (hp : ps.length = 2 * n) (hn : n ≤ 1048576) : (cancR V fs n ps b a).1.length ≤ 1048576 := by
  unfold cancR
  by_cases h0 : givenR V fs n ps b a = 0
  · rw [if_pos h0]
    by_cases h1 : wsum ps n b a = 1
    · rw [if_pos h1]
      obtain ⟨hpc, hs, hac⟩ := given_zero h0
      have hCO : IsC V fs ∧ OkTo fs ps n := by
        rcases pcode_cases V fs n ps with ⟨hC, ho, _⟩ | ⟨_, _, h2, _⟩ | ⟨_, h2, _⟩
        · exact ⟨hC, ho⟩
        · rw [h2] at hpc; cases hpc
        · rw [h2] at hpc; cases hpc
      have h31 := okTo_31 hCO.1 hCO.2
      have hr := (route_of hCO.1 hCO.2 hp hs hac h1).2
      have := cancL_len (routeL ps n b a) (setP ps (List.range n))
      rw [setP_len, List.length_range] at this
      simp only
      omega
    · rw [if_neg h1]
      simp
  · rw [if_neg h0]
    simp

theorem pairQ_mono {fn : FuncId} {args : Array Value} {w : World} {P : Program} {R : List (Int × Int) × Int} {b : List (Int × Int)} {c : Int} (hR : R = (b, c))
    (h : Calls P fn args w fun e w' => ∃ v, e = .returned (.tuple #[v, .int .i64 c]) ∧ ResP w w' v b) : Calls P fn args w fun e w' => ∃ v, e = .returned (.tuple #[v, .int .i64 R.2]) ∧ ResP w w' v R.1 := by rw [hR]; exact h

set_option maxRecDepth 1000000 in
set_option maxHeartbeats 8000000 in
theorem implCancelFaces (V : Int) (a0 : Option Addr) (cap : Nat) (fs : List Int) (a1 : Option Addr) (n cap1 : Nat) (ps : List Int) (b a : Int) (w : World) (hx : SlI w w.heap.size a0 fs) (hx1 : SlI w w.heap.size a1 ps) (hl : fs.length ≤ 1048576) (hp : ps.length = 2 * n) (hn : n ≤ 1048576) (hw : ∀ x ∈ ps, (Lit.int .i64 x).wf = true) (wb : (Lit.int .i64 b).wf = true) (wa : (Lit.int .i64 a).wf = true) :
    Calls Try.prog 23 #[.agg #[.int .i64 V, .slice a0 fs.length cap], .slice a1 n cap1, .int .i64 b, .int .i64 a] w fun e w' => ∃ v, e = .returned (.tuple #[v, .int .i64 (cancR V fs n ps b a).2]) ∧ ResP w w' v (cancR V fs n ps b a).1 := by
  have hB0 : Below w.heap.size w (w.alloc (.cells #[.int .i64 V, .slice a0 fs.length cap] 28)) := (Below.refl _ w).alloc (Nat.le_refl _) _
  have HWb := hid (implWaysBetween V a0 cap fs a1 n cap1 ps b a _ (hx.later hB0 hB0.size) (hx1.later hB0 hB0.size) hl hp hn hw wb wa)
  have HB0 := hid hB0
  by_cases h0 : givenR V fs n ps b a = 0
  · obtain ⟨hpc, hs, hac⟩ := given_zero h0
    have hCO : IsC V fs ∧ OkTo fs ps n := by
      rcases pcode_cases V fs n ps with ⟨hC, ho, _⟩ | ⟨_, _, h2, _⟩ | ⟨_, h2, _⟩
      · exact ⟨hC, ho⟩
      · rw [h2] at hpc; cases hpc
      · rw [h2] at hpc; cases hpc
    obtain ⟨⟨bn, rfl, hbn⟩, ha0, ha1⟩ := such_lt hCO.1.range63 hs
    have hwr := wsum_ps hCO.1 hCO.2 hac hbn
    have hwv : waysBR V fs n ps (bn : Int) a = (wsum ps n (bn : Int) a, 0) := by
      rw [waysBR, if_pos h0]
      have := hwr a
      rw [IntWalk.wrap64_in _ ⟨by omega, by omega⟩]
    rw [hwv] at HWb
    by_cases h1 : wsum ps n (bn : Int) a = 1
    · refine pairQ_mono (show cancR V fs n ps (bn : Int) a = (cancL (setP ps (List.range n)) (routeL ps n (bn : Int) a), 0) by rw [cancR, if_pos h0, if_pos h1]) ?_
      obtain ⟨G, hG⟩ : ∃ G, G = cancL (setP ps (List.range n)) (routeL ps n (bn : Int) a) := ⟨_, rfl⟩
      rw [← hG]
      rw [h1] at HWb
      have h31 := okTo_31 hCO.1 hCO.2
      have HSt := hid (fun w1 (h : Below w.heap.size w w1) => callsIn_wide.1 (settled_in a1 n cap1 ps w1 (hx1.later h h.size) hp hn hw (okTo_apart hCO.2) (okTo_highs hCO.1 hCO.2)))
      have HEx := hid (fun (L : List Nat) (hS : Stl ps n L) (hall : ∀ i, i < n → i ∈ L) (hLn : L.length = n) (al : Option Addr) (cl : Nat) (w1 : World) (hsl : SlI w1 w1.heap.size al (flatP (setP ps L))) => by
        have H := canc_H hCO.1 hCO.2 hp hs hS hall hLn h1
        exact callsIn_wide.1 (exc_in al L.length cl (flatP (setP ps L)) bn a w1 hsl (by rw [flatP_len, setP_len]) (by omega) (flat_wf hp hw hS) H.lows H.highs H.ord (fun i hi => by
          rw [(at_flat hi).1]
          exact okTo_lows hCO.1 hCO.2 _ (hS.lt _ (List.getElem_mem hi))) hbn wa (fun x => by
          rw [flat_wsum (okTo_apart hCO.2) hS hall hLn]
          exact hwr x)))
      have HFin := hid (fun (L : List Nat) (hS : Stl ps n L) (hall : ∀ i, i < n → i ∈ L) (hLn : L.length = n) (s : List (Int × Int)) (h : OddP (setP ps (List.range n) ++ excL (flatP (setP ps L)) L.length (bn : Int) a (downL L.length)) s) => (canc_prog hCO.1 hCO.2 hp hs hS hall hLn h1 h).trans hG.symm)
      have HSat := hid (fun (L : List Nat) (hS : Stl ps n L) (hst : SatTo ps n n L) => (stl_all hS hst).1 hac)
      have Hx1 := hid hx1
      have Hfl := hid (flatP_setR hp)
      have H31 := hid h31
      have Hall := hid (fun (L : List Nat) (hS : Stl ps n L) (hLn : L.length = n) (i : Nat) (hi : i < n) => (show i ∈ L from Classical.byContradiction fun hni => by
        have := nodup_le n (L ++ [i]) (by rw [List.nodup_append]; exact ⟨hS.nodup, by simp, fun p hp q hq => by simp at hq; subst hq; exact fun e => hni (e ▸ hp)⟩) (fun j hj => by
          rcases List.mem_append.1 hj with h | h
          · exact hS.lt j h
          · simp at h; omega)
        simp at this
        omega))
      clear hx hx1 hl hp hw hCO hs hac hwr hpc h0 h1 hB0 h31 hwv hG
      go_enter Try.func23, Try.ntmps23
      go_wp2_with fail
      refine HWb.out.mono ?_
      rintro e w1 ⟨rfl, hB1⟩
      have HB1 := hid (HB0.out.trans (hB1.mono HB0.out.size))
      clear hB1 HWb HB0
      go_wp2_with fail
      refine (HSt.out w1 HB1.out).mono ?_
      rintro e w2 ⟨L, v2, rfl, hS, hst, hr2⟩
      have hLn : L.length = n := HSat.out L hS hst
      have hall := Hall.out L hS hLn
      obtain ⟨_, a2, c2, rfl, hs2⟩ := pairs_slI hr2.1
      rw [setP_len]
      have HE := hid (HEx.out L hS hall hLn a2 c2 w2 hs2)
      have HB2 := hid (HB1.out.trans (hr2.2.mono HB1.out.size))
      have HF := hid (HFin.out L hS hall hLn)
      obtain ⟨E, hE⟩ : ∃ E, E = excL (flatP (setP ps L)) L.length (bn : Int) a (downL L.length) := ⟨_, rfl⟩
      have hEl : E.length ≤ 1000 := by
        have h1 := excTo_len (flatP (setP ps L)) L.length (bn : Int) a (downL L.length)
        rw [downL_len] at h1
        have := H31.out
        rw [hE]
        unfold excL
        simp only [List.length_append, List.length_cons, List.length_nil]
        omega
      have hE0 : E ≠ [] := by rw [hE]; unfold excL; simp
      rw [← hE] at HE HF
      have HEl := hid hEl
      have HE0 := hid hE0
      clear hr2 hs2 hst HSt HEx HFin HSat Hall hE hEl hE0 hS hall hLn
      go_wp2_with fail
      refine HE.out.mono ?_
      rintro e w3 ⟨v3, rfl, hr3⟩
      obtain ⟨_, a3, c3, rfl, hs3⟩ := pairs_slI hr3.1
      have HB3 := hid (HB2.out.trans (hr3.2.mono HB2.out.size))
      have hs1 := Hx1.out.later HB3.out HB3.out.size
      have hB4 : Below w3.heap.size w3 (w3.alloc (.cells #[.slice a1 n cap1, .slice a3 E.length c3] 37)) := (Below.refl _ w3).alloc (Nat.le_refl _) _
      have HSum := hid (sum3_any w3.heap.size 2 2 [setP ps (List.range n), E] (w3.alloc (.cells #[.slice a1 n cap1, .slice a3 E.length c3] 37)) rfl (by omega) (by simp) (fun i hi => by
        match i, hi with
        | 0, _ => exact ⟨a1, cap1, by simp [go_sem, setP_len], by simp only [List.getElem?_cons_zero, Option.getD_some]; rw [Hfl.out]; exact hs1.later hB4 hB4.size⟩
        | 1, _ => exact ⟨a3, c3, by simp [go_sem], by simp only [List.getElem?_cons_succ, List.getElem?_cons_zero, Option.getD_some]; exact hs3.later hB4 hB4.size⟩) (by
          simp only [List.flatten_cons, List.flatten_nil, List.append_nil, List.length_append, setP_len, List.length_range]
          have := HEl.out
          have := H31.out
          omega) (by
          simp only [List.flatten_cons, List.flatten_nil, List.append_nil]
          exact fun h => HE0.out (List.append_eq_nil_iff.1 h).2))
      have HB4 := hid (HB3.out.trans (hB4.mono HB3.out.size))
      clear hr3 hs3 hs1 hB4 HE
      go_wp2_with fail
      refine HSum.out.mono ?_
      rintro e w5 ⟨v5, s, rfl, hodd, hr5⟩
      have hfe : [setP ps (List.range n), E].flatten = setP ps (List.range n) ++ E := by rw [List.flatten_cons, List.flatten_cons, List.flatten_nil, List.append_nil]
      rw [hfe] at hodd
      have hsE := HF.out s hodd
      subst hsE
      have HR := hid (hr5.later HB4.out)
      clear hr5 hodd HSum HF hfe
      go_wp2_with fail
      go_ret2
      exact ⟨_, rfl, HR.out⟩
    · refine pairQ_mono (show cancR V fs n ps (bn : Int) a = ([], 5) by rw [cancR, if_pos h0, if_neg h1]) ?_
      obtain ⟨u, hu⟩ : ∃ u, u = wsum ps n (bn : Int) a := ⟨_, rfl⟩
      rw [← hu] at HWb h1
      have hu1 : (u == 1) = false := by simpa using h1
      clear hu hwr hCO hs hac hpc h0 hwv hx hx1 hp hw h1 hB0
      go_enter Try.func23, Try.ntmps23
      go_wp2_with fail
      refine HWb.out.mono ?_
      rintro e w1 ⟨rfl, hB1⟩
      have HB1 := hid (HB0.out.trans (hB1.mono HB0.out.size))
      clear hB1 HWb HB0
      go_wp2_with fail
      go_ret2
      exact ⟨_, rfl, resP_nil _ _ HB1.out⟩
  · refine pairQ_mono (show cancR V fs n ps b a = ([], givenR V fs n ps b a) by rw [cancR, if_neg h0]) ?_
    have hwv : waysBR V fs n ps b a = (0, givenR V fs n ps b a) := by rw [waysBR, if_neg h0]
    rw [hwv] at HWb
    obtain ⟨c, hc⟩ : ∃ c, c = givenR V fs n ps b a := ⟨_, rfl⟩
    rw [← hc] at HWb h0 ⊢
    have hc1 : (c == 0) = false := by simpa using h0
    clear hc hwv hx hx1 hp hw h0 hB0
    go_enter Try.func23, Try.ntmps23
    go_wp2_with fail
    refine HWb.out.mono ?_
    rintro e w1 ⟨rfl, hB1⟩
    have HB1 := hid (HB0.out.trans (hB1.mono HB0.out.size))
    clear hB1 HWb HB0
    go_wp2_with fail
    go_ret2
    exact ⟨_, rfl, resP_nil _ _ HB1.out⟩

end Go.Proofs.Ytbhdipljhelddaa
