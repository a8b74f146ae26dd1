import Derived.Test.YthmhdfhjjpfbfaaIter
import Derived.Test.YthmhdfhjjpfbfaaSignS
/-! The sides of a face with their signs: an iterator over an iterator. -/
namespace Go.Proofs.Ythmhdfhjjpfbfaa
open Go.RowKit Go.Shelf

attribute [local go_sem] Oper.semAt_some

theorem sides_P (n : Nat) (hn : 1 ≤ n) (B0 f : Nat) (hf : f < 64) (w : World) (hB : B0 < w.heap.size)
    (hc : w.heap[B0]? = some (.cells #[.int .i64 (f : Int)] 2 (0, 0))) :
    SeqStopsP Fence.wide n Try.prog 133 #[.pointer (some ⟨B0, 0, none⟩)] (fun x : Fin 64 => #[Value.int .i64 (x.val : Int)]) [B0] 0 (sidesF f) w :=
  fun l J Jx W hW hJ _ hY h0 => (sides1_in n hn l B0 f hf (fun pre W1 => J pre W1 ∧ W.heap.size ≤ W1.heap.size) Jx
    (fun pre x W1 hj hp => YieldAt.mono (hY pre x W1 hp hj.2 hj.1) (fun e W' ⟨hk, h⟩ => by
      rcases h with ⟨he, hj'⟩ | ⟨he, hj'⟩
      · exact .inl ⟨he, ⟨hj', Nat.le_trans hj.2 hk.size⟩, hk.same B0 (.inl (by simp))⟩
      · exact .inr ⟨he, hj'⟩))
    (fun pre W m h => ⟨hJ.drewN m h.1, h.2⟩) W ((hW.block B0 hB).trans hc) ⟨h0, Nat.le_refl _⟩).mono (by
      rintro e W' ⟨hv, ⟨ys, rfl, hj⟩ | ⟨pre, hp, hj⟩⟩
      · exact ⟨hv, .inl hj.1⟩
      · exact ⟨hv, .inr ⟨pre, hp, hj⟩⟩)

/-- Sides with their signs. -/
def sgN (j : Nat) : Int := if j % 2 = 0 then 1 else -1
def signedL : Nat → List (Fin 64) → List (Fin 64 × Int)
  | _, [] => []
  | j, x :: l => (x, sgN j) :: signedL (j + 1) l
theorem signedL_append (l l' : List (Fin 64)) : ∀ j, signedL j (l ++ l') = signedL j l ++ signedL (j + l.length) l' := by
  induction l with
  | nil => intro j; simp [signedL]
  | cons x l ih => intro j; simp [signedL, ih, Nat.add_assoc, Nat.add_comm 1]
theorem signedL_snoc (l : List (Fin 64)) (x : Fin 64) : signedL 0 (l ++ [x]) = signedL 0 l ++ [(x, sgN l.length)] := by rw [signedL_append]; simp [signedL]
theorem signedL_len (l : List (Fin 64)) : ∀ j, (signedL j l).length = l.length := by
  induction l with
  | nil => intro j; rfl
  | cons x l ih => intro j; simp [signedL, ih]
theorem signedL_prefix {l l' : List (Fin 64)} (h : l <+: l') : signedL 0 l <+: signedL 0 l' := by
  obtain ⟨t, rfl⟩ := h
  rw [signedL_append]
  exact List.prefix_append _ _
theorem sgN_succ (j : Nat) : sgN (j + 1) = -sgN j := by
  unfold sgN
  rcases Nat.mod_two_eq_zero_or_one j with h | h <;> simp [h, Nat.add_mod]
theorem sgN_abs (j : Nat) : -1 ≤ sgN j ∧ sgN j ≤ 1 := by unfold sgN; split <;> omega
theorem sgN_neg (j : Nat) : wrap64 (-sgN j) = sgN (j + 1) := by
  rw [sgN_succ]
  have := sgN_abs j
  exact IntWalk.wrap64_in _ ⟨by omega, by omega⟩
def signedF (f : Nat) : List (Fin 64 × Int) := signedL 0 (sidesF f)

set_option maxHeartbeats 1000000 in
/-- signedSides: its argument is boxed; the function value captures the box. -/
theorem signedSides_in (n : Nat) (x : Int) (w : World) :
    CallsIn Fence.wide n Try.prog 60 #[.int .i64 x] w fun e w' => e = .returned (.func (.func 103) #[] #[.pointer (some ⟨w.heap.size, 0, none⟩)]) ∧ w' = w.alloc (.cells #[.int .i64 x] 2) := by
  refine callsIn_of_wp Try.func60 rfl trivial ?_ rfl
  simp only [Try.ntmps60, List.size_toArray, List.length_cons, List.length_nil, Nat.reduceAdd, Nat.reduceSub, Array.replicate_succ, Array.replicate_zero, List.push_toArray, List.append_toArray, List.nil_append, List.cons_append]
  gi_wp2
  go_ret
  exact ⟨rfl, rfl⟩

theorem yieldAny {m : Nat} (m' : Nat) {P : Program} {l : Nat} {args : Array Value} {W : World} {R : Ending → World → Prop} (h : YieldAt Fence.wide m P l args W R) : YieldAt Fence.wide m' P l args W R := by
  obtain ⟨fn, tmps, assign, body, hy, hR⟩ := h
  exact ⟨fn, tmps, assign, body, hy, ⟨hR.1, fun c cs _ => hR.2 c cs (fun d hd => by cases hd)⟩⟩
theorem yieldRound {m l0 : Nat} {P : Program} {l : Nat} {args : Array Value} {W : World} {R : Ending → World → Prop} (h : YieldAt Fence.wide m P l args W R) : YieldAt (Fence.wide.inRound l0) m P l args W R := h

theorem shut_grown {Ds : List Nat} {D : Nat} {w w' : World} (h : Shut Ds w w') (hD : ∀ E ∈ Ds, E = D) : w.grownBy w' (some D) :=
  ⟨h.os, h.tape, h.output, by rw [h.size]; exact Nat.le_refl _, fun k _ hk => h.block k (fun hm => hk (by rw [hD k hm]))⟩

set_option maxRecDepth 100000 in
set_option maxHeartbeats 2000000 in
/-- Its iterator. -/
theorem signed_P (n : Nat) (hn : 4 ≤ n) (B0 f : Nat) (hf : f < 64) (w : World) (hB : B0 < w.heap.size)
    (hc : w.heap[B0]? = some (.cells #[.int .i64 (f : Int)] 2 (0, 0))) :
    SeqStopsP Fence.wide n Try.prog 103 #[.pointer (some ⟨B0, 0, none⟩)] (fun x : Fin 64 × Int => #[Value.int .i64 (x.1.val : Int), .int .i64 x.2]) [B0] 5 (signedF f) w := by
  intro l J Jx W hW hJ hJx hY h0
  have hcW := (hW.block B0 hB).trans hc
  have c0 := (box_cell hcW).1
  have hBW : B0 < W.heap.size := lt_of_get hcW
  have HY := hid hY
  have Hc := hid hcW
  have h1 : 1 ≤ n := by omega
  clear hY hc hcW
  show CallsIn Fence.wide n Try.prog 103 #[.func (.yield l) #[] #[], .pointer (some ⟨B0, 0, none⟩)] W _
  refine callsIn_of_wp_marks Try.func103 rfl trivial ?_ rfl
  simp only [Try.ntmps103, List.size_toArray, List.length_cons, List.length_nil, Nat.reduceAdd, Nat.reduceSub, Array.replicate_succ, Array.replicate_zero, List.push_toArray, List.append_toArray, List.nil_append, List.cons_append]
  gi_wp2_with (first
    | (refine ⟨trivial, ?_⟩; gi_at_call 104; refine (sides_in _ _ _).mono ?_; rintro e w' ⟨rfl, rfl⟩))
  have hb1 := heap_alloc_new W (.cells #[.func (.yield l) #[] #[]] 106)
  have hb2 := heap_alloc_new (W.alloc (.cells #[.func (.yield l) #[] #[]] 106)) (.cells #[.int .i64 1] 2)
  have hb3 := heap_alloc_new ((W.alloc (.cells #[.func (.yield l) #[] #[]] 106)).alloc (.cells #[.int .i64 1] 2)) (.cells #[.int .i64 (f : Int)] 2)
  rw [World.size_alloc] at hb2
  rw [World.size_alloc, World.size_alloc] at hb3
  have hJ3 := hJ.alloc (.cells #[.int .i64 (f : Int)] 2) (hJ.alloc (.cells #[.int .i64 1] 2) (hJ.alloc (.cells #[.func (.yield l) #[] #[]] 106) h0))
  refine wpIn_rangeFunc_P rfl h1 (gf := 133) (lb := #[.pointer (some ⟨W.heap.size + 1 + 1, 0, none⟩)]) rfl trivial (enters_of Try.func133 (by kernel_rfl) rfl)
    (sides_P (n - 1) (by omega) (W.heap.size + 1 + 1) f hf _ (by simp) hb3) (by simp) (Below.refl _ _) (fun _ => rfl)
    (fun pre W' => J (signedL 0 pre) W' ∧ W'.heap[W.heap.size]? = some (.cells #[.func (.yield l) #[] #[]] 106 (0, 0)) ∧ W'.heap[W.heap.size + 1]? = some (.cells #[.int .i64 (sgN pre.length)] 2 (0, 0)))
    (fun c _ W' => c = .ret ∧ ∃ q, q <+: signedF f ∧ Jx q W')
    (OwnIn.and ((hJ.map (signedL 0)).less (by simp <;> omega) (by simp <;> omega)) (OwnIn.and (ownIn_block (β := List (Fin 64)) (fun _ => _) (by simp <;> omega)) (ownIn_block (β := List (Fin 64)) (fun s => .cells #[.int .i64 (sgN s.length)] 2 (0, 0)) (by simp <;> omega))))
    (fun c s A B row hs hg hr => ⟨hs.1, by obtain ⟨q, hq, hx⟩ := hs.2; exact ⟨q, hq, (hJx.less (by simp <;> omega) (by simp <;> omega)) q A B row hx hg hr⟩⟩)
    ⟨hJ3, ?_, ?_⟩
    (fun x => { tmps := #[.func (.yield l) #[] #[], .pointer (some ⟨B0, 0, none⟩), .pointer (some ⟨W.heap.size, 0, none⟩), .pointer (some ⟨W.heap.size + 1, 0, none⟩), .int .i64 (x.val : Int), .int .i64 (f : Int), .func (.func 133) #[] #[.pointer (some ⟨W.heap.size + 1 + 1, 0, none⟩)], .int .i64 (x.val : Int), undef, undef, undef, undef, undef, undef, undef], defers := [] }) ?assign ?body ?done ?stop
  · exact (Below.heap_alloc _ _ _ (by simp <;> omega)).trans ((Below.heap_alloc _ _ _ (by simp <;> omega)).trans hb1)
  · exact (Below.heap_alloc _ _ _ (by simp <;> omega)).trans hb2
  case assign =>
    intro l' x W3 K hK
    gi_wp2
    exact hK
  case body =>
    rintro l' pre x W3 hpre hsz ⟨hj, hyb, hsb⟩
    simp only [World.size_alloc] at hsz
    have cy := (box_cell hyb).1
    obtain ⟨cs, fs⟩ := box_cell hsb
    have e : signedL 0 pre ++ [(x, sgN pre.length)] = signedL 0 (pre ++ [x]) := (signedL_snoc pre x).symm
    have hys := HY.out (signedL 0 pre) (x, sgN pre.length) W3 (by rw [e]; exact signedL_prefix hpre) (by omega) hj
    rw [e] at hys
    have hab := sgN_abs pre.length
    have Hpre := hid (signedL_prefix hpre)
    obtain ⟨sg, hsg⟩ : ∃ sg, sg = sgN pre.length := ⟨_, rfl⟩
    have Hneg : Hid (wrap64 (-sg) = sgN (pre ++ [x]).length) := hid (by rw [hsg, sgN_neg]; simp)
    rw [← hsg] at cs hab hys
    obtain ⟨hab0, hab1⟩ := hab
    have Hsb := hid hsb
    have Hyb := hid hyb
    clear e hsb hyb hsg hj hpre
    obtain ⟨fn, tmps, assign, body, hy, hR⟩ := yieldRound (l0 := l') (yieldAny (n - 1 - 1 - 1) hys)
    dsimp only at hy
    gi_wp2
    refine ⟨fun _ => by omega, hR.mono ?_⟩
    rintro e W4 ⟨hk, (⟨rfl, hj4⟩ | ⟨rfl, hx4⟩)⟩
    · have hsb4 := (hk.same (W.heap.size + 1) (.inr ⟨by omega, by omega⟩)).trans Hsb.out
      have hyb4 := (hk.same W.heap.size (.inr ⟨by omega, by omega⟩)).trans Hyb.out
      obtain ⟨cs4, fs4⟩ := box_cell hsb4
      have Hsb4 := hid hsb4
      have Hyb4 := hid hyb4
      have Hk := hid hk
      clear hsb4 hyb4 hk
      gi_wp2
      refine ⟨?_, ?_⟩
      · exact (Hk.out.less (fun b hb => by simp at hb; subst hb; exact .inr ⟨by omega, by omega⟩) (by simp <;> omega) (by simp <;> omega)).trans (KeepP.setCell _ _ _ _ (by simp <;> omega))
      · refine ⟨hJ _ W4 _ (some (W.heap.size + 1)) hj4 (grownBy_set W4 ⟨W.heap.size + 1, 0, none⟩ _) (fun r e => by cases e; exact ⟨by omega, .inl (by omega)⟩), (Below.heap_setCell _ _ _ _ (by simp)).trans Hyb4.out, ?_⟩
        have e := Hsb4.out
        simp only [World.setCell, Array.getElem?_modify, e]
        rw [sgN_neg]
        simp
    · gi_wp2
      exact ⟨hk.less (fun b hb => by simp at hb; subst hb; exact .inr ⟨by omega, by omega⟩) (by simp <;> omega) (by simp <;> omega), rfl, _, Hpre.out, hx4⟩
  case done =>
    rintro W3 ⟨hj, _, _⟩ hD
    simp only [World.size_alloc] at hD
    gi_wp2
    refine leaves_marks (by simp) [_] _ (by simp) (fun D hD' => by simp only [List.mem_singleton] at hD'; subst hD'; simp only [World.size_alloc]; exact hD) (fun w' hw' => ?_)
    exact ⟨_, results_none rfl _ _ _, ⟨_, rfl⟩, .inl (hJ _ W3 w' (some (W.heap.size + 3)) hj (shut_grown hw' (by simp)) (fun r e => by cases e; exact ⟨by omega, .inl (by omega)⟩))⟩
  case stop =>
    rintro c pre W3 hpre ⟨rfl, q, hq, hx⟩ hD
    simp only [World.size_alloc] at hD
    gi_wp2
    refine leaves_marks (by simp) [_] _ (by simp) (fun D hD' => by simp only [List.mem_singleton] at hD'; subst hD'; simp only [World.size_alloc]; exact hD) (fun w' hw' => ?_)
    exact ⟨_, results_none rfl _ _ _, ⟨_, rfl⟩, .inr ⟨q, hq, hJx _ W3 w' (some (W.heap.size + 3)) hx (shut_grown hw' (by simp)) (fun r e => by cases e; exact ⟨by omega, .inl (by omega)⟩)⟩⟩

end Go.Proofs.Ythmhdfhjjpfbfaa
