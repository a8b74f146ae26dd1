import Derived.Test.YtilncaagpcgakaaMath
/-! Components: the least closed sets. -/
namespace Go.Proofs.Ytilncaagpcgakaa

/-- A set that holds each face that it meets. -/
def ClF (fs : List Int) (c : Nat) : Prop := ∀ x ∈ fs, x.toNat &&& c ≠ 0 → x.toNat &&& c = x.toNat
/-- A set that holds each edge that it meets. -/
def ClE (fs : List Int) (c : Nat) : Prop := ∀ x ∈ fs, ones x.toNat = 2 → x.toNat &&& c ≠ 0 → x.toNat &&& c = x.toNat

/-- The least set that holds s and each face that it meets. -/
structure IsClo (fs : List Int) (s c : Nat) : Prop where
  lt : c < 64
  sup : s &&& c = s
  clo : ClF fs c
  least : ∀ d, d < 64 → s &&& d = s → ClF fs d → c &&& d = c

theorem IsClo.uniq {fs : List Int} {s c c' : Nat} (h : IsClo fs s c) (h' : IsClo fs s c') : c = c' := by
  have a := h.least c' h'.lt h'.sup h'.clo
  have b := h'.least c h.lt h.sup h.clo
  rw [Nat.and_comm] at b
  rw [← a, b]

noncomputable def cloN (fs : List Int) (s : Nat) : Nat := Classical.epsilon (fun c => IsClo fs s c)
theorem cloN_eq {fs : List Int} {s c : Nat} (h : IsClo fs s c) : cloN fs s = c := (Classical.epsilon_spec (p := fun c => IsClo fs s c) ⟨c, h⟩).uniq h

theorem edge_face : ∀ x : Fin 64, ∀ c : Fin 64, x.val &&& c.val ≠ 0 → x.val &&& c.val ≠ x.val → ∃ u : Fin 6, ∃ v : Fin 6, (2 ^ u.val ||| 2 ^ v.val) &&& x.val = 2 ^ u.val ||| 2 ^ v.val ∧ ones (2 ^ u.val ||| 2 ^ v.val) = 2 ∧ (2 ^ u.val ||| 2 ^ v.val) &&& c.val ≠ 0 ∧ (2 ^ u.val ||| 2 ^ v.val) &&& c.val ≠ 2 ^ u.val ||| 2 ^ v.val := by decide +kernel

theorem clE_clF {V : Int} {fs : List Int} (hC : IsC V fs) {c : Nat} (hc : c < 64) (h : ClE fs c) : ClF fs c := by
  intro x hx hm
  have hr := hC.range63 x hx
  rcases Classical.em (x.toNat &&& c = x.toNat) with e | hn
  · exact e
  · obtain ⟨u, v, h1, h2, h3, h4⟩ := edge_face ⟨x.toNat, by omega⟩ ⟨c, hc⟩ hm hn
    exfalso
    have he := hC.closed x hx (2 ^ u.val ||| 2 ^ v.val) (fun e => by rw [e] at h2; simp [ones] at h2) h1
    have := h _ he (by rw [Int.toNat_natCast]; exact h2) (by rw [Int.toNat_natCast]; exact h3)
    rw [Int.toNat_natCast] at this
    exact h4 this

/-- What both searches keep: a set between s and its least closed set. -/
structure Mid (fs : List Int) (s c : Nat) : Prop where
  lt : c < 64
  sup : s &&& c = s
  least : ∀ d, d < 64 → s &&& d = s → ClF fs d → c &&& d = c

theorem or_sub {a b d : Nat} (h1 : a &&& d = a) (h2 : b &&& d = b) : (a ||| b) &&& d = a ||| b := by rw [Nat.and_or_distrib_right, h1, h2]
theorem sub_or {s a b : Nat} (h : s &&& a = s) : s &&& (a ||| b) = s := by
  rw [Nat.and_or_distrib_left, h]
  apply Nat.eq_of_testBit_eq
  intro i
  simp only [Nat.testBit_or, Nat.testBit_and]
  cases s.testBit i <;> cases b.testBit i <;> rfl
theorem sub_trans {a b c : Nat} (h1 : a &&& b = a) (h2 : b &&& c = b) : a &&& c = a := by rw [← h1, Nat.and_assoc, h2]
theorem sub_meet {x c d : Nat} (h1 : c &&& d = c) (h2 : x &&& c ≠ 0) : x &&& d ≠ 0 := by
  intro e
  apply h2
  rw [← h1, Nat.and_comm c d, ← Nat.and_assoc, e, Nat.zero_and]

theorem Mid.start {fs : List Int} {s : Nat} (h : s < 64) : Mid fs s s := ⟨h, Nat.and_self s, fun _ _ hd _ => hd⟩
/-- A face that is met comes in. -/
theorem Mid.step {fs : List Int} {s c : Nat} (h : Mid fs s c) {x : Int} (hx : x ∈ fs) (hx63 : x.toNat < 64) (hm : x.toNat &&& c ≠ 0) : Mid fs s (c ||| x.toNat) where
  lt := Nat.or_lt_two_pow (n := 6) h.lt hx63
  sup := sub_or h.sup
  least := fun d hd hs hcl => or_sub (h.least d hd hs hcl) (hcl x hx (sub_meet (h.least d hd hs hcl) hm))
theorem Mid.done {fs : List Int} {s c : Nat} (h : Mid fs s c) (hcl : ClF fs c) : IsClo fs s c := ⟨h.lt, h.sup, hcl, h.least⟩

theorem or_gt : ∀ c x : Fin 64, x.val &&& c.val ≠ x.val → c.val < c.val ||| x.val := by decide +kernel
theorem or_same : ∀ c x : Fin 64, x.val &&& c.val = x.val → c.val ||| x.val = c.val := by decide +kernel

/-! ### the lists of components -/

/-- The vertex that comes first in a set. -/
def lowN (l : Nat) : Nat := l - (l &&& (l - 1))
theorem low_facts : ∀ l : Fin 64, l.val ≠ 0 → lowN l.val < 64 ∧ lowN l.val ≠ 0 ∧ ones (lowN l.val) = 1 ∧ l.val &&& lowN l.val = lowN l.val := by decide +kernel
theorem low_is : ∀ l x : Fin 64, ones x.val = 1 → l.val &&& x.val = x.val → (∀ y : Fin 64, ones y.val = 1 → y.val < x.val → l.val &&& y.val = 0) → lowN l.val = x.val := by decide +kernel
theorem clo_exists {fs : List Int} (hr : ∀ x ∈ fs, x.toNat < 64) {s : Nat} : ∀ n c, 64 - c ≤ n → Mid fs s c → ∃ c', IsClo fs s c'
  | 0, c, h, hm => by have := hm.lt; omega
  | n + 1, c, h, hm => by
    rcases Classical.em (ClF fs c) with e | hn
    · exact ⟨c, hm.done e⟩
    · unfold ClF at hn
      simp only [Classical.not_forall] at hn
      obtain ⟨x, hx, h1, h2⟩ := hn
      have hg := or_gt ⟨c, hm.lt⟩ ⟨x.toNat, hr x hx⟩ h2
      simp only at hg
      exact clo_exists hr n _ (by omega) (hm.step hx (hr x hx) h1)
theorem cloN_spec {fs : List Int} (hr : ∀ x ∈ fs, x.toNat < 64) {s : Nat} (hs : s < 64) : IsClo fs s (cloN fs s) := by
  obtain ⟨c, hc⟩ := clo_exists hr 64 s (by omega) (Mid.start hs)
  rw [cloN_eq hc]; exact hc

/-- What is left without what is in a set. -/
def cutN (l c : Nat) : Nat := l - (l &&& c)
theorem cut_xor : ∀ l c : Fin 64, cutN l.val c.val = l.val ^^^ (l.val &&& c.val) := by decide +kernel
theorem cut_lt64 {l : Nat} (h : l < 64) (c : Nat) : cutN l c < 64 := by unfold cutN; omega
theorem cut_or {l s c : Nat} (hl : l < 64) (hs : s < 64) (hc : c < 64) : cutN l (s ||| c) = cutN (cutN l s) c := by
  have h1 := cut_xor ⟨l, hl⟩ ⟨s ||| c, Nat.or_lt_two_pow (n := 6) hs hc⟩
  have h2 := cut_xor ⟨l, hl⟩ ⟨s, hs⟩
  have h3 := cut_xor ⟨cutN l s, cut_lt64 hl s⟩ ⟨c, hc⟩
  simp only at h1 h2 h3
  rw [h1, h3, h2]
  apply Nat.eq_of_testBit_eq
  intro i
  simp only [Nat.testBit_or, Nat.testBit_and, Nat.testBit_xor]
  cases l.testBit i <;> cases s.testBit i <;> cases c.testBit i <;> rfl
theorem cut_dec : ∀ l c : Fin 64, l.val &&& c.val ≠ 0 → cutN l.val c.val < l.val := by decide +kernel
theorem cut_in : ∀ x : Fin 64, ones x.val = 1 → ∀ l s : Fin 64, l.val &&& x.val = x.val → s.val &&& x.val = 0 → cutN l.val s.val &&& x.val = x.val := by decide +kernel
theorem cut_out : ∀ x : Fin 64, ones x.val = 1 → ∀ l s : Fin 64, s.val &&& x.val = x.val → cutN l.val s.val &&& x.val = 0 := by decide +kernel
theorem cut_not : ∀ x : Fin 64, ones x.val = 1 → ∀ l s : Fin 64, l.val &&& x.val ≠ x.val → cutN l.val s.val &&& x.val = 0 := by decide +kernel
theorem no_vertex : ∀ l : Fin 64, (∀ y : Fin 64, ones y.val = 1 → l.val &&& y.val = 0) → l.val = 0 := by decide +kernel
theorem one_or_none : ∀ x : Fin 64, ones x.val = 1 → ∀ s : Fin 64, s.val &&& x.val ≠ 0 → s.val &&& x.val = x.val := by decide +kernel

/-- The components of what is left, at most n of them. -/
noncomputable def modF (fs : List Int) : Nat → Nat → List Int
  | 0, _ => []
  | n + 1, l => if l = 0 then [] else (cloN fs (lowN l) : Int) :: modF fs n (cutN l (cloN fs (lowN l)))
noncomputable def modL (fs : List Int) (l : Nat) : List Int := modF fs l l

theorem low_cut {fs : List Int} (hr : ∀ x ∈ fs, x.toNat < 64) {l : Nat} (hl : l < 64) (h0 : l ≠ 0) : IsClo fs (lowN l) (cloN fs (lowN l)) ∧ cutN l (cloN fs (lowN l)) < l := by
  obtain ⟨h1, h2, _, h4⟩ := low_facts ⟨l, hl⟩ h0
  simp only at h1 h2 h4
  have hc := cloN_spec hr h1
  refine ⟨hc, cut_dec ⟨l, hl⟩ ⟨_, hc.lt⟩ (fun e => ?_)⟩
  simp only at e
  have hm : lowN l &&& l ≠ 0 := by rw [Nat.and_comm, h4]; exact h2
  exact sub_meet (d := cloN fs (lowN l)) (x := l) hc.sup (by rw [h4]; exact h2) e

theorem modF_fuel {fs : List Int} (hr : ∀ x ∈ fs, x.toNat < 64) : ∀ n m l, l < 64 → l ≤ n → l ≤ m → modF fs n l = modF fs m l
  | 0, m, l, _, h1, _ => by
    obtain rfl : l = 0 := by omega
    cases m <;> simp [modF]
  | n + 1, 0, l, _, _, h2 => by
    obtain rfl : l = 0 := by omega
    simp [modF]
  | n + 1, m + 1, l, hl, h1, h2 => by
    unfold modF
    by_cases h0 : l = 0
    · rw [if_pos h0, if_pos h0]
    · rw [if_neg h0, if_neg h0]
      have := (low_cut hr hl h0).2
      rw [modF_fuel hr n m _ (by omega) (by omega) (by omega)]

theorem modL_zero (fs : List Int) : modL fs 0 = [] := by simp [modL, modF]
theorem modL_pos {fs : List Int} (hr : ∀ x ∈ fs, x.toNat < 64) {l : Nat} (hl : l < 64) (h0 : l ≠ 0) : modL fs l = (cloN fs (lowN l) : Int) :: modL fs (cutN l (cloN fs (lowN l))) := by
  have hc := (low_cut hr hl h0).2
  obtain ⟨n, rfl⟩ : ∃ n, l = n + 1 := ⟨l - 1, by omega⟩
  have e : modL fs (n + 1) = if n + 1 = 0 then [] else (cloN fs (lowN (n + 1)) : Int) :: modF fs n (cutN (n + 1) (cloN fs (lowN (n + 1)))) := by unfold modL; rw [modF]
  rw [e, if_neg h0]
  unfold modL
  rw [modF_fuel hr n _ _ (by omega) (by omega) (Nat.le_refl _)]

/-- The vertices. -/
def hasV (fs : List Int) (v : Nat) : Bool := decide (((2 ^ v : Nat) : Int) ∈ fs)
def leftTo (fs : List Int) : Nat → Nat
  | 0 => 0
  | v + 1 => if hasV fs v then leftTo fs v ||| 2 ^ v else leftTo fs v
theorem left_bit (fs : List Int) (u : Nat) : ∀ v, (leftTo fs v).testBit u = (decide (u < v) && hasV fs u)
  | 0 => by simp [leftTo]
  | v + 1 => by
    have ih := left_bit fs u v
    unfold leftTo
    cases hv : hasV fs v
    · rw [if_neg (by simp), ih]
      by_cases huv : u = v
      · subst huv; simp [hv]
      · have : (u < v + 1) ↔ u < v := by omega
        simp [this]
    · rw [if_pos rfl, Nat.testBit_or, ih, Nat.testBit_two_pow]
      by_cases huv : v = u
      · subst huv; simp [hv]
      · have : (u < v + 1) ↔ u < v := by omega
        simp [huv, this]
theorem left_lt (fs : List Int) : ∀ v, v ≤ 6 → leftTo fs v < 64
  | 0, _ => by simp [leftTo]
  | v + 1, h => by
    have ih := left_lt fs v (by omega)
    have hp : 2 ^ v < 2 ^ 6 := Nat.pow_lt_pow_right (by decide) (by omega)
    unfold leftTo
    split
    · exact Nat.or_lt_two_pow (n := 6) ih hp
    · exact ih
theorem one_pow : ∀ y : Fin 64, ones y.val = 1 → ∃ u : Fin 6, y.val = 2 ^ u.val := by decide +kernel
theorem and_bit : ∀ l : Fin 64, ∀ u : Fin 6, (l.val &&& 2 ^ u.val = 2 ^ u.val) ↔ l.val.testBit u.val = true := by decide +kernel
theorem left_iff {vn : Nat} {fs : List Int} (hC : IsC (vn : Int) fs) {y : Nat} (hy : y < 64) (h1 : ones y = 1) : leftTo fs vn &&& y = y ↔ (y : Int) ∈ fs := by
  obtain ⟨u, hu⟩ := one_pow ⟨y, hy⟩ h1
  simp only at hu
  have hb := left_bit fs u.val vn
  have ha := and_bit ⟨_, left_lt fs vn (by have := hC.hi; omega)⟩ u
  simp only at ha
  rw [hu, ha, hb]
  unfold hasV
  rw [Bool.and_eq_true, decide_eq_true_eq, decide_eq_true_eq]
  refine ⟨fun h => h.2, fun hm => ⟨?_, hm⟩⟩
  have hr := (hC.range _ hm).2
  rcases Nat.lt_or_ge u.val vn with h | h
  · exact h
  · exfalso
    have hp := Nat.pow_le_pow_right (n := 2) (by decide) h
    unfold allV at hr
    have e : ((2 : Int) ^ ((vn : Int)).toNat) = ((2 ^ vn : Nat) : Int) := by simp
    rw [e] at hr
    generalize (2 : Nat) ^ vn = q at *
    generalize (2 : Nat) ^ u.val = q' at *
    omega

/-- One step of the program's search. -/
theorem prog_step {vn : Nat} {fs : List Int} (hC : IsC (vn : Int) fs) {O : List Int} {seen k : Nat} (hlt : k < fs.length) (hs : seen < 64)
    (hO : O ++ modL fs (cutN (leftTo fs vn) seen) = modL fs (leftTo fs vn)) (hv : ∀ j, j < k → ones (fs[j]?.getD 0).toNat = 1 → seen &&& (fs[j]?.getD 0).toNat = (fs[j]?.getD 0).toNat)
    {x : Nat} (hx : (x : Int) = fs[k]?.getD 0) (h1 : ones x = 1) (h0 : seen &&& x = 0) :
    (O ++ [(cloN fs x : Int)]) ++ modL fs (cutN (leftTo fs vn) (seen ||| cloN fs x)) = modL fs (leftTo fs vn) := by
  have hxm : (x : Int) ∈ fs := by rw [hx]; rw [List.getElem?_eq_getElem hlt]; exact List.getElem_mem hlt
  have hxr := hC.range63 _ hxm
  have hr : ∀ x ∈ fs, x.toNat < 64 := fun x hx => by have := hC.range63 x hx; omega
  have hl := left_lt fs vn (by have := hC.hi; omega)
  have hx64 : x < 64 := by omega
  have hcl := cut_lt64 hl seen
  have hin := cut_in ⟨x, hx64⟩ h1 ⟨_, hl⟩ ⟨seen, hs⟩ ((left_iff hC hx64 h1).2 hxm) h0
  simp only at hin
  have hlow : lowN (cutN (leftTo fs vn) seen) = x := low_is ⟨_, hcl⟩ ⟨x, hx64⟩ h1 hin (fun y hy1 hyx => by
    simp only at hy1 hyx
    by_cases hyf : ((y.val : Nat) : Int) ∈ fs
    · obtain ⟨j, hj, e⟩ := List.getElem_of_mem hyf
      have hjk : j < k := by
        rcases Nat.lt_or_ge j k with h | h
        · exact h
        · exfalso
          rcases Nat.lt_or_eq_of_le h with h | rfl
          · have := (List.pairwise_iff_getElem.1 hC.asc) k j hlt hj h
            rw [e] at this
            rw [List.getElem?_eq_getElem hlt] at hx
            simp only [Option.getD_some] at hx
            omega
          · rw [List.getElem?_eq_getElem hlt] at hx
            simp only [Option.getD_some] at hx
            omega
      have hg : fs[j]?.getD 0 = ((y.val : Nat) : Int) := by rw [List.getElem?_eq_getElem hj, e]; rfl
      have := hv j hjk (by rw [hg, Int.toNat_natCast]; exact hy1)
      rw [hg, Int.toNat_natCast] at this
      exact cut_out y hy1 ⟨_, hl⟩ ⟨seen, hs⟩ this
    · exact cut_not y hy1 ⟨_, hl⟩ ⟨seen, hs⟩ (fun e => hyf ((left_iff hC y.isLt hy1).1 e)))
  have hne : cutN (leftTo fs vn) seen ≠ 0 := fun e => by rw [e] at hin; simp at hin; rw [← hin] at h1; simp [ones] at h1
  have hm := modL_pos hr hcl hne
  rw [hlow] at hm
  have hc := cloN_spec hr hx64
  rw [cut_or hl hs hc.lt, List.append_assoc, ← hO, hm]
  rfl

/-- At the end nothing is left. -/
theorem prog_end {vn : Nat} {fs : List Int} (hC : IsC (vn : Int) fs) {O : List Int} {seen : Nat} (hs : seen < 64)
    (hO : O ++ modL fs (cutN (leftTo fs vn) seen) = modL fs (leftTo fs vn)) (hv : ∀ j, j < fs.length → ones (fs[j]?.getD 0).toNat = 1 → seen &&& (fs[j]?.getD 0).toNat = (fs[j]?.getD 0).toNat) :
    O = modL fs (leftTo fs vn) := by
  have hl := left_lt fs vn (by have := hC.hi; omega)
  have h0 : cutN (leftTo fs vn) seen = 0 := no_vertex ⟨_, cut_lt64 hl seen⟩ (fun y hy1 => by
    by_cases hyf : ((y.val : Nat) : Int) ∈ fs
    · obtain ⟨j, hj, e⟩ := List.getElem_of_mem hyf
      have hg : fs[j]?.getD 0 = ((y.val : Nat) : Int) := by rw [List.getElem?_eq_getElem hj, e]; rfl
      have := hv j hj (by rw [hg, Int.toNat_natCast]; exact hy1)
      rw [hg, Int.toNat_natCast] at this
      exact cut_out y hy1 ⟨_, hl⟩ ⟨seen, hs⟩ this
    · exact cut_not y hy1 ⟨_, hl⟩ ⟨seen, hs⟩ (fun e => hyf ((left_iff hC y.isLt hy1).1 e)))
  rw [h0, modL_zero] at hO
  simpa using hO

end Go.Proofs.Ytilncaagpcgakaa
