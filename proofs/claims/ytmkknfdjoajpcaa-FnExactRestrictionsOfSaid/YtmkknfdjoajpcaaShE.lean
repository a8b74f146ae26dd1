import Derived.Test.YtmkknfdjoajpcaaShM
import Derived.Test.YtmkknfdjoajpcaaShA
/-! A shelling for the program is one for the model. -/
namespace Go.Proofs.Ytmkknfdjoajpcaa
open Go.RowKit Go.Shelf Go.Sort

theorem chN_fst (ns : List Nat) : ∀ k, k ≤ ns.length → ∀ o, (o ∈ ns.take k ↔ ∃ r, (o, r) ∈ chN ns k)
  | 0, _, o => by simp [chN]
  | k + 1, h, o => by
    have ih := chN_fst ns k (by omega) o
    have hk : k < ns.length := by omega
    rw [chN, List.take_add_one, List.getElem?_eq_getElem hk]
    simp only [Option.toList_some, Option.getD_some, List.mem_append, List.mem_cons, List.not_mem_nil, or_false, Prod.mk.injEq]
    constructor
    · rintro (h | h)
      · obtain ⟨r, hr⟩ := ih.1 h
        exact ⟨r, .inr hr⟩
      · exact ⟨_, .inl ⟨h, rfl⟩⟩
    · rintro ⟨r, ⟨h, _⟩ | h⟩
      · exact .inr h
      · exact .inl (ih.2 ⟨r, h⟩)

theorem good_nat {f : Nat} (hf : f < 64) {ns : List Nat} {L : List (Nat × Nat)} (hm : ∀ o, o ∈ ns ↔ ∃ r, (o, r) ∈ L) (ho : ∀ o ∈ ns, o < 64 ∧ o &&& f ≠ f) : shG (f : Int) (ns.map fun o : Nat => (o : Int)) = fG f L := by
  have hR : shR (f : Int) (ns.map fun o : Nat => (o : Int)) 6 = (fR f L : Int) := by rw [shR_nat hf (fun o h => (ho o h).1) 6 (by decide), rN_fR hf hm ho]
  have hR64 : fR f L < 64 := fRs_lt hf L 0 (by decide)
  have key : ∀ o : Nat, o < 64 → (!(bits BinOp.and IntKind.i64 (o : Int) (fR f L : Int) == (fR f L : Int))) = decide (ndiff (fR f L) o ≠ 0) := by
    intro o h
    rw [and_bits64 h hR64]
    have h1 : o &&& fR f L = fR f L &&& o := Nat.and_comm _ _
    have h2 : fR f L &&& o ≤ fR f L := Nat.and_le_left
    unfold ndiff
    rw [Bool.eq_iff_iff]
    simp only [Bool.not_eq_true', beq_eq_false_iff_ne, decide_eq_true_eq, ne_eq, Int.natCast_inj]
    rw [h1]
    constructor <;> intro h3 h4 <;> apply h3 <;> omega
  unfold shG fG
  rw [hR, Bool.eq_iff_iff, List.all_eq_true, List.all_eq_true]
  constructor
  · rintro h ⟨o, r⟩ hr
    have hon := (hm o).2 ⟨r, hr⟩
    have := h (o : Int) (List.mem_map.2 ⟨o, hon, rfl⟩)
    rwa [key o (ho o hon).1] at this
  · intro h z hz
    obtain ⟨o, hon, rfl⟩ := List.mem_map.1 hz
    obtain ⟨r, hr⟩ := (hm o).1 hon
    rw [key o (ho o hon).1]
    exact h (o, r) hr

/-- A facet in a face is that face. -/
theorem facet_max {V : Int} {fs : List Int} (hC : IsC V fs) {f o : Nat} (hf : (f : Int) ∈ facetsL fs) (ho : (o : Int) ∈ fs) (h : o &&& f = f) : o = f := by
  have hff := (List.mem_filter.1 hf).1
  have hr := hC.range63 _ hff
  have hro := hC.range63 _ ho
  refine Classical.byContradiction fun hne => ?_
  obtain ⟨y, hy0, hyo, hyf, hyn⟩ := above_step ⟨f, by omega⟩ ⟨o, by omega⟩ (by simp only; omega) (by simp only; rw [Nat.and_comm]; exact h) (by simp only; exact fun e => hne e.symm)
  simp only at hyo hyf hyn
  have hm := hC.closed (o : Int) ho y.val hy0 (by rw [Int.toNat_natCast]; exact hyo)
  have hl := of_decide_eq_true (List.mem_filter.1 hf).2
  have : ((y.val : Nat) : Int) ∈ aboveL fs (f : Int).toNat := by
    unfold aboveL
    refine List.mem_filter.2 ⟨hm, decide_eq_true ?_⟩
    rw [Int.toNat_natCast, Int.toNat_natCast]
    exact ⟨hyf, hyn⟩
  rw [List.length_eq_zero_iff] at hl
  rw [hl] at this
  simp at this

theorem shK_iff {F os : List Int} {k : Nat} : shK F os k = true ↔ os[k]?.getD 0 ∈ F ∧ ∀ x ∈ os.take k, x ≠ os[k]?.getD 0 := by
  unfold shK
  rw [Bool.and_eq_true, List.all_eq_true, decide_eq_true_eq]
  exact ⟨fun h => ⟨h.1, fun x hx => of_decide_eq_true (h.2 x hx)⟩, fun h => ⟨h.1, fun x hx => decide_eq_true (h.2 x hx)⟩⟩

theorem sub_len3 : ∀ (A B : List Int), A.Nodup → (∀ y ∈ A, y ∈ B) → A.length ≤ B.length
  | [], _, _, _ => Nat.zero_le _
  | x :: A, B, hn, h => by
    obtain ⟨h1, h2⟩ := List.nodup_cons.1 hn
    have ih := sub_len3 A (B.erase x) h2 (fun y hy => (List.mem_erase_of_ne (fun e => h1 (by rw [← e]; exact hy))).2 (h y (List.mem_cons_of_mem _ hy)))
    have hx : x ∈ B := h x (by simp)
    have hl := List.length_erase_of_mem hx
    have hp : 0 < B.length := List.length_pos_of_mem hx
    simp only [List.length_cons]
    omega

theorem nodup_of_known {F os : List Int} (h : ∀ k, k < os.length → shK F os k = true) : os.Nodup := by
  unfold List.Nodup
  rw [List.pairwise_iff_getElem]
  intro i j hi hj hij e
  have h1 := (shK_iff.1 (h j hj)).2 os[i] (by rw [List.mem_take_iff_getElem]; exact ⟨i, by omega, rfl⟩)
  rw [List.getElem?_eq_getElem hj] at h1
  exact h1 e

theorem perm_of_sub : ∀ (A B : List Int), A.Nodup → (∀ y ∈ A, y ∈ B) → A.length = B.length → A.Perm B
  | [], B, _, _, hl => by
    have : B = [] := List.length_eq_zero_iff.1 hl.symm
    rw [this]
  | x :: A, B, hn, h, hl => by
    obtain ⟨h1, h2⟩ := List.nodup_cons.1 hn
    have hx : x ∈ B := h x (by simp)
    have hle := List.length_erase_of_mem hx
    have hp : 0 < B.length := List.length_pos_of_mem hx
    have ih := perm_of_sub A (B.erase x) h2 (fun y hy => (List.mem_erase_of_ne (fun e => h1 (by rw [← e]; exact hy))).2 (h y (List.mem_cons_of_mem _ hy))) (by simp only [List.length_cons] at hl; omega)
    exact (List.Perm.cons x ih).trans (List.perm_cons_erase hx).symm

theorem sorted_iff {F os : List Int} (hF : F.Pairwise (· < ·)) : F = srt os ↔ (os.length = F.length ∧ ∀ k, k < os.length → shK F os k = true) := by
  have hn : F.Nodup := hF.imp (fun h => by omega)
  have hsF : F.mergeSort (fun x y => decide (x ≤ y)) = F := List.mergeSort_of_pairwise (hF.imp fun h => by simp only [decide_eq_true_eq]; omega)
  constructor
  · intro h
    have hp : F.Perm os := by rw [h]; exact List.mergeSort_perm _ _
    have hno : os.Nodup := (hp.nodup_iff).1 hn
    refine ⟨hp.length_eq.symm, fun k hk => shK_iff.2 ⟨hp.mem_iff.2 (getD_mem hk), fun x hx e => ?_⟩⟩
    rw [List.mem_take_iff_getElem] at hx
    obtain ⟨i, hi, rfl⟩ := hx
    rw [List.getElem?_eq_getElem hk] at e
    exact (List.pairwise_iff_getElem.1 hno i k (by omega) hk (by omega)) e
  · rintro ⟨hl, hk⟩
    have hno := nodup_of_known hk
    have hp : os.Perm F := perm_of_sub os F hno (fun y hy => by
      obtain ⟨i, hi, rfl⟩ := List.getElem_of_mem hy
      have := (shK_iff.1 (hk i hi)).1
      rwa [List.getElem?_eq_getElem hi] at this) hl
    have h2 := mergeSort_of_perm_i hp
    unfold srt
    rw [show (os.mergeSort fun x y => decide (x ≤ y)) = F.mergeSort (fun x y => decide (x ≤ y)) from h2, hsF]

theorem map_nat {os : List Int} (h : ∀ x ∈ os, 1 ≤ x ∧ x ≤ 63) : (os.map Int.toNat).map (fun o : Nat => (o : Int)) = os := by
  rw [List.map_map]
  conv => rhs; rw [← List.map_id os]
  refine List.map_congr_left fun x hx => ?_
  have := h x hx
  show ((x.toNat : Nat) : Int) = x
  omega

theorem sh_eq {V : Int} {fs : List Int} (hC : IsC V fs) (os : List Int) : shB (facetsL fs) os = shI (facetsL fs) os := by
  have hF : (facetsL fs).Pairwise (· < ·) := (hC.asc.imp fun h => by omega).filter _
  have hi := sorted_iff (os := os) hF
  by_cases h : facetsL fs = srt os
  · obtain ⟨hl, hk⟩ := hi.1 h
    have hmem : ∀ x ∈ os, x ∈ facetsL fs := fun y hy => by
      obtain ⟨i, hi, rfl⟩ := List.getElem_of_mem hy
      have := (shK_iff.1 (hk i hi)).1
      rwa [List.getElem?_eq_getElem hi] at this
    have hrg : ∀ x ∈ os, 1 ≤ x ∧ x ≤ 63 := fun x hx => hC.range63 x (List.mem_filter.1 (hmem x hx)).1
    have hno := nodup_of_known hk
    unfold shB shI
    rw [decide_eq_true hl, decide_eq_true h, Bool.true_and, Bool.true_and]
    unfold shOk okN
    rw [Bool.eq_iff_iff, List.all_eq_true, List.all_eq_true]
    have key : ∀ i, i < os.length → shG (os[i]?.getD 0) (os.take i) = fG ((os.map Int.toNat)[i]?.getD 0) (chN (os.map Int.toNat) i) := by
      intro i hi
      obtain ⟨f, hf⟩ : ∃ f : Nat, os[i]?.getD 0 = (f : Int) := ⟨(os[i]?.getD 0).toNat, by have := hrg _ (getD_mem hi); omega⟩
      have hfm : (f : Int) ∈ facetsL fs := by rw [← hf]; exact hmem _ (getD_mem hi)
      have hf64 : f < 64 := by have := hrg _ (getD_mem hi); omega
      have hfn : (os.map Int.toNat)[i]?.getD 0 = f := by
        rw [List.getElem?_map]
        rw [List.getElem?_eq_getElem hi] at hf ⊢
        simp at hf ⊢
        omega
      have hin : i ≤ (os.map Int.toNat).length := by simp; omega
      have ht : os.take i = ((os.map Int.toNat).take i).map (fun o : Nat => (o : Int)) := by rw [List.map_take, map_nat hrg]
      rw [hf, hfn, ht]
      refine good_nat hf64 (fun o => chN_fst (os.map Int.toNat) i hin o) (fun o ho => ?_)
      have hot : (o : Int) ∈ os.take i := by rw [ht]; exact List.mem_map.2 ⟨o, ho, rfl⟩
      have hoo := List.mem_of_mem_take hot
      refine ⟨by have := hrg _ hoo; omega, fun e => ?_⟩
      have he := facet_max hC hfm (List.mem_filter.1 (hmem _ hoo)).1 e
      exact (shK_iff.1 (hk i hi)).2 _ hot (by rw [hf, he])
    constructor
    · intro h2 i hi2
      have hi3 : i < os.length := by simpa using hi2
      have := h2 i hi2
      rw [hk i hi3, Bool.true_and, key i hi3] at this
      exact this
    · intro h2 i hi2
      have hi3 : i < os.length := by simpa using hi2
      rw [hk i hi3, Bool.true_and, key i hi3]
      exact h2 i hi2
  · have h1 : shI (facetsL fs) os = false := by unfold shI; rw [decide_eq_false h, Bool.false_and]
    rw [h1]
    cases hb : shB (facetsL fs) os
    · rfl
    · exfalso
      unfold shB at hb
      rw [Bool.and_eq_true, decide_eq_true_eq] at hb
      refine h (hi.2 ⟨hb.1, fun k hk => ?_⟩)
      have := List.all_eq_true.1 hb.2 k (by simpa using hk)
      rw [Bool.and_eq_true] at this
      exact this.1

theorem isSh_eq (V : Int) (fs os : List Int) : isShR shB V fs os = isShR shI V fs os := by
  unfold isShR
  by_cases hC : IsC V fs
  · rw [sh_eq hC]
  · rw [isCB_false hC, if_neg (by simp), if_neg (by simp)]

/-- The program's, as the model has it. -/
theorem implIsShelling (V : Int) (a : Option Addr) (cap : Nat) (fs : List Int) (a1 : Option Addr) (cap1 : Nat) (os : List Int) (w : World) (hx : SlI w w.heap.size a fs) (hx1 : SlI w w.heap.size a1 os) (hl : fs.length ≤ 1048576) (hl1 : os.length ≤ 1048576) :
    Calls Try.prog 39 #[.agg #[.int .i64 V, .slice a fs.length cap], .slice a1 os.length cap1] w fun e w' => e = .returned (.tuple #[.bool (isShR shB V fs os).1, .int .i64 (isShR shB V fs os).2]) ∧ Below w.heap.size w w' := by
  rw [isSh_eq]
  exact implIsShellingI V a cap fs a1 cap1 os w hx hx1 hl hl1

end Go.Proofs.Ytmkknfdjoajpcaa
