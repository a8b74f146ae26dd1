import Derived.WalkMore
import Derived.ScopeJumps
import Derived.Deep.CutRange
import Derived.Deep.RegionHeld3
import Derived.Test.YtplcbiconfpmlaaRows
import Derived.ProofKit
import Derived.OpenShut
import Derived.ShutString
import Derived.ChangeOld
import Derived.Below
import Derived.Lib.SmallJoins
import Derived.Test.YtplcbiconfpmlaaMB1
import Derived.Test.YtplcbiconfpmlaaMB2
import Derived.Test.YtplcbiconfpmlaaMB3
import Derived.Test.YtplcbiconfpmlaaMB4
import Derived.Test.YtplcbiconfpmlaaMB9
/-! The model's l03Rank. -/
namespace Go.Proofs.Ytplcbiconfpmlaa
open Go.RowKit
open Go.Sort hiding Below

/-- What the search for a row has found ahead of row i. -/
def Best (M : List (List Int)) (r c i : Nat) (v : Value) : Prop :=
  (v = .int .i64 (-1) ∧ ∀ i', r ≤ i' → i' < i → ent M i' c = 0) ∨ (∃ b : Nat, v = .int .i64 (b : Int) ∧ r ≤ b ∧ b < i ∧ ent M b c ≠ 0 ∧ ∀ i', r ≤ i' → i' < b → ent M i' c = 0)

def swapA (ad : Ads) (r i : Nat) : Ads := (ad.set r (adr ad i)).set i (adr ad r)
theorem adr_swap_r {ad : Ads} {r i : Nat} (hr : r < ad.length) (hi : i < ad.length) : adr (swapA ad r i) r = adr ad i := by
  unfold swapA adr
  by_cases e : i = r
  · subst e; rw [List.getElem?_set_self (by simpa using hi)]; simp
  · rw [List.getElem?_set_ne e, List.getElem?_set_self hr]; simp

theorem cells_set2 {W : World} {R a b k : Nat} {u v : Value} (ha : (W.cell? ⟨R, a, none⟩).isSome) (hb : (W.cell? ⟨R, b, none⟩).isSome) :
    ((W.setCell ⟨R, a, none⟩ u).setCell ⟨R, b, none⟩ v).cell? ⟨R, k, none⟩ = if k = b then some v else if k = a then some u else W.cell? ⟨R, k, none⟩ := by
  have h1 : ((W.setCell ⟨R, a, none⟩ u).cell? ⟨R, b, none⟩).isSome := by
    by_cases e : b = a
    · subst e; rw [World.cell?_setCell_same' _ _ _ ha]; rfl
    · rw [World.cell?_setCell_other _ _ _ _ (by simp <;> omega)]; exact hb
  by_cases e : k = b
  · subst e; rw [if_pos rfl, World.cell?_setCell_same' _ _ _ h1]
  · rw [if_neg e, World.cell?_setCell_other _ _ _ _ (by simp <;> omega)]
    by_cases e2 : k = a
    · subst e2; rw [if_pos rfl, World.cell?_setCell_same' _ _ _ ha]
    · rw [if_neg e2, World.cell?_setCell_other _ _ _ _ (by simp <;> omega)]

/-- Row i's slice is put at place i', and row i' s at place i: in this order. -/
theorem MatW.swap2 {W : World} {B R n w : Nat} {ad : Ads} {M : List (List Int)} (h : MatW W B R n w ad M) {r i : Nat} (hr : r < n) (hi : i < n) :
    MatW ((W.setCell ⟨R, i, none⟩ (.slice (some ⟨(adr ad r).1, (adr ad r).2, none⟩) w w)).setCell ⟨R, r, none⟩ (.slice (some ⟨(adr ad i).1, (adr ad i).2, none⟩) w w)) B R n w (swapA ad r i) (swapR M r i) := by
  refine h.swap hr hi (by simp [World.setCell]) (fun b hb => ?_) (fun k hk => ⟨?_, ?_⟩)
  · rw [Below.heap_setCell _ _ _ _ (by simpa using hb), Below.heap_setCell _ _ _ _ (by simpa using hb)]
  · rw [cells_set2 (by rw [(h.hd i hi).1]; rfl) (by rw [(h.hd r hr).1]; rfl), (h.hd k hk).1]
    by_cases e1 : k = i <;> by_cases e2 : k = r
    · subst e1; subst e2; simp
    · subst e1; simp [e2]
    · subst e2; simp [e1]
    · simp [e1, e2]
  · rw [World.frozen?_setCell, World.frozen?_setCell]; exact (h.hd k hk).2

theorem below_ahead {B : Nat} {a W : World} (h : Below B a W) (m : Nat) : Below B a (Sort.ahead W m) := h.trans ⟨rfl, rfl, rfl, Nat.le_refl _, fun _ _ => rfl⟩
theorem below_put {B : Nat} {a W : World} (h : Below B a W) (m blk off : Nat) (l : List Int) (hb : B ≤ blk) : Below B a (putRow encI (Sort.ahead W m) blk off l.toArray) := by
  exact ⟨h.os, h.tape, h.output, by simpa using h.size, fun k hk => by
    have : blk ≠ k := by omega
    rw [← h.block k hk]
    simp [putRow, mapBlock, Sort.ahead, Array.getElem?_modify, this]⟩

theorem ent_swap {p : Int} {n w : Nat} {M : List (List Int)} (hG : MatG p n w M) {r b : Nat} (hr : r < n) (hb : b < n) (k j : Nat) :
    ent (swapR M r b) k j = if k = b then ent M r j else if k = r then ent M b j else ent M k j := by
  unfold ent swapR
  by_cases e1 : k = b
  · subst e1; rw [List.getElem?_set_self (by simp [hG.len]; omega), if_pos rfl]; simp
  · rw [if_neg e1, List.getElem?_set_ne (fun e => e1 e.symm)]
    by_cases e2 : k = r
    · subst e2; rw [List.getElem?_set_self (by simp [hG.len]; omega), if_pos rfl]; simp
    · rw [if_neg e2, List.getElem?_set_ne (fun e => e2 e.symm)]
theorem zeros_swap {p : Int} {n w r b c : Nat} {M : List (List Int)} (hG : MatG p n w M) (hr : r < n) (hb : b < n) (hrb : r ≤ b) (hZ : ZerosTo M r c) (hne : ent M b c ≠ 0) :
    ZerosTo (swapR M r b) r c ∧ ent (swapR M r b) r c ≠ 0 := by
  constructor
  · intro i j h1 h2 h3
    rw [swapR_len] at h2
    rw [ent_swap hG hr hb]
    split
    · exact hZ r j (Nat.le_refl _) (by rw [hG.len]; exact hr) h3
    · split
      · exact hZ b j hrb (by rw [hG.len]; exact hb) h3
      · exact hZ i j h1 h2 h3
  · rw [ent_swap hG hr hb]
    split
    · rename_i e; rw [e]; exact hne
    · rw [if_pos rfl]; exact hne

theorem zeros_sweep {p : Int} {n w r c : Nat} {M : List (List Int)} (hp : p = 2 ∨ p = 3) (hG : MatG p n w M) (hr : r < n) (hZ : ZerosTo M r c) (hc : c < w) (hne : ent M r c ≠ 0) : ZerosTo (sweepTo p c r n M) (r + 1) (c + 1) := by
  intro i j h1 h2 h3
  rw [sweepTo_len, hG.len] at h2
  unfold ent
  rw [sweepTo_get (by rw [hG.len]; exact h2), if_pos ⟨by omega, h2⟩, clr_get (hG.rowLen h2) (hG.rowLen hr) (by omega)]
  have ea := hG.ent h2 hc
  have eb := hG.ent hr hc
  by_cases e : j = c
  · subst e
    exact clear_one hp ea.1 ea.2 eb.1 eb.2 hne
  · have z1 := hZ i j (by omega) (by rw [hG.len]; exact h2) (by omega)
    have z2 := hZ r j (Nat.le_refl _) (by rw [hG.len]; exact hr) (by omega)
    unfold ent at z1 z2
    rw [z1, z2]
    simp

theorem part_start {p : Int} {c w : Nat} {row own : List Int} (h1 : row.length = w) (h2 : own.length = w) (hz : ∀ j, j < c → own[j]?.getD 0 = 0) (hr : ∀ x ∈ row, 0 ≤ x ∧ x < p) (hc : c ≤ w) : part p c row own c = row := by
  have hl := clr_len (p := p) (c := c) h1 h2
  apply List.ext_getElem?
  intro i
  unfold part
  by_cases hi : i < c
  · rw [List.getElem?_append_left (by simp; omega), List.getElem?_take_of_lt hi]
    have e := clr_get (p := p) (c := c) h1 h2 (show i < w by omega)
    rw [hz i hi] at e
    have hm := hr _ (getD_memL (d := 0) (show i < row.length by omega))
    rw [List.getElem?_eq_getElem (by omega), List.getElem?_eq_getElem (by omega : i < row.length)] at *
    simp only [Option.getD_some] at e hm
    rw [e]
    simp only [Int.mul_zero, Int.add_zero]
    rw [Int.emod_eq_of_lt hm.1 hm.2]
  · rw [List.getElem?_append_right (by simp; omega)]
    have : (List.take c (clr p c row own)).length = c := by simp; omega
    rw [this, List.getElem?_drop, Nat.add_sub_cancel' (by omega)]

set_option maxRecDepth 1000000 in
set_option maxHeartbeats 4000000 in
theorem rankS_any (B R n w cap : Nat) (ad : Ads) (p : Int) (M : List (List Int)) (W : World) (hM : MatW W B R n w ad M) (hG : MatG p n w M) (hp : p = 2 ∨ p = 3) (hn0 : 0 < n) (hn : n ≤ 1048576) (hw : w ≤ 1048576) :
    Calls Try.prog 170 #[.slice (some ⟨R, 0, none⟩) n cap, .int .i64 p] W fun e W' => e = .returned (.int .i64 (elimR p w 0 0 M : Int)) ∧ Below B W W' := by
  have hg0 : decide (0 < n) = true := decide_eq_true hn0
  obtain ⟨E, hE⟩ : ∃ E, E = elimR p w 0 0 M := ⟨_, rfl⟩
  rw [← hE]
  have HM := hid hM
  have HG := hid hG
  have HE := hid hE
  have HP := hid hp
  clear hM hG hE hp
  go_enter Try.func170, Try.ntmps170
  go_wp2
  go_loopw [5, 6] (fun s5 s6 wr => ∃ (r c : Nat) (M : List (List Int)) (ad : Ads), s5 = .int .i64 r ∧ s6 = .int .i64 c ∧ r ≤ n ∧ c ≤ w ∧ Hid (MatW wr B R n w ad M) ∧ Hid (MatG p n w M) ∧ Hid (ZerosTo M r c) ∧ Hid (E = elimR p (w - c) r c M) ∧ Hid (Below B W wr)) (fun _ s6 _ => w - (intOf s6).toNat)
  case atStart => exact ⟨0, 0, M, ad, rfl, rfl, by omega, by omega, HM, HG, hid (fun i j _ _ hj => by omega), HE, hid (Below.refl _ _)⟩
  case round =>
    clear HM HG HE
    obtain ⟨r, c, M, ad, rfl, rfl, hr, hc, HM, HG, HZ, HE, HB⟩ := hrel
    obtain ⟨wo, rfl⟩ : ∃ wo : World, wo = wr := ⟨_, rfl⟩
    have c0 := (HM.out.hd 0 hn0).1
    by_cases hlt : c < w
    · have hlt' : (c : Int) < (w : Int) := by omega
      go_wp2
      go_loopw [7, 8] (fun s7 s8 wx => ∃ (i : Nat), s8 = .int .i64 i ∧ r ≤ i ∧ i ≤ n ∧ Hid (Best M r c i s7) ∧ wx = wo) (fun _ s8 _ => n - (intOf s8).toNat)
      case atStart => exact ⟨r, rfl, Nat.le_refl _, hr, hid (.inl ⟨rfl, fun i' h1 h2 => by omega⟩), rfl⟩
      case round =>
        obtain ⟨i, rfl, hri, hin, Hb, rfl⟩ := hrel
        clear c0
        rcases Hb.out with ⟨rfl, hz⟩ | ⟨b, rfl, hrb, hbi, hne, hz⟩
        · by_cases hin' : i < n
          · have hii : (i : Int) < (n : Int) := by omega
            have hi0 : (0 : Int) ≤ (i : Int) := by omega
            have hc0 : (0 : Int) ≤ (c : Int) := by omega
            have ci := (HM.out.hd i hin').1
            have cx := (HM.out.at hin' hlt).1
            have Hz := hid hz
            clear hz Hb
            by_cases hx : ent M i c = 0
            · have Hb' : Hid (Best M r c (i + 1) (.int .i64 (-1))) := hid (.inl ⟨rfl, fun i' h1 h2 => by
                by_cases e : i' = i
                · rw [e]; exact hx
                · exact Hz.out i' h1 (by omega)⟩)
              rw [hx] at cx
              clear hx
              go_wp2
              go_roundw
              case rel => exact ⟨i + 1, by go_num, by omega, by omega, Hb', trivial⟩
              case measure => simp [intOf]; omega
            · have Hb' : Hid (Best M r c (i + 1) (.int .i64 (i : Int))) := hid (.inr ⟨i, rfl, hri, by omega, hx, Hz.out⟩)
              have hd : (ent M i c != 0) = true := by simpa using hx
              obtain ⟨x, hxx⟩ : ∃ x, x = ent M i c := ⟨_, rfl⟩
              rw [← hxx] at cx hd
              clear hx hxx
              go_wp2
              go_roundw
              case rel => exact ⟨i + 1, by go_num, by omega, by omega, Hb', trivial⟩
              case measure => simp [intOf]; omega
          · obtain rfl : i = n := by omega
            have He : Hid (E = elimR p (w - (c + 1)) r (c + 1) M) := hid (by
              have h1 := HE.out
              rw [show w - c = (w - (c + 1)) + 1 by omega, elim_none (fun i' h1 h2 => hz i' h1 (by rw [← HG.out.len]; exact h2))] at h1
              exact h1)
            have HZ' : Hid (ZerosTo M r (c + 1)) := hid (fun i' j h1 h2 h3 => by
              by_cases e : j = c
              · rw [e]; exact hz i' h1 (by rw [← HG.out.len]; exact h2)
              · exact HZ.out i' j h1 h2 (by omega))
            clear hz Hb
            go_wp2
            go_roundw
            case rel => exact ⟨r, c + 1, M, ad, rfl, by go_num, hr, by omega, HM, HG, HZ', He, HB⟩
            case measure => simp [intOf]; omega
        · have hbn : b < n := by omega
          have hrn : r < n := by omega
          have hbi0 : (0 : Int) ≤ (b : Int) := by omega
          have hbi1 : (b : Int) < (n : Int) := by omega
          have hri0 : (0 : Int) ≤ (r : Int) := by omega
          have hri1 : (r : Int) < (n : Int) := by omega
          obtain ⟨cb, fb⟩ := HM.out.hd b hbn
          obtain ⟨cr, fr⟩ := HM.out.hd r hrn
          have HM2 := hid (HM.out.swap2 hrn hbn)
          have HG2 := hid (swapR_good HG.out hrn hbn)
          have Har := hid (adr_swap_r (ad := ad) (r := r) (i := b) (by rw [HM.out.adl]; exact hrn) (by rw [HM.out.adl]; exact hbn))
          obtain ⟨v', cr2⟩ := cell?_setCell_some (w := wr) (p := ⟨R, b, none⟩) (x := .slice (some ⟨(adr ad r).1, (adr ad r).2, none⟩) w w) (q := ⟨R, r, none⟩) (v := _) cr
          have HE2 : Hid (E = elimR p (w - (c + 1)) (r + 1) (c + 1) (sweepTo p c r n (swapR M r b))) := hid (by
            have h1 := HE.out
            rw [show w - c = (w - (c + 1)) + 1 by omega, elim_some hrb (by rw [HG.out.len]; exact hbn) hne hz, HG.out.len] at h1
            exact h1)
          have hRb := HM.out.head
          have HB2 : Hid (Below B W ((wr.setCell ⟨R, b, none⟩ (.slice (some ⟨(adr ad r).1, (adr ad r).2, none⟩) w w)).setCell ⟨R, r, none⟩ (.slice (some ⟨(adr ad b).1, (adr ad b).2, none⟩) w w))) := hid ((HB.out.setCell (p := ⟨R, b, none⟩) hRb.1 _).setCell (p := ⟨R, r, none⟩) hRb.1 _)
          have HZ2 : Hid (ZerosTo (swapR M r b) r c ∧ ent (swapR M r b) r c ≠ 0) := hid (zeros_swap HG.out hrn hbn hrb HZ.out hne)
          clear Hb hz hne HM HG HE HZ HB hRb
          by_cases hin' : i < n
          all_goals
            have hdin : decide (i < n) = decide (i < n) := rfl
            clear hdin
            go_wp2
            go_loopw [10] (fun s10 wx => ∃ (i : Nat), s10 = .int .i64 i ∧ r + 1 ≤ i ∧ i ≤ n ∧ Hid (MatW wx B R n w (swapA ad r b) (sweepTo p c r i (swapR M r b))) ∧ Hid (Below B W wx)) (fun s10 _ => n - (intOf s10).toNat)
            case atStart => exact ⟨r + 1, by go_num, Nat.le_refl _, by omega, hid (by rw [sweepTo_none (Nat.le_refl _)]; exact HM2.out), HB2⟩
            case round =>
              clear HM2 HB2 cb fb cr fr cr2
              obtain ⟨i3, rfl, hri3, hin3, HM3, HB3⟩ := hrel
              by_cases hlt3 : i3 < n
              · have hi30 : (0 : Int) ≤ (i3 : Int) := by omega
                have hi31 : (i3 : Int) < (n : Int) := by omega
                have hc0 : (0 : Int) ≤ (c : Int) := by omega
                have c3 := (HM3.out.hd i3 hlt3).1
                have l2 : (swapR M r b).length = n := HG2.out.len
                have hrow : (sweepTo p c r i3 (swapR M r b))[i3]?.getD [] = (swapR M r b)[i3]?.getD [] := sweepTo_later (by rw [l2]; exact hlt3)
                have hown : (sweepTo p c r i3 (swapR M r b))[r]?.getD [] = (swapR M r b)[r]?.getD [] := sweepTo_pivot (by rw [l2]; exact hrn)
                have h1 := HM3.out.row i3 hlt3
                have h2 := HM3.out.row r hrn
                have hap := HM3.out.apart i3 r hlt3 hrn (by omega)
                have hbs := (HM3.out.base i3 hlt3).1
                rw [hrow] at h1
                rw [hown, Har] at h2
                rw [Har] at hap
                have l1 := HG2.out.rowLen hlt3
                have lo := HG2.out.rowLen hrn
                have hz4 := HZ2.out.1
                have r1 := HG2.out.rng _ (HG2.out.row hlt3)
                have r2 := HG2.out.rng _ (HG2.out.row hrn)
                have hsn := sweepTo_succ (p := p) (c := c) (r := r) (k := i3) (M := swapR M r b) (by omega)
                obtain ⟨row, hrw⟩ : ∃ row, row = (swapR M r b)[i3]?.getD [] := ⟨_, rfl⟩
                obtain ⟨own, how⟩ : ∃ own, own = (swapR M r b)[r]?.getD [] := ⟨_, rfl⟩
                rw [← hrw] at h1 l1 r1 hsn
                rw [← how] at h2 lo r2 hsn
                have hzo : ∀ j, j < c → own[j]?.getD 0 = 0 := fun j hj => by rw [how]; exact hz4 r j (Nat.le_refl _) (by rw [l2]; exact hrn) hj
                have hp := HP.out
                obtain ⟨cx, _⟩ := holds_at h1 (i := c) (by omega)
                obtain ⟨cy, _⟩ := holds_at h2 (i := c) (by omega)
                have rx := r1 _ (getD_memL (d := 0) (show c < row.length by omega))
                have ry := r2 _ (getD_memL (d := 0) (show c < own.length by omega))
                obtain ⟨x0, hx0⟩ : ∃ x, x = row[c]?.getD 0 := ⟨_, rfl⟩
                obtain ⟨y0, hy0⟩ : ∃ y, y = own[c]?.getD 0 := ⟨_, rfl⟩
                rw [← hx0] at cx rx
                rw [← hy0] at cy ry
                have hm := small_mul hp rx.1 rx.2 ry.1 ry.2
                obtain ⟨t, ht⟩ : ∃ t, t = (x0 * y0) % p := ⟨_, rfl⟩
                have hmul : IntKind.i64.wrap (x0 * y0) = x0 * y0 := IntWalk.i64_in _ (by omega)
                have hrem : (x0 * y0).tmod p = t := by rw [ht, Int.tmod_eq_emod_of_nonneg hm.1]
                have htr : 0 ≤ t ∧ t < p := by rw [ht]; exact mod_rng hp
                have hp0 : (p == 0) = false := by rcases hp with rfl | rfl <;> rfl
                have Hst := hid (part_start (p := p) l1 lo hzo r1 (by omega))
                have HX := hid hx0
                have HY := hid hy0
                have HT := hid ht
                have H1 := hid h1
                have H2 := hid h2
                have R1 := hid r1
                have R2 := hid r2
                have Hsn := hid hsn
                have Hap := hid hap
                have Hrow := hid hrow
                have HPp := hid hp
                clear hx0 hy0 ht h1 h2 r1 r2 hsn hap hrow hown hrw how hzo hz4 hp l2
                obtain ⟨w3, rfl⟩ : ∃ w3 : World, w3 = wr := ⟨_, rfl⟩
                go_wp2
                go_quiet (fail)
                go_wp2
                clear hmul hrem cx cy hm rx ry
                go_loopw [13] (fun s13 wx => ∃ (j m : Nat), s13 = .int .i64 j ∧ c ≤ j ∧ j ≤ w ∧ Aside (wx = putRow encI (Sort.ahead w3 m) (adr (swapA ad r b) i3).1 (adr (swapA ad r b) i3).2 (part p c row own j).toArray)) (fun s13 _ => w - (intOf s13).toNat)
                case atStart => exact ⟨c, nq, rfl, Nat.le_refl _, by omega, by rw [Hst.out]; exact (Sort.putRow_self encI _ _ _ _ (Sort.holds_ahead encI _ nq _ _ _ H1.out)).symm⟩
                case round =>
                  obtain ⟨j, m, rfl, hcj, hjw, A⟩ := hrel
                  by_cases hltj : j < w
                  · have hHk : Sort.Holds encI wr (adr (swapA ad r b) i3).1 (adr (swapA ad r b) i3).2 (part p c row own j).toArray := by rw [A.out]; exact Sort.holds_putRow encI _ _ _ _ _ (Sort.holds_ahead encI _ m _ _ _ H1.out) (by simp [part_len l1 lo hjw, l1])
                    obtain ⟨cq, fq⟩ := holds_at hHk (i := j) (by rw [part_len l1 lo hjw]; exact hltj)
                    rw [part_at l1 lo hltj] at cq
                    obtain ⟨cb0, _⟩ := holds_at H2.out (i := j) (by omega)
                    have cs : wr.cell? ⟨(adr ad b).1, (adr ad b).2 + j, none⟩ = some (.int .i64 (own[j]?.getD 0)) := by
                      rw [A.out, Sort.cell?_putRow_other _ _ _ _ _ _ (by have := Hap.out; simp [part_len l1 lo hjw]; omega)]
                      exact cb0
                    have hp := HPp.out
                    have ra := R1.out _ (getD_memL (d := 0) (show j < row.length by omega))
                    have rb := R2.out _ (getD_memL (d := 0) (show j < own.length by omega))
                    have hps := part_succ (p := p) (c := c) l1 lo hltj
                    have hpl := part_len (p := p) (c := c) l1 lo hjw
                    obtain ⟨aa, ha⟩ : ∃ a, a = row[j]?.getD 0 := ⟨_, rfl⟩
                    obtain ⟨bb, hb⟩ : ∃ b, b = own[j]?.getD 0 := ⟨_, rfl⟩
                    rw [← ha] at cq ra hps
                    rw [← hb] at cs rb hps
                    rw [← HX.out, ← HY.out, ← HT.out] at hps
                    have hm := small_mul' hp htr rb
                    obtain ⟨vv, hv⟩ : ∃ v, v = (aa + (p - t) * bb) % p := ⟨_, rfl⟩
                    rw [← hv] at hps
                    have hrem : (aa + (p - t) * bb).tmod p = vv := by rw [hv, Int.tmod_eq_emod_of_nonneg (by omega)]
                    have hadd : IntKind.i64.wrap (aa + (p - t) * bb) = aa + (p - t) * bb := IntWalk.i64_in _ (by omega)
                    have hmul : IntKind.i64.wrap ((p - t) * bb) = (p - t) * bb := IntWalk.i64_in _ (by omega)
                    have hsub : IntKind.i64.wrap (p - t) = p - t := IntWalk.i64_in _ (by omega)
                    have hj0 : (0 : Int) ≤ (j : Int) := by omega
                    have hj1 : (j : Int) < (w : Int) := by omega
                    have Hps := hid hps
                    have Hpl := hid hpl
                    clear hHk ha hb hv cb0 hm hps hpl hp
                    go_wp2_with fail
                    go_region
                    go_wp2
                    go_roundw
                    case measure => simp [intOf]; omega
                    case rel => exact ⟨j + 1, m + 1, by go_num, by omega, by omega, by rw [Hps.out, ← putRow_at _ _ _ _ _ _ _ (by rw [Hpl.out]; exact hltj), ← Sort.ahead_drew, ← Sort.putRow_drew, ← A.out]; rfl⟩
                  · obtain rfl : j = w := by omega
                    have hM4 : Hid (MatW wr B R n j (swapA ad r b) (sweepTo p c r (i3 + 1) (swapR M r b))) := hid (by
                      have := HM3.out.put hlt3 m (row := clr p c row own) (clr_len l1 lo)
                      rw [← Hsn.out] at this
                      rw [A.out, part_all l1 lo]
                      exact this)
                    have hB4 : Hid (Go.RowKit.Below B W wr) := hid (by rw [A.out]; exact below_put HB3.out m _ _ _ hbs)
                    clear hp0 htr
                    go_wp2
                    go_roundw
                    case rel => exact ⟨i3 + 1, by go_num, by omega, by omega, hM4, hB4⟩
                    case measure => simp [intOf]; omega
              · obtain rfl : i3 = n := by omega
                have HG4 := hid (sweepTo_good (c := c) (r := r) (k := i3) HG2.out (by rcases HP.out with h | h <;> omega) hrn)
                have HZ4 := hid (zeros_sweep HP.out HG2.out hrn HZ2.out.1 hlt HZ2.out.2)
                go_wp2
                go_roundw
                case rel => exact ⟨r + 1, c + 1, _, _, by go_num, by go_num, by omega, by omega, HM3, HG4, HZ4, HE2, HB3⟩
                case measure => simp [intOf]; omega
    · obtain rfl : c = w := by omega
      have He : Hid (E = r) := hid (by have := HE.out; rwa [Nat.sub_self] at this)
      go_wp2
      go_ret
      exact ⟨ret_int (by rw [He.out]), HB.out⟩

end Go.Proofs.Ytplcbiconfpmlaa

/-! The program's bringToSteps: a machine with two labels. -/
namespace Go.Proofs.Ytplcbiconfpmlaa
open Go.RowKit
open Go.Sort hiding Below

/-- As Q; by a goto: what holds there. -/
def jump2 (l0 l1 : Nat) (J0 J1 : Act → World → Prop) (Q : Exit → Act → World → Prop) : Exit → Act → World → Prop
  | .goto l, a, w => (l = l0 ∧ J0 a w) ∨ (l = l1 ∧ J1 a w)
  | .normal, a, w => Q .normal a w
  | .exit id, a, w => Q (.exit id) a w
  | .ret, a, w => Q .ret a w
  | .panic ch, a, w => Q (.panic ch) a w
  | .outgrown, a, w => Q .outgrown a w

/-- A scope with two labels, one of them at its head: what holds at each jump, and what each lowers. -/
theorem wp_scope_two {P : Program} {Q : Exit → Act → World → Prop} {a : Act} {w : World} {c c1 X Y x1 x2 x3 x4 : Code} {l0 l1 : Nat} (J0 J1 : Act → World → Prop) (m0 m1 : Act → World → Nat) (hc : c = c1.seq ((Code.label l0).seq X)) (_hX : X = x1.seq (x2.seq (x3.seq (x4.seq ((Code.label l1).seq Y)))))
    (h0 : findLabel c l0 = some (Code.skip.seq X)) (h1 : findLabel c l1 = some (Code.skip.seq Y))
    (first : c1.wp P (fun e a w => e = .normal ∧ J0 a w) a w)
    (pass0 : ∀ a w, J0 a w → X.wp P (jump2 l0 l1 (fun a' w' => J0 a' w' ∧ m0 a' w' < m0 a w) (fun a' w' => J1 a' w' ∧ m1 a' w' < m0 a w) Q) a w)
    (pass1 : ∀ a w, J1 a w → Y.wp P (jump2 l0 l1 (fun a' w' => J0 a' w' ∧ m0 a' w' < m1 a w) (fun a' w' => J1 a' w' ∧ m1 a' w' < m1 a w) Q) a w) : (Code.scope c).wp P Q a w := by
  intro b k cs
  have g0 : gotoIn l0 (.inScope c :: k) = some (.code (Code.skip.seq X) :: .inScope c :: k) := by simp [gotoIn, h0]
  have g1 : gotoIn l1 (.inScope c :: k) = some (.code (Code.skip.seq Y) :: .inScope c :: k) := by simp [gotoIn, h1]
  have key : ∀ N, (∀ a w, m0 a w = N → J0 a w → ∃ e a' w', Q e a' w' ∧ Arrives P (lone (b.at a (.code (Code.skip.seq X) :: .inScope c :: k)) cs w) b k cs e a' w') ∧
      (∀ a w, m1 a w = N → J1 a w → ∃ e a' w', Q e a' w' ∧ Arrives P (lone (b.at a (.code (Code.skip.seq Y) :: .inScope c :: k)) cs w) b k cs e a' w') := by
    intro N
    induction N using Nat.strongRecOn with
    | _ N ih =>
      have go : ∀ (Z : Code) (a : Act) (w : World), Z.wp P (jump2 l0 l1 (fun a' w' => J0 a' w' ∧ m0 a' w' < N) (fun a' w' => J1 a' w' ∧ m1 a' w' < N) Q) a w → ∃ e a' w', Q e a' w' ∧ Arrives P (lone (b.at a (.code Z :: .inScope c :: k)) cs w) b k cs e a' w' := by
        intro Z a w hZ
        obtain ⟨e, a1, w1, hq, harr⟩ := hZ b (.inScope c :: k) cs
        cases e with
        | normal => exact ⟨.normal, a1, w1, hq, Steps.trans harr (.one step_inScope)⟩
        | exit id => exact ⟨.exit id, a1, w1, hq, fun k' hk => harr k' (by simp [exitTo, hk])⟩
        | goto l' =>
          rcases hq with ⟨rfl, hJ, hlt⟩ | ⟨rfl, hJ, hlt⟩
          · obtain ⟨e2, a2, w2, hq2, harr2⟩ := (ih _ hlt).1 a1 w1 rfl hJ
            exact ⟨e2, a2, w2, hq2, .of_steps (harr _ g0) harr2⟩
          · obtain ⟨e2, a2, w2, hq2, harr2⟩ := (ih _ hlt).2 a1 w1 rfl hJ
            exact ⟨e2, a2, w2, hq2, .of_steps (harr _ g1) harr2⟩
        | ret => exact ⟨_, a1, w1, hq, harr⟩
        | panic ch => exact ⟨_, a1, w1, hq, harr⟩
        | outgrown => exact ⟨_, a1, w1, hq, harr⟩
      exact ⟨fun a w hn hJ => go _ a w (wp_seq (wp_skip (by subst hn; exact pass0 a w hJ))), fun a w hn hJ => go _ a w (wp_seq (wp_skip (by subst hn; exact pass1 a w hJ)))⟩
  have hfirst : c.wp P (jump2 l0 l1 J0 J1 Q) a w := by
    rw [hc]
    refine wp_seq (wp_mono first ?_)
    rintro e a w ⟨rfl, hJ⟩
    refine wp_seq (wp_label (wp_mono (pass0 a w hJ) ?_))
    intro e a' w' hq
    cases e with
    | goto l' => rcases hq with ⟨rfl, hJ, _⟩ | ⟨rfl, hJ, _⟩; exact .inl ⟨rfl, hJ⟩; exact .inr ⟨rfl, hJ⟩
    | normal => exact hq
    | exit id => exact hq
    | ret => exact hq
    | panic ch => exact hq
    | outgrown => exact hq
  obtain ⟨e, a1, w1, hq, harr⟩ := hfirst b (.inScope c :: k) cs
  cases e with
  | normal => exact ⟨.normal, a1, w1, hq, .head step_scope (Steps.trans harr (.one step_inScope))⟩
  | exit id => exact ⟨.exit id, a1, w1, hq, fun k' hk => .head step_scope (harr k' (by simp [exitTo, hk]))⟩
  | goto l' =>
    rcases hq with ⟨rfl, hJ⟩ | ⟨rfl, hJ⟩
    · obtain ⟨e2, a2, w2, hq2, harr2⟩ := (key _).1 a1 w1 rfl hJ
      exact ⟨e2, a2, w2, hq2, .of_steps (.head step_scope (harr _ g0)) harr2⟩
    · obtain ⟨e2, a2, w2, hq2, harr2⟩ := (key _).2 a1 w1 rfl hJ
      exact ⟨e2, a2, w2, hq2, .of_steps (.head step_scope (harr _ g1)) harr2⟩
  | ret => exact ⟨_, a1, w1, hq, .of_steps (.one step_scope) harr⟩
  | panic ch => exact ⟨_, a1, w1, hq, .of_steps (.one step_scope) harr⟩
  | outgrown => exact ⟨_, a1, w1, hq, .of_steps (.one step_scope) harr⟩

section
variable {Q : Exit → Act → World → Prop} {J0 J1 : Act → World → Prop} {l0 l1 : Nat} {a : Act} {w : World}
@[go_sem] theorem jump2_normal : jump2 l0 l1 J0 J1 Q .normal a w = Q .normal a w := rfl
@[go_sem] theorem jump2_exit (id : Nat) : jump2 l0 l1 J0 J1 Q (.exit id) a w = Q (.exit id) a w := rfl
@[go_sem] theorem jump2_ret : jump2 l0 l1 J0 J1 Q .ret a w = Q .ret a w := rfl
end

/-- Two rows' slices are put at one another's places, in the program's order. -/
theorem MatW.swap3 {W : World} {B R n w : Nat} {ad : Ads} {M : List (List Int)} (h : MatW W B R n w ad M) {r i : Nat} (hr : r < n) (hi : i < n) :
    MatW ((W.setCell ⟨R, r, none⟩ (.slice (some ⟨(adr ad i).1, (adr ad i).2, none⟩) w w)).setCell ⟨R, i, none⟩ (.slice (some ⟨(adr ad r).1, (adr ad r).2, none⟩) w w)) B R n w (swapA ad r i) (swapR M r i) := by
  refine h.swap hr hi (by simp [World.setCell]) (fun b hb => ?_) (fun k hk => ⟨?_, ?_⟩)
  · rw [Below.heap_setCell _ _ _ _ (by simpa using hb), Below.heap_setCell _ _ _ _ (by simpa using hb)]
  · rw [cells_set2 (by rw [(h.hd r hr).1]; rfl) (by rw [(h.hd i hi).1]; rfl), (h.hd k hk).1]
    by_cases e1 : k = i <;> by_cases e2 : k = r
    · subst e1; subst e2; simp
    · subst e1; simp
    · subst e2; simp [e1]
    · simp [e1, e2]
  · rw [World.frozen?_setCell, World.frozen?_setCell]; exact (h.hd k hk).2

/-- What holds at the label seek. -/
def Seek (B R n w : Nat) (W : World) (p : Int) (E r c : Nat) (wr : World) : Prop :=
  ∃ (M : List (List Int)) (ad : Ads), r ≤ n ∧ c ≤ w ∧ MatW wr B R n w ad M ∧ MatG p n w M ∧ E = elimR p (w - c) r c M ∧ Go.RowKit.Below B W wr
/-- .. at the label sweep. -/
def Swp (B R n w : Nat) (W : World) (p : Int) (E r c : Nat) (wr : World) : Prop :=
  ∃ (M : List (List Int)) (ad : Ads), r < n ∧ c < w ∧ MatW wr B R n w ad M ∧ MatG p n w M ∧ E = elimR p (w - (c + 1)) (r + 1) (c + 1) (sweepTo p c r n M) ∧ Go.RowKit.Below B W wr

/-- The machine at the label seek; at the label sweep. -/
def AtSeek (B R n w cap : Nat) (W : World) (p : Int) (E : Nat) (a' : Act) (w' : World) : Prop :=
  ∃ (r c : Nat) (us : Nat → Value), a' = { tmps := #[.slice (some ⟨R, 0, none⟩) n cap, .int .i64 p, undef, undef, .int .i64 0, .int .i64 (r : Int), .int .i64 (c : Int), us 7, us 8, us 9, us 10, us 11, us 12, us 13, us 14, us 15, us 16, us 17, us 18, us 19, us 20, us 21, us 22, us 23, us 24, us 25, us 26, us 27, us 28, us 29, us 30, us 31, us 32, us 33, us 34, us 35, us 36, us 37, us 38, us 39, us 40, us 41, us 42, us 43, us 44, us 45, us 46, us 47, us 48, us 49, us 50, us 51, us 52, us 53, us 54, us 55, us 56, us 57, us 58, us 59, us 60, us 61, us 62, us 63, us 64, us 65, us 66, us 67, us 68, us 69, us 70, us 71, us 72, us 73, us 74, us 75, us 76], defers := [] } ∧ Hid (Seek B R n w W p E r c w')
def AtSweep (B R n w cap : Nat) (W : World) (p : Int) (E : Nat) (a' : Act) (w' : World) : Prop :=
  ∃ (r c : Nat) (us : Nat → Value), a' = { tmps := #[.slice (some ⟨R, 0, none⟩) n cap, .int .i64 p, undef, undef, .int .i64 0, .int .i64 (r : Int), .int .i64 (c : Int), us 7, us 8, us 9, us 10, us 11, us 12, us 13, us 14, us 15, us 16, us 17, us 18, us 19, us 20, us 21, us 22, us 23, us 24, us 25, us 26, us 27, us 28, us 29, us 30, us 31, us 32, us 33, us 34, us 35, us 36, us 37, us 38, us 39, us 40, us 41, us 42, us 43, us 44, us 45, us 46, us 47, us 48, us 49, us 50, us 51, us 52, us 53, us 54, us 55, us 56, us 57, us 58, us 59, us 60, us 61, us 62, us 63, us 64, us 65, us 66, us 67, us 68, us 69, us 70, us 71, us 72, us 73, us 74, us 75, us 76], defers := [] } ∧ Hid (Swp B R n w W p E r c w')
theorem atSeek_of {B R n w cap : Nat} {W : World} {p : Int} {E r c : Nat} {w' : World} (tm : Array Value) (h : tm = #[.slice (some ⟨R, 0, none⟩) n cap, .int .i64 p, undef, undef, .int .i64 0, .int .i64 (r : Int), .int .i64 (c : Int), tm.getD 7 undef, tm.getD 8 undef, tm.getD 9 undef, tm.getD 10 undef, tm.getD 11 undef, tm.getD 12 undef, tm.getD 13 undef, tm.getD 14 undef, tm.getD 15 undef, tm.getD 16 undef, tm.getD 17 undef, tm.getD 18 undef, tm.getD 19 undef, tm.getD 20 undef, tm.getD 21 undef, tm.getD 22 undef, tm.getD 23 undef, tm.getD 24 undef, tm.getD 25 undef, tm.getD 26 undef, tm.getD 27 undef, tm.getD 28 undef, tm.getD 29 undef, tm.getD 30 undef, tm.getD 31 undef, tm.getD 32 undef, tm.getD 33 undef, tm.getD 34 undef, tm.getD 35 undef, tm.getD 36 undef, tm.getD 37 undef, tm.getD 38 undef, tm.getD 39 undef, tm.getD 40 undef, tm.getD 41 undef, tm.getD 42 undef, tm.getD 43 undef, tm.getD 44 undef, tm.getD 45 undef, tm.getD 46 undef, tm.getD 47 undef, tm.getD 48 undef, tm.getD 49 undef, tm.getD 50 undef, tm.getD 51 undef, tm.getD 52 undef, tm.getD 53 undef, tm.getD 54 undef, tm.getD 55 undef, tm.getD 56 undef, tm.getD 57 undef, tm.getD 58 undef, tm.getD 59 undef, tm.getD 60 undef, tm.getD 61 undef, tm.getD 62 undef, tm.getD 63 undef, tm.getD 64 undef, tm.getD 65 undef, tm.getD 66 undef, tm.getD 67 undef, tm.getD 68 undef, tm.getD 69 undef, tm.getD 70 undef, tm.getD 71 undef, tm.getD 72 undef, tm.getD 73 undef, tm.getD 74 undef, tm.getD 75 undef, tm.getD 76 undef]) (HK : Hid (Seek B R n w W p E r c w')) : AtSeek B R n w cap W p E { tmps := tm, defers := [] } w' :=
  ⟨r, c, fun i => tm.getD i undef, congrArg (fun t => ({ tmps := t, defers := [] } : Act)) h, HK⟩
theorem atSweep_of {B R n w cap : Nat} {W : World} {p : Int} {E r c : Nat} {w' : World} (tm : Array Value) (h : tm = #[.slice (some ⟨R, 0, none⟩) n cap, .int .i64 p, undef, undef, .int .i64 0, .int .i64 (r : Int), .int .i64 (c : Int), tm.getD 7 undef, tm.getD 8 undef, tm.getD 9 undef, tm.getD 10 undef, tm.getD 11 undef, tm.getD 12 undef, tm.getD 13 undef, tm.getD 14 undef, tm.getD 15 undef, tm.getD 16 undef, tm.getD 17 undef, tm.getD 18 undef, tm.getD 19 undef, tm.getD 20 undef, tm.getD 21 undef, tm.getD 22 undef, tm.getD 23 undef, tm.getD 24 undef, tm.getD 25 undef, tm.getD 26 undef, tm.getD 27 undef, tm.getD 28 undef, tm.getD 29 undef, tm.getD 30 undef, tm.getD 31 undef, tm.getD 32 undef, tm.getD 33 undef, tm.getD 34 undef, tm.getD 35 undef, tm.getD 36 undef, tm.getD 37 undef, tm.getD 38 undef, tm.getD 39 undef, tm.getD 40 undef, tm.getD 41 undef, tm.getD 42 undef, tm.getD 43 undef, tm.getD 44 undef, tm.getD 45 undef, tm.getD 46 undef, tm.getD 47 undef, tm.getD 48 undef, tm.getD 49 undef, tm.getD 50 undef, tm.getD 51 undef, tm.getD 52 undef, tm.getD 53 undef, tm.getD 54 undef, tm.getD 55 undef, tm.getD 56 undef, tm.getD 57 undef, tm.getD 58 undef, tm.getD 59 undef, tm.getD 60 undef, tm.getD 61 undef, tm.getD 62 undef, tm.getD 63 undef, tm.getD 64 undef, tm.getD 65 undef, tm.getD 66 undef, tm.getD 67 undef, tm.getD 68 undef, tm.getD 69 undef, tm.getD 70 undef, tm.getD 71 undef, tm.getD 72 undef, tm.getD 73 undef, tm.getD 74 undef, tm.getD 75 undef, tm.getD 76 undef]) (HK : Hid (Swp B R n w W p E r c w')) : AtSweep B R n w cap W p E { tmps := tm, defers := [] } w' :=
  ⟨r, c, fun i => tm.getD i undef, congrArg (fun t => ({ tmps := t, defers := [] } : Act)) h, HK⟩

set_option maxRecDepth 1000000 in
set_option maxHeartbeats 4000000 in
theorem steps_any (B R n w cap : Nat) (ad : Ads) (p : Int) (M : List (List Int)) (W : World) (hM : MatW W B R n w ad M) (hG : MatG p n w M) (hp : p = 2 ∨ p = 3) (hn : n ≤ 1048576) (hw : w ≤ 1048576) :
    Calls Try.prog 175 #[.slice (some ⟨R, 0, none⟩) n cap, .int .i64 p] W fun e W' => e = .returned (.int .i64 (elimR p w 0 0 M : Int)) ∧ Go.RowKit.Below B W W' := by
  obtain ⟨E, hE⟩ : ∃ E, E = elimR p w 0 0 M := ⟨_, rfl⟩
  rw [← hE]
  have HS : Hid (Seek B R n w W p E 0 0 W) := hid ⟨M, ad, by omega, by omega, hM, hG, hE, Below.refl _ _⟩
  have HP := hid hp
  clear hM hG hE hp
  go_enter Try.func175, Try.ntmps175
  go_wp2
  refine wp_scope_two (l0 := 0) (l1 := 1) (AtSeek B R n w cap W p E) (AtSweep B R n w cap W p E)
    (fun a' _ => 2 * (w - (intOf (a'.tmps.getD 6 undef)).toNat) + 1) (fun a' _ => 2 * (w - (intOf (a'.tmps.getD 6 undef)).toNat)) rfl rfl (by kernel_rfl) (by kernel_rfl) ?_ ?_ ?_
  · go_wp2
    exact atSeek_of (r := 0) (c := 0) _ rfl HS
  · rintro a' wr ⟨r, c, us, rfl, HK⟩
    clear HS
    obtain ⟨M, ad, hr, hc, hM, hG, hE, hB⟩ := HK.out
    have HM := hid hM
    have HG := hid hG
    have HE := hid hE
    have HB := hid hB
    clear hM hG hE hB HK
    have hr0 : (0 : Int) ≤ (r : Int) := by omega
    have hc0 : (0 : Int) ≤ (c : Int) := by omega
    by_cases hrn : r = n
    · have hd : ((r : Int) == (n : Int)) = true := by simp [hrn]
      have He : Hid (E = r) := hid (by rw [HE.out, elim_full _ _ _ _ (by rw [HG.out.len]; omega)])
      clear hrn
      go_wp2
      go_ret
      exact ⟨ret_int (by rw [He.out]), HB.out⟩
    · have hd : ((r : Int) == (n : Int)) = false := by simp; omega
      have hrlt : r < n := by omega
      have hri : (r : Int) < (n : Int) := by omega
      obtain ⟨cr, fr⟩ := HM.out.hd r hrlt
      clear hrn
      by_cases hcw : c = w
      · have hd2 : ((c : Int) == (w : Int)) = true := by simp [hcw]
        have He : Hid (E = r) := hid (by rw [HE.out, hcw, Nat.sub_self]; rfl)
        clear hcw
        go_wp2
        go_ret
        exact ⟨ret_int (by rw [He.out]), HB.out⟩
      · have hd2 : ((c : Int) == (w : Int)) = false := by simp; omega
        have hcl : c < w := by omega
        have hci : (c : Int) < (w : Int) := by omega
        clear hcw
        go_wp2
        obtain ⟨wo, rfl⟩ : ∃ wo : World, wo = wr := ⟨_, rfl⟩
        go_loopw [7] (fun s7 wx => ∃ (i : Nat), s7 = .int .i64 i ∧ r ≤ i ∧ i ≤ n ∧ Hid (∀ i', r ≤ i' → i' < i → ent M i' c = 0) ∧ wx = wo) (fun s7 _ => n - (intOf s7).toNat)
        case atStart => exact ⟨r, rfl, Nat.le_refl _, hr, hid (fun i' h1 h2 => by omega), rfl⟩
        case round =>
          obtain ⟨i, rfl, hri', hin, Hz, rfl⟩ := hrel
          by_cases hlt : i < n
          · have hi0 : (0 : Int) ≤ (i : Int) := by omega
            have hi1 : (i : Int) < (n : Int) := by omega
            obtain ⟨ci, fi⟩ := HM.out.hd i hlt
            have cx := (HM.out.at hlt hcl).1
            by_cases hx : ent M i c = 0
            · have Hz' : Hid (∀ i', r ≤ i' → i' < i + 1 → ent M i' c = 0) := hid (fun i' h1 h2 => by
                by_cases e : i' = i
                · rw [e]; exact hx
                · exact Hz.out i' h1 (by omega))
              rw [hx] at cx
              clear hx
              go_wp2
              go_roundw
              case rel => exact ⟨i + 1, by go_num, by omega, by omega, Hz', trivial⟩
              case measure => simp [intOf]; omega
            · have hdx : (ent M i c != 0) = true := by simpa using hx
              have HE2 : Hid (E = elimR p (w - (c + 1)) (r + 1) (c + 1) (sweepTo p c r n (swapR M r i))) := hid (by
                have h1 := HE.out
                rw [show w - c = (w - (c + 1)) + 1 by omega, elim_some hri' (by rw [HG.out.len]; exact hlt) hx Hz.out, HG.out.len] at h1
                exact h1)
              have hRB := HM.out.head
              have HM2 := hid ((HM.out.swap3 hrlt hlt).drewN 1)
              have HB2 := hid (below_drewN ((HB.out.setCell (p := ⟨R, r, none⟩) hRB.1 (.slice (some ⟨(adr ad i).1, (adr ad i).2, none⟩) w w)).setCell (p := ⟨R, i, none⟩) hRB.1 (.slice (some ⟨(adr ad r).1, (adr ad r).2, none⟩) w w)) 1)
              have HG2 := hid (swapR_good HG.out hrlt hlt)
              obtain ⟨v', ci2⟩ := cell?_setCell_some (w := wr) (p := ⟨R, r, none⟩) (x := .slice (some ⟨(adr ad i).1, (adr ad i).2, none⟩) w w) (q := ⟨R, i, none⟩) (v := _) ci
              clear hRB
              obtain ⟨x, hxx⟩ : ∃ x, x = ent M i c := ⟨_, rfl⟩
              rw [← hxx] at cx hdx
              clear hx hxx
              go_wp2
              go_region
              go_wp2
              refine wp_goto ?_
              refine .inr ⟨rfl, atSweep_of (r := r) (c := c) _ rfl (hid ⟨_, _, hrlt, hcl, HM2.out, HG2.out, HE2.out, HB2.out⟩), ?_⟩
              simp [intOf]
          · obtain rfl : i = n := by omega
            have HS2 : Hid (Seek B R i w W p E r (c + 1) wr) := hid ⟨M, ad, hr, by omega, HM.out, HG.out, by
              have h1 := HE.out
              rw [show w - c = (w - (c + 1)) + 1 by omega, elim_none (fun i' h1 h2 => Hz.out i' h1 (by rw [← HG.out.len]; exact h2))] at h1
              exact h1, HB.out⟩
            go_wp2
            refine wp_goto ?_
            refine .inl ⟨rfl, atSeek_of (r := r) (c := c + 1) _ rfl HS2, ?_⟩
            simp [intOf]
            omega
  · rintro a' wr ⟨r, c, us, rfl, HK⟩
    clear HS
    obtain ⟨M, ad, hr, hc, hM, hG, hE, hB⟩ := HK.out
    have HM := hid hM
    have HG := hid hG
    have HE := hid hE
    have HB := hid hB
    clear hM hG hE hB HK
    have hr0 : (0 : Int) ≤ (r : Int) := by omega
    have hr1 : (r : Int) < (n : Int) := by omega
    have hc0 : (0 : Int) ≤ (c : Int) := by omega
    have hci : (c : Int) < (w : Int) := by omega
    go_wp2
    go_loopw [8] (fun s8 wx => ∃ (i : Nat), s8 = .int .i64 i ∧ r + 1 ≤ i ∧ i ≤ n ∧ Hid (MatW wx B R n w ad (sweepTo p c r i M)) ∧ Hid (Go.RowKit.Below B W wx)) (fun s8 _ => n - (intOf s8).toNat)
    case atStart => exact ⟨r + 1, by go_num, Nat.le_refl _, by omega, hid (by rw [sweepTo_none (Nat.le_refl _)]; exact HM.out), HB⟩
    case round =>
      clear HM HB
      obtain ⟨i, rfl, hri, hin, HM, HB⟩ := hrel
      by_cases hlt : i < n
      · have hi0 : (0 : Int) ≤ (i : Int) := by omega
        have hi1 : (i : Int) < (n : Int) := by omega
        have ci := (HM.out.hd i hlt).1
        have cr := (HM.out.hd r hr).1
        have hrow : (sweepTo p c r i M)[i]?.getD [] = M[i]?.getD [] := sweepTo_later (by rw [HG.out.len]; exact hlt)
        have hown : (sweepTo p c r i M)[r]?.getD [] = M[r]?.getD [] := sweepTo_pivot (by rw [HG.out.len]; exact hr)
        have h1 := HM.out.row i hlt
        have h2 := HM.out.row r hr
        rw [hrow] at h1
        rw [hown] at h2
        have HC := hid (clear_any (adr ad i).1 (adr ad i).2 (adr ad r).1 (adr ad r).2 w c p _ _ wr.drew (Sort.holds_ahead encI wr 1 _ _ _ h1) (Sort.holds_ahead encI wr 1 _ _ _ h2) (HG.out.rowLen hlt) (HG.out.rowLen hr) hc hw HP.out (HG.out.rng _ (HG.out.row hlt)) (HG.out.rng _ (HG.out.row hr)) (HM.out.apart i r hlt hr (by omega)))
        have Hput := hid (fun m => HM.out.put hlt m (row := clr p c (M[i]?.getD []) (M[r]?.getD [])) (clr_len (HG.out.rowLen hlt) (HG.out.rowLen hr)))
        have Hsn := hid (sweepTo_succ (p := p) (c := c) (r := r) (k := i) (M := M) (by omega))
        have Hbs := hid (HM.out.base i hlt).1
        clear hrow hown h1 h2
        go_wp2_with fail
        go_region_with (go_at_call 205; refine HC.out.mono ?_; rintro e w2 ⟨⟨u, rfl⟩, m, hw2⟩; have A : Aside (w2 = _) := hw2; clear hw2)
        all_goals
          have hM2 := Hput.out (m + 1)
          have hB2 := below_put HB.out (m + 1) (adr ad i).1 (adr ad i).2 (clr p c (M[i]?.getD []) (M[r]?.getD [])) Hbs.out
          have e2 : w2 = putRow encI (Sort.ahead wr (m + 1)) (adr ad i).1 (adr ad i).2 (clr p c (M[i]?.getD []) (M[r]?.getD [])).toArray := by rw [A.out, Sort.drew_eq_ahead, Sort.ahead_ahead, Nat.add_comm 1 m]
          rw [← e2, ← Hsn.out] at hM2
          rw [← e2] at hB2
          have HM2 := hid hM2
          have HB2 := hid hB2
          clear hM2 hB2 e2 A
          go_wp2
          go_roundw
          case rel => exact ⟨i + 1, by go_num, by omega, by omega, HM2, HB2⟩
          case measure => simp [intOf]; omega
      · obtain rfl : i = n := by omega
        have HS2 : Hid (Seek B R i w W p E (r + 1) (c + 1) wr) := hid ⟨_, _, hr, hc, HM.out, sweepTo_good HG.out (by rcases HP.out with h | h <;> omega) hr, HE.out, HB.out⟩
        go_wp2
        refine wp_goto ?_
        refine .inl ⟨rfl, atSeek_of (r := r + 1) (c := c + 1) _ rfl HS2, ?_⟩
        simp [intOf]
        omega

end Go.Proofs.Ytplcbiconfpmlaa

/-! The faces of a dimension: the program's facesOfDimension. -/
namespace Go.Proofs.Ytplcbiconfpmlaa
open Go.RowKit

theorem fodWanted (d : Int) (bd : Nat) (x : Int) (w : World) (hx0 : 1 ≤ x) (hx1 : x ≤ 63) (hd : w.cell? ⟨bd, 0, none⟩ = some (.int .i64 d)) :
    Calls Try.prog 203 #[.int .i64 x, .pointer (some ⟨bd, 0, none⟩)] w fun e w' => e = .returned (.bool (decide ((ones x.toNat : Int) = d + 1))) ∧ Below w.heap.size w w' := by
  obtain ⟨f, rfl⟩ : ∃ f : Nat, x = f := ⟨x.toNat, by omega⟩
  have hf : f < 64 := by omega
  rw [Int.toNat_natCast]
  have ho := ones_le f
  have He : Hid (((ones f : Int) - 1 == d) = decide ((ones f : Int) = d + 1)) := hid (by rw [Bool.eq_iff_iff]; simp; omega)
  go_enter Try.func203, Try.ntmps203
  go_wp2_with fail
  go_quiet ((go_at_call 124; exact quiet_of_eq (dim_any f _ hf)))
  go_wp2_with fail
  go_ret
  exact ⟨ret_bool He.out, ⟨rfl, rfl, rfl, Nat.le_refl _, fun _ _ => rfl⟩⟩

set_option maxRecDepth 100000 in
set_option maxHeartbeats 1000000 in
theorem fod_any (V : Int) (a : Option Addr) (cap : Nat) (fs : List Int) (d : Int) (w : World) (hx : SlI w w.heap.size a fs) (hl : fs.length ≤ 1048576) (hf : ∀ x ∈ fs, 1 ≤ x ∧ x ≤ 63) :
    Calls Try.prog 172 #[.agg #[.int .i64 V, .slice a fs.length cap], .int .i64 d] w fun e w' => ∃ v, e = .returned v ∧ Res w w' v (ofDim fs d) := by
  have hB0 : Below w.heap.size w ((w.alloc (.cells #[.int .i64 V, .slice a fs.length cap] 28)).alloc (.cells #[.int .i64 d] 2)) := ((Below.refl _ w).alloc (Nat.le_refl _) _).alloc (by simp) _
  have e1 : ((w.alloc (.cells #[.int .i64 V, .slice a fs.length cap] 28)).alloc (.cells #[.int .i64 d] 2)).heap[w.heap.size + 1]? = some (.cells #[.int .i64 d] 2 (0, 0)) := new2 _ _ _
  have HFW := hid (fw_any V a cap fs _ 203 (.pointer (some ⟨w.heap.size + 1, 0, none⟩)) (fun x => decide ((ones x.toNat : Int) = d + 1)) (hx.later hB0 hB0.size) hl (enters_of Try.func203 (by kernel_rfl) rfl) (fun W' x hW' hxm => fodWanted d _ x W' (hf x hxm).1 (hf x hxm).2 ((hW'.cell (p := ⟨w.heap.size + 1, 0, none⟩) (lt_of_get e1)).trans (box_cell e1).1)))
  clear hx hf e1
  go_enter Try.func172, Try.ntmps172
  go_wp2_with fail
  refine HFW.out.mono ?_
  rintro e w2 ⟨v, rfl, hr⟩
  go_wp2_with fail
  go_ret
  exact ⟨v, rfl, hr.later hB0⟩

end Go.Proofs.Ytplcbiconfpmlaa

/-! boundaryRank: the program's rank of a dimension. -/
namespace Go.Proofs.Ytplcbiconfpmlaa
open Go.RowKit Go.Shelf

set_option maxRecDepth 1000000 in
set_option maxHeartbeats 1000000 in
theorem fill_nil (B R w cf cs : Nat) (ad : Ads) (p : Int) (S : List Int) (af as_ : Option Addr) (W : World) (hM : MatW W B R 0 w ad []) (hB : B ≤ W.heap.size) :
    CallsIn Fence.wide 10 Try.prog 174 #[.slice (some ⟨R, 0, none⟩) 0 0, .slice af 0 cf, .slice as_ w cs, .int .i64 p] W fun e W' => (∃ v, e = .returned v) ∧ MatW W' B R 0 w ad (([] : List Int).map fun f => bndRow S p (signedF f.toNat)) ∧ Below B W W' := by
  have hBl : Below B W (((W.alloc (.cells #[.slice (some ⟨R, 0, none⟩) 0 0] 109)).alloc (.cells #[.slice as_ w cs] 22)).alloc (.cells #[.int .i64 p] 2)) :=
    ((((Below.refl _ W).alloc (Nat.le_refl _) _).alloc (by simp) _).alloc (by simp <;> omega) _).mono hB
  have hk : (((W.alloc (.cells #[.slice (some ⟨R, 0, none⟩) 0 0] 109)).alloc (.cells #[.slice as_ w cs] 22)).alloc (.cells #[.int .i64 p] 2)).heap[R]? = W.heap[R]? :=
    (Below.heap_alloc _ _ _ (by have := hM.head.2; simp <;> omega)).trans ((Below.heap_alloc _ _ _ (by have := hM.head.2; simp <;> omega)).trans (Below.heap_alloc _ _ _ hM.head.2))
  have HM2 := hid (hM.keep (W' := ((W.alloc (.cells #[.slice (some ⟨R, 0, none⟩) 0 0] 109)).alloc (.cells #[.slice as_ w cs] 22)).alloc (.cells #[.int .i64 p] 2)) (by simp <;> omega) hk (fun i hi => by omega))
  have HBl := hid hBl
  clear hM hBl hk
  refine callsIn_of_wp_marks Try.func174 rfl trivial ?_ rfl
  simp only [Try.ntmps174, List.size_toArray, List.length_cons, List.length_nil, Nat.reduceAdd, Nat.reduceSub, Array.replicate_succ, Array.replicate_zero, List.push_toArray, List.append_toArray, List.nil_append, List.cons_append]
  gi_wp2
  refine wpIn_loop_rounds 1 ?_
  rw [roundsIn_succ]
  gi_wp2
  exact ⟨_, results_none rfl _ _ _, ⟨_, rfl⟩, HM2.out, HBl.out⟩

theorem fill_any (B R n w cf cs : Nat) (ad : Ads) (p : Int) (F S : List Int) (af as_ : Option Addr) (W : World) (hM : MatW W B R n w ad (List.replicate n (List.replicate w 0))) (hF : F.length = n) (hS : S.length = w)
    (xF : SlI W B af F) (xS : SlI W B as_ S) (hB : B ≤ W.heap.size) (hp : p = 2 ∨ p = 3) (hFr : ∀ x ∈ F, 1 ≤ x ∧ x ≤ 63) (hSa : S.Pairwise (· < ·)) (hS0 : ∀ s ∈ S, 0 ≤ s)
    (hsd : ∀ f ∈ F, ∀ x ∈ signedF f.toNat, ((x.1.val : Nat) : Int) ∈ S) (hn : n ≤ 1000) (hw : w ≤ 1000) :
    Calls Try.prog 174 #[.slice (some ⟨R, 0, none⟩) n n, .slice af n cf, .slice as_ w cs, .int .i64 p] W fun e W' => (∃ v, e = .returned v) ∧ MatW W' B R n w ad (F.map fun f => bndRow S p (signedF f.toNat)) ∧ Below B W W' := by
  rcases xF with rfl | ⟨b1, o1, hb, rfl, hc⟩
  · obtain rfl : n = 0 := by simpa using hF.symm
    exact callsIn_wide.1 (fill_nil B R w cf cs ad p S af as_ W hM hB)
  · exact callsIn_wide.1 (fill_in B R n w cf cs ad p F S b1 o1 as_ W hM hF hS hb hc xS hB hp hFr hSa hS0 hsd hn hw)

set_option maxRecDepth 1000000 in
set_option maxHeartbeats 2000000 in
theorem brank_any (V : Int) (a0 : Option Addr) (cap : Nat) (fs : List Int) (d p : Int) (w : World) (hx : SlI w w.heap.size a0 fs) (hl : fs.length ≤ 1048576) (hC : IsC V fs) (hp : p = 2 ∨ p = 3) (hd0 : -1 ≤ d) (hd1 : d ≤ 100) :
    Calls Try.prog 119 #[.agg #[.int .i64 V, .slice a0 fs.length cap], .int .i64 d, .int .i64 p] w fun e w' => e = .returned (.int .i64 (rankN fs d p : Int)) ∧ Below w.heap.size w w' := by
  have hB0 : Below w.heap.size w (w.alloc (.cells #[.int .i64 V, .slice a0 fs.length cap] 28)) := (Below.refl _ w).alloc (Nat.le_refl _) _
  have hBd := below_drewN hB0 1
  have h63 := hC.len63
  have HF := hid (fun dd w' (hw : Below w.heap.size w w') => fod_any V a0 cap fs dd w' (hx.later hw hw.size) hl hC.range63)
  have hsub : IntKind.i64.wrap (d - 1) = d - 1 := IntWalk.i64_in _ (by omega)
  have HBd := hid hBd
  have HC := hid hC
  have HP := hid hp
  have hF63 := ofDim_len fs d
  have hS63 := ofDim_len fs (d - 1)
  obtain ⟨E, hE⟩ : ∃ E, E = rankN fs d p := ⟨_, rfl⟩
  rw [← hE]
  have HE : Hid (E = elimR p (ofDim fs (d - 1)).length 0 0 ((ofDim fs d).map fun f => bndRow (ofDim fs (d - 1)) p (signedF f.toNat))) := hid hE
  clear hx hB0 hBd hC hp hE
  go_enter Try.func119, Try.ntmps119
  go_wp2_with fail
  go_cut [7, 8] from 10 to 16 (fun q1 q2 wx => ∃ (a1 a2 : Option Addr) (c1 c2 : Nat), q1 = .slice a1 (ofDim fs d).length c1 ∧ q2 = .slice a2 (ofDim fs (d - 1)).length c2 ∧ SlI wx wx.heap.size a1 (ofDim fs d) ∧ SlI wx wx.heap.size a2 (ofDim fs (d - 1)) ∧ Below w.heap.size w wx)
  case first =>
    go_region_with (first
      | (go_at_call 172; have hz := HB1.out; clear HB1; refine (HF.out _ w1 hz).mono ?_; rintro e w2 ⟨v2, rfl, hr2⟩; obtain ⟨_, a2, c2, rfl, s2⟩ := ownsRow_slI hr2.1; have S2 := hid s2; have HR2 := hid hr2; have HB2 := hid hz; clear s2 hr2 hz n0 n1)
      | (go_at_call 172; refine (HF.out _ _ HBd.out).mono ?_; rintro e w1 ⟨v1, rfl, hr1⟩; have hb1 : Below w.heap.size w w1 := HBd.out.trans (hr1.2.mono HBd.out.size); have n0 : w1.cell? ⟨w.heap.size, 0, none⟩ = some (.int .i64 V) := (hr1.2.cell (p := ⟨w.heap.size, 0, none⟩) (by simp)).trans (by simp [go_sem]); have n1 : w1.cell? ⟨w.heap.size, 1, none⟩ = some (.slice a0 fs.length cap) := (hr1.2.cell (p := ⟨w.heap.size, 1, none⟩) (by simp)).trans (by simp [go_sem]); obtain ⟨_, a1, c1, rfl, s1⟩ := ownsRow_slI hr1.1; have S1 := hid s1; have HB1 := hid hb1; clear hr1 hb1 s1))
    all_goals
      go_wp2_with fail
      go_meet
      case rel =>
        have hb2 := HB2.out.trans (HR2.out.2.mono HB2.out.size)
        have s1' := S1.out.later HR2.out.2 HR2.out.2.size
        first
        | exact ⟨a1, a2, c1, c2, rfl, rfl, s1', S2.out, hb2⟩
        | exact ⟨a2, a1, c2, c1, rfl, rfl, S2.out, s1', hb2⟩
  case rest =>
    obtain ⟨a1, a2, c1, c2, rfl, rfl, s1, s2, hb⟩ := hcut
    have hn63 : (ofDim fs d).length ≤ 1000 := by omega
    have hw63 : (ofDim fs (d - 1)).length ≤ 1000 := by omega
    have HG := hid (bndM_good (fs := fs) d HP.out)
    have HFr : Hid (∀ x ∈ ofDim fs d, 1 ≤ x ∧ x ≤ 63) := hid (fun x hx => HC.out.range63 x (ofDim_mem.1 hx).1)
    have HSa := hid (ofDim_asc HC.out.asc (d - 1))
    have HS0 : Hid (∀ s ∈ ofDim fs (d - 1), 0 ≤ s) := hid (fun x hx => by have := HC.out.range63 x (ofDim_mem.1 hx).1; omega)
    have HSd : Hid (∀ f ∈ ofDim fs d, ∀ x ∈ signedF f.toNat, ((x.1.val : Nat) : Int) ∈ ofDim fs (d - 1)) := hid (fun f hf x hx => side_in HC.out hf hx)
    have S1 := hid s1
    have S2 := hid s2
    have HB := hid hb
    have HG' : Hid (MatG p (ofDim fs d).length (ofDim fs (d - 1)).length ((ofDim fs d).map fun f => bndRow (ofDim fs (d - 1)) p (signedF f.toNat))) := HG
    clear s1 s2 hb HG hF63 hS63 hsub
    go_wp2_with fail
    refine (newRows_any (ofDim fs d).length (ofDim fs (d - 1)).length _ hn63 hw63).mono ?_
    rintro e w3 ⟨R, ad, rfl, hM, hB3⟩
    have HM := hid hM
    have HB3 := hid hB3
    clear hM hB3
    go_wp2_with fail
    refine (fill_any wc.heap.size R (ofDim fs d).length (ofDim fs (d - 1)).length c1 c2 ad p (ofDim fs d) (ofDim fs (d - 1)) a1 a2 w3 HM.out rfl rfl (S1.out.below HB3.out) (S2.out.below HB3.out) HB3.out.size HP.out HFr.out HSa.out HS0.out HSd.out hn63 hw63).mono ?_
    rintro e w4 ⟨⟨u, rfl⟩, hM4, hB4⟩
    have HM4 := hid hM4
    have HB4 := hid (HB3.out.trans hB4)
    clear hM4 hB4
    go_wp2_with fail
    refine (steps_any wc.heap.size R (ofDim fs d).length (ofDim fs (d - 1)).length (ofDim fs d).length ad p _ w4 HM4.out HG'.out HP.out (by omega) (by omega)).mono ?_
    rintro e w5 ⟨rfl, hB5⟩
    have HB5 := hid (HB.out.trans ((HB4.out.trans hB5).mono HB.out.size))
    clear hB5
    go_wp2_with fail
    go_ret
    exact ⟨ret_int (by rw [HE.out]), HB5.out⟩

end Go.Proofs.Ytplcbiconfpmlaa

/-! RankOf, the model's and the program's. -/
namespace Go.Proofs.Ytplcbiconfpmlaa
open Go.RowKit

theorem ofDim_low {V : Int} {fs : List Int} (hC : IsC V fs) {d : Int} (hd : d < 0) : ofDim fs d = [] := by
  rw [List.eq_nil_iff_forall_not_mem]
  intro x hx
  obtain ⟨hm, ho⟩ := ofDim_mem.1 hx
  have hr := hC.range63 x hm
  have := ones_pos ⟨x.toNat, by omega⟩ (by simp only; omega)
  simp only at this
  omega
theorem ofDim_high {V : Int} {fs : List Int} (_hC : IsC V fs) {d : Int} (hd : top fs < d) : ofDim fs d = [] := by
  rw [List.eq_nil_iff_forall_not_mem]
  intro x hx
  obtain ⟨hm, ho⟩ := ofDim_mem.1 hx
  have := top_ge fs hm
  omega

set_option maxRecDepth 1000000 in
set_option maxHeartbeats 1000000 in
theorem rankS_nil (R cap : Nat) (p : Int) (W : World) :
    Calls Try.prog 170 #[.slice (some ⟨R, 0, none⟩) 0 cap, .int .i64 p] W fun e W' => e = .returned (.int .i64 0) ∧ W = W' := by
  go_enter Try.func170, Try.ntmps170
  go_wp2
  refine wp_loop_rounds 1 ?_; rw [rounds_succ]
  go_wp2
  go_ret
  exact ⟨rfl, rfl⟩

set_option maxRecDepth 1000000 in
set_option maxHeartbeats 2000000 in
theorem rkS_any (V : Int) (a0 : Option Addr) (cap : Nat) (fs : List Int) (d p : Int) (w : World) (hx : SlI w w.heap.size a0 fs) (hl : fs.length ≤ 1048576) (hC : IsC V fs) (hp : p = 2 ∨ p = 3) (hd0 : 0 ≤ d) (hd1 : d ≤ 100) :
    Calls Try.prog 116 #[.agg #[.int .i64 V, .slice a0 fs.length cap], .int .i64 d, .int .i64 p] w fun e w' => e = .returned (.int .i64 (rankN fs d p : Int)) ∧ Below w.heap.size w w' := by
  have hB0 : Below w.heap.size w (w.alloc (.cells #[.int .i64 V, .slice a0 fs.length cap] 28)) := (Below.refl _ w).alloc (Nat.le_refl _) _
  have h63 := hC.len63
  obtain ⟨E, hE⟩ : ∃ E, E = rankN fs d p := ⟨_, rfl⟩
  rw [← hE]
  by_cases h1 : d < 1
  · have He : Hid (E = 0) := hid (by rw [hE]; exact rankN_low (ofDim_low hC (by omega)))
    clear hE
    go_enter Try.func116, Try.ntmps116
    go_wp2
    go_ret
    exact ⟨ret_int (by rw [He.out]; rfl), hB0⟩
  · have h1' : 1 ≤ d := by omega
    have HD := hid (dimS_any V a0 cap fs _ (hx.later hB0 hB0.size) hl hC.range63)
    have htl := top_lo fs
    have hth := top_hi fs
    by_cases h2 : top fs < d
    · have He : Hid (E = 0) := hid (by rw [hE]; exact rankN_none (ofDim_high hC h2))
      clear hE hx hC
      go_enter Try.func116, Try.ntmps116
      go_wp2_with fail
      refine HD.out.mono ?_
      rintro e w1 ⟨rfl, hB1⟩
      have HB1 := hid (hB0.trans (hB1.mono hB0.size))
      clear hB0 hB1
      go_wp2_with fail
      go_ret
      exact ⟨ret_int (by rw [He.out]; rfl), HB1.out⟩
    · have h2' : d ≤ top fs := by omega
      have HX := hid hx
      have HC := hid hC
      have HE := hid hE
      clear hE hx hC h1 h2
      go_enter Try.func116, Try.ntmps116
      go_wp2_with fail
      refine HD.out.mono ?_
      rintro e w1 ⟨rfl, hB1⟩
      have k0 : w1.cell? ⟨w.heap.size, 0, none⟩ = some (.int .i64 V) := (hB1.cell (p := ⟨w.heap.size, 0, none⟩) (by simp)).trans (by simp [go_sem])
      have k1 : w1.cell? ⟨w.heap.size, 1, none⟩ = some (.slice a0 fs.length cap) := (hB1.cell (p := ⟨w.heap.size, 1, none⟩) (by simp)).trans (by simp [go_sem])
      have HB1 := hid (hB0.trans (hB1.mono hB0.size))
      clear hB0 hB1
      go_wp2_with fail
      refine (rowsS_any V a0 cap fs d p w1 (HX.out.later HB1.out HB1.out.size) hl HC.out hp h1' (by omega)).mono ?_
      rintro e w2 ⟨R, ad, cp, rfl, hM, hB2⟩
      have HM := hid hM
      have HB2 := hid (HB1.out.trans (hB2.mono HB1.out.size))
      have hs12 := hB2.size
      have hs1 := HB1.out.size
      have HN := hid (ofDim_len fs d)
      have HN1 := hid (ofDim_len fs (d - 1))
      clear hM hB2 k0 k1
      by_cases hn : (ofDim fs d).length = 0
      · have He : Hid (E = 0) := hid (by rw [HE.out]; exact rankN_none (List.eq_nil_of_length_eq_zero hn))
        rw [hn]
        clear hn
        go_wp2_with fail
        refine (rankS_nil R cp p w2).mono ?_
        rintro e w3 ⟨rfl, rfl⟩
        go_wp2_with fail
        go_ret
        exact ⟨ret_int (by rw [He.out]; rfl), HB2.out⟩
      · have HR := hid (rankS_any w1.heap.size R (ofDim fs d).length (ofDim fs (d - 1)).length cp ad p _ w2 HM.out (bndM_good d hp) hp (by omega) (by have := HN.out; omega) (by have := HN1.out; omega))
        clear hn
        go_wp2_with fail
        refine HR.out.mono ?_
        rintro e w3 ⟨rfl, hB3⟩
        have HB3 := hid (HB2.out.trans (hB3.mono hs1))
        clear hB3
        go_wp2_with fail
        go_ret
        exact ⟨ret_int (by rw [HE.out]; rfl), HB3.out⟩

end Go.Proofs.Ytplcbiconfpmlaa

/-! RankOf, the model's and the program's: the codes, and both answers. -/
namespace Go.Proofs.Ytplcbiconfpmlaa
open Go.RowKit

noncomputable def codeR (V : Int) (fs : List Int) (p : Int) : Int := if isCB V fs then (if p = 2 ∨ p = 3 then 0 else 2) else 1
noncomputable def rankR (V : Int) (fs : List Int) (d p : Int) : Int × Int := if isCB V fs then (if (0 ≤ d ∧ d ≤ 6) ∧ (p = 2 ∨ p = 3) then ((rankN fs d p : Int), 0) else (0, 2)) else (0, 1)

theorem num_mono {fn : FuncId} {args : Array Value} {w : World} {B : Nat} {P : Program} {R : Int × Int} {ys c : Int} (hR : R = (ys, c))
    (h : Calls P fn args w fun e w' => e = .returned (.tuple #[.int .i64 ys, .int .i64 c]) ∧ Below B w w') :
    Calls P fn args w fun e w' => e = .returned (.tuple #[.int .i64 R.1, .int .i64 R.2]) ∧ Below B w w' := by
  subst hR
  exact h
theorem eq_false {a b : Int} (h : a ≠ b) : (a == b) = false := by simpa using h
theorem ne_true {a b : Int} (h : a ≠ b) : (a != b) = true := by simpa using h

set_option maxHeartbeats 400000 in
theorem mod_yes (p : Int) (w : World) (hp : p = 2 ∨ p = 3) :
    Calls Try.prog 118 #[.int .i64 p] w fun e w' => e = .returned (.bool true) ∧ w = w' := by
  rcases hp with rfl | rfl
  all_goals
    go_enter Try.func118, Try.ntmps118
    go_wp2
    go_ret
    exact ⟨rfl, rfl⟩
set_option maxHeartbeats 400000 in
theorem mod_no (p : Int) (w : World) (hp : ¬ (p = 2 ∨ p = 3)) :
    Calls Try.prog 118 #[.int .i64 p] w fun e w' => e = .returned (.bool false) ∧ w = w' := by
  have g2 : (p == 2) = false := eq_false (by omega)
  have g3 : (p == 3) = false := eq_false (by omega)
  go_enter Try.func118, Try.ntmps118
  go_wp2
  go_ret
  exact ⟨rfl, rfl⟩





end Go.Proofs.Ytplcbiconfpmlaa

/-! CountFaces, the model's and the program's. -/
namespace Go.Proofs.Ytplcbiconfpmlaa
open Go.RowKit

/-- The numbers of faces of the first n dimensions. -/
def countL (fs : List Int) (n : Nat) : List Int := (List.range n).map fun d : Nat => ((ofDim fs (d : Int)).length : Int)

theorem countL_len (fs : List Int) (n : Nat) : (countL fs n).length = n := by simp [countL]

theorem countL_snoc (fs : List Int) (n : Nat) : countL fs (n + 1) = countL fs n ++ [((ofDim fs (n : Int)).length : Int)] := by
  simp [countL, List.range_succ]

theorem countL_face (pre : List Int) (x : Nat) (n e : Nat) (he : ones x = e + 1) : countL (pre ++ [(x : Int)]) n = (countL pre n).set e (((ofDim pre (e : Int)).length : Int) + 1) := by
  apply List.ext_getElem?
  intro i
  by_cases hi : i < n
  · by_cases hie : e = i
    · subst hie
      rw [List.getElem?_set_self (by rw [countL_len]; exact hi)]
      simp [countL, hi, ofDim, List.filter_append, he]
    · rw [List.getElem?_set_ne hie]
      have : ¬ ((ones x : Int) = (i : Int) + 1) := by omega
      simp [countL, hi, ofDim, List.filter_append, this]
  · rw [List.getElem?_eq_none (by rw [countL_len]; omega), List.getElem?_eq_none (by rw [List.length_set, countL_len]; omega)]

theorem countL_at (pre : List Int) (n e : Nat) (hn : e < n) : (countL pre n)[e]?.getD 0 = ((ofDim pre (e : Int)).length : Int) := by
  simp [countL, hn]

/-- What CountFaces hands back. -/
noncomputable def countFacesR (V : Int) (fs : List Int) : List Int × Int := if isCB V fs then (countL fs (top fs + 1).toNat, 0) else ([], 1)

theorem countFacesR_len (V : Int) (fs : List Int) (_h : fs.length ≤ 1048576) : (countFacesR V fs).1.length ≤ 1048576 := by
  unfold countFacesR
  have := top_hi fs
  split
  · rw [countL_len]; omega
  · simp


end Go.Proofs.Ytplcbiconfpmlaa

/-! CountFaces, the program's. -/
namespace Go.Proofs.Ytplcbiconfpmlaa
open Go.RowKit

theorem dimE (f e : Nat) (w : World) (hf : f < 64) (he : ones f = e + 1) :
    Calls Try.prog 124 #[.int .i64 (f : Int)] w fun r w' => r = .returned (.int .i64 (e : Int)) ∧ w = w' :=
  (dim_any f w hf).mono fun _ _ ⟨h, hw⟩ => ⟨by rw [h, he]; congr 2; omega, hw⟩

theorem dimT (V : Int) (a0 : Option Addr) (cap : Nat) (fs : List Int) (T : Nat) (w : World) (hx : SlI w w.heap.size a0 fs) (hl : fs.length ≤ 1048576) (hf : ∀ x ∈ fs, 1 ≤ x ∧ x ≤ 63) (hT : top fs = (T : Int) - 1) :
    Calls Try.prog 123 #[.agg #[.int .i64 V, .slice a0 fs.length cap]] w fun e w' => e = .returned (.int .i64 ((T : Int) - 1)) ∧ Below w.heap.size w w' :=
  (dimI_any V a0 cap fs w hx hl hf).mono fun _ _ ⟨h, hw⟩ => ⟨by rw [h, hT], hw⟩

theorem countL_nil (n : Nat) : countL [] n = List.replicate n 0 := by
  apply List.ext_getElem?
  intro i
  by_cases hi : i < n
  · simp [countL, hi, ofDim]
  · rw [List.getElem?_eq_none (by rw [countL_len]; omega), List.getElem?_eq_none (by simp; omega)]

set_option maxHeartbeats 2000000 in
theorem implCountFaces (V : Int) (a0 : Option Addr) (cap : Nat) (fs : List Int) (w : World) (hx : SlI w w.heap.size a0 fs) (hl : fs.length ≤ 1048576) :
    Calls Try.prog 117 #[.agg #[.int .i64 V, .slice a0 fs.length cap]] w fun e w' => ∃ v, e = .returned (.tuple #[v, .int .i64 (countFacesR V fs).2]) ∧ Res w w' v (countFacesR V fs).1 := by
  have hB0 : Below w.heap.size w (w.alloc (.cells #[.int .i64 V, .slice a0 fs.length cap] 28)) := (Below.refl _ w).alloc (Nat.le_refl _) _
  have Hx := hid (hx.later hB0 (by simp))
  have Hx0 := hid hx
  by_cases hC : IsC V fs
  · refine pair_mono (show countFacesR V fs = (countL fs (top fs + 1).toNat, 0) by unfold countFacesR; rw [isCB_true hC, if_pos rfl]) ?_
    have Hf := hid hC.range63
    have HC := hid hC
    clear hC
    obtain ⟨T, hT⟩ : ∃ T : Nat, (T : Int) = top fs + 1 := ⟨(top fs + 1).toNat, by have := top_lo fs; omega⟩
    have hT6 : T ≤ 6 := by have := top_hi fs; omega
    have hTn : (top fs + 1).toNat = T := by omega
    rw [hTn]
    have HT := hid (show top fs = (T : Int) - 1 by omega)
    clear hT hTn
    go_enter Try.func117, Try.ntmps117
    go_wp2_with fail
    refine (isc_yes V a0 cap fs _ Hx.out hl HC.out).mono ?_
    rintro e w1 ⟨rfl, hB1⟩
    have k0 : w1.cell? ⟨w.heap.size, 0, none⟩ = some (.int .i64 V) := (hB1.cell (p := ⟨w.heap.size, 0, none⟩) (by simp)).trans (by simp [go_sem])
    have k1 : w1.cell? ⟨w.heap.size, 1, none⟩ = some (.slice a0 fs.length cap) := (hB1.cell (p := ⟨w.heap.size, 1, none⟩) (by simp)).trans (by simp [go_sem])
    have hB01 := hB0.trans (hB1.mono (by simp))
    have hs1 : w.heap.size < w1.heap.size := by have := hB1.size; simp at this; omega
    have hx1 := hid (hx.later hB01 hB01.size)
    clear hB1
    go_wp2_with fail
    refine (dimT V a0 cap fs T _ hx1.out hl Hf.out HT.out).mono ?_
    rintro e w2 ⟨rfl, hB2⟩
    have hB02 := hB01.trans (hB2.mono hB01.size)
    have hs2 : w.heap.size < w2.heap.size := Nat.lt_of_lt_of_le hs1 hB2.size
    have d1 : w2.cell? ⟨w.heap.size, 1, none⟩ = some (.slice a0 fs.length cap) := (hB2.cell (p := ⟨w.heap.size, 1, none⟩) hs1).trans k1
    clear k0 k1 hB2
    go_wp2_with (at_make; refine make_int (n := T) rfl rfl (by first | rfl | (show Value.int .i64 ((T : Int) - 1 + 1) = _; congr 1; omega)) (by first | rfl | (show Value.int .i64 ((T : Int) - 1 + 1) = _; congr 1; omega)) (by omega) ?_; intro w3 hown3 hgr3 hB3; have e1 : w3.cell? ⟨w.heap.size, 1, none⟩ = some (.slice a0 fs.length cap) := (hB3.cell (p := ⟨w.heap.size, 1, none⟩) hs2).trans d1)
    have hown0 : w3.ownsRow w2.heap.size 2 1 (.slice (some ⟨w2.heap.size, 0, none⟩) T T) T ((countL [] T).map (Value.int .i64)) := by rw [countL_nil]; exact hown3
    have Hown0 := hid hown0
    have HB3 := hid hB3
    clear hown3 hgr3 hown0 hB3 d1
    go_loopw [17] (fun i wr => ∃ k : Nat, k ≤ fs.length ∧ i = .int .i64 k ∧ wr.ownsRow w2.heap.size 2 1 (.slice (some ⟨w2.heap.size, 0, none⟩) T T) T ((countL (fs.take k) T).map (Value.int .i64)) ∧ Below w2.heap.size w2 wr) (fun i _ => fs.length - (intOf i).toNat)
    case atStart => exact ⟨0, Nat.zero_le _, rfl, by simpa using Hown0.out, HB3.out⟩
    case round =>
      obtain ⟨k, hk, rfl, hown, hB⟩ := hrel
      by_cases hlt : k < fs.length
      · obtain ⟨b, off, hb, rfl, hc⟩ : ∃ b off, b < w.heap.size ∧ a0 = some ⟨b, off, none⟩ ∧ ∀ i, i < fs.length → w.cell? ⟨b, off + i, none⟩ = some (.int .i64 (fs[i]?.getD 0)) := by
          rcases Hx0.out with rfl | h
          · simp at hlt
          · exact h
        have hxm := getD_mem hlt
        obtain ⟨x, hx⟩ : ∃ x : Nat, (x : Int) = fs[k]?.getD 0 := ⟨(fs[k]?.getD 0).toNat, by have := Hf.out _ hxm; omega⟩
        rw [← hx] at hxm
        have hxr := Hf.out _ hxm
        have hx64 : x < 64 := by omega
        have hck : wr.cell? ⟨b, off + k, none⟩ = some (.int .i64 (x : Int)) := by rw [hx]; exact (hB.cell (p := ⟨b, off + k, none⟩) (by show b < w2.heap.size; omega)).trans ((hB02.cell (p := ⟨b, off + k, none⟩) hb).trans (hc k hlt))
        have hi0 : (0 : Int) ≤ (k : Int) := by omega
        have hi1 : (k : Int) < (fs.length : Int) := by omega
        have hop := ones_pos ⟨x, hx64⟩ (by show x ≠ 0; omega)
        have htg := top_ge fs hxm
        rw [HT.out, Int.toNat_natCast] at htg
        obtain ⟨e, he⟩ : ∃ e, ones x = e + 1 := ⟨ones x - 1, by have : 0 < ones x := hop; omega⟩
        have heT : e < T := by omega
        have he0 : (0 : Int) ≤ (e : Int) := by omega
        have he1 : (e : Int) < (T : Int) := by omega
        have hcn := countL_at (fs.take k) T e heT
        obtain ⟨n, hn⟩ : ∃ n : Nat, n = (ofDim (fs.take k) (e : Int)).length := ⟨_, rfl⟩
        have hn6 : n ≤ 1048576 := by rw [hn]; exact Nat.le_trans (List.length_filter_le _ _) (by simp; omega)
        have hce : wr.cell? ⟨w2.heap.size, e, none⟩ = some (.int .i64 (n : Int)) := by
          rw [hown.cellAt e (by omega), hn, ← hcn]
          simp [countL, heT]
        have hfe := hown.frozenAt e
        have hst := hown.stored e (.int .i64 ((n : Int) + 1))
        have hstep : ((countL (fs.take k) T).map (Value.int .i64)).set e (.int .i64 ((n : Int) + 1)) = (countL (fs.take (k + 1)) T).map (Value.int .i64) := by
          rw [take_snoc hlt, ← hx, countL_face _ _ _ _ he, hn, List.map_set]
        rw [hstep] at hst
        have Hst := hid hst
        have HB := hid hB
        have He := hid he
        clear hstep hst hown hB hx hc hcn hn htg hop hxm hxr he
        go_wp2_with (go_at_call 124; refine (dimE x e _ hx64 He.out).mono ?_; rintro e w' ⟨rfl, rfl⟩)
        go_roundw
        case rel =>
          exact ⟨k + 1, by omega, by go_num, Hst.out.1, HB.out.grown Hst.out.2 HB.out.size (fun r e => by cases e; omega)⟩
        case measure => simp [intOf]; omega
      · go_wp2_with fail
        go_ret2
        obtain rfl : k = fs.length := by omega
        rw [List.take_of_length_le (Nat.le_refl _)] at hown
        exact ⟨_, rfl, ownsRow_base (by simpa [countL_len] using hown) (by omega), hB02.trans (hB.mono hB02.size)⟩
  · refine pair_mono (show countFacesR V fs = ([], 1) by unfold countFacesR; rw [isCB_false hC, if_neg (by simp)]) ?_
    go_enter Try.func117, Try.ntmps117
    go_wp2_with fail
    refine (isc_no V a0 cap fs _ Hx.out hl hC).mono ?_
    rintro e w1 ⟨rfl, hB1⟩
    have hB01 := hB0.trans (hB1.mono (by simp))
    go_wp2_with fail
    go_ret2
    exact ⟨_, rfl, res_nil _ _ hB01⟩

end Go.Proofs.Ytplcbiconfpmlaa

/-! The Betti numbers, the model's. -/
namespace Go.Proofs.Ytplcbiconfpmlaa
open Go.RowKit

theorem firstNZ_spec {M : List (List Int)} {r c i : Nat} (h : firstNZ M r c = some i) : r ≤ i ∧ i < M.length := by
  unfold firstNZ at h
  rw [List.find?_range_eq_some] at h
  exact ⟨by have := h.1; simp at this; exact this.1, by simpa using h.2.1⟩
/-- The rank is no greater than the number of rows. -/
theorem elim_rows {p : Int} : ∀ (k r c : Nat) (M : List (List Int)), r ≤ M.length → elimR p k r c M ≤ M.length
  | 0, _, _, _, h => h
  | k + 1, r, c, M, h => by
    rw [elimR]
    split
    · exact elim_rows k r (c + 1) M h
    · rename_i i hi
      have hi := firstNZ_spec hi
      have := elim_rows (p := p) k (r + 1) (c + 1) (sweepTo p c r M.length (swapR M r i)) (by rw [sweepTo_len, swapR_len]; omega)
      rwa [sweepTo_len, swapR_len] at this
theorem rankN_le (fs : List Int) (d p : Int) : rankN fs d p ≤ (ofDim fs d).length := by
  have := elim_rows (p := p) (ofDim fs (d - 1)).length 0 0 (bndM fs d p) (Nat.zero_le _)
  have e : (bndM fs d p).length = (ofDim fs d).length := by simp [bndM]
  unfold rankN
  omega

/-- The Betti number of d. -/
def betti (fs : List Int) (p : Int) (d : Nat) : Int := ((ofDim fs (d : Int)).length : Int) - (rankN fs (d : Int) p : Int) - (rankN fs ((d : Int) + 1) p : Int)
def bettiL (fs : List Int) (p : Int) (n : Nat) : List Int := (List.range n).map fun d : Nat => betti fs p d
theorem bettiL_len (fs : List Int) (p : Int) (n : Nat) : (bettiL fs p n).length = n := by simp [bettiL]
theorem bettiL_snoc (fs : List Int) (p : Int) (n : Nat) : bettiL fs p (n + 1) = bettiL fs p n ++ [betti fs p n] := by
  simp [bettiL, List.range_succ]
noncomputable def bettiR (V : Int) (fs : List Int) (p : Int) : List Int × Int := if isCB V fs then (if p = 2 ∨ p = 3 then (bettiL fs p (top fs + 1).toNat, 0) else ([], 2)) else ([], 1)
theorem bettiR_len (V : Int) (fs : List Int) (p : Int) (_h : fs.length ≤ 1048576) : (bettiR V fs p).1.length ≤ 1048576 := by
  have := top_hi fs
  unfold bettiR
  split
  · split
    · rw [bettiL_len]; omega
    · simp
  · simp

/-- A world in which all that lay in a round's still lies, and the box with the complex. -/
structure BoxW (b : Nat) (V : Int) (s : Value) (wr W : World) : Prop where
  below : Below wr.heap.size wr W
  c0 : W.cell? ⟨b, 0, none⟩ = some (.int .i64 V)
  c1 : W.cell? ⟨b, 1, none⟩ = some s
theorem BoxW.start {b : Nat} {V : Int} {s : Value} {wr : World} (h0 : wr.cell? ⟨b, 0, none⟩ = some (.int .i64 V)) (h1 : wr.cell? ⟨b, 1, none⟩ = some s) : BoxW b V s wr wr.drew :=
  ⟨below_drewN (Below.refl _ wr) 1, h0, h1⟩
theorem BoxW.step {b : Nat} {V : Int} {s : Value} {wr W W' : World} (h : BoxW b V s wr W) (hb : Below W.heap.size W W') : BoxW b V s wr W' :=
  ⟨h.below.trans (hb.mono h.below.size), (hb.cell (p := ⟨b, 0, none⟩) (World.block_lt_of_cell? W _ h.c0)).trans h.c0, (hb.cell (p := ⟨b, 1, none⟩) (World.block_lt_of_cell? W _ h.c1)).trans h.c1⟩

/-- The three calls of a round, from any world of it. -/
theorem of_box {b : Nat} {V : Int} {a0 : Option Addr} {cap : Nat} {fs : List Int} {wr : World} (hx : SlI wr wr.heap.size a0 fs) (hl : fs.length ≤ 1048576) (hC : IsC V fs) (d : Int) (h0 : 0 ≤ d) (h5 : d ≤ 5) (W : World)
    (h : BoxW b V (.slice a0 fs.length cap) wr W) :
    Calls Try.prog 115 #[.agg #[.int .i64 V, .slice a0 fs.length cap], .int .i64 d] W fun e W' => (∃ a c, e = .returned (.slice a (ofDim fs d).length c)) ∧ BoxW b V (.slice a0 fs.length cap) wr W' :=
  (of_any V a0 cap fs d W (hx.later h.below h.below.size) hl hC.range63 h0 h5).mono fun e W' ⟨v, he, hr⟩ => by
    obtain ⟨_, a, c, rfl, _⟩ := ownsRow_slI hr.1
    exact ⟨⟨a, c, he⟩, h.step hr.2⟩
theorem rk_box {b : Nat} {V : Int} {a0 : Option Addr} {cap : Nat} {fs : List Int} {wr : World} (hx : SlI wr wr.heap.size a0 fs) (hl : fs.length ≤ 1048576) (hC : IsC V fs) {p : Int} (hp : p = 2 ∨ p = 3) (d : Int) (h0 : 0 ≤ d) (h5 : d ≤ 100) (W : World)
    (h : BoxW b V (.slice a0 fs.length cap) wr W) :
    Calls Try.prog 116 #[.agg #[.int .i64 V, .slice a0 fs.length cap], .int .i64 d, .int .i64 p] W fun e W' => e = .returned (.int .i64 (rankN fs d p : Int)) ∧ BoxW b V (.slice a0 fs.length cap) wr W' :=
  (rkS_any V a0 cap fs d p W (hx.later h.below h.below.size) hl hC hp h0 h5).mono fun _ _ ⟨he, hb⟩ => ⟨he, h.step hb⟩
theorem betti_wrap {fs : List Int} {p : Int} {k n r1 r2 : Nat} (hn : n = (ofDim fs (k : Int)).length) (h1 : r1 = rankN fs (k : Int) p) (h2 : r2 = rankN fs ((k : Int) + 1) p) (hn1 : n ≤ 1000) (hr1 : r1 ≤ 1000) (hr2 : r2 ≤ 1000) :
    IntKind.i64.wrap (IntKind.i64.wrap ((n : Int) - (r1 : Int)) - (r2 : Int)) = betti fs p k := by
  rw [IntKind.wrap_i64, IntKind.wrap_i64]
  unfold betti
  rw [← hn, ← h1, ← h2]
  omega

set_option maxRecDepth 1000000 in
set_option maxHeartbeats 4000000 in
theorem bettiS_any (V : Int) (a : Option Addr) (cap : Nat) (fs : List Int) (p : Int) (w : World) (hx : SlI w w.heap.size a fs) (hl : fs.length ≤ 1048576) (hC : IsC V fs) (hp : p = 2 ∨ p = 3) :
    Calls Try.prog 56 #[.agg #[.int .i64 V, .slice a fs.length cap], .int .i64 p] w fun e w' => ∃ v, e = .returned v ∧ Res w w' v (bettiL fs p (top fs + 1).toNat) := by
  have hB0 : Below w.heap.size w (w.alloc (.cells #[.int .i64 V, .slice a fs.length cap] 28)) := (Below.refl _ w).alloc (Nat.le_refl _) _
  have Hx0 := hid hx
  have Hf := hid hC.range63
  have HC := hid hC
  have HP := hid hp
  have H63 := hid hC.len63
  obtain ⟨T, hT⟩ : ∃ T : Nat, (T : Int) = top fs + 1 := ⟨(top fs + 1).toNat, by have := top_lo fs; omega⟩
  have hT6 : T ≤ 6 := by have := top_hi fs; omega
  have hTn : (top fs + 1).toNat = T := by omega
  rw [hTn]
  have HT := hid (show top fs = (T : Int) - 1 by omega)
  clear hT hTn hx hC hp
  obtain ⟨w1, hw1⟩ : ∃ x, x = w.alloc (.cells #[.int .i64 V, .slice a fs.length cap] 28) := ⟨_, rfl⟩
  have k0 : w1.cell? ⟨w.heap.size, 0, none⟩ = some (.int .i64 V) := by rw [hw1]; simp [go_sem]
  have k1 : w1.cell? ⟨w.heap.size, 1, none⟩ = some (.slice a fs.length cap) := by rw [hw1]; simp [go_sem]
  have hs1 : w.heap.size < w1.heap.size := by rw [hw1]; simp
  have HB01 : Hid (Below w.heap.size w w1) := hid (by rw [hw1]; exact hB0)
  have hz1 : w1.heap.size = w.heap.size + 1 := by rw [hw1]; simp
  have Hown0 := hid (World.ownsRow_made (base := w1.heap.size) (e := 2) (size := 1) w1 #[] 0 (Nat.le_refl _) (by simp [maxLen]) rfl)
  clear hB0
  go_enter Try.func56, Try.ntmps56
  go_wp2_with (rw [← hw1])
  clear hw1
  go_loopw [5, 6] (fun v i wr => ∃ k : Nat, k ≤ T ∧ i = .int .i64 k ∧ wr.ownsRow w1.heap.size 2 1 v (bettiL fs p k).length ((bettiL fs p k).map (Value.int .i64)) ∧ Below w1.heap.size w1 wr) (fun _ i _ => T - (intOf i).toNat)
  case atStart => exact ⟨0, Nat.zero_le _, rfl, by rw [← hz1]; simpa [bettiL] using Hown0.out, (Below.refl _ _).alloc (Nat.le_refl _) _⟩
  case round =>
    obtain ⟨k, hk, rfl, hown, hB⟩ := hrel
    have c0 : wr.cell? ⟨w.heap.size, 0, none⟩ = some (.int .i64 V) := (hB.cell (p := ⟨w.heap.size, 0, none⟩) hs1).trans k0
    have c1 : wr.cell? ⟨w.heap.size, 1, none⟩ = some (.slice a fs.length cap) := (hB.cell (p := ⟨w.heap.size, 1, none⟩) hs1).trans k1
    have hBW := HB01.out.trans (hB.mono HB01.out.size)
    have hx1 := hid (Hx0.out.later hBW hBW.size)
    have HB := hid hB
    have Hown := hid hown
    clear hB hown
    by_cases hlt : k < T
    · have hsn := hid (bettiL_snoc fs p k)
      have hcl : (bettiL fs p k).length ≤ 1048576 := by rw [bettiL_len]; omega
      have hle : (k : Int) ≤ top fs := by rw [HT.out]; omega
      have htl := top_lo fs
      have hth := top_hi fs
      go_wp2_with fail
      refine (dimS_any V a cap fs _ hx1.out hl Hf.out).mono ?_
      rintro e w2 ⟨rfl, hB2⟩
      have hB12 := HB.out.trans (hB2.mono HB.out.size)
      have d0 : w2.cell? ⟨w.heap.size, 0, none⟩ = some (.int .i64 V) := (hB12.cell (p := ⟨w.heap.size, 0, none⟩) hs1).trans k0
      have d1 : w2.cell? ⟨w.heap.size, 1, none⟩ = some (.slice a fs.length cap) := (hB12.cell (p := ⟨w.heap.size, 1, none⟩) hs1).trans k1
      have hBW2 := HB01.out.trans (hB12.mono HB01.out.size)
      have hx2 := Hx0.out.later hBW2 hBW2.size
      have Hown2 := hid (ownsRow_below Hown.out hB2 (fun g hg => (Hown.out.lt g hg).2))
      have HB12 := hid hB12
      have HD : Hid (BoxW w.heap.size V (.slice a fs.length cap) w2 w2.drew) := hid (BoxW.start d0 d1)
      obtain ⟨n, hn⟩ : ∃ n, n = (ofDim fs (k : Int)).length := ⟨_, rfl⟩
      obtain ⟨r1, hr1⟩ : ∃ n, n = rankN fs (k : Int) p := ⟨_, rfl⟩
      obtain ⟨r2, hr2⟩ : ∃ n, n = rankN fs ((k : Int) + 1) p := ⟨_, rfl⟩
      have HO := hid (fun W (h : BoxW w.heap.size V (.slice a fs.length cap) w2 W) => of_box hx2 hl HC.out (k : Int) (by omega) (by omega) W h)
      have HR1 := hid (fun W (h : BoxW w.heap.size V (.slice a fs.length cap) w2 W) => rk_box hx2 hl HC.out HP.out (k : Int) (by omega) (by omega) W h)
      have HR2 := hid (fun W (h : BoxW w.heap.size V (.slice a fs.length cap) w2 W) => rk_box hx2 hl HC.out HP.out ((k : Int) + 1) (by omega) (by omega) W h)
      rw [← hn] at HO
      rw [← hr1] at HR1
      rw [← hr2] at HR2
      have hk1 : IntKind.i64.wrap ((k : Int) + 1) = (k : Int) + 1 := IntWalk.i64_in _ (by omega)
      have Hv := hid (betti_wrap hn hr1 hr2 (by have := ofDim_len fs (k : Int); have := H63.out; omega) (by have := rankN_le fs (k : Int) p; have := ofDim_len fs (k : Int); have := H63.out; omega) (by have := rankN_le fs ((k : Int) + 1) p; have := ofDim_len fs ((k : Int) + 1); have := H63.out; omega))
      clear hB2 hB12 hBW2 c0 c1 Hown hx2 hn hr1 hr2 hx1 hBW
      go_wp2_with fail
      go_region_held3 (fun w' => w'.cell? ⟨w.heap.size, 0, none⟩ = some (.int .i64 V) ∧ w'.cell? ⟨w.heap.size, 1, none⟩ = some (.slice a fs.length cap)) (go_keep) (first
        | (refine step_append_new (by rfl) (by rfl) HO5.out (by rfl) hs5 (by omega) (by rfl) (by rfl) ?_; intro g cp w6 hown6 hgrow6; have hb6 : Below w1.heap.size w5 w6 := (Below.refl w1.heap.size w5).grown ((World.grownBy_alloc w5 _ _).trans hgrow6) hs5 (fun k hk => (HO5.out.lt k hk).1); have n60 := (hb6.cell (p := ⟨w.heap.size, 0, none⟩) hs1).trans n50; have n61 := (hb6.cell (p := ⟨w.heap.size, 1, none⟩) hs1).trans n51; clear hgrow6)
        | (go_at_call 116; have hz := HD2.out; clear HD2; refine (HR2.out _ hz).mono ?_; rintro e w5 ⟨rfl, hd⟩; have n50 := hd.c0; have n51 := hd.c1; have HD3 := hid hd; have HO5 := hid (ownsRow_below Hown2.out hd.below (fun g hg => (Hown2.out.lt g hg).2)); have hs5 : w1.heap.size ≤ w5.heap.size := Nat.le_trans HB12.out.size hd.below.size; clear hd hz)
        | (go_at_call 116; have hz := HD1.out; clear HD1; refine (HR1.out _ hz).mono ?_; rintro e w4 ⟨rfl, hd⟩; have n40 := hd.c0; have n41 := hd.c1; have HD2 := hid hd; clear hd hz)
        | (go_at_call 115; refine (HO.out _ HD.out).mono ?_; rintro e w3 ⟨⟨ax, cx, rfl⟩, hd⟩; have n30 := hd.c0; have n31 := hd.c1; have HD1 := hid hd; clear hd))
      all_goals
        have hB15 : Below w1.heap.size w1 w5 := HB12.out.trans (HD3.out.below.mono HB12.out.size)
        have HB16 := hid (hB15.trans hb6)
        have Hown6 := hid hown6
        clear hB15 hown6 hb6
        go_wp2_with fail
        go_roundw
        case rel => exact ⟨k + 1, by omega, by go_num, (by have h := Hown6.out; rw [Hv.out, ← hsn.out] at h; have e : (bettiL fs p k).length + 1 = (bettiL fs p (k + 1)).length := by simp [bettiL_len]
                                                           rw [e]; exact h), HB16.out⟩
        case measure => simp [intOf]; omega
    · have hgt : top fs < (k : Int) := by rw [HT.out]; omega
      go_wp2_with fail
      refine (dimS_any V a cap fs _ hx1.out hl Hf.out).mono ?_
      rintro e w2 ⟨rfl, hB2⟩
      have hB12 := HB.out.trans (hB2.mono HB.out.size)
      have Hown2 := hid (ownsRow_below Hown.out hB2 (fun g hg => (Hown.out.lt g hg).2))
      go_wp2_with fail
      go_ret
      obtain rfl : k = T := by omega
      exact ⟨_, rfl, ownsRow_base Hown2.out (by omega), HB01.out.trans (hB12.mono HB01.out.size)⟩


end Go.Proofs.Ytplcbiconfpmlaa

/-! The Betti numbers, the program's. -/
namespace Go.Proofs.Ytplcbiconfpmlaa
open Go.RowKit

/-- The list under way: the first k are Betti numbers, the others numbers of faces. -/
def mixL (fs : List Int) (p : Int) (n k : Nat) : List Int := (List.range n).map fun d : Nat => if d < k then betti fs p d else ((ofDim fs (d : Int)).length : Int)
theorem mixL_len (fs : List Int) (p : Int) (n k : Nat) : (mixL fs p n k).length = n := by simp [mixL]
theorem mixL_zero (fs : List Int) (p : Int) (n : Nat) : mixL fs p n 0 = countL fs n := by simp [mixL, countL]
theorem mixL_full (fs : List Int) (p : Int) (n : Nat) : mixL fs p n n = bettiL fs p n := by
  unfold mixL bettiL
  refine List.map_congr_left fun d hd => ?_
  rw [if_pos (by simpa using hd)]
theorem mixL_at (fs : List Int) (p : Int) {n k : Nat} (h : k < n) : (mixL fs p n k)[k]?.getD 0 = ((ofDim fs (k : Int)).length : Int) := by simp [mixL, h]
theorem mixL_succ (fs : List Int) (p : Int) {n k : Nat} (_h : k < n) : mixL fs p n (k + 1) = (mixL fs p n k).set k (betti fs p k) := by
  apply List.ext_getElem?
  intro i
  by_cases hi : i < n
  · by_cases hk : k = i
    · subst hk
      rw [List.getElem?_set_self (by rw [mixL_len]; exact hi)]
      simp [mixL, hi]
    · rw [List.getElem?_set_ne hk]
      simp only [mixL, List.getElem?_map, List.getElem?_range hi, Option.map_some]
      by_cases h1 : i < k
      · rw [if_pos (by omega), if_pos h1]
      · rw [if_neg (by omega), if_neg h1]
  · rw [List.getElem?_eq_none (by rw [mixL_len]; omega), List.getElem?_eq_none (by rw [List.length_set, mixL_len]; omega)]
theorem betti_wrap2 {fs : List Int} {p : Int} {k n r1 r2 : Nat} (hn : n = (ofDim fs (k : Int)).length) (h1 : r1 = rankN fs (k : Int) p) (h2 : r2 = rankN fs ((k : Int) + 1) p) (hn1 : n ≤ 1000) (hr1 : r1 ≤ 1000) (hr2 : r2 ≤ 1000) :
    wrap64 ((n : Int) - wrap64 ((r1 : Int) + (r2 : Int))) = betti fs p k := by
  unfold betti
  rw [← hn, ← h1, ← h2]
  unfold wrap64
  omega
theorem brk_box {b : Nat} {V : Int} {a0 : Option Addr} {cap : Nat} {fs : List Int} {wr : World} (hx : SlI wr wr.heap.size a0 fs) (hl : fs.length ≤ 1048576) (hC : IsC V fs) {p : Int} (hp : p = 2 ∨ p = 3) (d : Int) (h0 : 0 ≤ d) (h5 : d ≤ 100) (W : World)
    (h : BoxW b V (.slice a0 fs.length cap) wr W) :
    Calls Try.prog 119 #[.agg #[.int .i64 V, .slice a0 fs.length cap], .int .i64 d, .int .i64 p] W fun e W' => e = .returned (.int .i64 (rankN fs d p : Int)) ∧ BoxW b V (.slice a0 fs.length cap) wr W' :=
  (brank_any V a0 cap fs d p W (hx.later h.below h.below.size) hl hC hp (by omega) h5).mono fun _ _ ⟨he, hb⟩ => ⟨he, h.step hb⟩

set_option maxRecDepth 1000000 in
set_option maxHeartbeats 4000000 in
theorem implBettiNumbers (V : Int) (a0 : Option Addr) (cap : Nat) (fs : List Int) (p : Int) (w : World) (hx : SlI w w.heap.size a0 fs) (hl : fs.length ≤ 1048576) :
    Calls Try.prog 58 #[.agg #[.int .i64 V, .slice a0 fs.length cap], .int .i64 p] w fun e w' => ∃ v, e = .returned (.tuple #[v, .int .i64 (bettiR V fs p).2]) ∧ Res w w' v (bettiR V fs p).1 := by
  have hB0 : Below w.heap.size w (w.alloc (.cells #[.int .i64 V, .slice a0 fs.length cap] 28)) := (Below.refl _ w).alloc (Nat.le_refl _) _
  have hx1 := hx.later hB0 hB0.size
  have HK := hid (implCountFaces V a0 cap fs _ hx1 hl)
  by_cases hC : IsC V fs
  · obtain ⟨T, hT⟩ : ∃ T : Nat, (T : Int) = top fs + 1 := ⟨(top fs + 1).toNat, by have := top_lo fs; omega⟩
    have hT6 : T ≤ 6 := by have := top_hi fs; omega
    have hTn : (top fs + 1).toNat = T := by omega
    have HCF : countFacesR V fs = (countL fs T, 0) := by unfold countFacesR; rw [isCB_true hC, if_pos rfl, hTn]
    rw [HCF] at HK
    simp only at HK
    by_cases hp : p = 2 ∨ p = 3
    · refine pair_mono (show bettiR V fs p = (bettiL fs p T, 0) by rw [bettiR, isCB_true hC, if_pos rfl, if_pos hp, hTn]) ?_
      have HC := hid hC
      have HX := hid hx
      have Hp := hid hp
      have H63 := hid hC.len63
      clear hx hx1 hC hp HCF hT hTn
      go_enter Try.func58, Try.ntmps58
      go_wp2_with fail
      refine HK.out.mono ?_
      rintro e w1 ⟨v, rfl, hr⟩
      obtain ⟨_, av, cv, rfl, _⟩ := ownsRow_slI hr.1
      have hs1 : w.heap.size < w1.heap.size := by have := hr.2.size; simp at this; omega
      have k0 : w1.cell? ⟨w.heap.size, 0, none⟩ = some (.int .i64 V) := (hr.2.cell (p := ⟨w.heap.size, 0, none⟩) (by simp)).trans (by simp [go_sem])
      have k1 : w1.cell? ⟨w.heap.size, 1, none⟩ = some (.slice a0 fs.length cap) := (hr.2.cell (p := ⟨w.heap.size, 1, none⟩) (by simp)).trans (by simp [go_sem])
      have HB1 := hid (hB0.trans (hr.2.mono (by simp)))
      have hown1 := hr.1
      simp only [World.size_alloc] at hown1
      have e1 : (countL fs T).length = T := countL_len fs T
      rw [e1] at hown1
      have Hown1 : Hid (w1.ownsRow (w.heap.size + 1) 2 1 (.slice av T cv) T ((mixL fs p T 0).map (Value.int .i64))) := hid (by rw [mixL_zero]; exact hown1)
      rw [e1]
      have HB11 : Hid (Below (w.heap.size + 1) (w.alloc (.cells #[.int .i64 V, .slice a0 fs.length cap] 28)) w1) := hid (by have := hr.2; rwa [World.size_alloc] at this)
      have HB0 := hid hB0
      clear hB0 hr hown1
      go_wp2_with (go_at_call 118; refine (mod_yes _ _ Hp.out).mono ?_; rintro e w' ⟨rfl, rfl⟩)
      go_loopw [23] (fun i wr => ∃ k : Nat, k ≤ T ∧ i = .int .i64 k ∧ wr.ownsRow (w.heap.size + 1) 2 1 (.slice av T cv) T ((mixL fs p T k).map (Value.int .i64)) ∧ Below (w.heap.size + 1) (w.alloc (.cells #[.int .i64 V, .slice a0 fs.length cap] 28)) wr) (fun i _ => T - (intOf i).toNat)
      case atStart => exact ⟨0, Nat.zero_le _, rfl, Hown1.out, HB11.out⟩
      case round =>
        obtain ⟨k, hk, rfl, hown, hB⟩ := hrel
        have hsr := hB.size
        simp only [World.size_alloc] at hsr
        have HB := hid hB
        have c0 : wr.cell? ⟨w.heap.size, 0, none⟩ = some (.int .i64 V) := (hB.cell (p := ⟨w.heap.size, 0, none⟩) (Nat.lt_succ_self _)).trans (by simp [go_sem])
        have c1 : wr.cell? ⟨w.heap.size, 1, none⟩ = some (.slice a0 fs.length cap) := (hB.cell (p := ⟨w.heap.size, 1, none⟩) (Nat.lt_succ_self _)).trans (by simp [go_sem])
        have hbw : Below w.heap.size w wr := HB0.out.trans (hB.mono (Nat.le_succ _))
        clear hB
        by_cases hlt : k < T
        · obtain ⟨g, rfl⟩ : ∃ g, av = some ⟨g, 0, none⟩ := by
            rcases hown.2 with ⟨h0, _⟩ | ⟨g, cap', cur, hv, _⟩
            · injection h0 with _ h0 _; omega
            · injection hv with h0; exact ⟨g, h0⟩
          have hx2 := HX.out.later hbw hbw.size
          have HD : Hid (BoxW w.heap.size V (.slice a0 fs.length cap) wr wr.drew) := hid (BoxW.start c0 c1)
          obtain ⟨n, hn⟩ : ∃ n, n = (ofDim fs (k : Int)).length := ⟨_, rfl⟩
          obtain ⟨r1, hr1⟩ : ∃ n, n = rankN fs (k : Int) p := ⟨_, rfl⟩
          obtain ⟨r2, hr2⟩ : ∃ n, n = rankN fs ((k : Int) + 1) p := ⟨_, rfl⟩
          have HR1 := hid (fun W (h : BoxW w.heap.size V (.slice a0 fs.length cap) wr W) => brk_box hx2 hl HC.out Hp.out (k : Int) (by omega) (by omega) W h)
          have HR2 := hid (fun W (h : BoxW w.heap.size V (.slice a0 fs.length cap) wr W) => brk_box hx2 hl HC.out Hp.out ((k : Int) + 1) (by omega) (by omega) W h)
          rw [← hr1] at HR1
          rw [← hr2] at HR2
          have hk1 : IntKind.i64.wrap ((k : Int) + 1) = (k : Int) + 1 := IntWalk.i64_in _ (by omega)
          have Hv := hid (betti_wrap2 hn hr1 hr2 (by have := ofDim_len fs (k : Int); have := H63.out; omega) (by have := rankN_le fs (k : Int) p; have := ofDim_len fs (k : Int); have := H63.out; omega) (by have := rankN_le fs ((k : Int) + 1) p; have := ofDim_len fs ((k : Int) + 1); have := H63.out; omega))
          have hck : wr.cell? ⟨g, k, none⟩ = some (.int .i64 (n : Int)) := by
            rw [hown.cellAt k (by omega), hn, ← mixL_at fs p hlt]
            simp [mixL, hlt]
          have hgl : g < wr.heap.size := World.block_lt_of_cell? wr _ hck
          have hi0 : (0 : Int) ≤ (k : Int) := by omega
          have hi1 : (k : Int) < (T : Int) := by omega
          have Hstep : Hid (((mixL fs p T k).map (Value.int .i64)).set k (.int .i64 (betti fs p k)) = (mixL fs p T (k + 1)).map (Value.int .i64)) := hid (by rw [mixL_succ fs p hlt, List.map_set])
          have Hown := hid hown
          have hgb : w.heap.size + 1 ≤ g := (hown.lt g rfl).1
          clear hx2 hn hr1 hr2 hbw hown
          go_wp2_with fail
          go_region_with (first
            | (go_at_call 119; have hz := HD1.out; clear HD1; refine (HR2.out _ hz).mono ?_; rintro e w4 ⟨rfl, hd⟩; have n40 := hd.c0; have n41 := hd.c1; have n4 := (hd.below.cell (p := ⟨g, k, none⟩) hgl).trans hck; have HD2 := hid hd; have hO4 := ownsRow_below Hown.out hd.below (fun g hg => (Hown.out.lt g hg).2); have f4 := hO4.frozenAt k; have hst := hO4.stored k (.int .i64 (betti fs p k)); rw [Hstep.out] at hst; have Hst := hid hst; clear hd hz hO4 hst)
            | (go_at_call 119; refine (HR1.out _ HD.out).mono ?_; rintro e w3 ⟨rfl, hd⟩; have n30 := hd.c0; have n31 := hd.c1; have n3 := (hd.below.cell (p := ⟨g, k, none⟩) hgl).trans hck; have HD1 := hid hd; clear hd))
          all_goals
            have HB4 := hid (HB.out.trans (HD2.out.below.mono hsr))
            have hs4 : w.heap.size + 1 ≤ w4.heap.size := by have := HB4.out.size; simpa using this
            clear HB HD2 n40 n41 n4 f4 hck HR1 HR2 Hown Hstep
            go_wp2_with fail
            go_roundw
            case rel =>
              rw [Hv.out]
              exact ⟨k + 1, by omega, by go_num, Hst.out.1, HB4.out.grown Hst.out.2 hs4 (fun r e => by cases e; exact hgb)⟩
            case measure => simp [intOf]; omega
        · go_wp2_with fail
          go_ret2
          obtain rfl : k = T := by omega
          rw [mixL_full] at hown
          exact ⟨_, rfl, ownsRow_base (by simpa [bettiL_len] using hown) (by omega), hbw⟩
    · refine pair_mono (show bettiR V fs p = ([], 2) by rw [bettiR, isCB_true hC, if_pos rfl, if_neg hp]) ?_
      clear hx hx1 hC HCF hT hTn
      go_enter Try.func58, Try.ntmps58
      go_wp2_with fail
      refine HK.out.mono ?_
      rintro e w1 ⟨v, rfl, hr⟩
      go_wp2_with (go_at_call 118; refine (mod_no _ _ hp).mono ?_; rintro e w' ⟨rfl, rfl⟩)
      go_ret2
      exact ⟨_, rfl, res_nil _ _ (hB0.trans (hr.2.mono (by simp)))⟩
  · refine pair_mono (show bettiR V fs p = ([], 1) by rw [bettiR, isCB_false hC, if_neg (by simp)]) ?_
    have HCF : countFacesR V fs = ([], 1) := by unfold countFacesR; rw [isCB_false hC, if_neg (by simp)]
    rw [HCF] at HK
    simp only at HK
    clear hx hx1 hC HCF
    go_enter Try.func58, Try.ntmps58
    go_wp2_with fail
    refine HK.out.mono ?_
    rintro e w1 ⟨v, rfl, hr⟩
    go_wp2_with fail
    go_ret2
    exact ⟨_, rfl, res_nil _ _ (hB0.trans (hr.2.mono (by simp)))⟩

end Go.Proofs.Ytplcbiconfpmlaa

/-! What a complex that comes in is told as, for the rows of all laws. -/
namespace Go.Proofs.Ytplcbiconfpmlaa
open Go.ChangeShapes Go.WideShapes Go.ChangeAt Go.RowKit Go.Joins

theorem own : ownKnob Try.prog.godebug = none := by kernel_rfl
theorem laidOut : laidOutB Try.prog = true := by kernel_rfl

variable {H : Type} {enc : TypeId × Value → H}

/-- A slice of int64 that came in. -/
theorem slI_of_trod {W : World} {n : Nat} {v : Value} {y : DataW H × List MemPlace} (hf : DataW.trod enc Try.prog W 0 (fun _ => true) true n 22 [v] = some y) :
    ∃ a len cap xs, v = .slice a len cap ∧ xs.length = len ∧ len ≤ 9223372036854775807 ∧ SlI W W.heap.size a xs ∧ ∀ x ∈ xs, (Lit.int .i64 x).wf = true := by
  rcases open_ints Try.underlying22 Try.underlying2 (by kernel_rfl) hf with ⟨hcs, _⟩ | ⟨x, l, c, zs, hcs, _, hl, hm, hz, _, hcell, hwf⟩
  · simp at hcs
    subst hcs
    exact ⟨none, 0, 0, [], rfl, rfl, by omega, .inl rfl, by simp⟩
  · simp at hcs
    subst hcs
    simp at hz
    have hlen : (zs.take l).length = l := by simp; omega
    unfold maxLen at hm
    refine ⟨some x, l, c, zs.take l, rfl, hlen, by omega, ?_, fun y hy => hwf y (List.mem_of_mem_take hy)⟩
    by_cases h0 : l = 0
    · subst h0; exact .inl (by simp)
    · right
      obtain ⟨b, off, spot⟩ := x
      have hc0 := hcell 0 (by omega)
      have hspot : spot = none := by simpa [Addr.add] using World.cell?_spot hc0
      subst hspot
      refine ⟨b, off, ?_, rfl, fun i hi => ?_⟩
      · have := World.block_lt_of_cell? W _ hc0
        simpa [Addr.add] using this
      · rw [hlen] at hi
        have := hcell i (by omega)
        have hadd : (⟨b, off, none⟩ : Addr).add i = ⟨b, off + i, none⟩ := by unfold Addr.add; split <;> simp_all
        rw [hadd] at this
        rw [List.getElem?_take, if_pos hi]
        simpa using this

end Go.Proofs.Ytplcbiconfpmlaa

/-! What a list of pairs that comes in is told as. -/
namespace Go.Proofs.Ytplcbiconfpmlaa
open Go.ChangeShapes Go.WideShapes Go.ChangeAt Go.RowKit Go.Joins

variable {H : Type} {enc : TypeId × Value → H}

/-- The number in a cell. -/
def cellInt (v : Option Value) : Int := match v with | some (.int _ n) => n | _ => 0

set_option maxRecDepth 100000 in
theorem two_of_trod {W : World} {n : Nat} {cs : List Value} {y : DataW H × List MemPlace} (hf : DataW.trod enc Try.prog W 0 (fun _ => true) true n 47 cs = some y) : ∃ x y : Int, cs = [.int .i64 x, .int .i64 y] ∧ (Lit.int .i64 x).wf = true ∧ (Lit.int .i64 y).wf = true := by
  cases n with
  | zero => simp [DataW.trod] at hf
  | succ n =>
    unfold DataW.trod at hf
    rw [Try.underlying47] at hf
    simp only at hf
    rw [show Try.prog.cellsOf 47 = 2 by kernel_rfl, show Try.prog.cellsOf 2 = 1 by kernel_rfl] at hf
    split at hf
    · next hl =>
      match cs, hl with
      | [c0, c1], _ =>
        simp only [Option.map_eq_some_iff] at hf
        obtain ⟨xs, hx, _⟩ := hf
        rw [show List.range 2 = [0, 1] from rfl, List.mapM_cons, List.mapM_cons, List.mapM_nil] at hx
        simp only [bind, Option.bind_eq_some_iff, pure, Option.some.injEq] at hx
        obtain ⟨y0, h0, _, ⟨y1, h1, _, rfl, rfl⟩, rfl⟩ := hx
        obtain ⟨a, ea, _, wa⟩ := DataW.trod_int Try.underlying2 h0
        obtain ⟨b, eb, _, wb⟩ := DataW.trod_int Try.underlying2 h1
        simp at ea eb
        subst ea; subst eb
        exact ⟨a, b, rfl, wa, wb⟩
    · cases hf

set_option maxRecDepth 100000 in
/-- A list of pairs that came in. -/
theorem pairs_of_trod {W : World} {n : Nat} {v : Value} {y : DataW H × List MemPlace} (hf : DataW.trod enc Try.prog W 0 (fun _ => true) true n 36 [v] = some y) :
    ∃ a len cap ps, v = .slice a len cap ∧ ps.length = 2 * len ∧ len ≤ 9223372036854775807 ∧ SlI W W.heap.size a ps ∧ ∀ x ∈ ps, (Lit.int .i64 x).wf = true := by
  rcases DataW.trod_slice Try.underlying36 hf with ⟨hcs, _⟩ | ⟨a, len, cap, elems, rest, m, _, hcs, _, hb, hl, hm, hlen, hel, _, _⟩
  · simp at hcs
    subst hcs
    exact ⟨none, 0, 0, [], rfl, rfl, by omega, .inl rfl, by simp⟩
  · simp at hcs
    subst hcs
    unfold maxLen at hm
    have hc : Try.prog.cellsOf 47 = 2 := by kernel_rfl
    have each : ∀ i, i < 2 * len → ∃ x, W.cell? (a.add i) = some (.int .i64 x) ∧ (Lit.int .i64 x).wf = true := by
      intro i hi
      have h := hel (i / 2) (by omega)
      rw [hc] at h
      have hy : elems[i / 2]? = some (elems[i / 2]'(by omega)) := List.getElem?_eq_getElem (by omega)
      rw [hy, Option.bind_eq_some_iff] at h
      obtain ⟨cs, hcs, ht⟩ := h
      obtain ⟨x, y, rfl, wx, wy⟩ := two_of_trod ht
      have h3 := (World.cells?_some hcs).2.2 (i % 2) (Nat.mod_lt _ (by decide))
      have hadd : (a.add (i / 2 * 2)).add (i % 2) = a.add i := by
        rw [Addr.add_add]
        congr 1
        omega
      rw [hadd] at h3
      rcases Nat.mod_two_eq_zero_or_one i with h | h <;> rw [h] at h3 <;> simp at h3
      · exact ⟨_, h3, wx⟩
      · exact ⟨_, h3, wy⟩
    refine ⟨some a, len, cap, (List.range (2 * len)).map (fun i => cellInt (W.cell? (a.add i))), rfl, by simp, by omega, ?_, ?_⟩
    rotate_left
    · intro x hx
      obtain ⟨i, hi, rfl⟩ := List.mem_map.1 hx
      obtain ⟨y, hy, wy⟩ := each i (List.mem_range.1 hi)
      rw [hy]
      exact wy
    by_cases h0 : len = 0
    · subst h0; exact .inl (by simp)
    · right
      obtain ⟨b, off, spot⟩ := a
      obtain ⟨x0, hc0, _⟩ := each 0 (by omega)
      have hspot : spot = none := by simpa [Addr.add] using World.cell?_spot hc0
      subst hspot
      refine ⟨b, off, ?_, rfl, fun i hi => ?_⟩
      · have := World.block_lt_of_cell? W _ hc0
        simpa [Addr.add] using this
      · simp only [List.length_map, List.length_range] at hi
        obtain ⟨x, hx, _⟩ := each i hi
        have hadd : (⟨b, off, none⟩ : Addr).add i = ⟨b, off + i, none⟩ := by unfold Addr.add; split <;> simp_all
        rw [hadd] at hx
        rw [hx, List.getElem?_map, List.getElem?_range hi]
        simp only [Option.map_some, Option.getD_some]
        rw [hadd, hx]
        rfl

theorem pairs_in {W : World} {n : Nat} {a : Option Addr} {m cap : Nat} {y : DataW H × List MemPlace} (hf : DataW.trod enc Try.prog W 0 (fun _ => true) true n 36 (Value.slice a m cap).cells.toList = some y) :
    ∃ ps, ps.length = 2 * m ∧ m ≤ 9223372036854775807 ∧ SlI W W.heap.size a ps ∧ ∀ x ∈ ps, (Lit.int .i64 x).wf = true := by
  obtain ⟨a', len, cap', ps, he, h1, h2, h3, h4⟩ := pairs_of_trod (v := .slice a m cap) hf
  cases he
  exact ⟨ps, h1, h2, h3, h4⟩

end Go.Proofs.Ytplcbiconfpmlaa
