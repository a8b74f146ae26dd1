import Derived.Test.YthmhdfhjjpfbfaaClear
import Derived.Test.YthmhdfhjjpfbfaaFw
/-! The model's l03Rank. -/
namespace Go.Proofs.Ythmhdfhjjpfbfaa
open Go.RowKit
open Go.Sort hiding Below

/-- What the search for a row has found ahead of row i. -/
def Best (M : List (List Int)) (r c i : Nat) (v : Value) : Prop :=
  (v = .int .i64 (-1) ∧ ∀ i', r ≤ i' → i' < i → ent M i' c = 0) ∨ (∃ b : Nat, v = .int .i64 (b : Int) ∧ r ≤ b ∧ b < i ∧ ent M b c ≠ 0 ∧ ∀ i', r ≤ i' → i' < b → ent M i' c = 0)

def swapA (ad : Ads) (r i : Nat) : Ads := (ad.set r (adr ad i)).set i (adr ad r)
theorem adr_swap_r {ad : Ads} {r i : Nat} (hr : r < ad.length) (hi : i < ad.length) : adr (swapA ad r i) r = adr ad i := by
  unfold swapA adr
  by_cases e : i = r
  · subst e; rw [List.getElem?_set_self (by simpa using hi)]; simp
  · rw [List.getElem?_set_ne e, List.getElem?_set_self hr]; simp

theorem cells_set2 {W : World} {R a b k : Nat} {u v : Value} (ha : (W.cell? ⟨R, a, none⟩).isSome) (hb : (W.cell? ⟨R, b, none⟩).isSome) :
    ((W.setCell ⟨R, a, none⟩ u).setCell ⟨R, b, none⟩ v).cell? ⟨R, k, none⟩ = if k = b then some v else if k = a then some u else W.cell? ⟨R, k, none⟩ := by
  have h1 : ((W.setCell ⟨R, a, none⟩ u).cell? ⟨R, b, none⟩).isSome := by
    by_cases e : b = a
    · subst e; rw [World.cell?_setCell_same' _ _ _ ha]; rfl
    · rw [World.cell?_setCell_other _ _ _ _ (by simp <;> omega)]; exact hb
  by_cases e : k = b
  · subst e; rw [if_pos rfl, World.cell?_setCell_same' _ _ _ h1]
  · rw [if_neg e, World.cell?_setCell_other _ _ _ _ (by simp <;> omega)]
    by_cases e2 : k = a
    · subst e2; rw [if_pos rfl, World.cell?_setCell_same' _ _ _ ha]
    · rw [if_neg e2, World.cell?_setCell_other _ _ _ _ (by simp <;> omega)]

/-- Row i's slice is put at place i', and row i' s at place i: in this order. -/
theorem MatW.swap2 {W : World} {B R n w : Nat} {ad : Ads} {M : List (List Int)} (h : MatW W B R n w ad M) {r i : Nat} (hr : r < n) (hi : i < n) :
    MatW ((W.setCell ⟨R, i, none⟩ (.slice (some ⟨(adr ad r).1, (adr ad r).2, none⟩) w w)).setCell ⟨R, r, none⟩ (.slice (some ⟨(adr ad i).1, (adr ad i).2, none⟩) w w)) B R n w (swapA ad r i) (swapR M r i) := by
  refine h.swap hr hi (by simp [World.setCell]) (fun b hb => ?_) (fun k hk => ⟨?_, ?_⟩)
  · rw [Below.heap_setCell _ _ _ _ (by simpa using hb), Below.heap_setCell _ _ _ _ (by simpa using hb)]
  · rw [cells_set2 (by rw [(h.hd i hi).1]; rfl) (by rw [(h.hd r hr).1]; rfl), (h.hd k hk).1]
    by_cases e1 : k = i <;> by_cases e2 : k = r
    · subst e1; subst e2; simp
    · subst e1; simp [e2]
    · subst e2; simp [e1]
    · simp [e1, e2]
  · rw [World.frozen?_setCell, World.frozen?_setCell]; exact (h.hd k hk).2

theorem below_ahead {B : Nat} {a W : World} (h : Below B a W) (m : Nat) : Below B a (Sort.ahead W m) := h.trans ⟨rfl, rfl, rfl, Nat.le_refl _, fun _ _ => rfl⟩
theorem below_put {B : Nat} {a W : World} (h : Below B a W) (m blk off : Nat) (l : List Int) (hb : B ≤ blk) : Below B a (putRow encI (Sort.ahead W m) blk off l.toArray) := by
  exact ⟨h.os, h.tape, h.output, by simpa using h.size, fun k hk => by
    have : blk ≠ k := by omega
    rw [← h.block k hk]
    simp [putRow, mapBlock, Sort.ahead, Array.getElem?_modify, this]⟩

theorem ent_swap {p : Int} {n w : Nat} {M : List (List Int)} (hG : MatG p n w M) {r b : Nat} (hr : r < n) (hb : b < n) (k j : Nat) :
    ent (swapR M r b) k j = if k = b then ent M r j else if k = r then ent M b j else ent M k j := by
  unfold ent swapR
  by_cases e1 : k = b
  · subst e1; rw [List.getElem?_set_self (by simp [hG.len]; omega), if_pos rfl]; simp
  · rw [if_neg e1, List.getElem?_set_ne (fun e => e1 e.symm)]
    by_cases e2 : k = r
    · subst e2; rw [List.getElem?_set_self (by simp [hG.len]; omega), if_pos rfl]; simp
    · rw [if_neg e2, List.getElem?_set_ne (fun e => e2 e.symm)]
theorem zeros_swap {p : Int} {n w r b c : Nat} {M : List (List Int)} (hG : MatG p n w M) (hr : r < n) (hb : b < n) (hrb : r ≤ b) (hZ : ZerosTo M r c) (hne : ent M b c ≠ 0) :
    ZerosTo (swapR M r b) r c ∧ ent (swapR M r b) r c ≠ 0 := by
  constructor
  · intro i j h1 h2 h3
    rw [swapR_len] at h2
    rw [ent_swap hG hr hb]
    split
    · exact hZ r j (Nat.le_refl _) (by rw [hG.len]; exact hr) h3
    · split
      · exact hZ b j hrb (by rw [hG.len]; exact hb) h3
      · exact hZ i j h1 h2 h3
  · rw [ent_swap hG hr hb]
    split
    · rename_i e; rw [e]; exact hne
    · rw [if_pos rfl]; exact hne

theorem zeros_sweep {p : Int} {n w r c : Nat} {M : List (List Int)} (hp : p = 2 ∨ p = 3) (hG : MatG p n w M) (hr : r < n) (hZ : ZerosTo M r c) (hc : c < w) (hne : ent M r c ≠ 0) : ZerosTo (sweepTo p c r n M) (r + 1) (c + 1) := by
  intro i j h1 h2 h3
  rw [sweepTo_len, hG.len] at h2
  unfold ent
  rw [sweepTo_get (by rw [hG.len]; exact h2), if_pos ⟨by omega, h2⟩, clr_get (hG.rowLen h2) (hG.rowLen hr) (by omega)]
  have ea := hG.ent h2 hc
  have eb := hG.ent hr hc
  by_cases e : j = c
  · subst e
    exact clear_one hp ea.1 ea.2 eb.1 eb.2 hne
  · have z1 := hZ i j (by omega) (by rw [hG.len]; exact h2) (by omega)
    have z2 := hZ r j (Nat.le_refl _) (by rw [hG.len]; exact hr) (by omega)
    unfold ent at z1 z2
    rw [z1, z2]
    simp

theorem part_start {p : Int} {c w : Nat} {row own : List Int} (h1 : row.length = w) (h2 : own.length = w) (hz : ∀ j, j < c → own[j]?.getD 0 = 0) (hr : ∀ x ∈ row, 0 ≤ x ∧ x < p) (hc : c ≤ w) : part p c row own c = row := by
  have hl := clr_len (p := p) (c := c) h1 h2
  apply List.ext_getElem?
  intro i
  unfold part
  by_cases hi : i < c
  · rw [List.getElem?_append_left (by simp; omega), List.getElem?_take_of_lt hi]
    have e := clr_get (p := p) (c := c) h1 h2 (show i < w by omega)
    rw [hz i hi] at e
    have hm := hr _ (getD_memL (d := 0) (show i < row.length by omega))
    rw [List.getElem?_eq_getElem (by omega), List.getElem?_eq_getElem (by omega : i < row.length)] at *
    simp only [Option.getD_some] at e hm
    rw [e]
    simp only [Int.mul_zero, Int.add_zero]
    rw [Int.emod_eq_of_lt hm.1 hm.2]
  · rw [List.getElem?_append_right (by simp; omega)]
    have : (List.take c (clr p c row own)).length = c := by simp; omega
    rw [this, List.getElem?_drop, Nat.add_sub_cancel' (by omega)]

set_option maxRecDepth 1000000 in
set_option maxHeartbeats 4000000 in
theorem rankS_any (B R n w cap : Nat) (ad : Ads) (p : Int) (M : List (List Int)) (W : World) (hM : MatW W B R n w ad M) (hG : MatG p n w M) (hp : p = 2 ∨ p = 3) (hn0 : 0 < n) (hn : n ≤ 1048576) (hw : w ≤ 1048576) :
    Calls Try.prog 123 #[.slice (some ⟨R, 0, none⟩) n cap, .int .i64 p] W fun e W' => e = .returned (.int .i64 (elimR p w 0 0 M : Int)) ∧ Below B W W' := by
  have hg0 : decide (0 < n) = true := decide_eq_true hn0
  obtain ⟨E, hE⟩ : ∃ E, E = elimR p w 0 0 M := ⟨_, rfl⟩
  rw [← hE]
  have HM := hid hM
  have HG := hid hG
  have HE := hid hE
  have HP := hid hp
  clear hM hG hE hp
  go_enter Try.func123, Try.ntmps123
  go_wp2
  go_loopw [5, 6] (fun s5 s6 wr => ∃ (r c : Nat) (M : List (List Int)) (ad : Ads), s5 = .int .i64 r ∧ s6 = .int .i64 c ∧ r ≤ n ∧ c ≤ w ∧ Hid (MatW wr B R n w ad M) ∧ Hid (MatG p n w M) ∧ Hid (ZerosTo M r c) ∧ Hid (E = elimR p (w - c) r c M) ∧ Hid (Below B W wr)) (fun _ s6 _ => w - (intOf s6).toNat)
  case atStart => exact ⟨0, 0, M, ad, rfl, rfl, by omega, by omega, HM, HG, hid (fun i j _ _ hj => by omega), HE, hid (Below.refl _ _)⟩
  case round =>
    clear HM HG HE
    obtain ⟨r, c, M, ad, rfl, rfl, hr, hc, HM, HG, HZ, HE, HB⟩ := hrel
    obtain ⟨wo, rfl⟩ : ∃ wo : World, wo = wr := ⟨_, rfl⟩
    have c0 := (HM.out.hd 0 hn0).1
    by_cases hlt : c < w
    · have hlt' : (c : Int) < (w : Int) := by omega
      go_wp2
      go_loopw [7, 8] (fun s7 s8 wx => ∃ (i : Nat), s8 = .int .i64 i ∧ r ≤ i ∧ i ≤ n ∧ Hid (Best M r c i s7) ∧ wx = wo) (fun _ s8 _ => n - (intOf s8).toNat)
      case atStart => exact ⟨r, rfl, Nat.le_refl _, hr, hid (.inl ⟨rfl, fun i' h1 h2 => by omega⟩), rfl⟩
      case round =>
        obtain ⟨i, rfl, hri, hin, Hb, rfl⟩ := hrel
        clear c0
        rcases Hb.out with ⟨rfl, hz⟩ | ⟨b, rfl, hrb, hbi, hne, hz⟩
        · by_cases hin' : i < n
          · have hii : (i : Int) < (n : Int) := by omega
            have hi0 : (0 : Int) ≤ (i : Int) := by omega
            have hc0 : (0 : Int) ≤ (c : Int) := by omega
            have ci := (HM.out.hd i hin').1
            have cx := (HM.out.at hin' hlt).1
            have Hz := hid hz
            clear hz Hb
            by_cases hx : ent M i c = 0
            · have Hb' : Hid (Best M r c (i + 1) (.int .i64 (-1))) := hid (.inl ⟨rfl, fun i' h1 h2 => by
                by_cases e : i' = i
                · rw [e]; exact hx
                · exact Hz.out i' h1 (by omega)⟩)
              rw [hx] at cx
              clear hx
              go_wp2
              go_roundw
              case rel => exact ⟨i + 1, by go_num, by omega, by omega, Hb', trivial⟩
              case measure => simp [intOf]; omega
            · have Hb' : Hid (Best M r c (i + 1) (.int .i64 (i : Int))) := hid (.inr ⟨i, rfl, hri, by omega, hx, Hz.out⟩)
              have hd : (ent M i c != 0) = true := by simpa using hx
              obtain ⟨x, hxx⟩ : ∃ x, x = ent M i c := ⟨_, rfl⟩
              rw [← hxx] at cx hd
              clear hx hxx
              go_wp2
              go_roundw
              case rel => exact ⟨i + 1, by go_num, by omega, by omega, Hb', trivial⟩
              case measure => simp [intOf]; omega
          · obtain rfl : i = n := by omega
            have He : Hid (E = elimR p (w - (c + 1)) r (c + 1) M) := hid (by
              have h1 := HE.out
              rw [show w - c = (w - (c + 1)) + 1 by omega, elim_none (fun i' h1 h2 => hz i' h1 (by rw [← HG.out.len]; exact h2))] at h1
              exact h1)
            have HZ' : Hid (ZerosTo M r (c + 1)) := hid (fun i' j h1 h2 h3 => by
              by_cases e : j = c
              · rw [e]; exact hz i' h1 (by rw [← HG.out.len]; exact h2)
              · exact HZ.out i' j h1 h2 (by omega))
            clear hz Hb
            go_wp2
            go_roundw
            case rel => exact ⟨r, c + 1, M, ad, rfl, by go_num, hr, by omega, HM, HG, HZ', He, HB⟩
            case measure => simp [intOf]; omega
        · have hbn : b < n := by omega
          have hrn : r < n := by omega
          have hbi0 : (0 : Int) ≤ (b : Int) := by omega
          have hbi1 : (b : Int) < (n : Int) := by omega
          have hri0 : (0 : Int) ≤ (r : Int) := by omega
          have hri1 : (r : Int) < (n : Int) := by omega
          obtain ⟨cb, fb⟩ := HM.out.hd b hbn
          obtain ⟨cr, fr⟩ := HM.out.hd r hrn
          have HM2 := hid (HM.out.swap2 hrn hbn)
          have HG2 := hid (swapR_good HG.out hrn hbn)
          have Har := hid (adr_swap_r (ad := ad) (r := r) (i := b) (by rw [HM.out.adl]; exact hrn) (by rw [HM.out.adl]; exact hbn))
          obtain ⟨v', cr2⟩ := cell?_setCell_some (w := wr) (p := ⟨R, b, none⟩) (x := .slice (some ⟨(adr ad r).1, (adr ad r).2, none⟩) w w) (q := ⟨R, r, none⟩) (v := _) cr
          have HE2 : Hid (E = elimR p (w - (c + 1)) (r + 1) (c + 1) (sweepTo p c r n (swapR M r b))) := hid (by
            have h1 := HE.out
            rw [show w - c = (w - (c + 1)) + 1 by omega, elim_some hrb (by rw [HG.out.len]; exact hbn) hne hz, HG.out.len] at h1
            exact h1)
          have hRb := HM.out.head
          have HB2 : Hid (Below B W ((wr.setCell ⟨R, b, none⟩ (.slice (some ⟨(adr ad r).1, (adr ad r).2, none⟩) w w)).setCell ⟨R, r, none⟩ (.slice (some ⟨(adr ad b).1, (adr ad b).2, none⟩) w w))) := hid ((HB.out.setCell (p := ⟨R, b, none⟩) hRb.1 _).setCell (p := ⟨R, r, none⟩) hRb.1 _)
          have HZ2 : Hid (ZerosTo (swapR M r b) r c ∧ ent (swapR M r b) r c ≠ 0) := hid (zeros_swap HG.out hrn hbn hrb HZ.out hne)
          clear Hb hz hne HM HG HE HZ HB hRb
          by_cases hin' : i < n
          all_goals
            have hdin : decide (i < n) = decide (i < n) := rfl
            clear hdin
            go_wp2
            go_loopw [10] (fun s10 wx => ∃ (i : Nat), s10 = .int .i64 i ∧ r + 1 ≤ i ∧ i ≤ n ∧ Hid (MatW wx B R n w (swapA ad r b) (sweepTo p c r i (swapR M r b))) ∧ Hid (Below B W wx)) (fun s10 _ => n - (intOf s10).toNat)
            case atStart => exact ⟨r + 1, by go_num, Nat.le_refl _, by omega, hid (by rw [sweepTo_none (Nat.le_refl _)]; exact HM2.out), HB2⟩
            case round =>
              clear HM2 HB2 cb fb cr fr cr2
              obtain ⟨i3, rfl, hri3, hin3, HM3, HB3⟩ := hrel
              by_cases hlt3 : i3 < n
              · have hi30 : (0 : Int) ≤ (i3 : Int) := by omega
                have hi31 : (i3 : Int) < (n : Int) := by omega
                have hc0 : (0 : Int) ≤ (c : Int) := by omega
                have c3 := (HM3.out.hd i3 hlt3).1
                have l2 : (swapR M r b).length = n := HG2.out.len
                have hrow : (sweepTo p c r i3 (swapR M r b))[i3]?.getD [] = (swapR M r b)[i3]?.getD [] := sweepTo_later (by rw [l2]; exact hlt3)
                have hown : (sweepTo p c r i3 (swapR M r b))[r]?.getD [] = (swapR M r b)[r]?.getD [] := sweepTo_pivot (by rw [l2]; exact hrn)
                have h1 := HM3.out.row i3 hlt3
                have h2 := HM3.out.row r hrn
                have hap := HM3.out.apart i3 r hlt3 hrn (by omega)
                have hbs := (HM3.out.base i3 hlt3).1
                rw [hrow] at h1
                rw [hown, Har] at h2
                rw [Har] at hap
                have l1 := HG2.out.rowLen hlt3
                have lo := HG2.out.rowLen hrn
                have hz4 := HZ2.out.1
                have r1 := HG2.out.rng _ (HG2.out.row hlt3)
                have r2 := HG2.out.rng _ (HG2.out.row hrn)
                have hsn := sweepTo_succ (p := p) (c := c) (r := r) (k := i3) (M := swapR M r b) (by omega)
                obtain ⟨row, hrw⟩ : ∃ row, row = (swapR M r b)[i3]?.getD [] := ⟨_, rfl⟩
                obtain ⟨own, how⟩ : ∃ own, own = (swapR M r b)[r]?.getD [] := ⟨_, rfl⟩
                rw [← hrw] at h1 l1 r1 hsn
                rw [← how] at h2 lo r2 hsn
                have hzo : ∀ j, j < c → own[j]?.getD 0 = 0 := fun j hj => by rw [how]; exact hz4 r j (Nat.le_refl _) (by rw [l2]; exact hrn) hj
                have hp := HP.out
                obtain ⟨cx, _⟩ := holds_at h1 (i := c) (by omega)
                obtain ⟨cy, _⟩ := holds_at h2 (i := c) (by omega)
                have rx := r1 _ (getD_memL (d := 0) (show c < row.length by omega))
                have ry := r2 _ (getD_memL (d := 0) (show c < own.length by omega))
                obtain ⟨x0, hx0⟩ : ∃ x, x = row[c]?.getD 0 := ⟨_, rfl⟩
                obtain ⟨y0, hy0⟩ : ∃ y, y = own[c]?.getD 0 := ⟨_, rfl⟩
                rw [← hx0] at cx rx
                rw [← hy0] at cy ry
                have hm := small_mul hp rx.1 rx.2 ry.1 ry.2
                obtain ⟨t, ht⟩ : ∃ t, t = (x0 * y0) % p := ⟨_, rfl⟩
                have hmul : IntKind.i64.wrap (x0 * y0) = x0 * y0 := IntWalk.i64_in _ (by omega)
                have hrem : (x0 * y0).tmod p = t := by rw [ht, Int.tmod_eq_emod_of_nonneg hm.1]
                have htr : 0 ≤ t ∧ t < p := by rw [ht]; exact mod_rng hp
                have hp0 : (p == 0) = false := by rcases hp with rfl | rfl <;> rfl
                have Hst := hid (part_start (p := p) l1 lo hzo r1 (by omega))
                have HX := hid hx0
                have HY := hid hy0
                have HT := hid ht
                have H1 := hid h1
                have H2 := hid h2
                have R1 := hid r1
                have R2 := hid r2
                have Hsn := hid hsn
                have Hap := hid hap
                have Hrow := hid hrow
                have HPp := hid hp
                clear hx0 hy0 ht h1 h2 r1 r2 hsn hap hrow hown hrw how hzo hz4 hp l2
                obtain ⟨w3, rfl⟩ : ∃ w3 : World, w3 = wr := ⟨_, rfl⟩
                go_wp2
                go_quiet (fail)
                go_wp2
                clear hmul hrem cx cy hm rx ry
                go_loopw [13] (fun s13 wx => ∃ (j m : Nat), s13 = .int .i64 j ∧ c ≤ j ∧ j ≤ w ∧ Aside (wx = putRow encI (Sort.ahead w3 m) (adr (swapA ad r b) i3).1 (adr (swapA ad r b) i3).2 (part p c row own j).toArray)) (fun s13 _ => w - (intOf s13).toNat)
                case atStart => exact ⟨c, nq, rfl, Nat.le_refl _, by omega, by rw [Hst.out]; exact (Sort.putRow_self encI _ _ _ _ (Sort.holds_ahead encI _ nq _ _ _ H1.out)).symm⟩
                case round =>
                  obtain ⟨j, m, rfl, hcj, hjw, A⟩ := hrel
                  by_cases hltj : j < w
                  · have hHk : Sort.Holds encI wr (adr (swapA ad r b) i3).1 (adr (swapA ad r b) i3).2 (part p c row own j).toArray := by rw [A.out]; exact Sort.holds_putRow encI _ _ _ _ _ (Sort.holds_ahead encI _ m _ _ _ H1.out) (by simp [part_len l1 lo hjw, l1])
                    obtain ⟨cq, fq⟩ := holds_at hHk (i := j) (by rw [part_len l1 lo hjw]; exact hltj)
                    rw [part_at l1 lo hltj] at cq
                    obtain ⟨cb0, _⟩ := holds_at H2.out (i := j) (by omega)
                    have cs : wr.cell? ⟨(adr ad b).1, (adr ad b).2 + j, none⟩ = some (.int .i64 (own[j]?.getD 0)) := by
                      rw [A.out, Sort.cell?_putRow_other _ _ _ _ _ _ (by have := Hap.out; simp [part_len l1 lo hjw]; omega)]
                      exact cb0
                    have hp := HPp.out
                    have ra := R1.out _ (getD_memL (d := 0) (show j < row.length by omega))
                    have rb := R2.out _ (getD_memL (d := 0) (show j < own.length by omega))
                    have hps := part_succ (p := p) (c := c) l1 lo hltj
                    have hpl := part_len (p := p) (c := c) l1 lo hjw
                    obtain ⟨aa, ha⟩ : ∃ a, a = row[j]?.getD 0 := ⟨_, rfl⟩
                    obtain ⟨bb, hb⟩ : ∃ b, b = own[j]?.getD 0 := ⟨_, rfl⟩
                    rw [← ha] at cq ra hps
                    rw [← hb] at cs rb hps
                    rw [← HX.out, ← HY.out, ← HT.out] at hps
                    have hm := small_mul' hp htr rb
                    obtain ⟨vv, hv⟩ : ∃ v, v = (aa + (p - t) * bb) % p := ⟨_, rfl⟩
                    rw [← hv] at hps
                    have hrem : (aa + (p - t) * bb).tmod p = vv := by rw [hv, Int.tmod_eq_emod_of_nonneg (by omega)]
                    have hadd : IntKind.i64.wrap (aa + (p - t) * bb) = aa + (p - t) * bb := IntWalk.i64_in _ (by omega)
                    have hmul : IntKind.i64.wrap ((p - t) * bb) = (p - t) * bb := IntWalk.i64_in _ (by omega)
                    have hsub : IntKind.i64.wrap (p - t) = p - t := IntWalk.i64_in _ (by omega)
                    have hj0 : (0 : Int) ≤ (j : Int) := by omega
                    have hj1 : (j : Int) < (w : Int) := by omega
                    have Hps := hid hps
                    have Hpl := hid hpl
                    clear hHk ha hb hv cb0 hm hps hpl hp
                    go_wp2_with fail
                    go_region
                    go_wp2
                    go_roundw
                    case measure => simp [intOf]; omega
                    case rel => exact ⟨j + 1, m + 1, by go_num, by omega, by omega, by rw [Hps.out, ← putRow_at _ _ _ _ _ _ _ (by rw [Hpl.out]; exact hltj), ← Sort.ahead_drew, ← Sort.putRow_drew, ← A.out]; rfl⟩
                  · obtain rfl : j = w := by omega
                    have hM4 : Hid (MatW wr B R n j (swapA ad r b) (sweepTo p c r (i3 + 1) (swapR M r b))) := hid (by
                      have := HM3.out.put hlt3 m (row := clr p c row own) (clr_len l1 lo)
                      rw [← Hsn.out] at this
                      rw [A.out, part_all l1 lo]
                      exact this)
                    have hB4 : Hid (Go.RowKit.Below B W wr) := hid (by rw [A.out]; exact below_put HB3.out m _ _ _ hbs)
                    clear hp0 htr
                    go_wp2
                    go_roundw
                    case rel => exact ⟨i3 + 1, by go_num, by omega, by omega, hM4, hB4⟩
                    case measure => simp [intOf]; omega
              · obtain rfl : i3 = n := by omega
                have HG4 := hid (sweepTo_good (c := c) (r := r) (k := i3) HG2.out (by rcases HP.out with h | h <;> omega) hrn)
                have HZ4 := hid (zeros_sweep HP.out HG2.out hrn HZ2.out.1 hlt HZ2.out.2)
                go_wp2
                go_roundw
                case rel => exact ⟨r + 1, c + 1, _, _, by go_num, by go_num, by omega, by omega, HM3, HG4, HZ4, HE2, HB3⟩
                case measure => simp [intOf]; omega
    · obtain rfl : c = w := by omega
      have He : Hid (E = r) := hid (by have := HE.out; rwa [Nat.sub_self] at this)
      go_wp2
      go_ret
      exact ⟨ret_int (by rw [He.out]), HB.out⟩

end Go.Proofs.Ythmhdfhjjpfbfaa
