import Derived.Test.YtbgkalkipalndaaDoorMC1
import Derived.Test.YtbgkalkipalndaaDoorMC3
/-! NamedComplex, on both sides. -/
namespace Go.Proofs.YtbgkalkipalndaaDoor
open Go.RowKit Go.Shelf

/-- What NamedComplex hands back. -/
def namedR (l : List UInt8) : Int × List Int × Int := ((rcC (nameT l)).1, (rcC (nameT l)).2.1, if (rcC (nameT l)).2.2 then 0 else 4)

set_option maxRecDepth 100000 in
theorem names_any (w : World) : Calls Tryd.prog 44 #[] w fun e w' => e = .returned (.slice (some ⟨w.heap.size, 0, none⟩) 11 11) ∧ w' = w.alloc (.cells (nameL.map strV).toArray 9) := by
  go_enter Tryd.func44, Tryd.ntmps44
  go_wp2_with fail
  go_ret
  exact ⟨rfl, rfl⟩

set_option maxRecDepth 100000 in
theorem known_any (w : World) : Calls Tryd.prog 45 #[] w fun e w' => e = .returned (.slice (some ⟨w.heap.size, 0, none⟩) 11 11) ∧ w' = w.alloc (.cells (knowL.map strV).toArray 9) := by
  go_enter Tryd.func45, Tryd.ntmps45
  go_wp2_with fail
  go_ret
  exact ⟨rfl, rfl⟩

theorem row_str {w w' : World} {L : List (List UInt8)} (h : w' = w.alloc (.cells (L.map strV).toArray 9)) (k : Nat) (hk : k < L.length) : w'.cell? ⟨w.heap.size, k, none⟩ = some (strV (L[k]?.getD [])) := by
  rw [h, World.cell?_alloc_mark]
  simp [List.getElem?_eq_getElem hk]

set_option maxRecDepth 100000 in
set_option maxHeartbeats 4000000 in
theorem namedS_any (l : List UInt8) (w : World) :
    Calls Tryd.prog 27 #[.string ⟨l.toArray⟩] w fun e w' => ∃ v, e = .returned (.tuple #[.agg #[.int .i64 (rcC (nameT l)).1, v], .bool (rcC (nameT l)).2.2]) ∧ Res w w' v (rcC (nameT l)).2.1 := by
  obtain ⟨W0, hW0⟩ : ∃ W0, W0 = w.alloc (.cells #[.int .i64 0, .slice none 0 0] 24) := ⟨_, rfl⟩
  have hB0 : Below w.heap.size w W0 := by rw [hW0]; exact (Below.refl _ w).alloc (Nat.le_refl _) _
  have HK := hid (show W0.heap[w.heap.size]? = some (.cells #[.int .i64 0, .slice none 0 0] 24 (0, 0)) by rw [hW0]; exact heap_alloc_new _ _)
  have HB0 := hid hB0
  have HW0 := hid hW0
  obtain ⟨s, hs⟩ : ∃ s : ByteArray, s = ⟨l.toArray⟩ := ⟨_, rfl⟩
  have Heq : Hid (∀ m : List UInt8, ((⟨m.toArray⟩ : ByteArray).toList == s.toList) = decide (m = l)) := hid (fun m => by
    rw [hs, ByteArray.toList_eq, ByteArray.toList_eq]
    by_cases h : m = l <;> simp [h])
  rw [← hs]
  clear hs hW0 hB0
  go_enter Tryd.func27, Tryd.ntmps27
  go_wp2_with fail
  rw [← HW0.out]
  refine (names_any W0).mono ?_
  rintro e w1 ⟨rfl, hw1⟩
  have Hw1 := hid hw1
  clear hw1
  go_wp2_with fail
  refine (known_any w1).mono ?_
  rintro e w2 ⟨rfl, hw2⟩
  have hw1 := Hw1.out
  have hs1 : w1.heap.size = W0.heap.size + 1 := by rw [hw1]; simp
  have hs2 : w2.heap.size = w1.heap.size + 1 := by rw [hw2]; simp
  have HN : Hid (∀ i, i < 11 → w2.cell? ⟨W0.heap.size, i, none⟩ = some (strV (nameL[i]?.getD []))) := hid (fun i hi => by
    have h1 := row_str hw1 i hi
    rw [hw2]
    exact ((Below.refl w1.heap.size w1).alloc (Nat.le_refl _) _).cell (p := ⟨W0.heap.size, i, none⟩) (by show W0.heap.size < w1.heap.size; omega) |>.trans h1)
  have HQ : Hid (∀ i, i < 11 → w2.cell? ⟨w1.heap.size, i, none⟩ = some (strV (knowL[i]?.getD []))) := hid (fun i hi => row_str hw2 i hi)
  have HB2 : Hid (Below w.heap.size w w2) := hid (by
    rw [hw2, hw1]
    exact (HB0.out.alloc HB0.out.size _).alloc (by simp; have := HB0.out.size; omega) _)
  have HK2 : Hid (w2.heap[w.heap.size]? = some (.cells #[.int .i64 0, .slice none 0 0] 24 (0, 0))) := hid (by
    rw [hw2, hw1]
    exact (Below.heap_alloc _ _ _ (by have := lt_get HK.out; simp; omega)).trans ((Below.heap_alloc _ _ _ (lt_get HK.out)).trans HK.out))
  clear hw1 hw2 hs1 hs2 Hw1
  go_wp2_with fail
  go_loopw [6] (fun iv wr => ∃ i : Nat, i ≤ 11 ∧ iv = .int .i64 i ∧ Hid (∀ j, j < i → nameL[j]?.getD [] ≠ l) ∧ Hid (wr = w2)) (fun iv _ => 11 - (RowKit.intOf iv).toNat)
  case atStart => exact ⟨0, by omega, rfl, hid (by omega), hid rfl⟩
  case round =>
    obtain ⟨i, hi, rfl, HJ, HW⟩ := hrel
    have hww : w2 = wr := HW.out.symm
    clear HW
    subst hww
    by_cases hlt : i < 11
    · have hni0 := HN.out i hlt
      have hqi0 := HQ.out i hlt
      have hi0 : (0 : Int) ≤ (i : Int) := by omega
      have hi1 : (i : Int) < 11 := by omega
      have hq := Heq.out (nameL[i]?.getD [])
      obtain ⟨nm, hnm⟩ : ∃ nm : ByteArray, nm = ⟨(nameL[i]?.getD []).toArray⟩ := ⟨_, rfl⟩
      have hni : w2.cell? ⟨W0.heap.size, i, none⟩ = some (.string nm) := by rw [hnm]; exact hni0
      rw [← hnm] at hq
      clear hnm hni0
      by_cases he : nameL[i]?.getD [] = l
      · rw [decide_eq_true he] at hq
        obtain ⟨n, S, hrc, hn1, hn6, hd0, hS, hSr, hSl, hK2, hK60⟩ := know_ok i hlt
        obtain ⟨K, hKe⟩ : ∃ K, K = knowL[i]?.getD [] := ⟨_, rfl⟩
        have HT : Hid (rcC (nameT l) = ((n : Int), madeL (n : Int) S, true)) := hid (by
          unfold rcC
          rw [← he, nameT_at i hlt, hrc])
        rw [← hKe] at hqi0 hrc hd0 hS hK2 hK60
        obtain ⟨P, hP⟩ : ∃ P, P = spl 44 (K.drop 2) := ⟨_, rfl⟩
        have hPn : 0 < P.length := by
          have := spl_ne 44 (K.drop 2)
          rw [← hP] at this
          exact List.length_pos_iff.2 this
        have hPl : P.length ≤ 60 := by rw [hP]; have := spl_len 44 (K.drop 2); simp at this; omega
        have HPp : Hid (∀ p ∈ P, p.length ≤ 9223372036854775807) := hid (fun p hp => by rw [hP] at hp; have := spl_piece 44 _ p hp; simp at this; omega)
        have HS : Hid (P.map (fun p => (((stSet n p).getD 0 : Nat) : Int)) = S) := hid (by rw [hP]; exact hS)
        have HSr := hid hSr
        obtain ⟨kb, hkb⟩ : ∃ kb : ByteArray, kb = ⟨K.toArray⟩ := ⟨_, rfl⟩
        have hkz : kb.size = K.length := by rw [hkb]; rfl
        have hcut : kb.extract 2 K.length = ⟨(K.drop 2).toArray⟩ := by
          rw [hkb, sp_cut, List.take_of_length_le (by simp)]
        have hqi : w2.cell? ⟨w1.heap.size, i, none⟩ = some (.string kb) := by rw [hkb]; exact hqi0
        have hqi2 : (w2.alloc (.cells #[] 2)).cell? ⟨w1.heap.size, i, none⟩ = some (.string kb) := ((Below.refl w2.heap.size w2).alloc (Nat.le_refl _) _).cell (p := ⟨w1.heap.size, i, none⟩) (World.block_lt_of_cell? w2 ⟨w1.heap.size, i, none⟩ hqi) |>.trans hqi
        have HOw := hid (World.ownsRow_made (base := w2.heap.size) (e := 2) (size := 1) w2 #[] 0 (Nat.le_refl _) (by simp [maxLen]) rfl)
        have HBw := hid (HB2.out.alloc HB2.out.size (.cells #[] 2))
        have HKw := hid ((Below.heap_alloc w2 (.cells #[] 2) _ (lt_get HK2.out)).trans HK2.out)
        have hix := idx_any K 0 (by omega)
        rw [hd0, ← hkb] at hix
        have e48 : ((48 + n : Nat) : Int) = 48 + (n : Int) := by omega
        have e00 : ((0 : Nat) : Int) = 0 := rfl
        rw [e48, e00] at hix
        have hsub : (48 : Int) + (n : Int) - 48 = (n : Int) := by omega
        have hv1 : (1 : Int) ≤ (n : Int) := by omega
        have hv6 : (n : Int) ≤ 6 := by omega
        have HSp := hid (fun W => splitS_any (K.drop 2) 44 (by simp; omega) W)
        rw [← hP, ← hcut] at HSp
        have hk2i : (2 : Int) ≤ (K.length : Int) := by omega
        clear hqi0 he hrc hd0 hS hSr hP hcut hkb hKe e48 e00 hK60 HN HQ
        go_wp2_with fail
        refine (HSp.out _).mono ?_
        rintro e w3 ⟨v, rfl, hown, hB⟩
        have h3 := hown.2
        rcases h3 with ⟨_, h0⟩ | ⟨g, cap, cur, rfl, hgb0, hg, _⟩
        · exact absurd h0 (by omega)
        have HB3 := hid (HBw.out.trans (hB.mono HBw.out.size))
        have HC3 : Hid (∀ k, k < P.length → w3.cell? ⟨g, k, none⟩ = some (.string ⟨(P[k]?.getD []).toArray⟩)) := hid (fun k hk => by
          have h := hown.cells (g := g) rfl k (strV (P[k]?.getD [])) (by simp [List.getElem?_eq_getElem hk])
          have hadd : (⟨g, 0, none⟩ : Addr).add k = ⟨g, k, none⟩ := by unfold Addr.add; split <;> simp_all
          rw [hadd] at h
          exact h)
        have hgl := (Array.getElem?_eq_some_iff.1 hg).1
        have hgb : Hid (w2.heap.size + 1 ≤ g) := hid (by simpa using hgb0)
        have HB23 := hid (((Below.refl w2.heap.size w2).alloc (Nat.le_refl _) (.cells #[] 2)).trans (hB.mono (by simp)))
        have HO3 := hid (ownsRow_below HOw.out hB (fun g hg => (HOw.out.lt g hg).2))
        clear hown hB hg hgb0 hni hqi hqi2 hq hix hsub hk2i hkz
        go_wp2_with fail
        go_loopw [8, 10] (fun sv jv wx => ∃ j : Nat, j ≤ P.length ∧ jv = .int .i64 j ∧ wx.ownsRow w2.heap.size 2 1 sv ((P.take j).map (fun p => (((stSet n p).getD 0 : Nat) : Int))).length (((P.take j).map (fun p => (((stSet n p).getD 0 : Nat) : Int))).map (Value.int .i64)) ∧
            Hid (sv.ownBlock ≠ some g) ∧ Hid (g < wx.heap.size ∧ ∀ k, k < P.length → wx.cell? ⟨g, k, none⟩ = some (.string ⟨(P[k]?.getD []).toArray⟩)) ∧ Below w2.heap.size w2 wx) (fun _ jv _ => P.length - (RowKit.intOf jv).toNat)
        case atStart => exact ⟨0, Nat.zero_le _, rfl, by simpa using HO3.out, hid (by simp [Value.ownBlock]; have := hgb.out; omega), hid ⟨hgl, HC3.out⟩, HB23.out⟩
        case round =>
          obtain ⟨j, hj, rfl, hown, HNe, HCx, hB⟩ := hrel
          have HB := hid hB
          have hsz3 := hB.size
          have hjl : ((P.take j).map (fun p => (((stSet n p).getD 0 : Nat) : Int))).length ≤ 1099511627776 := by simp; omega
          by_cases hltj : j < P.length
          · obtain ⟨p, hp⟩ : ∃ p, p = P[j]?.getD [] := ⟨_, rfl⟩
            have hpm : p ∈ P := by rw [hp, List.getElem?_eq_getElem hltj]; exact List.getElem_mem hltj
            have hck : wr.cell? ⟨g, j, none⟩ = some (.string ⟨p.toArray⟩) := by rw [hp]; exact HCx.out.2 j hltj
            have Hset := hid (fun W => set_any p n (by omega) (by omega) (HPp.out p hpm) W)
            have Hsn : Hid ((P.take (j + 1)).map (fun p => (((stSet n p).getD 0 : Nat) : Int)) = (P.take j).map (fun p => (((stSet n p).getD 0 : Nat) : Int)) ++ [(((stSet n p).getD 0 : Nat) : Int)]) := hid (by
              rw [List.take_succ_eq_append_getElem hltj, List.map_append, hp, List.getElem?_eq_getElem hltj]
              rfl)
            obtain ⟨x, hx⟩ : ∃ x : Nat, x = (stSet n p).getD 0 := ⟨_, rfl⟩
            rw [← hx] at Hset Hsn
            obtain ⟨ok, hok⟩ : ∃ ok, ok = (stSet n p).isSome := ⟨_, rfl⟩
            rw [← hok] at Hset
            have hj0 : (0 : Int) ≤ (j : Int) := by omega
            have hj1 : (j : Int) < (P.length : Int) := by omega
            clear hB hp hpm hx hok
            go_wp2_with fail
            refine (Hset.out _).mono ?_
            rintro e w5 ⟨rfl, rfl⟩
            go_wp2_with (first
              | (at_builtin; refine app_at rfl rfl hown hsz3 hjl rfl rfl ?_; intro v' w6 hown6 hgrow6 hat6 hB6)
              | fail)
            go_roundw
            case rel =>
              refine ⟨j + 1, by omega, by go_num, by rw [Hsn.out]; exact hown6, hid ?_, hid ⟨Nat.lt_of_lt_of_le HCx.out.1 hgrow6.size, fun k hk => ?_⟩, HB.out.trans hB6⟩
              · rcases hat6 with h | h
                · rw [h]; exact HNe.out
                · rw [h]
                  intro e
                  have := HCx.out.1
                  cases e
                  omega
              · have hb := hgrow6.block g HCx.out.1 (fun e => HNe.out e.symm)
                have hck6 := HCx.out.2 k hk
                simp only [World.cell?] at hck6 ⊢
                rw [hb]
                exact hck6
            case measure => simp [RowKit.intOf]; omega
          · obtain rfl : j = P.length := by omega
            rw [List.take_length, HS.out] at hown
            obtain ⟨_, av, cv, rfl, hSl2⟩ := ownsRow_slI hown
            have hk4 := (HB.out.block _ (lt_get HK2.out)).trans HK2.out
            have HB4 := hid (HB2.out.trans (HB.out.mono HB2.out.size))
            go_wp2_with fail
            refine (madeS_any (n : Int) av cv S wr hSl2 (by omega) hv1 hv6 (fun x hx => ⟨(HSr.out x hx).1, by have := (HSr.out x hx).2; have := allV_le hv6; omega⟩)).mono ?_
            rintro e w5 ⟨v5, rfl, hr5⟩
            obtain ⟨_, av5, cv5, rfl, _⟩ := ownsRow_slI hr5.1
            have hk5 := (hr5.2.block _ (lt_get hk4)).trans hk4
            obtain ⟨k0, k1, g0, g1⟩ := two_of hk5
            have HK5 := hid hk5
            clear hk5 hk4
            go_wp2_with fail
            (try simp only [Exit.inBlock, Exit.then])
            have R3 := two_of (two_set HK5.out (.int .i64 (n : Int)) (.slice av5 (madeL (n : Int) S).length cv5))
            exact done_cx (p := 2) (u := 3) (by kernel_rfl) rfl rfl R3.1 R3.2.1 rfl ⟨_, by rw [HT.out]; rfl, by rw [HT.out]; exact (hr5.later HB4.out).set2 HK5.out (by decide) (Nat.le_refl _) _ _⟩
      · rw [decide_eq_false he] at hq
        have HJ2 : Hid (∀ j, j < i + 1 → nameL[j]?.getD [] ≠ l) := hid (fun j hj => by
          by_cases h : j < i
          · exact HJ.out j h
          · obtain rfl : j = i := by omega
            exact he)
        clear he hqi0
        go_wp2_with fail
        go_roundw
        case rel => exact ⟨i + 1, by omega, by go_num, HJ2.out, trivial⟩
        case measure => simp [RowKit.intOf]; omega
    · obtain rfl : i = 11 := by omega
      have HT : Hid (rcC (nameT l) = (0, [], false)) := hid (by rw [nameT_no (fun j hj => HJ.out j hj)]; rfl)
      obtain ⟨k0, k1, g0, g1⟩ := two_of HK2.out
      go_wp2_with fail
      (try simp only [Exit.inBlock, Exit.then])
      have R3 := two_of (two_set HK2.out (.int .i64 0) (.slice none 0 0))
      exact done_cx (p := 2) (u := 3) (by kernel_rfl) rfl rfl R3.1 R3.2.1 rfl ⟨_, by rw [HT.out]; rfl, by rw [HT.out]; exact (res_nil _ _ HB2.out).set2 HK2.out (by decide) (Nat.le_refl _) _ _⟩

theorem rcR_le {l : List UInt8} {n : Nat} {S : List Int} (h : rcR l = some (n, S)) : n ≤ 6 := by
  match l, h with
  | d :: c :: r, h =>
    rw [rcR_cons] at h
    by_cases hc : (49 ≤ d.toNat ∧ d.toNat ≤ 54) ∧ c = 58
    · rw [if_pos hc] at h
      by_cases hr : r = []
      · rw [if_pos hr] at h; cases h; omega
      · rw [if_neg hr] at h
        cases hs : setsOf (rdSet (d.toNat - 48)) (spl 44 r) with
        | none => rw [hs] at h; cases h
        | some T => rw [hs] at h; cases h; omega
    · rw [if_neg hc] at h; cases h

theorem rcC_len (l : List UInt8) : (rcC l).2.1.length ≤ 1048576 := by
  unfold rcC
  cases hr : rcR l with
  | none => simp
  | some p =>
    obtain ⟨n, S⟩ := p
    have hn := rcR_le hr
    have h1 := allV_le (V := (n : Int)) (by omega)
    have h2 := pickTo_len (madeP S) (allV (n : Int)).toNat
    show (madeL (n : Int) S).length ≤ 1048576
    unfold madeL
    omega

theorem namedR_len (l : List UInt8) : (namedR l).2.1.length ≤ 1048576 := rcC_len (nameT l)

theorem knowL_len : ∀ x ∈ knowL, x.length ≤ 60 := by decide +kernel
theorem nameT_len (l : List UInt8) : (nameT l).length ≤ 60 := by
  unfold nameT
  cases nameL.findIdx? (· = l) with
  | none => simp
  | some i =>
    cases hk : knowL[i]? with
    | none => simp [hk]
    | some x => simpa [hk] using knowL_len x (List.mem_of_getElem? hk)

theorem rcC_false {l : List UInt8} (h : (rcC l).2.2 = false) : rcC l = (0, [], false) := by
  unfold rcC at h ⊢
  cases hr : rcR l with
  | none => rfl
  | some p => rw [hr] at h; cases h

set_option maxRecDepth 100000 in
set_option maxHeartbeats 1000000 in
theorem specNamedComplex (l : List UInt8) (w : World) :
    Calls Tryd.prog 12 #[.string ⟨l.toArray⟩] w fun e w' => ∃ v, e = .returned (.tuple #[.agg #[.int .i64 (namedR l).1, v], .int .i64 (namedR l).2.2]) ∧ Res w w' v (namedR l).2.1 := by
  obtain ⟨W0, hW0⟩ : ∃ W0, W0 = w.alloc (.cells #[.int .i64 0, .slice none 0 0] 24) := ⟨_, rfl⟩
  have hB0 : Below w.heap.size w W0 := by rw [hW0]; exact (Below.refl _ w).alloc (Nat.le_refl _) _
  have HK := hid (show W0.heap[w.heap.size]? = some (.cells #[.int .i64 0, .slice none 0 0] 24 (0, 0)) by rw [hW0]; exact heap_alloc_new _ _)
  have HB0 := hid hB0
  have HW0 := hid hW0
  have HC := hid (namedS_any l W0)
  have HF := hid (rcC_false (l := nameT l))
  have HN : Hid (namedR l = ((rcC (nameT l)).1, (rcC (nameT l)).2.1, if (rcC (nameT l)).2.2 then 0 else 4)) := hid rfl
  obtain ⟨R, hR⟩ : ∃ R, R = rcC (nameT l) := ⟨_, rfl⟩
  rw [← hR] at HF HN HC
  obtain ⟨V, xs, ok⟩ := R
  clear hW0 hB0 hR
  cases ok
  · have hf := HF.out rfl
    cases hf
    rw [HN.out]
    go_enter Tryd.func12, Tryd.ntmps12
    go_wp2_with fail
    rw [← HW0.out]
    refine HC.out.mono ?_
    rintro e w1 ⟨v, rfl, hr⟩
    obtain ⟨_, av, cv, rfl, _⟩ := ownsRow_slI hr.1
    have hk1 := (hr.2.block _ (lt_get HK.out)).trans HK.out
    obtain ⟨k0, k1, g0, g1⟩ := two_of hk1
    have HB1 := hid (HB0.out.trans (hr.2.mono HB0.out.size))
    have hB2 := HB1.out.alloc HB1.out.size (.cells #[.int .i64 0, .slice av 0 cv] 24)
    have hk2 := (Below.heap_alloc w1 (.cells #[.int .i64 0, .slice av 0 cv] 24) _ (lt_get hk1)).trans hk1
    have HB2 := hid hB2
    have HK2 := hid hk2
    obtain ⟨j0, j1, h0, h1⟩ := two_of hk2
    clear hB2 hk2 hk1
    go_wp2_with fail
    (try simp only [Exit.inBlock, Exit.then])
    have R3 := two_of (two_set HK2.out (.int .i64 0) (.slice none 0 0))
    exact done_cx (p := 2) (u := 3) (by kernel_rfl) rfl rfl R3.1 R3.2.1 rfl ⟨_, rfl, (res_nil _ _ HB2.out).set2 HK2.out (by decide) (Nat.le_refl _) _ _⟩
  · rw [HN.out]
    go_enter Tryd.func12, Tryd.ntmps12
    go_wp2_with fail
    rw [← HW0.out]
    refine HC.out.mono ?_
    rintro e w1 ⟨v, rfl, hr⟩
    obtain ⟨_, av, cv, rfl, _⟩ := ownsRow_slI hr.1
    have hk1 := (hr.2.block _ (lt_get HK.out)).trans HK.out
    obtain ⟨k0, k1, g0, g1⟩ := two_of hk1
    have HB1 := hid (HB0.out.trans (hr.2.mono HB0.out.size))
    have hB2 := HB1.out.alloc HB1.out.size (.cells #[.int .i64 V, .slice av xs.length cv] 24)
    have hk2 := (Below.heap_alloc w1 (.cells #[.int .i64 V, .slice av xs.length cv] 24) _ (lt_get hk1)).trans hk1
    have HB2 := hid hB2
    have HK2 := hid hk2
    obtain ⟨j0, j1, h0, h1⟩ := two_of hk2
    clear hB2 hk2 hk1
    go_wp2_with fail
    (try simp only [Exit.inBlock, Exit.then])
    have R3 := two_of (two_set HK2.out (.int .i64 V) (.slice av xs.length cv))
    exact done_cx (p := 2) (u := 3) (by kernel_rfl) rfl rfl R3.1 R3.2.1 rfl ⟨_, rfl, ((hr.later HB0.out).after ((Below.refl _ w1).alloc (Nat.le_refl _) _)).set2 HK2.out (by decide) (Nat.le_refl _) _ _⟩

set_option maxRecDepth 100000 in
set_option maxHeartbeats 1000000 in
theorem implNamedComplex (l : List UInt8) (w : World) (m : Int) (hm : w.cell? ⟨1, 0, none⟩ = some (.int .i64 m)) :
    Calls Tryd.prog 13 #[.string ⟨l.toArray⟩] w fun e w' => ∃ v, e = .returned (.tuple #[.agg #[.int .i64 (namedR l).1, v], .int .i64 (namedR l).2.2]) ∧ Res w w' v (namedR l).2.1 := by
  obtain ⟨W0, hW0⟩ : ∃ W0, W0 = w.alloc (.cells #[.int .i64 0, .slice none 0 0] 24) := ⟨_, rfl⟩
  have hB0 : Below w.heap.size w W0 := by rw [hW0]; exact (Below.refl _ w).alloc (Nat.le_refl _) _
  have HK := hid (show W0.heap[w.heap.size]? = some (.cells #[.int .i64 0, .slice none 0 0] 24 (0, 0)) by rw [hW0]; exact heap_alloc_new _ _)
  have HB0 := hid hB0
  have HW0 := hid hW0
  have HC := hid (readC_any (nameT l) m W0 (Nat.le_trans (nameT_len l) (by decide)) ((HB0.out.cell (p := ⟨1, 0, none⟩) (World.block_lt_of_cell? w _ hm)).trans hm))
  have HNs := hid (namedSets_any l W0)
  clear hm
  have HF := hid (rcC_false (l := nameT l))
  have HN : Hid (namedR l = ((rcC (nameT l)).1, (rcC (nameT l)).2.1, if (rcC (nameT l)).2.2 then 0 else 4)) := hid rfl
  obtain ⟨R, hR⟩ : ∃ R, R = rcC (nameT l) := ⟨_, rfl⟩
  rw [← hR] at HF HN HC
  obtain ⟨V, xs, ok⟩ := R
  clear hW0 hB0 hR
  cases ok
  · have hf := HF.out rfl
    cases hf
    rw [HN.out]
    go_enter Tryd.func13, Tryd.ntmps13
    go_wp2_with fail
    rw [← HW0.out]
    refine HNs.out.mono ?_
    rintro e w0 ⟨rfl, rfl⟩
    go_wp2_with fail
    refine HC.out.mono ?_
    rintro e w1 ⟨v, rfl, hr⟩
    obtain ⟨_, av, cv, rfl, _⟩ := ownsRow_slI hr.1
    have hk1 := (hr.2.block _ (lt_get HK.out)).trans HK.out
    obtain ⟨k0, k1, g0, g1⟩ := two_of hk1
    have HB1 := hid (HB0.out.trans (hr.2.mono HB0.out.size))
    have hB2 := HB1.out.alloc HB1.out.size (.cells #[.int .i64 0, .slice av 0 cv] 24)
    have hk2 := (Below.heap_alloc w1 (.cells #[.int .i64 0, .slice av 0 cv] 24) _ (lt_get hk1)).trans hk1
    have HB2 := hid hB2
    have HK2 := hid hk2
    obtain ⟨j0, j1, h0, h1⟩ := two_of hk2
    clear hB2 hk2 hk1
    go_wp2_with fail
    (try simp only [Exit.inBlock, Exit.then])
    have R3 := two_of (two_set HK2.out (.int .i64 0) (.slice none 0 0))
    exact done_cx (p := 2) (u := 3) (by kernel_rfl) rfl rfl R3.1 R3.2.1 rfl ⟨_, rfl, (res_nil _ _ HB2.out).set2 HK2.out (by decide) (Nat.le_refl _) _ _⟩
  · rw [HN.out]
    go_enter Tryd.func13, Tryd.ntmps13
    go_wp2_with fail
    rw [← HW0.out]
    refine HNs.out.mono ?_
    rintro e w0 ⟨rfl, rfl⟩
    go_wp2_with fail
    refine HC.out.mono ?_
    rintro e w1 ⟨v, rfl, hr⟩
    obtain ⟨_, av, cv, rfl, _⟩ := ownsRow_slI hr.1
    have hk1 := (hr.2.block _ (lt_get HK.out)).trans HK.out
    obtain ⟨k0, k1, g0, g1⟩ := two_of hk1
    have HB1 := hid (HB0.out.trans (hr.2.mono HB0.out.size))
    have hB2 := HB1.out.alloc HB1.out.size (.cells #[.int .i64 V, .slice av xs.length cv] 24)
    have hk2 := (Below.heap_alloc w1 (.cells #[.int .i64 V, .slice av xs.length cv] 24) _ (lt_get hk1)).trans hk1
    have HB2 := hid hB2
    have HK2 := hid hk2
    obtain ⟨j0, j1, h0, h1⟩ := two_of hk2
    clear hB2 hk2 hk1
    go_wp2_with fail
    (try simp only [Exit.inBlock, Exit.then])
    have R3 := two_of (two_set HK2.out (.int .i64 V) (.slice av xs.length cv))
    exact done_cx (p := 2) (u := 3) (by kernel_rfl) rfl rfl R3.1 R3.2.1 rfl ⟨_, rfl, ((hr.later HB0.out).after ((Below.refl _ w1).alloc (Nat.le_refl _) _)).set2 HK2.out (by decide) (Nat.le_refl _) _ _⟩

end Go.Proofs.YtbgkalkipalndaaDoor

/-! Texts of complexes, read by the model: the mathematics. -/
namespace Go.Proofs.YtbgkalkipalndaaDoor
open Go.RowKit Go.Shelf

theorem join_spl (c : UInt8) : ∀ l : List UInt8, Lib.join (spl c l) [c] = l
  | [] => by simp [spl, Lib.join_one]
  | b :: l => by
    have ih := join_spl c l
    unfold spl
    by_cases h : b = c
    · rw [if_pos h]
      cases hs : spl c l with
      | nil => exact absurd hs (spl_ne c l)
      | cons x t => rw [join_cons2, ← hs, ih, h]; rfl
    · rw [if_neg h]
      cases hs : spl c l with
      | nil => exact absurd hs (spl_ne c l)
      | cons x t =>
        rw [hs] at ih
        cases t with
        | nil => rw [Lib.join_one] at ih; rw [← ih]; simp [Lib.join_one]
        | cons y r => rw [join_cons2] at ih; rw [← ih]; simp [join_cons2]

theorem u8_of (n : Nat) (h : n < 256) : (UInt8.ofNat n).toNat = n := by
  have : ∀ k : Fin 256, (UInt8.ofNat k.val).toNat = k.val := by decide +kernel
  exact this ⟨n, h⟩

theorem valF_ge : ∀ (l : List UInt8) (x y : Nat), valF x l = some y → x * 10 ^ l.length ≤ y
  | [], x, y, h => by cases h; simp
  | b :: l, x, y, h => by
    unfold valF at h
    by_cases hb : 48 ≤ b.toNat ∧ b.toNat ≤ 57
    · rw [if_pos hb] at h
      have ih := valF_ge l _ y h
      refine Nat.le_trans ?_ ih
      rw [List.length_cons, Nat.pow_succ]
      have h2 : x * (10 ^ l.length * 10) = x * 10 * 10 ^ l.length := by rw [Nat.mul_comm (10 ^ l.length), Nat.mul_assoc]
      rw [h2]
      exact Nat.mul_le_mul_right _ (by omega)
    · rw [if_neg hb] at h; cases h

theorem numN_small {a : List UInt8} {n : Nat} (h : numN a = some n) (h1 : 1 ≤ n) (h6 : n ≤ 6) : a = [UInt8.ofNat (48 + n)] := by
  unfold numN at h
  split at h
  · cases h
  next hc =>
    match a, hc, h with
    | [], hc, _ => exact absurd (.inl rfl) hc
    | [b], _, h =>
      unfold valF at h
      by_cases hb : 48 ≤ b.toNat ∧ b.toNat ≤ 57
      · rw [if_pos hb] at h
        simp only [valF, Option.some.injEq] at h
        congr 1
        apply UInt8.toNat_inj.1
        rw [u8_of _ (by omega)]
        omega
      · rw [if_neg hb] at h; cases h
    | b :: b2 :: r, hc, h =>
      exfalso
      unfold valF at h
      by_cases hb : 48 ≤ b.toNat ∧ b.toNat ≤ 57
      · rw [if_pos hb] at h
        have hb48 : b.toNat ≠ 48 := fun e => hc (.inr (.inr ⟨by simp, by simpa using e⟩))
        have hge := valF_ge (b2 :: r) _ _ h
        rw [List.length_cons, Nat.pow_succ] at hge
        have hp : 1 ≤ 10 ^ r.length := Nat.pos_of_ne_zero (by simp)
        have : 1 * (1 * 10) ≤ (0 * 10 + (b.toNat - 48)) * (10 ^ r.length * 10) := Nat.mul_le_mul (by omega) (Nat.mul_le_mul_right _ hp)
        omega
      · rw [if_neg hb] at h; cases h

theorem numN_one (n : Nat) (h1 : 1 ≤ n) (h6 : n ≤ 6) : numN [UInt8.ofNat (48 + n)] = some n := by
  rcases (show n = 1 ∨ n = 2 ∨ n = 3 ∨ n = 4 ∨ n = 5 ∨ n = 6 by omega) with rfl | rfl | rfl | rfl | rfl | rfl <;> decide

/-- A text of a complex, read by the model. -/
def rdM (l : List UInt8) : Option (Nat × List Int) := match spl 58 l with
  | [a, b] => match numN a with
    | some n => if 1 ≤ n ∧ n ≤ 6 then (if b = [] then some (n, []) else match setsOf (stSet n) (spl 44 b) with | some S => some (n, S) | none => none) else none
    | none => none
  | _ => none

theorem rdM_rcR {l : List UInt8} {n : Nat} {S : List Int} (h : rdM l = some (n, S)) : rcR l = some (n, S) ∧ 1 ≤ n ∧ n ≤ 6 := by
  unfold rdM at h
  have hj := join_spl 58 l
  split at h
  · next a b hs =>
    cases hn : numN a with
    | none => rw [hn] at h; cases h
    | some m =>
      rw [hn] at h
      have h : (if 1 ≤ m ∧ m ≤ 6 then (if b = [] then some (m, []) else match setsOf (stSet m) (spl 44 b) with | some S => some (m, S) | none => none) else none) = some (n, S) := h
      by_cases hm : 1 ≤ m ∧ m ≤ 6
      · rw [if_pos hm] at h
        have ha := numN_small hn hm.1 hm.2
        rw [hs, join_cons2, Lib.join_one, ha] at hj
        rw [← hj]
        show rcR (UInt8.ofNat (48 + m) :: 58 :: b) = _ ∧ _
        have hd : (UInt8.ofNat (48 + m)).toNat = 48 + m := u8_of _ (by omega)
        rw [rcR_cons, if_pos ⟨⟨by omega, by omega⟩, rfl⟩, hd, Nat.add_sub_cancel_left]
        by_cases hb : b = []
        · rw [if_pos hb] at h ⊢
          cases h
          exact ⟨rfl, hm⟩
        · rw [if_neg hb] at h ⊢
          cases hS : setsOf (stSet m) (spl 44 b) with
          | none => rw [hS] at h; cases h
          | some T =>
            rw [hS] at h
            cases h
            rw [sets_mono (fun p x => st_rd) _ _ hS]
            exact ⟨rfl, hm⟩
      · rw [if_neg hm] at h; cases h
  · cases h

theorem dig_bytes : ∀ f < 64, ∀ b ∈ digK f 6, b ≠ 58 ∧ b ≠ 44 := by decide +kernel

theorem join_free {c : UInt8} (hc : c ≠ 44) : ∀ (xs : List (List UInt8)), (∀ x ∈ xs, ∀ b ∈ x, b ≠ c) → ∀ b ∈ Lib.join xs [44], b ≠ c
  | [], _, b, hb => by simp [Lib.join_nil] at hb
  | [x], h, b, hb => by rw [Lib.join_one] at hb; exact h x (by simp) b hb
  | x :: y :: r, h, b, hb => by
    rw [join_cons2] at hb
    rcases List.mem_append.1 hb with hb | hb
    · exact h x (by simp) b hb
    · rcases List.mem_append.1 hb with hb | hb
      · simp at hb; rw [hb]; exact fun e => hc e.symm
      · exact join_free hc (y :: r) (fun z hz => h z (by simp [hz])) b hb

/-- What a text of facets is read as by the model. -/
theorem rdM_text {n : Nat} (h1 : 1 ≤ n) (h6 : n ≤ 6) {F : List Int} (hF : ∀ x ∈ F, 1 ≤ x ∧ x < 2 ^ n) : rdM (textL (n : Int) F) = some (n, F) := by
  have h64 : (2 : Int) ^ n ≤ 64 := by
    have : (2 : Nat) ^ n ≤ 2 ^ 6 := Nat.pow_le_pow_right (by decide) h6
    have h2 : ((2 ^ n : Nat) : Int) ≤ 64 := by omega
    simpa using h2
  have hd : ∀ d ∈ F.map digL, ∀ b ∈ d, b ≠ 58 ∧ b ≠ 44 := by
    intro d hd b hb
    obtain ⟨x, hx, rfl⟩ := List.mem_map.1 hd
    have := hF x hx
    exact dig_bytes x.toNat (by omega) b hb
  have hs : spl 58 (textL (n : Int) F) = [[UInt8.ofNat (48 + n)], Lib.join (F.map digL) [44]] := by
    unfold textL
    rw [Int.toNat_natCast]
    have := spl_at 58 [UInt8.ofNat (48 + n)] (Lib.join (F.map digL) [44]) (by
      intro b hb
      simp at hb
      rw [hb]
      rcases (show n = 1 ∨ n = 2 ∨ n = 3 ∨ n = 4 ∨ n = 5 ∨ n = 6 by omega) with rfl | rfl | rfl | rfl | rfl | rfl <;> decide)
    rw [List.singleton_append] at this
    rw [this, spl_free 58 _ (join_free (by decide) _ (fun x hx b hb => (hd x hx b hb).1))]
  unfold rdM
  rw [hs]
  simp only [numN_one n h1 h6, if_pos (And.intro h1 h6)]
  by_cases he : F = []
  · subst he
    simp [Lib.join_nil]
  · have hne : Lib.join (F.map digL) [44] ≠ [] := by
      intro h
      cases F with
      | nil => exact he rfl
      | cons x t =>
        have hx := hF x (by simp)
        have hdx : digL x = [] := by
          cases t with
          | nil => rw [List.map_cons, List.map_nil, Lib.join_one] at h; exact h
          | cons y r => rw [List.map_cons, List.map_cons, join_cons2] at h; exact (List.append_eq_nil_iff.1 h).1
        have hdk : ∀ f < 64, f ≠ 0 → digK f 6 ≠ [] := by decide +kernel
        exact hdk x.toNat (by omega) (by omega) hdx
    rw [if_neg hne, spl_join 44 _ (by simpa using he) (fun x hx b hb => (hd x hx b hb).2), sets_dig h6 F hF]

/-- What ParseComplex hands back, by what was read. -/
def parseW (o : Option (Nat × List Int)) (l : List UInt8) : Int × List Int × Int := match o with
  | some (n, S) => if textL (n : Int) (facetsL (madeL (n : Int) S)) = l then ((n : Int), madeL (n : Int) S, 0) else (0, [], 6)
  | none => (0, [], 6)
def parseR (l : List UInt8) : Int × List Int × Int := parseW (rcR l) l

theorem made_range2 {n : Nat} (h6 : n ≤ 6) (S : List Int) : ∀ x ∈ facetsL (madeL (n : Int) S), 1 ≤ x ∧ x < 2 ^ n := by
  intro x hx
  have hx := (List.mem_filter.1 hx).1
  unfold madeL at hx
  rw [mem_pickTo] at hx
  have ha : allV (n : Int) = (2 : Int) ^ n - 1 := by
    rcases (show n = 0 ∨ n = 1 ∨ n = 2 ∨ n = 3 ∨ n = 4 ∨ n = 5 ∨ n = 6 by omega) with rfl | rfl | rfl | rfl | rfl | rfl | rfl <;> decide
  have hp : (1 : Int) ≤ 2 ^ n := by
    rcases (show n = 0 ∨ n = 1 ∨ n = 2 ∨ n = 3 ∨ n = 4 ∨ n = 5 ∨ n = 6 by omega) with rfl | rfl | rfl | rfl | rfl | rfl | rfl <;> decide
  rw [ha] at hx
  generalize (2 : Int) ^ n = q at *
  omega

theorem rcR_ge {l : List UInt8} {n : Nat} {S : List Int} (h : rcR l = some (n, S)) : 1 ≤ n := by
  match l, h with
  | d :: c :: r, h =>
    rw [rcR_cons] at h
    by_cases hc : (49 ≤ d.toNat ∧ d.toNat ≤ 54) ∧ c = 58
    · rw [if_pos hc] at h
      by_cases hr : r = []
      · rw [if_pos hr] at h; cases h; omega
      · rw [if_neg hr] at h
        cases hs : setsOf (rdSet (d.toNat - 48)) (spl 44 r) with
        | none => rw [hs] at h; cases h
        | some T => rw [hs] at h; cases h; omega
    · rw [if_neg hc] at h; cases h

/-- Lenient reading and strict reading give the same complexes. -/
theorem parse_same (l : List UInt8) : parseW (rdM l) l = parseR l := by
  unfold parseR
  cases hm : rdM l with
  | some p => rw [(rdM_rcR (n := p.1) (S := p.2) hm).1]
  | none =>
    cases hr : rcR l with
    | none => rfl
    | some p =>
      obtain ⟨n, S⟩ := p
      have h6 := rcR_le hr
      have h1 := rcR_ge hr
      unfold parseW
      simp only
      rw [if_neg]
      intro he
      have := rdM_text h1 h6 (made_range2 h6 S)
      rw [he, hm] at this
      cases this

theorem parseR_len (l : List UInt8) : (parseR l).2.1.length ≤ 1048576 := by
  unfold parseR parseW
  cases hr : rcR l with
  | none => simp
  | some p =>
    obtain ⟨n, S⟩ := p
    have hn := rcR_le hr
    have h1 := allV_le (V := (n : Int)) (by omega)
    have h2 := pickTo_len (madeP S) (allV (n : Int)).toNat
    simp only
    split
    · show (madeL (n : Int) S).length ≤ 1048576
      unfold madeL
      omega
    · simp

theorem isC_made {n : Nat} (h1 : 1 ≤ n) (h6 : n ≤ 6) (S : List Int) : IsC (n : Int) (madeL (n : Int) S) where
  lo := by omega
  hi := by omega
  range := fun x hx => by
    unfold madeL at hx
    rw [mem_pickTo] at hx
    have := allV_le (V := (n : Int)) (by omega)
    omega
  asc := pickTo_asc _ _
  closed := fun x hx p hp0 hp => by
    unfold madeL at hx ⊢
    rw [mem_pickTo] at hx ⊢
    have hle := and_le_left' _ _ hp
    refine ⟨by omega, by omega, ?_⟩
    obtain ⟨s, hs, hx2⟩ := List.any_eq_true.1 hx.2.2
    refine List.any_eq_true.2 ⟨s, hs, ?_⟩
    simp only [decide_eq_true_eq, Int.toNat_natCast] at hx2 ⊢
    rw [← hp, Nat.and_assoc, hx2]

end Go.Proofs.YtbgkalkipalndaaDoor

/-! ParseComplex: l01Read, and both doors. -/
namespace Go.Proofs.YtbgkalkipalndaaDoor
open Go.RowKit Go.Shelf

/-- What l01Read hands back. -/
def rmC (l : List UInt8) : Int × List Int × Bool := match rdM l with
  | some (n, S) => ((n : Int), madeL (n : Int) S, decide (textL (n : Int) (facetsL (madeL (n : Int) S)) = l))
  | none => (0, [], false)

theorem rdM_len {l : List UInt8} (h : (spl 58 l).length ≠ 2) : rdM l = none := by
  unfold rdM
  split
  · next a b hs => rw [hs] at h; exact absurd rfl h
  · rfl
theorem rdM_two {l a b : List UInt8} (h : spl 58 l = [a, b]) : rdM l = match numN a with
    | some n => if 1 ≤ n ∧ n ≤ 6 then (if b = [] then some (n, []) else match setsOf (stSet n) (spl 44 b) with | some S => some (n, S) | none => none) else none
    | none => none := by unfold rdM; rw [h]; (try rfl)

theorem none_end2 {fn : Func} {a : Act} {w W : World} {p u : Tmp} {l : List UInt8} (hR : rmC l = (0, [], false)) (hr : fn.results = #[.cell p 24, .tmp u]) (hd : a.defers = []) (hp : a.tmps.getD p undef = .pointer (some ⟨w.heap.size, 0, none⟩)) (hu : a.tmps.getD u undef = .bool false)
    (hb : W.heap[w.heap.size]? = some (.cells #[.int .i64 0, .slice none 0 0] 24 (0, 0))) (hB : Below w.heap.size w W) :
    bodyPost Tryd.prog fn (fun e w' => ∃ v, e = .returned (.tuple #[.agg #[.int .i64 (rmC l).1, v], .bool (rmC l).2.2]) ∧ Res w w' v (rmC l).2.1) .ret a ((W.setCell ⟨w.heap.size, 0, none⟩ (.int .i64 0)).setCell ⟨w.heap.size, 1, none⟩ (.slice none 0 0)) := by
  rw [hR]
  have R3 := two_of (two_set hb (.int .i64 0) (.slice none 0 0))
  exact done_cx hr hd hp R3.1 R3.2.1 hu ⟨_, rfl, (res_nil _ _ hB).set2 hb (by decide) (Nat.le_refl _) _ _⟩

theorem setsOf_st_range {n : Nat} (hn : n ≤ 6) {ps : List (List UInt8)} {S : List Int} (h : setsOf (stSet n) ps = some S) : ∀ x ∈ S, 1 ≤ x ∧ x ≤ 63 := fun x hx => by
  have := setsOf_rd_range hn (sets_mono (fun p x => st_rd) _ _ h) x hx
  have := allV_le (V := (n : Int)) (by omega)
  omega

set_option maxRecDepth 100000 in
set_option maxHeartbeats 8000000 in
theorem readS_any (l : List UInt8) (w : World) (hl : l.length ≤ 1048576) :
    Calls Tryd.prog 41 #[.string ⟨l.toArray⟩] w fun e w' => ∃ v, e = .returned (.tuple #[.agg #[.int .i64 (rmC l).1, v], .bool (rmC l).2.2]) ∧ Res w w' v (rmC l).2.1 := by
  obtain ⟨W0, hW0⟩ : ∃ W0, W0 = w.alloc (.cells #[.int .i64 0, .slice none 0 0] 24) := ⟨_, rfl⟩
  have hB0 : Below w.heap.size w W0 := by rw [hW0]; exact (Below.refl _ w).alloc (Nat.le_refl _) _
  have HK := hid (show W0.heap[w.heap.size]? = some (.cells #[.int .i64 0, .slice none 0 0] 24 (0, 0)) by rw [hW0]; exact heap_alloc_new _ _)
  have HB0 := hid hB0
  have HW0 := hid hW0
  have HSp := hid (splitS_any l 58 hl W0)
  obtain ⟨s, hs⟩ : ∃ s : ByteArray, s = ⟨l.toArray⟩ := ⟨_, rfl⟩
  have Heq : Hid (∀ m : List UInt8, ((⟨m.toArray⟩ : ByteArray).toList == s.toList) = decide (m = l)) := hid (fun m => by
    rw [hs, ByteArray.toList_eq, ByteArray.toList_eq]
    by_cases h : m = l <;> simp [h])
  rw [← hs] at HSp ⊢
  have hjs := join_spl 58 l
  clear hs hW0 hB0
  obtain ⟨P0, hP0⟩ : ∃ P0, P0 = spl 58 l := ⟨_, rfl⟩
  rw [← hP0] at HSp
  have hP0n : 0 < P0.length := by
    have := spl_ne 58 l
    rw [← hP0] at this
    exact List.length_pos_iff.2 this
  by_cases h2 : P0.length = 2
  · obtain ⟨a, b, hab⟩ : ∃ a b, P0 = [a, b] := by
      match P0, h2 with
      | [a, b], _ => exact ⟨a, b, rfl⟩
    subst hab
    have HRD := hid (rdM_two hP0.symm)
    have hal : a.length ≤ 1048576 := Nat.le_trans (spl_piece 58 l a (by rw [← hP0]; simp)) hl
    have hbl : b.length ≤ 1048576 := Nat.le_trans (spl_piece 58 l b (by rw [← hP0]; simp)) hl
    have hbl1 : b.length + 1 ≤ 1048576 := by
      rw [← hP0, join_cons2, Lib.join_one] at hjs
      have := congrArg List.length hjs
      simp at this
      omega
    have Hnum := hid (fun W => number_any a (by omega) W)
    obtain ⟨aa, haa⟩ : ∃ aa : ByteArray, aa = ⟨a.toArray⟩ := ⟨_, rfl⟩
    obtain ⟨bb, hbb⟩ : ∃ bb : ByteArray, bb = ⟨b.toArray⟩ := ⟨_, rfl⟩
    have hbe : bb.toList.isEmpty = decide (b = []) := by
      rw [hbb, ByteArray.toList_eq]
      cases b <;> simp
    have Hsp2 := hid (fun W => splitS_any b 44 hbl W)
    rw [← haa] at Hnum
    rw [← hbb] at Hsp2
    have Haa := hid haa
    have Hbb := hid hbb
    clear hP0 h2 haa hbb hjs hP0n
    by_cases hg : ∃ n, numN a = some n ∧ 1 ≤ n ∧ n ≤ 6
    · obtain ⟨n, hn, hn1, hn6⟩ := hg
      have hnr : numR a = (n : Int) := by unfold numR; rw [hn]
      rw [hnr] at Hnum
      have hrd : rdM l = (if b = [] then some (n, []) else match setsOf (stSet n) (spl 44 b) with | some S => some (n, S) | none => none) := by
        rw [HRD.out, hn]
        exact if_pos ⟨hn1, hn6⟩
      have hv1 : (1 : Int) ≤ (n : Int) := by omega
      have hv6 : (n : Int) ≤ 6 := by omega
      have HY := hid (fun W => in_yes (n : Int) 1 6 W hv1 hv6)
      clear HRD hn hnr hal
      by_cases hb0 : b = []
      · have HT : Hid (rmC l = ((n : Int), madeL (n : Int) [], decide (textL (n : Int) (facetsL (madeL (n : Int) [])) = l))) := hid (by unfold rmC; rw [hrd, if_pos hb0])
        rw [decide_eq_true hb0] at hbe
        clear hb0 hrd Hsp2 hbl
        go_enter Tryd.func41, Tryd.ntmps41
        go_wp2_with fail
        rw [← HW0.out]
        refine HSp.out.mono ?_
        rintro e w1 ⟨v, rfl, hown, hB1⟩
        have h3 := hown.2
        rcases h3 with ⟨_, h0⟩ | ⟨g, cap, cur, rfl, _, hgh, _⟩
        · exact absurd h0 (by simp)
        have hca : w1.cell? ⟨g, 0, none⟩ = some (.string aa) := by rw [Haa.out]; exact hown.cells (g := g) rfl 0 (strV a) (by simp)
        have hcb : w1.cell? ⟨g, 1, none⟩ = some (.string bb) := by
          rw [Hbb.out]
          have h := hown.cells (g := g) rfl 1 (strV b) (by simp)
          have hadd : (⟨g, 0, none⟩ : Addr).add 1 = ⟨g, 1, none⟩ := by unfold Addr.add; split <;> simp_all
          rw [hadd] at h
          exact h
        have hgl := (Array.getElem?_eq_some_iff.1 hgh).1
        have hcb2 : (w1.alloc (.cells #[] 2)).cell? ⟨g, 1, none⟩ = some (.string bb) := ((Below.refl w1.heap.size w1).alloc (Nat.le_refl _) _).cell (p := ⟨g, 1, none⟩) hgl |>.trans hcb
        have HB1 := hid (HB0.out.trans (hB1.mono HB0.out.size))
        have HK1 := hid ((hB1.block _ (lt_get HK.out)).trans HK.out)
        have HSl : Hid (SlI (w1.alloc (.cells #[] 2)) (w1.alloc (.cells #[] 2)).heap.size (some ⟨w1.heap.size, 0, none⟩) ([] : List Int)) := hid (.inl rfl)
        have HSr : Hid (∀ x ∈ ([] : List Int), 1 ≤ x ∧ x ≤ 63) := hid (by simp)
        obtain ⟨Wz, hWz⟩ : ∃ Wz, Wz = w1.alloc (.cells #[] 2) := ⟨_, rfl⟩
        have HWz := hid hWz
        have HBz : Hid (Below w.heap.size w Wz) := hid (by rw [hWz]; exact HB1.out.alloc HB1.out.size _)
        have HKz : Hid (Wz.heap[w.heap.size]? = some (.cells #[.int .i64 0, .slice none 0 0] 24 (0, 0))) := hid (by rw [hWz]; exact (Below.heap_alloc _ _ _ (lt_get HK1.out)).trans HK1.out)
        rw [← hWz] at HSl
        clear hown hB1 hgh hWz
        go_wp2_with (first
          | (go_at_call 68; refine (Hnum.out _).mono ?_; rintro e w2 ⟨rfl, rfl⟩)
          | (go_at_call 53; refine (HY.out _).mono ?_; rintro e w2 ⟨rfl, rfl⟩)
          | fail)
        have hk4 := HKz.out
        have HB4 := HBz
        rw [← HWz.out]
        refine (madeS_any (n : Int) (some ⟨w1.heap.size, 0, none⟩) 0 [] Wz HSl.out (by simp) hv1 hv6 HSr.out).mono ?_
        rintro e w5 ⟨v5, rfl, hr5⟩
        obtain ⟨_, av5, cv5, rfl, hM5⟩ := ownsRow_slI hr5.1
        have hk5 := (hr5.2.block _ (lt_get hk4)).trans hk4
        obtain ⟨M, hM⟩ : ∃ M, M = madeL (n : Int) [] := ⟨_, rfl⟩
        rw [← hM] at hr5 hM5 HT
        have HMC : Hid (IsC (n : Int) M) := hid (by rw [hM]; exact isC_made hn1 hn6 [])
        have hMl : M.length ≤ 1048576 := Nat.le_trans HMC.out.len63 (by decide)
        rw [← hM]
        have HM := hid hM
        clear hM
        obtain ⟨W6, hW6⟩ : ∃ W6, W6 = w5.alloc (.cells #[.int .i64 (n : Int), .slice av5 M.length cv5] 24) := ⟨_, rfl⟩
        have HW6 := hid hW6
        have HB6 : Hid (Below w5.heap.size w5 W6) := hid (by rw [hW6]; exact (Below.refl _ _).alloc (Nat.le_refl _) _)
        have HQ6 : Hid (W6.heap[w5.heap.size]? = some (.cells #[.int .i64 (n : Int), .slice av5 M.length cv5] 24 (0, 0))) := hid (by rw [hW6]; exact heap_alloc_new _ _)
        have HK6 : Hid (W6.heap[w.heap.size]? = some (.cells #[.int .i64 0, .slice none 0 0] 24 (0, 0))) := hid (by rw [hW6]; exact (Below.heap_alloc _ _ _ (lt_get hk5)).trans hk5)
        have HTx := hid (fun (W : World) (h : Below w5.heap.size w5 W) => textS_any (n : Int) av5 cv5 M W (hM5.later h h.size) hMl HMC.out)
        have HB5w := hid (HB4.out.trans (hr5.2.mono HB4.out.size))
        have HR5 := hid (hr5.later HB4.out)
        obtain ⟨tx, htx⟩ : ∃ tx : ByteArray, tx = ⟨(textL (n : Int) (facetsL M)).toArray⟩ := ⟨_, rfl⟩
        have heq : (tx.toList == s.toList) = decide (textL (n : Int) (facetsL M) = l) := by rw [htx]; exact Heq.out _
        rw [← htx] at HTx
        clear htx hW6 hr5 hk4 hk5 hM5
        obtain ⟨k0, k1, g0, g1⟩ := two_of HK6.out
        obtain ⟨j0, j1, h0, h1⟩ := two_of HQ6.out
        go_wp2_with fail
        rw [← HW6.out]
        go_region_with (first
          | (go_at_call 35; refine (HTx.out _ (by first | exact HB6.out | exact HB6.out.drew)).mono ?_; rintro e w7 ⟨rfl, hB7⟩; have hq7 := (hB7.block w5.heap.size (by have := lt_get HQ6.out; exact this)).trans HQ6.out; have hk7 := (hB7.block w.heap.size (by have := lt_get HK6.out; exact this)).trans HK6.out; obtain ⟨a0, a1, b0, b1⟩ := two_of hq7; obtain ⟨c0, c1, d0, d1⟩ := two_of hk7)
          | fail)
        all_goals
          have HB7 : Hid (Below w5.heap.size w5 w7) := hid (by first | exact HB6.out.drew.trans (hB7.mono HB6.out.drew.size) | exact HB6.out.trans (hB7.mono HB6.out.size))
          have HK7 := hid hk7
          go_wp2_with fail
          (try simp only [Exit.inBlock, Exit.then])
          have R3 := two_of (two_set HK7.out (.int .i64 (n : Int)) (.slice av5 M.length cv5))
          refine done_cx (p := 2) (u := 3) (by kernel_rfl) rfl rfl R3.1 R3.2.1 rfl ⟨_, by first | (rw [HT.out]; rfl) | (rw [HT.out, heq]; rfl), by rw [HT.out]; exact (HR5.out.after HB7.out).set2 HK7.out (by decide) (Nat.le_refl _) _ _⟩
      · have HRl : Hid (∀ R, setsOf (stSet n) (spl 44 b) = R → rmC l = match R with | some S => ((n : Int), madeL (n : Int) S, decide (textL (n : Int) (facetsL (madeL (n : Int) S)) = l)) | none => (0, [], false)) := hid (fun R hR => by
          unfold rmC
          rw [hrd, if_neg hb0, hR]
          cases R <;> rfl)
        rw [decide_eq_false hb0] at hbe
        obtain ⟨P, hP⟩ : ∃ P, P = spl 44 b := ⟨_, rfl⟩
        rw [← hP] at Hsp2 HRl
        have hPn : 0 < P.length := by
          have := spl_ne 44 b
          rw [← hP] at this
          exact List.length_pos_iff.2 this
        have HPl2 : Hid (P.length ≤ 1048576) := hid (by rw [hP]; have := spl_len 44 b; omega)
        have HPp : Hid (∀ p ∈ P, p.length ≤ 9223372036854775807) := hid (fun p hp => by rw [hP] at hp; have := spl_piece 44 _ p hp; omega)
        have hPl := HPl2.out
        clear hb0 hrd hbl hP
        go_enter Tryd.func41, Tryd.ntmps41
        go_wp2_with fail
        rw [← HW0.out]
        refine HSp.out.mono ?_
        rintro e w1 ⟨v, rfl, hown, hB1⟩
        have h3 := hown.2
        rcases h3 with ⟨_, h0⟩ | ⟨g, cap, cur, rfl, _, hgh, _⟩
        · exact absurd h0 (by simp)
        have hca : w1.cell? ⟨g, 0, none⟩ = some (.string aa) := by rw [Haa.out]; exact hown.cells (g := g) rfl 0 (strV a) (by simp)
        have hcb : w1.cell? ⟨g, 1, none⟩ = some (.string bb) := by
          rw [Hbb.out]
          have h := hown.cells (g := g) rfl 1 (strV b) (by simp)
          have hadd : (⟨g, 0, none⟩ : Addr).add 1 = ⟨g, 1, none⟩ := by unfold Addr.add; split <;> simp_all
          rw [hadd] at h
          exact h
        have hgl := (Array.getElem?_eq_some_iff.1 hgh).1
        have hcb2 : (w1.alloc (.cells #[] 2)).cell? ⟨g, 1, none⟩ = some (.string bb) := ((Below.refl w1.heap.size w1).alloc (Nat.le_refl _) _).cell (p := ⟨g, 1, none⟩) hgl |>.trans hcb
        have HB1 := hid (HB0.out.trans (hB1.mono HB0.out.size))
        have HK1 := hid ((hB1.block _ (lt_get HK.out)).trans HK.out)
        obtain ⟨Wz, hWz⟩ : ∃ Wz, Wz = w1.alloc (.cells #[] 2) := ⟨_, rfl⟩
        have HWz := hid hWz
        have HBz : Hid (Below w.heap.size w Wz) := hid (by rw [hWz]; exact HB1.out.alloc HB1.out.size _)
        have HKz : Hid (Wz.heap[w.heap.size]? = some (.cells #[.int .i64 0, .slice none 0 0] 24 (0, 0))) := hid (by rw [hWz]; exact (Below.heap_alloc _ _ _ (lt_get HK1.out)).trans HK1.out)
        have HOw : Hid (Wz.ownsRow w1.heap.size 2 1 (.slice (some ⟨w1.heap.size, 0, none⟩) 0 0) 0 []) := hid (by rw [hWz]; exact World.ownsRow_made (base := w1.heap.size) (e := 2) (size := 1) w1 #[] 0 (Nat.le_refl _) (by simp [maxLen]) rfl)
        have hzs : Hid (Wz.heap.size = w1.heap.size + 1) := hid (by rw [hWz]; simp)
        have HB1z : Hid (Below w1.heap.size w1 Wz) := hid (by rw [hWz]; exact (Below.refl _ _).alloc (Nat.le_refl _) _)
        clear hown hB1 hgh hWz
        go_wp2_with (first
          | (go_at_call 68; refine (Hnum.out _).mono ?_; rintro e w2 ⟨rfl, rfl⟩)
          | (go_at_call 53; refine (HY.out _).mono ?_; rintro e w2 ⟨rfl, rfl⟩)
          | fail)
        rw [← HWz.out]
        refine (Hsp2.out _).mono ?_
        rintro e w3 ⟨v2, rfl, hown2, hB3⟩
        have h4 := hown2.2
        rcases h4 with ⟨_, h0⟩ | ⟨g2, cap2, cur2, rfl, hgb0, hg2, _⟩
        · exact absurd h0 (by omega)
        have HC3 : Hid (∀ k, k < P.length → w3.cell? ⟨g2, k, none⟩ = some (.string ⟨(P[k]?.getD []).toArray⟩)) := hid (fun k hk => by
          have h := hown2.cells (g := g2) rfl k (strV (P[k]?.getD [])) (by simp [List.getElem?_eq_getElem hk])
          have hadd : (⟨g2, 0, none⟩ : Addr).add k = ⟨g2, k, none⟩ := by unfold Addr.add; split <;> simp_all
          rw [hadd] at h
          exact h)
        have hgl2 := (Array.getElem?_eq_some_iff.1 hg2).1
        have hgb : Hid (w1.heap.size + 1 ≤ g2) := hid (by have := hzs.out; omega)
        have HB13 := hid (HB1z.out.trans (hB3.mono HB1z.out.size))
        have HO3 := hid (ownsRow_below HOw.out hB3 (fun g hg => (HOw.out.lt g hg).2))
        clear hown2 hB3 hg2 hgb0 hca hcb hcb2
        go_wp2_with fail
        go_loopw [6, 8] (fun sv jv wx => ∃ (j : Nat) (S : List Int), j ≤ P.length ∧ jv = .int .i64 j ∧ wx.ownsRow w1.heap.size 2 1 sv S.length (S.map (Value.int .i64)) ∧ Hid (setsOf (stSet n) (P.take j) = some S) ∧
            Hid (sv.ownBlock ≠ some g2) ∧ Hid (g2 < wx.heap.size ∧ ∀ k, k < P.length → wx.cell? ⟨g2, k, none⟩ = some (.string ⟨(P[k]?.getD []).toArray⟩)) ∧ Below w1.heap.size w1 wx) (fun _ jv _ => P.length - (RowKit.intOf jv).toNat)
        case atStart => exact ⟨0, [], Nat.zero_le _, rfl, HO3.out, hid rfl, hid (by simp [Value.ownBlock]; have := hgb.out; omega), hid ⟨hgl2, HC3.out⟩, HB13.out⟩
        case round =>
          obtain ⟨j, S, hj, rfl, hown, HS, HNe, HCx, hB⟩ := hrel
          have HB := hid hB
          have hsz3 := hB.size
          have hSlen : S.length ≤ 1048576 := by have h5 := setsOf_len HS.out; rw [List.length_take] at h5; have := HPl2.out; omega
          have hS11 : S.length ≤ 1099511627776 := by omega
          by_cases hltj : j < P.length
          · obtain ⟨p, hp⟩ : ∃ p, p = P[j]?.getD [] := ⟨_, rfl⟩
            have hpm : p ∈ P := by rw [hp, List.getElem?_eq_getElem hltj]; exact List.getElem_mem hltj
            have hck : wr.cell? ⟨g2, j, none⟩ = some (.string ⟨p.toArray⟩) := by rw [hp]; exact HCx.out.2 j hltj
            have Hset := hid (fun W => set_any p n hn1 hn6 (HPp.out p hpm) W)
            have Hsn : Hid (setsOf (stSet n) (P.take (j + 1)) = match stSet n p with | some x => some (S ++ [(x : Int)]) | none => none) := hid (by
              rw [List.take_succ_eq_append_getElem hltj, setsOf_snoc, HS.out]
              rw [hp, List.getElem?_eq_getElem hltj]
              simp only [Option.getD_some]
              cases stSet n P[j] <;> rfl)
            have hj0 : (0 : Int) ≤ (j : Int) := by omega
            have hj1 : (j : Int) < (P.length : Int) := by omega
            clear hB hp hpm
            cases hrd : stSet n p with
            | none =>
              rw [hrd] at Hset Hsn
              have HR : Hid (rmC l = (0, [], false)) := hid (by
                rw [HRl.out none]
                have h := setsOf_none_app Hsn.out (P.drop (j + 1))
                rwa [List.take_append_drop] at h)
              have hk4 := (HB.out.block _ (lt_get HK1.out)).trans HK1.out
              obtain ⟨k0, k1, g0, g1⟩ := two_of hk4
              have HK4 := hid hk4
              have HB4 := hid (HB1.out.trans (HB.out.mono HB1.out.size))
              clear hrd hk4
              go_wp2_with fail
              refine (Hset.out _).mono ?_
              rintro e w5 ⟨rfl, rfl⟩
              go_wp2_with fail
              (try simp only [Exit.inBlock, Exit.then])
              exact none_end2 (p := 2) (u := 3) HR.out (by kernel_rfl) rfl rfl rfl HK4.out HB4.out
            | some x =>
              rw [hrd] at Hset Hsn
              clear hrd
              go_wp2_with fail
              refine (Hset.out _).mono ?_
              rintro e w5 ⟨rfl, rfl⟩
              go_wp2_with (first
                | (at_builtin; refine app_at rfl rfl hown hsz3 hS11 rfl rfl ?_; intro v' w6 hown6 hgrow6 hat6 hB6)
                | fail)
              go_roundw
              case rel =>
                refine ⟨j + 1, _, by omega, by go_num, hown6, hid Hsn.out, hid ?_, hid ⟨Nat.lt_of_lt_of_le HCx.out.1 hgrow6.size, fun k hk => ?_⟩, HB.out.trans hB6⟩
                · rcases hat6 with h | h
                  · rw [h]; exact HNe.out
                  · rw [h]
                    intro e
                    have h1 := HCx.out.1
                    have e2 : wr.heap.size + 1 = g2 := by simpa using e
                    omega
                · have hb := hgrow6.block g2 HCx.out.1 (fun e => HNe.out e.symm)
                  have hck6 := HCx.out.2 k hk
                  simp only [World.cell?] at hck6 ⊢
                  rw [hb]
                  exact hck6
              case measure => simp [RowKit.intOf]; omega
          · obtain rfl : j = P.length := by omega
            have HTS : Hid (setsOf (stSet n) P = some S) := hid (by have h := HS.out; rwa [List.take_length] at h)
            have HT := hid (HRl.out _ HTS.out)
            have HSr := hid (setsOf_st_range hn6 HTS.out)
            obtain ⟨_, av, cv, rfl, hSl2⟩ := ownsRow_slI hown
            have hk4 := (HB.out.block _ (lt_get HK1.out)).trans HK1.out
            have HB4 := hid (HB1.out.trans (HB.out.mono HB1.out.size))
            go_wp2_with fail
            refine (madeS_any (n : Int) av cv S wr hSl2 hSlen hv1 hv6 HSr.out).mono ?_
            rintro e w5 ⟨v5, rfl, hr5⟩
            obtain ⟨_, av5, cv5, rfl, hM5⟩ := ownsRow_slI hr5.1
            have hk5 := (hr5.2.block _ (lt_get hk4)).trans hk4
            obtain ⟨M, hM⟩ : ∃ M, M = madeL (n : Int) S := ⟨_, rfl⟩
            rw [← hM] at hr5 hM5 HT
            have HMC : Hid (IsC (n : Int) M) := hid (by rw [hM]; exact isC_made hn1 hn6 S)
            have hMl : M.length ≤ 1048576 := Nat.le_trans HMC.out.len63 (by decide)
            rw [← hM]
            have HM := hid hM
            clear hM
            obtain ⟨W6, hW6⟩ : ∃ W6, W6 = w5.alloc (.cells #[.int .i64 (n : Int), .slice av5 M.length cv5] 24) := ⟨_, rfl⟩
            have HW6 := hid hW6
            have HB6 : Hid (Below w5.heap.size w5 W6) := hid (by rw [hW6]; exact (Below.refl _ _).alloc (Nat.le_refl _) _)
            have HQ6 : Hid (W6.heap[w5.heap.size]? = some (.cells #[.int .i64 (n : Int), .slice av5 M.length cv5] 24 (0, 0))) := hid (by rw [hW6]; exact heap_alloc_new _ _)
            have HK6 : Hid (W6.heap[w.heap.size]? = some (.cells #[.int .i64 0, .slice none 0 0] 24 (0, 0))) := hid (by rw [hW6]; exact (Below.heap_alloc _ _ _ (lt_get hk5)).trans hk5)
            have HTx := hid (fun (W : World) (h : Below w5.heap.size w5 W) => textS_any (n : Int) av5 cv5 M W (hM5.later h h.size) hMl HMC.out)
            have HB5w := hid (HB4.out.trans (hr5.2.mono HB4.out.size))
            have HR5 := hid (hr5.later HB4.out)
            obtain ⟨tx, htx⟩ : ∃ tx : ByteArray, tx = ⟨(textL (n : Int) (facetsL M)).toArray⟩ := ⟨_, rfl⟩
            have heq : (tx.toList == s.toList) = decide (textL (n : Int) (facetsL M) = l) := by rw [htx]; exact Heq.out _
            rw [← htx] at HTx
            clear htx hW6 hr5 hk4 hk5 hM5
            obtain ⟨k0, k1, g0, g1⟩ := two_of HK6.out
            obtain ⟨j0, j1, h0, h1⟩ := two_of HQ6.out
            go_wp2_with fail
            rw [← HW6.out]
            go_region_with (first
              | (go_at_call 35; refine (HTx.out _ (by first | exact HB6.out | exact HB6.out.drew)).mono ?_; rintro e w7 ⟨rfl, hB7⟩; have hq7 := (hB7.block w5.heap.size (by have := lt_get HQ6.out; exact this)).trans HQ6.out; have hk7 := (hB7.block w.heap.size (by have := lt_get HK6.out; exact this)).trans HK6.out; obtain ⟨a0, a1, b0, b1⟩ := two_of hq7; obtain ⟨c0, c1, d0, d1⟩ := two_of hk7)
              | fail)
            all_goals
              have HB7 : Hid (Below w5.heap.size w5 w7) := hid (by first | exact HB6.out.drew.trans (hB7.mono HB6.out.drew.size) | exact HB6.out.trans (hB7.mono HB6.out.size))
              have HK7 := hid hk7
              go_wp2_with fail
              (try simp only [Exit.inBlock, Exit.then])
              have R3 := two_of (two_set HK7.out (.int .i64 (n : Int)) (.slice av5 M.length cv5))
              refine done_cx (p := 2) (u := 3) (by kernel_rfl) rfl rfl R3.1 R3.2.1 rfl ⟨_, by first | (rw [HT.out]; rfl) | (rw [HT.out, heq]; rfl), by rw [HT.out]; exact (HR5.out.after HB7.out).set2 HK7.out (by decide) (Nat.le_refl _) _ _⟩
    · have hnr : ¬ (1 ≤ numR a ∧ numR a ≤ 6) := by
        unfold numR
        cases hn : numN a with
        | none => simp only; omega
        | some n =>
          simp only
          intro h
          exact hg ⟨n, hn, by omega, by omega⟩
      have HR : Hid (rmC l = (0, [], false)) := hid (by
        unfold rmC
        rw [HRD.out]
        cases hn : numN a with
        | none => rfl
        | some n =>
          have : ¬ (1 ≤ n ∧ n ≤ 6) := fun h => hg ⟨n, hn, h⟩
          simp only [if_neg this])
      obtain ⟨q, hq⟩ : ∃ q, q = numR a := ⟨_, rfl⟩
      rw [← hq] at hnr Hnum
      have HY := hid (fun W => in_no q 1 6 W hnr)
      clear HRD hg hq hnr hbe Hsp2
      go_enter Tryd.func41, Tryd.ntmps41
      go_wp2_with fail
      rw [← HW0.out]
      refine HSp.out.mono ?_
      rintro e w1 ⟨v, rfl, hown, hB1⟩
      have h3 := hown.2
      rcases h3 with ⟨_, h0⟩ | ⟨g, cap, cur, rfl, _, hgh, _⟩
      · exact absurd h0 (by simp)
      have hca : w1.cell? ⟨g, 0, none⟩ = some (.string aa) := by rw [Haa.out]; exact hown.cells (g := g) rfl 0 (strV a) (by simp)
      have HB1 := hid (HB0.out.trans (hB1.mono HB0.out.size))
      have hk1 := (hB1.block _ (lt_get HK.out)).trans HK.out
      obtain ⟨k0, k1, g0, g1⟩ := two_of hk1
      have HK1 := hid hk1
      clear hown hB1 hgh hk1
      go_wp2_with (first
        | (go_at_call 68; refine (Hnum.out _).mono ?_; rintro e w2 ⟨rfl, rfl⟩)
        | (go_at_call 53; refine (HY.out _).mono ?_; rintro e w2 ⟨rfl, rfl⟩)
        | fail)
      (try simp only [Exit.inBlock, Exit.then])
      exact none_end2 (p := 2) (u := 3) HR.out (by kernel_rfl) rfl rfl rfl HK1.out HB1.out
  · have HR : Hid (rmC l = (0, [], false)) := hid (by unfold rmC; rw [rdM_len (by rw [← hP0]; exact h2)])
    have hne2 : ((P0.length : Int) != 2) = true := by simp; omega
    clear hP0 hjs h2
    go_enter Tryd.func41, Tryd.ntmps41
    go_wp2_with fail
    rw [← HW0.out]
    refine HSp.out.mono ?_
    rintro e w1 ⟨v, rfl, hown, hB1⟩
    have h3 := hown.2
    rcases h3 with ⟨_, h0⟩ | ⟨g, cap, cur, rfl, _, hgh, _⟩
    · exact absurd h0 (by omega)
    have HB1 := hid (HB0.out.trans (hB1.mono HB0.out.size))
    have hk1 := (hB1.block _ (lt_get HK.out)).trans HK.out
    obtain ⟨k0, k1, g0, g1⟩ := two_of hk1
    have HK1 := hid hk1
    clear hown hB1 hgh hk1
    go_wp2_with fail
    (try simp only [Exit.inBlock, Exit.then])
    exact none_end2 (p := 2) (u := 3) HR.out (by kernel_rfl) rfl rfl rfl HK1.out HB1.out

end Go.Proofs.YtbgkalkipalndaaDoor

/-! ComplexText: both doors. -/
namespace Go.Proofs.YtbgkalkipalndaaDoor
open Go.RowKit Go.Shelf

/-- What ComplexText hands back. -/
noncomputable def textR (V : Int) (fs : List Int) : List UInt8 × Int := if isCB V fs then (textL V (facetsL fs), 0) else ([], 1)

theorem fmt_any (n : Nat) (h : n < 100) (w : World) : Calls Tryd.prog 39 #[.int .i64 (n : Int), .int .i64 10] w fun e w' => e = .returned (.string ⟨(Lib.decDigits n).toArray⟩) ∧ w' = w :=
  Any.strconv_FormatInt_10_small fmtT n h w

theorem joinX : Builder.Extra Tryd.prog joinT_ren where
  sizeBuilder := by kernel_rfl
  liesBuilder := by kernel_rfl
  t5 := by kernel_rfl
  a5 := fun _ => by kernel_rfl
  z5 := fun _ => by kernel_rfl
  v5 := fun _ => by kernel_rfl
  infoByte := by kernel_rfl
  cellsByte := by kernel_rfl
  sizeByte := by kernel_rfl
  neB5 := by decide

/-- strings.Join of an own row, by commas. -/
theorem joinV {w : World} {base : Nat} {v : Value} {xs : List (List UInt8)} (h : w.ownsRow base 9 1 v xs.length (xs.map strV)) (hl : xs.length ≤ 1000) (hlen : (Lib.join xs [44]).length ≤ 100000) :
    Calls Tryd.prog 40 #[v, .string ⟨#[44]⟩] w fun e w' => e = .returned (.string ⟨(Lib.join xs [44]).toArray⟩) ∧ Below w.heap.size w w' := by
  rcases h.2 with ⟨rfl, hn⟩ | ⟨g, cap, cur, rfl, _, hg, hc, _⟩
  · have hx : xs = [] := List.eq_nil_of_length_eq_zero hn
    subst hx
    exact (Any.strings_Join_none joinT joinX none 0 ⟨#[44]⟩ w).mono fun e w' ⟨he, hw⟩ => ⟨he, hw ▸ Below.refl _ _⟩
  · have e1 : (xs.map fun x => (⟨x.toArray⟩ : ByteArray)).length = xs.length := by simp
    have e2 : (xs.map fun x => (⟨x.toArray⟩ : ByteArray)).map (·.data.toList) = xs := by
      rw [List.map_map]
      have : ((fun x => x.data.toList) ∘ fun x : List UInt8 => (⟨x.toArray⟩ : ByteArray)) = id := by funext x; rfl
      rw [this, List.map_id]
    have hcall := Any.strings_Join joinT joinX g 0 cap (xs.map fun x => (⟨x.toArray⟩ : ByteArray)) ⟨#[44]⟩ w (fun j x hx => by
      obtain ⟨y, hy, rfl⟩ : ∃ y, xs[j]? = some y ∧ (⟨y.toArray⟩ : ByteArray) = x := by
        rw [List.getElem?_map] at hx
        cases hxs : xs[j]? with
        | none => rw [hxs] at hx; cases hx
        | some y => rw [hxs] at hx; exact ⟨y, by first | rfl | exact hxs, by simpa using hx⟩
      have := h.cells (g := g) rfl j (strV y) (by simp [hy])
      have hadd : (⟨g, 0, none⟩ : Addr).add j = ⟨g, 0 + j, none⟩ := by unfold Addr.add; split <;> simp_all
      rw [hadd] at this
      exact this) (Array.getElem?_eq_some_iff.1 hg).1 (by rw [e1]; omega) (by rw [e1]; exact hc) (by rw [e2]; exact Nat.le_trans hlen (by decide))
    rw [e1, e2] at hcall
    exact hcall

theorem text_mono {P : Program} {f : FuncId} {args : Array Value} {w : World} {r : List UInt8 × Int} {t : List UInt8} {c : Int} {Q : World → Prop} (hr : r = (t, c))
    (h : Calls P f args w fun e w' => e = .returned (.tuple #[.string ⟨t.toArray⟩, .int .i64 c]) ∧ Q w') : Calls P f args w fun e w' => e = .returned (.tuple #[.string ⟨r.1.toArray⟩, .int .i64 r.2]) ∧ Q w' := by
  subst hr; exact h

set_option maxRecDepth 100000 in
set_option maxHeartbeats 1000000 in
theorem specComplexText (V : Int) (a : Option Addr) (cap : Nat) (fs : List Int) (w : World) (hx : SlI w w.heap.size a fs) (hl : fs.length ≤ 1048576) :
    Calls Tryd.prog 18 #[.agg #[.int .i64 V, .slice a fs.length cap]] w fun e w' => e = .returned (.tuple #[.string ⟨(textR V fs).1.toArray⟩, .int .i64 (textR V fs).2]) ∧ Below w.heap.size w w' := by
  have hB0 : Below w.heap.size w (w.alloc (.cells #[.int .i64 V, .slice a fs.length cap] 24)) := (Below.refl _ w).alloc (Nat.le_refl _) _
  have Hx := hid (hx.later hB0 (by simp))
  by_cases hC : IsC V fs
  · refine text_mono (show textR V fs = (textL V (facetsL fs), 0) by unfold textR; rw [isCB_true hC, if_pos rfl]) ?_
    have HC := hid hC
    clear hC
    go_enter Tryd.func18, Tryd.ntmps18
    go_wp2_with fail
    refine (is_yes V a cap fs _ Hx.out hl HC.out).mono ?_
    rintro e w1 ⟨rfl, hB1⟩
    have c0 : w1.cell? ⟨w.heap.size, 0, none⟩ = some (.int .i64 V) := (hB1.cell (p := ⟨w.heap.size, 0, none⟩) (by simp)).trans (by simp [go_sem])
    have c1 : w1.cell? ⟨w.heap.size, 1, none⟩ = some (.slice a fs.length cap) := (hB1.cell (p := ⟨w.heap.size, 1, none⟩) (by simp)).trans (by simp [go_sem])
    have hB01 := hB0.trans (hB1.mono (by simp))
    have hx1 := hid (hx.later hB01 hB01.size)
    go_wp2_with fail
    refine (textS_any V a cap fs _ hx1.out hl HC.out).mono ?_
    rintro e w2 ⟨rfl, hB2⟩
    go_wp2_with fail
    go_ret2
    exact ⟨rfl, hB01.trans (hB2.mono hB01.size)⟩
  · refine text_mono (show textR V fs = ([], 1) by unfold textR; rw [isCB_false hC, if_neg (by simp)]) ?_
    go_enter Tryd.func18, Tryd.ntmps18
    go_wp2_with fail
    refine (is_no V a cap fs _ Hx.out hl hC).mono ?_
    rintro e w1 ⟨rfl, hB1⟩
    have hB01 := hB0.trans (hB1.mono (by simp))
    go_wp2_with fail
    go_ret2
    exact ⟨rfl, hB01⟩

set_option maxRecDepth 100000 in
set_option maxHeartbeats 2000000 in
theorem implComplexText (V : Int) (a : Option Addr) (cap : Nat) (fs : List Int) (w : World) (hx : SlI w w.heap.size a fs) (hl : fs.length ≤ 1048576) :
    Calls Tryd.prog 20 #[.agg #[.int .i64 V, .slice a fs.length cap]] w fun e w' => e = .returned (.tuple #[.string ⟨(textR V fs).1.toArray⟩, .int .i64 (textR V fs).2]) ∧ Below w.heap.size w w' := by
  obtain ⟨W0, hW0⟩ : ∃ W0, W0 = w.alloc (.cells #[.int .i64 V, .slice a fs.length cap] 24) := ⟨_, rfl⟩
  have hB0 : Below w.heap.size w W0 := by rw [hW0]; exact (Below.refl _ w).alloc (Nat.le_refl _) _
  have HK := hid (show W0.heap[w.heap.size]? = some (.cells #[.int .i64 V, .slice a fs.length cap] 24 (0, 0)) by rw [hW0]; exact heap_alloc_new _ _)
  have HB0 := hid hB0
  have HW0 := hid hW0
  have HI := hid (implFacetsOf V a cap fs W0 (hx.later hB0 hB0.size) hl)
  obtain ⟨q0, q1, _, _⟩ := two_of HK.out
  clear hx hB0 hW0
  by_cases hC : IsC V fs
  · refine text_mono (show textR V fs = (textL V (facetsL fs), 0) by unfold textR; rw [isCB_true hC, if_pos rfl]) ?_
    rw [show facetsOfR V fs = (facetsL fs, 0) by unfold facetsOfR; rw [isCB_true hC, if_pos rfl]] at HI
    obtain ⟨vn, rfl⟩ : ∃ vn : Nat, V = (vn : Int) := ⟨V.toNat, by have := hC.lo; omega⟩
    have h1 := hC.lo
    have h6 := hC.hi
    obtain ⟨F, hF⟩ : ∃ F, F = facetsL fs := ⟨_, rfl⟩
    have Hf : Hid (∀ x ∈ F, 1 ≤ x ∧ x ≤ 63) := hid (by rw [hF]; exact fun x hx => hC.range63 x (List.mem_filter.1 hx).1)
    have hFl : F.length ≤ 63 := by rw [hF]; exact Nat.le_trans (List.length_filter_le _ _) hC.len63
    rw [← hF] at HI ⊢
    have Hd := hid (decD vn (by omega) (by omega))
    obtain ⟨b, hb⟩ : ∃ b : UInt8, b = UInt8.ofNat (48 + vn) := ⟨_, rfl⟩
    rw [← hb] at Hd
    have Hfmt := hid (fun W => fmt_any vn (by omega) W)
    rw [Hd.out] at Hfmt
    have HT : Hid (textL (vn : Int) F = [b] ++ [58] ++ Lib.join (F.map digL) [44]) := hid (by rw [hb]; rfl)
    have Hjl := hid (join_len 44 (F.map digL) (map_len6 Hf.out))
    clear hC hF hb
    go_enter Tryd.func20, Tryd.ntmps20
    go_wp2_with fail
    rw [← HW0.out]
    go_wp2_with fail
    refine HI.out.mono ?_
    rintro e w1 ⟨v, rfl, hr⟩
    obtain ⟨_, av, cv, rfl, hs⟩ := ownsRow_slI hr.1
    have HB1 := hid (HB0.out.trans (hr.2.mono HB0.out.size))
    have Hs := hid hs
    have K1 := hid ((hr.2.block _ (lt_get HK.out)).trans HK.out)
    clear hr hs q0 q1
    go_wp2_with fail
    go_loopw [6, 19] (fun tv iv wr => ∃ k : Nat, k ≤ F.length ∧ iv = .int .i64 k ∧ wr.ownsRow w1.heap.size 9 1 tv ((F.take k).map digL).length (((F.take k).map digL).map strV) ∧ Below w1.heap.size w1 wr) (fun _ iv _ => F.length - (intOf iv).toNat)
    case atStart => exact ⟨0, Nat.zero_le _, rfl, World.ownsRow_nil _ _ _ _, Below.refl _ _⟩
    case round =>
      obtain ⟨k, hk, rfl, hown, hB⟩ := hrel
      have HB := hid hB
      have hsz := hB.size
      by_cases hlt : k < F.length
      · obtain ⟨x, hx⟩ : ∃ x, x = F[k]?.getD 0 := ⟨_, rfl⟩
        have hxr := Hf.out _ (getD_mem hlt)
        rw [← hx] at hxr
        have Hck : Hid (∀ (Q : World), Below w1.heap.size w1 Q → ∃ g off, av = some ⟨g, off, none⟩ ∧ Q.cell? ⟨g, off + k, none⟩ = some (.int .i64 x)) := hid (fun Q hQ => by
          rcases Hs.out with h | ⟨g, off, hg, rfl, hc⟩
          · rw [h] at hlt; simp at hlt
          · exact ⟨g, off, rfl, by rw [hx]; exact (hQ.cell (p := ⟨g, off + k, none⟩) hg).trans (hc k hlt)⟩)
        obtain ⟨g, off, rfl, hck⟩ := Hck.out wr hB
        obtain ⟨f, rfl⟩ : ∃ f : Nat, x = (f : Int) := ⟨x.toNat, by omega⟩
        have Hst := hid (fun W => setText_any f (by omega) W)
        have hi0 : (0 : Int) ≤ (k : Int) := by omega
        have hi1 : (k : Int) < (F.length : Int) := by omega
        have Hnx : Hid ((F.take (k + 1)).map digL = (F.take k).map digL ++ [digL (f : Int)]) := hid (by rw [take_snoc hlt, ← hx]; simp)
        have hxl : ((F.take k).map digL).length ≤ 1099511627776 := by simp; omega
        have HX : Hid (Value.string ⟨(digL (f : Int)).toArray⟩ = strV (digL (f : Int))) := hid rfl
        clear hB Hck hx hxr
        go_wp2_with fail
        refine (Hst.out _).mono ?_
        rintro e w3 ⟨rfl, hB3⟩
        have HB3 := hid (HB.out.trans (hB3.mono hsz))
        have hsz3 := HB3.out.size
        have hown3 := ownsRow_below hown hB3 (fun g hg => (hown.lt g hg).2)
        clear hB3 hown
        go_wp2_with (first
          | (at_builtin; rw [HX.out]; refine append_str rfl rfl hown3 hsz3 hxl rfl rfl ?_; intro v' w4 hown4 hgrow4 hB4)
          | fail)
        go_roundw
        case rel => exact ⟨k + 1, by omega, by go_num, by rw [Hnx.out]; exact hown4, HB3.out.trans hB4⟩
        case measure => simp [intOf]; omega
      · obtain rfl : k = F.length := by omega
        obtain ⟨k0, k1, _, _⟩ := two_of ((hB.block _ (lt_get K1.out)).trans K1.out)
        rw [List.take_length] at hown
        have HJ := hid (joinV hown (by simp; omega) (by have := Hjl.out; simp at this; omega))
        have Hend := hid (HB1.out.trans (HB.out.mono HB1.out.size))
        obtain ⟨j, hj⟩ : ∃ j : ByteArray, j = ⟨(Lib.join (F.map digL) [44]).toArray⟩ := ⟨_, rfl⟩
        obtain ⟨r, hr⟩ : ∃ r : ByteArray, r = ⟨(textL (vn : Int) F).toArray⟩ := ⟨_, rfl⟩
        have hadd : ∀ W : World, (Op.stringOp .add ((⟨#[b]⟩ : ByteArray) ++ ⟨#[58]⟩) j).run Tryd.prog W = .ok (.string r) W := fun W => by
          rw [hj, hr, HT.out]
          exact add_str W [b, 58] _ (by have := Hjl.out; simp at this ⊢; omega)
        rw [← hj] at HJ
        have Hr := hid hr
        clear hj hr hB hown
        go_wp2_with fail
        refine (Hfmt.out _).mono ?_
        rintro e w5 ⟨rfl, rfl⟩
        go_wp2_with fail
        refine HJ.out.mono ?_
        rintro e w6 ⟨rfl, hB6⟩
        have HB6 := hid (Hend.out.trans (hB6.mono Hend.out.size))
        clear hB6
        go_wp2_with fail
        go_ret2
        exact ⟨by rw [← Hr.out]; rfl, HB6.out⟩
  · refine text_mono (show textR V fs = ([], 1) by unfold textR; rw [isCB_false hC, if_neg (by simp)]) ?_
    rw [show facetsOfR V fs = ([], 1) by unfold facetsOfR; rw [isCB_false hC, if_neg (by simp)]] at HI
    clear hC
    go_enter Tryd.func20, Tryd.ntmps20
    go_wp2_with fail
    rw [← HW0.out]
    go_wp2_with fail
    refine HI.out.mono ?_
    rintro e w1 ⟨v, rfl, hr⟩
    obtain ⟨_, av, cv, rfl, _⟩ := ownsRow_slI hr.1
    have HB1 := hid (HB0.out.trans (hr.2.mono HB0.out.size))
    clear hr q0 q1
    go_wp2_with fail
    go_ret2
    exact ⟨rfl, HB1.out⟩

end Go.Proofs.YtbgkalkipalndaaDoor

/-! ParseComplex: both doors. -/
namespace Go.Proofs.YtbgkalkipalndaaDoor
open Go.RowKit Go.Shelf

theorem parse_rm (l : List UInt8) : parseR l = if (rmC l).2.2 then ((rmC l).1, (rmC l).2.1, 0) else (0, [], 6) := by
  rw [← parse_same]
  unfold rmC
  cases hm : rdM l with
  | none => rfl
  | some p =>
    obtain ⟨n, S⟩ := p
    unfold parseW
    simp only
    by_cases h : textL (n : Int) (facetsL (madeL (n : Int) S)) = l <;> simp [h]

set_option maxRecDepth 100000 in
set_option maxHeartbeats 1000000 in
theorem specParseComplex (l : List UInt8) (w : World) (hl : l.length ≤ 1048576) :
    Calls Tryd.prog 21 #[.string ⟨l.toArray⟩] w fun e w' => ∃ v, e = .returned (.tuple #[.agg #[.int .i64 (parseR l).1, v], .int .i64 (parseR l).2.2]) ∧ Res w w' v (parseR l).2.1 := by
  obtain ⟨W0, hW0⟩ : ∃ W0, W0 = w.alloc (.cells #[.int .i64 0, .slice none 0 0] 24) := ⟨_, rfl⟩
  have hB0 : Below w.heap.size w W0 := by rw [hW0]; exact (Below.refl _ w).alloc (Nat.le_refl _) _
  have HK := hid (show W0.heap[w.heap.size]? = some (.cells #[.int .i64 0, .slice none 0 0] 24 (0, 0)) by rw [hW0]; exact heap_alloc_new _ _)
  have HB0 := hid hB0
  have HW0 := hid hW0
  have HC := hid (readS_any l W0 hl)
  have HN := hid (parse_rm l)
  obtain ⟨R, hR⟩ : ∃ R, R = rmC l := ⟨_, rfl⟩
  rw [← hR] at HN HC
  obtain ⟨V, xs, ok⟩ := R
  clear hW0 hB0 hR
  rw [HN.out]
  cases ok
  · simp only [Bool.false_eq_true, if_false]
    go_enter Tryd.func21, Tryd.ntmps21
    go_wp2_with fail
    rw [← HW0.out]
    refine HC.out.mono ?_
    rintro e w1 ⟨v, rfl, hr⟩
    obtain ⟨_, av, cv, rfl, _⟩ := ownsRow_slI hr.1
    have hk1 := (hr.2.block _ (lt_get HK.out)).trans HK.out
    have HB1 := hid (HB0.out.trans (hr.2.mono HB0.out.size))
    have hB2 := HB1.out.alloc HB1.out.size (.cells #[.int .i64 V, .slice av xs.length cv] 24)
    have hk2 := (Below.heap_alloc w1 (.cells #[.int .i64 V, .slice av xs.length cv] 24) _ (lt_get hk1)).trans hk1
    have HB2 := hid hB2
    have HK2 := hid hk2
    obtain ⟨j0, j1, h0, h1⟩ := two_of hk2
    clear hB2 hk2 hk1
    go_wp2_with fail
    (try simp only [Exit.inBlock, Exit.then])
    have R3 := two_of (two_set HK2.out (.int .i64 0) (.slice none 0 0))
    exact done_cx (p := 2) (u := 3) (by kernel_rfl) rfl rfl R3.1 R3.2.1 rfl ⟨_, rfl, (res_nil _ _ HB2.out).set2 HK2.out (by decide) (Nat.le_refl _) _ _⟩
  · simp only [if_true]
    go_enter Tryd.func21, Tryd.ntmps21
    go_wp2_with fail
    rw [← HW0.out]
    refine HC.out.mono ?_
    rintro e w1 ⟨v, rfl, hr⟩
    obtain ⟨_, av, cv, rfl, _⟩ := ownsRow_slI hr.1
    have hk1 := (hr.2.block _ (lt_get HK.out)).trans HK.out
    have HB1 := hid (HB0.out.trans (hr.2.mono HB0.out.size))
    have hB2 := HB1.out.alloc HB1.out.size (.cells #[.int .i64 V, .slice av xs.length cv] 24)
    have hk2 := (Below.heap_alloc w1 (.cells #[.int .i64 V, .slice av xs.length cv] 24) _ (lt_get hk1)).trans hk1
    have HB2 := hid hB2
    have HK2 := hid hk2
    obtain ⟨j0, j1, h0, h1⟩ := two_of hk2
    clear hB2 hk2 hk1
    go_wp2_with fail
    (try simp only [Exit.inBlock, Exit.then])
    have R3 := two_of (two_set HK2.out (.int .i64 V) (.slice av xs.length cv))
    exact done_cx (p := 2) (u := 3) (by kernel_rfl) rfl rfl R3.1 R3.2.1 rfl ⟨_, rfl, ((hr.later HB0.out).after ((Below.refl _ w1).alloc (Nat.le_refl _) _)).set2 HK2.out (by decide) (Nat.le_refl _) _ _⟩

theorem parse_rc (l : List UInt8) : ((rcC l).2.2 = false → parseR l = (0, [], 6)) ∧ ((rcC l).2.2 = true → ∃ t, textR (rcC l).1 (rcC l).2.1 = (t, 0) ∧ parseR l = if t = l then ((rcC l).1, (rcC l).2.1, 0) else (0, [], 6)) := by
  unfold parseR rcC
  cases hr : rcR l with
  | none => exact ⟨fun _ => rfl, fun h => by cases h⟩
  | some p =>
    obtain ⟨n, S⟩ := p
    refine ⟨(fun h => by cases h), fun _ => ⟨textL (n : Int) (facetsL (madeL (n : Int) S)), ?_, rfl⟩⟩
    unfold textR
    rw [isCB_true (isC_made (rcR_ge hr) (rcR_le hr) S), if_pos rfl]

set_option maxRecDepth 100000 in
set_option maxHeartbeats 1000000 in
theorem implParseComplex (l : List UInt8) (w : World) (m : Int) (hm : w.cell? ⟨1, 0, none⟩ = some (.int .i64 m)) (hl : l.length ≤ 1048576) :
    Calls Tryd.prog 22 #[.string ⟨l.toArray⟩] w fun e w' => ∃ v, e = .returned (.tuple #[.agg #[.int .i64 (parseR l).1, v], .int .i64 (parseR l).2.2]) ∧ Res w w' v (parseR l).2.1 := by
  obtain ⟨W0, hW0⟩ : ∃ W0, W0 = w.alloc (.cells #[.int .i64 0, .slice none 0 0] 24) := ⟨_, rfl⟩
  have hB0 : Below w.heap.size w W0 := by rw [hW0]; exact (Below.refl _ w).alloc (Nat.le_refl _) _
  have HK := hid (show W0.heap[w.heap.size]? = some (.cells #[.int .i64 0, .slice none 0 0] 24 (0, 0)) by rw [hW0]; exact heap_alloc_new _ _)
  have HB0 := hid hB0
  have HW0 := hid hW0
  have HC := hid (readC_any l m W0 hl ((HB0.out.cell (p := ⟨1, 0, none⟩) (World.block_lt_of_cell? w _ hm)).trans hm))
  have HP := hid (parse_rc l)
  have HL := hid (rcC_len l)
  obtain ⟨s, hs⟩ : ∃ s : ByteArray, s = ⟨l.toArray⟩ := ⟨_, rfl⟩
  have Heq : Hid (∀ t : List UInt8, ((⟨t.toArray⟩ : ByteArray).toList == s.toList) = decide (t = l)) := hid (fun m => by
    rw [hs, ByteArray.toList_eq, ByteArray.toList_eq]
    by_cases h : m = l <;> simp [h])
  rw [← hs] at HC ⊢
  obtain ⟨R, hR⟩ : ∃ R, R = rcC l := ⟨_, rfl⟩
  rw [← hR] at HP HC HL
  obtain ⟨V, xs, ok⟩ := R
  have hxl : xs.length ≤ 1048576 := HL.out
  clear hW0 hB0 hR hs hm HL
  cases ok
  · rw [HP.out.1 rfl]
    go_enter Tryd.func22, Tryd.ntmps22
    go_wp2_with fail
    rw [← HW0.out]
    refine HC.out.mono ?_
    rintro e w1 ⟨v, rfl, hr⟩
    obtain ⟨_, av, cv, rfl, _⟩ := ownsRow_slI hr.1
    have hk1 := (hr.2.block _ (lt_get HK.out)).trans HK.out
    have HB1 := hid (HB0.out.trans (hr.2.mono HB0.out.size))
    have hB2 := HB1.out.alloc HB1.out.size (.cells #[.int .i64 V, .slice av xs.length cv] 24)
    have hk2 := (Below.heap_alloc w1 (.cells #[.int .i64 V, .slice av xs.length cv] 24) _ (lt_get hk1)).trans hk1
    have HB2 := hid hB2
    have HK2 := hid hk2
    obtain ⟨j0, j1, h0, h1⟩ := two_of hk2
    clear hB2 hk2 hk1
    go_wp2_with fail
    (try simp only [Exit.inBlock, Exit.then])
    have R3 := two_of (two_set HK2.out (.int .i64 0) (.slice none 0 0))
    exact done_cx (p := 2) (u := 3) (by kernel_rfl) rfl rfl R3.1 R3.2.1 rfl ⟨_, rfl, (res_nil _ _ HB2.out).set2 HK2.out (by decide) (Nat.le_refl _) _ _⟩
  · obtain ⟨t, ht, hp⟩ := HP.out.2 rfl
    have Htx := hid (fun a cap W (h : SlI W W.heap.size a xs) => by have := implComplexText V a cap xs W h hxl; rwa [show textR V xs = (t, 0) from ht] at this)
    obtain ⟨tb, htb⟩ : ∃ tb : ByteArray, tb = ⟨t.toArray⟩ := ⟨_, rfl⟩
    have hte : (tb.toList == s.toList) = decide (t = l) := by rw [htb]; exact Heq.out t
    simp only at Htx
    rw [← htb] at Htx
    have Hp := hid hp
    clear HP ht hp htb Heq
    by_cases htl : t = l
    · rw [decide_eq_true htl] at hte
      rw [Hp.out, if_pos htl]
      clear htl Hp
      go_enter Tryd.func22, Tryd.ntmps22
      go_wp2_with fail
      rw [← HW0.out]
      refine HC.out.mono ?_
      rintro e w1 ⟨v, rfl, hr⟩
      obtain ⟨_, av, cv, rfl, hsl⟩ := ownsRow_slI hr.1
      have hk1 := (hr.2.block _ (lt_get HK.out)).trans HK.out
      have HB1 := hid (HB0.out.trans (hr.2.mono HB0.out.size))
      obtain ⟨W2, hW2⟩ : ∃ W2, W2 = w1.alloc (.cells #[.int .i64 V, .slice av xs.length cv] 24) := ⟨_, rfl⟩
      have HB2 : Hid (Below w1.heap.size w1 W2) := hid (by rw [hW2]; exact (Below.refl _ _).alloc (Nat.le_refl _) _)
      have HK2 : Hid (W2.heap[w.heap.size]? = some (.cells #[.int .i64 0, .slice none 0 0] 24 (0, 0))) := hid (by rw [hW2]; exact (Below.heap_alloc _ _ _ (lt_get hk1)).trans hk1)
      have HQ2 : Hid (W2.heap[w1.heap.size]? = some (.cells #[.int .i64 V, .slice av xs.length cv] 24 (0, 0))) := hid (by rw [hW2]; exact heap_alloc_new _ _)
      have HW2 := hid hW2
      have HT2 := hid (Htx.out av cv W2 (hsl.later HB2.out HB2.out.size))
      obtain ⟨j0, j1, h0, h1⟩ := two_of HK2.out
      obtain ⟨i0, i1, _, _⟩ := two_of HQ2.out
      have HR := hid ((hr.later HB0.out).after HB2.out)
      clear hk1 hW2 hsl
      go_wp2_with fail
      rw [← HW2.out]
      refine HT2.out.mono ?_
      rintro e w3 ⟨rfl, hB3⟩
      have HR3 := hid (HR.out.after hB3)
      have hk3 := (hB3.block _ (lt_get HK2.out)).trans HK2.out
      obtain ⟨c0, c1, d0, d1⟩ := two_of hk3
      obtain ⟨a0, a1, _, _⟩ := two_of ((hB3.block _ (lt_get HQ2.out)).trans HQ2.out)
      have HK3 := hid hk3
      clear hB3 hk3
      go_wp2_with fail
      (try simp only [Exit.inBlock, Exit.then])
      have R3 := two_of (two_set HK3.out (.int .i64 V) (.slice av xs.length cv))
      exact done_cx (p := 2) (u := 3) (by kernel_rfl) rfl rfl R3.1 R3.2.1 rfl ⟨_, rfl, HR3.out.set2 HK3.out (by decide) (Nat.le_refl _) _ _⟩
    · rw [decide_eq_false htl] at hte
      rw [Hp.out, if_neg htl]
      clear htl Hp
      go_enter Tryd.func22, Tryd.ntmps22
      go_wp2_with fail
      rw [← HW0.out]
      refine HC.out.mono ?_
      rintro e w1 ⟨v, rfl, hr⟩
      obtain ⟨_, av, cv, rfl, hsl⟩ := ownsRow_slI hr.1
      have hk1 := (hr.2.block _ (lt_get HK.out)).trans HK.out
      have HB1 := hid (HB0.out.trans (hr.2.mono HB0.out.size))
      obtain ⟨W2, hW2⟩ : ∃ W2, W2 = w1.alloc (.cells #[.int .i64 V, .slice av xs.length cv] 24) := ⟨_, rfl⟩
      have HB2 : Hid (Below w1.heap.size w1 W2) := hid (by rw [hW2]; exact (Below.refl _ _).alloc (Nat.le_refl _) _)
      have HK2 : Hid (W2.heap[w.heap.size]? = some (.cells #[.int .i64 0, .slice none 0 0] 24 (0, 0))) := hid (by rw [hW2]; exact (Below.heap_alloc _ _ _ (lt_get hk1)).trans hk1)
      have HQ2 : Hid (W2.heap[w1.heap.size]? = some (.cells #[.int .i64 V, .slice av xs.length cv] 24 (0, 0))) := hid (by rw [hW2]; exact heap_alloc_new _ _)
      have HW2 := hid hW2
      have HT2 := hid (Htx.out av cv W2 (hsl.later HB2.out HB2.out.size))
      obtain ⟨j0, j1, h0, h1⟩ := two_of HK2.out
      obtain ⟨i0, i1, _, _⟩ := two_of HQ2.out
      clear hk1 hW2 hsl
      go_wp2_with fail
      rw [← HW2.out]
      refine HT2.out.mono ?_
      rintro e w3 ⟨rfl, hB3⟩
      have HB3 := hid (HB1.out.trans ((HB2.out.trans (hB3.mono HB2.out.size)).mono HB1.out.size))
      have hk3 := (hB3.block _ (lt_get HK2.out)).trans HK2.out
      obtain ⟨c0, c1, d0, d1⟩ := two_of hk3
      obtain ⟨a0, a1, _, _⟩ := two_of ((hB3.block _ (lt_get HQ2.out)).trans HQ2.out)
      have HK3 := hid hk3
      clear hB3 hk3
      go_wp2_with fail
      (try simp only [Exit.inBlock, Exit.then])
      have R3 := two_of (two_set HK3.out (.int .i64 0) (.slice none 0 0))
      exact done_cx (p := 2) (u := 3) (by kernel_rfl) rfl rfl R3.1 R3.2.1 rfl ⟨_, rfl, (res_nil _ _ HB3.out).set2 HK3.out (by decide) (Nat.le_refl _) _ _⟩

end Go.Proofs.YtbgkalkipalndaaDoor

/-! Contracts of the laws' small helpers: sizes, copies, comparisons. -/
namespace Go.Proofs.YtbgkalkipalndaaDoor
open Go.RowKit

theorem fill_step {xs : List Int} {k : Nat} (h : k < xs.length) :
    ((xs.take k ++ List.replicate (xs.length - k) (0 : Int)).map (Value.int .i64)).set k (.int .i64 (xs[k]?.getD 0)) = (xs.take (k + 1) ++ List.replicate (xs.length - (k + 1)) (0 : Int)).map (Value.int .i64) := by
  rw [take_snoc h, ← List.map_set]
  congr 1
  have e : xs.length - k = (xs.length - (k + 1)) + 1 := by omega
  rw [e, List.replicate_succ, List.set_append_right _ _ (by simp <;> omega)]
  simp [Nat.min_eq_left (Nat.le_of_lt h)]

set_option maxHeartbeats 400000 in
theorem toInts (a : Option Addr) (cap : Nat) (xs : List Int) (w : World) (hx : SlI w w.heap.size a xs) (hl : xs.length ≤ 1048576) :
    Calls Tryd.prog 36 #[.slice a xs.length cap] w fun e w' =>
      e = .returned (.slice (some ⟨w.heap.size, 0, none⟩) xs.length xs.length) ∧ w'.ownsRow w.heap.size 2 1 (.slice (some ⟨w.heap.size, 0, none⟩) xs.length xs.length) xs.length (xs.map (Value.int .i64)) ∧ Below w.heap.size w w' := by
  go_enter Tryd.func36, Tryd.ntmps36
  go_wp2_with (at_make; refine make_int rfl rfl rfl rfl (by omega) ?_; intro w1 hown hg hB)
  rcases hx with rfl | ⟨b, off, hb, rfl, hc⟩
  · refine wp_loop_rounds 1 ?_; rw [rounds_succ]
    go_wp2
    go_ret
    exact ⟨rfl, hown, hB⟩
  · go_loopw [4] (fun i wr => ∃ k : Nat, k ≤ xs.length ∧ i = .int .i64 k ∧ wr.ownsRow w.heap.size 2 1 (.slice (some ⟨w.heap.size, 0, none⟩) xs.length xs.length) xs.length ((xs.take k ++ List.replicate (xs.length - k) (0 : Int)).map (Value.int .i64)) ∧ Below w.heap.size w wr) (fun i _ => xs.length - (intOf i).toNat)
    case atStart => exact ⟨0, Nat.zero_le _, rfl, by simpa using hown, hB⟩
    case round =>
      obtain ⟨k, hk, rfl, hown, hB⟩ := hrel
      by_cases hlt : k < xs.length
      · obtain ⟨x, hx⟩ : ∃ x, x = xs[k]?.getD 0 := ⟨_, rfl⟩
        have hck : wr.cell? ⟨b, off + k, none⟩ = some (.int .i64 x) := by rw [hx]; exact (hB.cell (p := ⟨b, off + k, none⟩) hb).trans (hc k hlt)
        have hcg : wr.cell? ⟨w.heap.size, k, none⟩ = some (.int .i64 0) := by
          rw [hown.cellAt k (by omega)]
          rw [List.getElem?_map, List.getElem?_append_right (by simp <;> omega)]
          simp [List.getElem?_replicate, Nat.min_eq_left hk]
          omega
        have hfg := hown.frozenAt k
        have Hx := hid hx
        have Hc := hid hc
        clear hx hc
        have hst := hown.stored k (.int .i64 x)
        have Hst := hid hst.1
        clear hst
        go_wp2
        go_roundw
        case rel =>
          refine ⟨k + 1, by omega, by go_num, ?_, hB.setCell (p := ⟨w.heap.size, k, none⟩) (Nat.le_refl _) _⟩
          have h := Hst.out
          rw [Hx.out, fill_step hlt, ← Hx.out] at h
          exact h
        case measure => simp [intOf]; omega
      · go_wp2
        go_ret
        obtain rfl : k = xs.length := by omega
        exact ⟨rfl, by simpa using hown, hB⟩

/-- What is left of a size. -/
def szR (left : Int) (n : Nat) : Int := if left < n then -1 else left - n
theorem szR_big {left : Int} {n : Nat} (h : left < n) : szR left n = -1 := by unfold szR; rw [if_pos h]
theorem szR_fit {left : Int} {n : Nat} (h : ¬ left < n) : szR left n = left - n := by unfold szR; rw [if_neg h]

set_option maxHeartbeats 400000 in
theorem szInts (a : Option Addr) (n cap : Nat) (left : Int) (w : World) (h1 : 0 ≤ left) (h2 : left ≤ 1048576) (hn : n ≤ 9223372036854775807) :
    Calls Tryd.prog 33 #[.slice a n cap, .int .i64 left] w fun e w' => e = .returned (.int .i64 (szR left n)) ∧ w = w' := by
  by_cases h : left < n
  · have H := hid (szR_big h)
    go_enter Tryd.func33, Tryd.ntmps33
    go_wp2
    go_ret
    exact ⟨ret_int (by rw [H.out]), rfl⟩
  · have H := hid (szR_fit h)
    go_enter Tryd.func33, Tryd.ntmps33
    go_wp2
    go_ret
    exact ⟨ret_int (by rw [H.out]), rfl⟩

set_option maxHeartbeats 400000 in
theorem szCx (V : Int) (a : Option Addr) (n cap : Nat) (left : Int) (w : World) (h1 : 0 ≤ left) (h2 : left ≤ 1048576) (hn : n ≤ 9223372036854775807) :
    Calls Tryd.prog 17 #[.agg #[.int .i64 V, .slice a n cap], .int .i64 left] w fun e w' => e = .returned (.int .i64 (szR left n)) ∧ Below w.heap.size w w' := by
  have hr : szR left n = -1 ∨ 0 ≤ szR left n := by
    by_cases h : left < n
    · exact .inl (szR_big h)
    · rw [szR_fit h]; right; omega
  have hr' : szR left n < 0 ∨ 0 ≤ szR left n := by omega
  have hm : szR left n < 0 → szR left n = -1 := by omega
  have Hm := hid hm
  clear hr hm
  obtain ⟨r, hr0⟩ : ∃ r, r = szR left n := ⟨_, rfl⟩
  rw [← hr0] at hr'
  have hr := hr'
  have H := hid hr0
  clear hr0 hr'
  go_enter Tryd.func17, Tryd.ntmps17
  go_wp2_with fail
  refine (szInts a n cap left _ h1 h2 hn).mono ?_
  rintro e w' ⟨rfl, rfl⟩
  rw [← H.out]
  rcases hr with hr | hr
  · go_wp2
    go_ret
    exact ⟨ret_int (Hm.out (by rw [← H.out]; exact hr)).symm, (Below.refl _ w).alloc (Nat.le_refl _) _⟩
  · go_wp2
    go_ret
    exact ⟨ret_int H.out, (Below.refl _ w).alloc (Nat.le_refl _) _⟩

set_option maxHeartbeats 400000 in
theorem toCx (V : Int) (a : Option Addr) (cap : Nat) (xs : List Int) (w : World) (hx : SlI w w.heap.size a xs) (hl : xs.length ≤ 1048576) :
    Calls Tryd.prog 19 #[.agg #[.int .i64 V, .slice a xs.length cap]] w fun e w' =>
      ∃ g, e = .returned (.agg #[.int .i64 V, .slice (some ⟨g, 0, none⟩) xs.length xs.length]) ∧ w'.ownsRow w.heap.size 2 1 (.slice (some ⟨g, 0, none⟩) xs.length xs.length) xs.length (xs.map (Value.int .i64)) ∧ Below w.heap.size w w' := by
  go_enter Tryd.func19, Tryd.ntmps19
  go_wp2_with fail
  refine (toInts a cap xs _ (SlI.later hx (?hb : Below w.heap.size w _) ?hs) hl).mono ?_
  case hb => repeat (first | exact Below.refl _ _ | refine Below.alloc ?_ (by simp <;> omega) _ | refine Below.setCell ?_ (by simp <;> omega) _)
  case hs => simp <;> omega
  rintro e w1 ⟨rfl, hown, hB⟩
  have hB1 : Below w.heap.size w w1 := Below.trans (by repeat (first | exact Below.refl _ _ | refine Below.alloc ?_ (by simp <;> omega) _ | refine Below.setCell ?_ (by simp <;> omega) _)) (hB.mono (by simp <;> omega))
  have e0 : w1.cell? ⟨w.heap.size + 1 + 1, 0, none⟩ = some (.int .i64 V) := (hB.cell (p := ⟨w.heap.size + 1 + 1, 0, none⟩) (by simp)).trans (by simp [go_sem])
  have e1 : w1.cell? ⟨w.heap.size + 1 + 1, 1, none⟩ = some (.slice none 0 0) := (hB.cell (p := ⟨w.heap.size + 1 + 1, 1, none⟩) (by simp)).trans (by simp [go_sem])
  have e2 : w1.cell? ⟨w.heap.size + 1, 0, none⟩ = some (.int .i64 0) := (hB.cell (p := ⟨w.heap.size + 1, 0, none⟩) (by simp)).trans (by simp [go_sem])
  have e3 : w1.cell? ⟨w.heap.size + 1, 1, none⟩ = some (.slice none 0 0) := (hB.cell (p := ⟨w.heap.size + 1, 1, none⟩) (by simp)).trans (by simp [go_sem])
  have g1 : w1.frozen? ⟨w.heap.size + 1 + 1, 1, none⟩ = false := (hB.frozen (p := ⟨w.heap.size + 1 + 1, 1, none⟩) (by simp)).trans (by simp [go_sem])
  have g2 : w1.frozen? ⟨w.heap.size + 1, 0, none⟩ = false := (hB.frozen (p := ⟨w.heap.size + 1, 0, none⟩) (by simp)).trans (by simp [go_sem])
  have g3 : w1.frozen? ⟨w.heap.size + 1, 1, none⟩ = false := (hB.frozen (p := ⟨w.heap.size + 1, 1, none⟩) (by simp)).trans (by simp [go_sem])
  have hs1 := hB.size
  simp at hs1
  have Hown := hid (hown)
  clear hown
  go_wp2_with fail
  refine bodyPost_ret (v := .agg #[.int .i64 V, .slice (some ⟨w.heap.size + 1 + 1 + 1, 0, none⟩) xs.length xs.length]) (by simp [results, Tryd.results19, go_sem, e2, e3]) rfl ⟨w.heap.size + 1 + 1 + 1, rfl, ?_, ?_⟩
  · have h := Hown.out
    simp only [World.size_alloc] at h
    refine ownsRow_set (ownsRow_set (ownsRow_set (ownsRow_base h (by omega)) ?_ _) ?_ _) ?_ _ <;> (simp [Value.ownBlock] <;> omega)
  · exact ((hB1.setCell (by simp; omega) _).setCell (by simp) _).setCell (by simp) _

set_option maxHeartbeats 400000 in
theorem eqInts_any (a1 a2 : Option Addr) (c1 c2 : Nat) (xs ys : List Int) (w : World) (hx : SlI w w.heap.size a1 xs) (hy : SlI w w.heap.size a2 ys) (hl : xs.length ≤ 1048576) (hl2 : ys.length ≤ 1048576) :
    Calls Tryd.prog 30 #[.slice a1 xs.length c1, .slice a2 ys.length c2] w fun e w' => e = .returned (.bool (decide (xs = ys))) ∧ Below w.heap.size w w' := by
  by_cases hlen : xs.length = ys.length
  · rcases hx with rfl | ⟨b, off, hb, rfl, hc⟩
    · obtain rfl : ys = [] := List.eq_nil_of_length_eq_zero hlen.symm
      go_enter Tryd.func30, Tryd.ntmps30
      go_wp2
      refine wp_loop_rounds 1 ?_; rw [rounds_succ]
      go_wp2
      go_ret
      exact ⟨ret_bool (by simp), Below.refl _ _⟩
    · rcases hy with rfl | ⟨b2, off2, hb2, rfl, hc2⟩
      · obtain rfl : xs = [] := List.eq_nil_of_length_eq_zero hlen
        go_enter Tryd.func30, Tryd.ntmps30
        go_wp2
        refine wp_loop_rounds 1 ?_; rw [rounds_succ]
        go_wp2
        go_ret
        exact ⟨ret_bool (by simp), Below.refl _ _⟩
      · have Hc := hid hc
        have Hc2 := hid hc2
        have hne : ((xs.length : Int) != (ys.length : Int)) = false := by simp [hlen]
        have Hlen := hid hlen
        have hle : xs.length ≤ ys.length := by omega
        clear hc hc2 hlen
        go_enter Tryd.func30, Tryd.ntmps30
        go_wp2
        go_loopw [5] (fun i wr => ∃ k : Nat, k ≤ xs.length ∧ i = .int .i64 k ∧ Hid (∀ j, j < k → xs[j]?.getD 0 = ys[j]?.getD 0) ∧ Below w.heap.size w wr) (fun i _ => xs.length - (intOf i).toNat)
        case atStart => exact ⟨0, Nat.zero_le _, rfl, hid (by omega), Below.refl _ _⟩
        case round =>
          obtain ⟨k, hk, rfl, Hk, hB⟩ := hrel
          by_cases hlt : k < xs.length
          · obtain ⟨x, hx⟩ : ∃ x, x = xs[k]?.getD 0 := ⟨_, rfl⟩
            obtain ⟨y, hy⟩ : ∃ y, y = ys[k]?.getD 0 := ⟨_, rfl⟩
            have hck : wr.cell? ⟨b, off + k, none⟩ = some (.int .i64 x) := by rw [hx]; exact (hB.cell (p := ⟨b, off + k, none⟩) hb).trans (Hc.out k hlt)
            have hck2 : wr.cell? ⟨b2, off2 + k, none⟩ = some (.int .i64 y) := by rw [hy]; exact (hB.cell (p := ⟨b2, off2 + k, none⟩) hb2).trans (Hc2.out k (by omega))
            have Hx := hid hx
            have Hy := hid hy
            clear hx hy
            have hi0 : (0 : Int) ≤ (k : Int) := by omega
            have hi1 : (k : Int) < (xs.length : Int) := by omega
            have hi2 : (k : Int) < (ys.length : Int) := by omega
            by_cases hxy : x = y
            · have hd : (x != y) = false := by simp [hxy]
              have Hxy := hid hxy
              clear hxy
              go_wp2_with fail
              go_quiet (fail)
              go_wp2_with fail
              go_roundw
              case rel =>
                refine ⟨k + 1, by omega, by go_num, hid (fun j hj => ?_), hB.trans ⟨rfl, rfl, rfl, Nat.le_refl _, fun _ _ => rfl⟩⟩
                by_cases hjk : j < k
                · exact Hk.out j hjk
                · obtain rfl : j = k := by omega
                  rw [← Hx.out, ← Hy.out, Hxy.out]
              case measure => simp [intOf]; omega
            · have hd : (x != y) = true := by simp [hxy]
              go_wp2_with fail
              go_quiet (fail)
              go_wp2_with fail
              go_ret
              refine ⟨ret_bool ?_, hB.trans ⟨rfl, rfl, rfl, Nat.le_refl _, fun _ _ => rfl⟩⟩
              symm
              refine decide_eq_false (fun h => hxy ?_)
              rw [Hx.out, Hy.out, h]
          · obtain rfl : k = xs.length := by omega
            go_wp2
            go_ret
            refine ⟨ret_bool ?_, hB⟩
            symm
            refine decide_eq_true (List.ext_getElem Hlen.out (fun j h1 h2 => ?_))
            have := Hk.out j h1
            rw [List.getElem?_eq_getElem h1, List.getElem?_eq_getElem h2] at this
            simpa using this
  · have hne : ((xs.length : Int) != (ys.length : Int)) = true := by simp; omega
    have Hlen := hid hlen
    clear hlen
    go_enter Tryd.func30, Tryd.ntmps30
    go_wp2
    go_ret
    refine ⟨ret_bool ?_, Below.refl _ _⟩
    symm
    exact decide_eq_false (fun h => Hlen.out (by rw [h]))

theorem eqInts_yes (a1 a2 : Option Addr) (c1 c2 : Nat) (xs ys : List Int) (w : World) (hx : SlI w w.heap.size a1 xs) (hy : SlI w w.heap.size a2 ys) (hl : xs.length ≤ 1048576) (hl2 : ys.length ≤ 1048576) (h : xs = ys) :
    Calls Tryd.prog 30 #[.slice a1 xs.length c1, .slice a2 ys.length c2] w fun e w' => e = .returned (.bool true) ∧ Below w.heap.size w w' :=
  (eqInts_any a1 a2 c1 c2 xs ys w hx hy hl hl2).mono fun _ _ ⟨he, hw⟩ => ⟨by rw [he, decide_eq_true h], hw⟩

theorem eqInts_no (a1 a2 : Option Addr) (c1 c2 : Nat) (xs ys : List Int) (w : World) (hx : SlI w w.heap.size a1 xs) (hy : SlI w w.heap.size a2 ys) (hl : xs.length ≤ 1048576) (hl2 : ys.length ≤ 1048576) (h : ¬ xs = ys) :
    Calls Tryd.prog 30 #[.slice a1 xs.length c1, .slice a2 ys.length c2] w fun e w' => e = .returned (.bool false) ∧ Below w.heap.size w w' :=
  (eqInts_any a1 a2 c1 c2 xs ys w hx hy hl hl2).mono fun _ _ ⟨he, hw⟩ => ⟨by rw [he, decide_eq_false h], hw⟩

set_option maxHeartbeats 400000 in
theorem eqCx_yes (V : Int) (a1 a2 : Option Addr) (c1 c2 : Nat) (xs ys : List Int) (w : World) (hx : SlI w w.heap.size a1 xs) (hy : SlI w w.heap.size a2 ys) (hl : xs.length ≤ 1048576) (hl2 : ys.length ≤ 1048576) (h : xs = ys) :
    Calls Tryd.prog 14 #[.agg #[.int .i64 V, .slice a1 xs.length c1], .agg #[.int .i64 V, .slice a2 ys.length c2]] w fun e w' => e = .returned (.bool true) ∧ Below w.heap.size w w' := by
  have H := hid h
  clear h
  have hne : (V != V) = false := by simp
  go_enter Tryd.func14, Tryd.ntmps14
  go_wp2_with fail
  have hB : Below w.heap.size w ((w.alloc (.cells #[.int .i64 V, .slice a1 xs.length c1] 24)).alloc (.cells #[.int .i64 V, .slice a2 ys.length c2] 24)) := ((Below.refl _ w).alloc (Nat.le_refl _) _).alloc (by simp) _
  refine (eqInts_yes a1 a2 c1 c2 xs ys _ (SlI.later hx hB (by simp <;> omega)) (SlI.later hy hB (by simp <;> omega)) hl hl2 H.out).mono ?_
  rintro e w' ⟨rfl, hb⟩
  go_wp2_with fail
  go_ret
  exact ⟨rfl, hB.trans (hb.mono (by simp <;> omega))⟩

end Go.Proofs.YtbgkalkipalndaaDoor

/-! Marks: what the laws write into results, and find again. -/
namespace Go.Proofs.YtbgkalkipalndaaDoor
open Go.RowKit

/-- k, k + 1, .. -/
def count (k : Int) : Nat → List Int
  | 0 => []
  | n + 1 => count k n ++ [k + n]

theorem count_len (k : Int) : ∀ n, (count k n).length = n
  | 0 => rfl
  | n + 1 => by simp [count, count_len k n]

theorem count_get (k : Int) : ∀ n i, i < n → (count k n)[i]?.getD 0 = k + i
  | 0, i, h => by omega
  | n + 1, i, h => by
    unfold count
    by_cases hi : i < n
    · rw [List.getElem?_append_left (by rw [count_len]; exact hi)]
      exact count_get k n i hi
    · obtain rfl : i = n := by omega
      rw [List.getElem?_append_right (by rw [count_len]; omega), count_len]
      simp

theorem mark_step {k : Int} {xs : List Int} {j : Nat} (h : j < xs.length) :
    ((count k j ++ xs.drop j).map (Value.int .i64)).set j (.int .i64 (k + j)) = (count k (j + 1) ++ xs.drop (j + 1)).map (Value.int .i64) := by
  rw [← List.map_set]
  congr 1
  rw [List.set_append_right _ _ (by rw [count_len]; exact Nat.le_refl _), count_len, Nat.sub_self]
  rw [List.drop_eq_getElem_cons h, List.set_cons_zero]
  simp [count]

set_option maxHeartbeats 400000 in
theorem markInts (base : Nat) (a : Option Addr) (cap : Nat) (xs : List Int) (k : Int) (w : World) (hown : w.ownsRow base 2 1 (.slice a xs.length cap) xs.length (xs.map (Value.int .i64))) (hl : xs.length ≤ 1048576) (h0 : 0 ≤ k) (h1 : k ≤ 1099511627776) :
    Calls Tryd.prog 31 #[.slice a xs.length cap, .int .i64 k] w fun e w' => e = .returned (.int .i64 (k + xs.length)) ∧
      w'.ownsRow base 2 1 (.slice a xs.length cap) xs.length ((count k xs.length).map (Value.int .i64)) ∧ w.grownBy w' (Value.ownBlock (.slice a xs.length cap)) := by
  rcases hown.2 with ⟨hv, hn⟩ | ⟨g, cap', cur, hv, hb, hg, rest⟩
  · obtain rfl : xs = [] := List.eq_nil_of_length_eq_zero hn
    have Hown := hid hown
    clear hown hv hn
    go_enter Tryd.func31, Tryd.ntmps31
    go_wp2
    refine wp_loop_rounds 1 ?_; rw [rounds_succ]
    go_wp2
    go_ret
    exact ⟨ret_int (by simp), Hown.out, ⟨rfl, rfl, rfl, Nat.le_refl _, fun _ _ _ => rfl⟩⟩
  · cases hv
    have Hg := hid (And.intro hb hg)
    clear hb hg rest
    go_enter Tryd.func31, Tryd.ntmps31
    go_wp2
    go_loopw [1, 5] (fun m i wr => ∃ j : Nat, j ≤ xs.length ∧ i = .int .i64 j ∧ m = .int .i64 (k + j) ∧ wr.ownsRow base 2 1 (.slice (some ⟨g, 0, none⟩) xs.length cap) xs.length ((count k j ++ xs.drop j).map (Value.int .i64)) ∧ w.grownBy wr (some g)) (fun _ i _ => xs.length - (intOf i).toNat)
    case atStart => exact ⟨0, Nat.zero_le _, rfl, by simp, by simpa [count] using hown, ⟨rfl, rfl, rfl, Nat.le_refl _, fun _ _ _ => rfl⟩⟩
    case round =>
      obtain ⟨j, hj, rfl, rfl, hown, hgr⟩ := hrel
      by_cases hlt : j < xs.length
      · have hcg : ∃ u, wr.cell? ⟨g, j, none⟩ = some (.int .i64 u) := by
          rw [hown.cellAt j (by omega)]
          refine ⟨xs[j]?.getD 0, ?_⟩
          rw [List.getElem?_map, List.getElem?_append_right (by rw [count_len]; exact Nat.le_refl _), count_len, Nat.sub_self]
          simp [hlt]
        obtain ⟨u, hcu⟩ := hcg
        have hfg := hown.frozenAt j
        have hst := hown.stored j (.int .i64 (k + j))
        rw [mark_step hlt] at hst
        have Hst := hid hst
        have Hgr := hid hgr
        clear hst hown hgr
        go_wp2
        go_roundw
        case rel =>
          exact ⟨j + 1, by omega, by go_num, by go_num, Hst.out.1, Hgr.out.trans Hst.out.2⟩
        case measure => simp [intOf]; omega
      · go_wp2
        go_ret
        obtain rfl : j = xs.length := by omega
        exact ⟨rfl, by simpa using hown, hgr⟩

set_option maxHeartbeats 400000 in
theorem heldInts (a : Option Addr) (cap : Nat) (n : Nat) (xs : List Int) (k : Int) (w : World) (hxs : xs = count k n) (hx : SlI w w.heap.size a xs) (hl : n ≤ 1048576) (h0 : 0 ≤ k) (h1 : k ≤ 1099511627776) :
    Calls Tryd.prog 32 #[.slice a n cap, .int .i64 k] w fun e w' => e = .returned (.int .i64 (k + n)) ∧ Below w.heap.size w w' := by
  have hlen : xs.length = n := by rw [hxs, count_len]
  rcases hx with rfl | ⟨b, off, hb, rfl, hc⟩
  · obtain rfl : n = 0 := by simpa using hlen.symm
    clear hxs hlen
    go_enter Tryd.func32, Tryd.ntmps32
    go_wp2
    refine wp_loop_rounds 1 ?_; rw [rounds_succ]
    go_wp2
    go_ret
    exact ⟨ret_int (by simp), Below.refl _ _⟩
  · have Hc := hid hc
    have Hxs := hid hxs
    have Hlen := hid hlen
    clear hc hxs hlen
    go_enter Tryd.func32, Tryd.ntmps32
    go_wp2
    go_loop [1, 5] (fun m i => ∃ j : Nat, j ≤ n ∧ i = .int .i64 j ∧ m = .int .i64 (k + j)) (fun _ i => n - (intOf i).toNat)
    case atStart => exact ⟨0, Nat.zero_le _, rfl, by simp⟩
    case round =>
      obtain ⟨j, hj, rfl, rfl⟩ := hrel
      by_cases hlt : j < n
      · have hck : w.cell? ⟨b, off + j, none⟩ = some (.int .i64 (k + j)) := by
          have := Hc.out j (by rw [Hlen.out]; exact hlt)
          rw [Hxs.out, count_get _ _ _ hlt] at this
          exact this
        go_wp2
        go_round
        case rel => exact ⟨j + 1, by omega, by go_num, by go_num⟩
        case measure => simp [intOf]; omega
      · go_wp2
        go_ret
        obtain rfl : j = n := by omega
        exact ⟨rfl, Below.refl _ _⟩

/-! ### What a law keeps of the world: slices of its own, in the order in which they were made, and blocks -/

/-- A slice of int64 that lies in blocks from lo to hi. -/
structure Sl where
  lo : Nat
  hi : Nat
  v : Value
  xs : List Int

structure OwnI (w : World) (p : Sl) : Prop where
  own : w.ownsRow p.lo 2 1 p.v p.xs.length (p.xs.map (Value.int .i64))
  lt : ∀ g, p.v.ownBlock = some g → g < p.hi
  le : p.hi ≤ w.heap.size

structure Facts (w0 : World) (w : World) (A : List (Option Addr × List Int)) (bs : List (Nat × Obj)) (L : List Sl) : Prop where
  from0 : Below w0.heap.size w0 w
  args : ∀ q ∈ A, SlI w w0.heap.size q.1 q.2
  blocks : ∀ b ∈ bs, w.heap[b.1]? = some b.2
  slices : ∀ p ∈ L, OwnI w p

section
variable {w0 w w' : World} {A : List (Option Addr × List Int)} {bs : List (Nat × Obj)} {L : List Sl}

theorem Facts.ge (h : Facts w0 w A bs L) : w0.heap.size ≤ w.heap.size := h.from0.size

theorem Facts.below (h : Facts w0 w A bs L) (hb : Below w.heap.size w w') : Facts w0 w' A bs L where
  from0 := h.from0.trans (hb.mono h.ge)
  args := fun q hq => (h.args q hq).below (hb.mono h.ge)
  blocks := fun b hbm => (hb.block b.1 (Array.getElem?_eq_some_iff.1 (h.blocks b hbm)).1).trans (h.blocks b hbm)
  slices := fun p hp => ⟨ownsRow_below (h.slices p hp).own hb (fun g hg => Nat.lt_of_lt_of_le ((h.slices p hp).lt g hg) (h.slices p hp).le), (h.slices p hp).lt, Nat.le_trans (h.slices p hp).le hb.size⟩

theorem Facts.drew (h : Facts w0 w A bs L) : Facts w0 w.drew A bs L := h.below (Below.refl _ _).drew

theorem Facts.arg (h : Facts w0 w A bs L) {q : Option Addr × List Int} (hq : q ∈ A) : SlI w w.heap.size q.1 q.2 := (h.args q hq).mono h.ge

/-- A new block. -/
theorem Facts.alloc (h : Facts w0 w A bs L) (o : Obj) : Facts w0 (w.alloc o) A ((w.heap.size, o) :: bs) L where
  from0 := h.from0.alloc h.ge o
  args := fun q hq => (h.args q hq).below ((Below.refl _ w).alloc h.ge _)
  blocks := fun b hb => by
    rcases List.mem_cons.1 hb with rfl | hb
    · exact heap_alloc_new w o
    · exact (Below.heap_alloc w o _ (Array.getElem?_eq_some_iff.1 (h.blocks b hb)).1).trans (h.blocks b hb)
  slices := fun p hp => ⟨(h.slices p hp).own.alloc o, (h.slices p hp).lt, by have := (h.slices p hp).le; simp; omega⟩

/-- A new slice, out of a call. -/
theorem Facts.slice (h : Facts w0 w A bs L) {v : Value} {xs : List Int}
    (hown : w'.ownsRow w.heap.size 2 1 v xs.length (xs.map (Value.int .i64))) (hb : Below w.heap.size w w') : Facts w0 w' A bs (⟨w.heap.size, w'.heap.size, v, xs⟩ :: L) :=
  { h.below hb with
    slices := fun p hp => by
      rcases List.mem_cons.1 hp with rfl | hp
      · exact ⟨hown, fun g hg => (hown.lt g hg).2, Nat.le_refl _⟩
      · exact (h.below hb).slices p hp }

/-- A slice is marked: the others stay. -/
theorem Facts.mark {L' : List Sl} (h : Facts w0 w A bs L) {p : Sl} {ys : List Int} (hp : p ∈ L)
    (hown : w'.ownsRow p.lo 2 1 p.v ys.length (ys.map (Value.int .i64))) (hg : w.grownBy w' p.v.ownBlock)
    (hB : w0.heap.size ≤ p.lo) (hbs : ∀ b ∈ bs, b.1 < p.lo ∨ p.hi ≤ b.1) (hL : ∀ q ∈ L', q = { p with xs := ys } ∨ (q ∈ L ∧ (q.hi ≤ p.lo ∨ p.hi ≤ q.lo))) : Facts w0 w' A bs L' where
  from0 := h.from0.grown hg h.ge (fun k e => Nat.le_trans hB ((h.slices p hp).own.lt k e).1)
  args := fun q hq => (h.args q hq).below ((Below.refl _ w).grown hg h.ge (fun k e => Nat.le_trans hB ((h.slices p hp).own.lt k e).1))
  blocks := fun b hb => (hg.block b.1 (Array.getElem?_eq_some_iff.1 (h.blocks b hb)).1 (fun e => by
    have h1 := ((h.slices p hp).own.lt _ e.symm).1
    have h2 := (h.slices p hp).lt _ e.symm
    rcases hbs b hb with h3 | h3 <;> omega)).trans (h.blocks b hb)
  slices := fun q hq => by
    rcases hL q hq with rfl | ⟨hqm, hap⟩
    · exact ⟨hown, (h.slices p hp).lt, Nat.le_trans (h.slices p hp).le hg.size⟩
    · refine ⟨(h.slices q hqm).own.kept hg ?_, (h.slices q hqm).lt, Nat.le_trans (h.slices q hqm).le hg.size⟩
      cases hv : q.v.ownBlock with
      | none => exact .inl rfl
      | some g =>
        refine .inr (fun e => ?_)
        have h1 := ((h.slices p hp).own.lt _ e.symm).1
        have h2 := (h.slices p hp).lt _ e.symm
        have h3 := ((h.slices q hqm).own.lt _ hv).1
        have h4 := (h.slices q hqm).lt _ hv
        rcases hap with h5 | h5 <;> omega

theorem Facts.slI (h : Facts w0 w A bs L) {lo hi : Nat} {a : Option Addr} {m cap : Nat} {xs : List Int} (hp : (⟨lo, hi, .slice a m cap, xs⟩ : Sl) ∈ L) : SlI w w.heap.size a xs :=
  owned_slI (h.slices _ hp).own

theorem Facts.own (h : Facts w0 w A bs L) {lo hi : Nat} {v : Value} {xs : List Int} (hp : (⟨lo, hi, v, xs⟩ : Sl) ∈ L) : w.ownsRow lo 2 1 v xs.length (xs.map (Value.int .i64)) := (h.slices _ hp).own

theorem Facts.two (h : Facts w0 w A bs L) {b t : Nat} {u v : Value} (hb : (b, Obj.cells #[u, v] t (0, 0)) ∈ bs) : w.cell? ⟨b, 0, none⟩ = some u ∧ w.cell? ⟨b, 1, none⟩ = some v := by
  have := h.blocks _ hb
  constructor <;> simp [World.cell?, this]
end

set_option maxHeartbeats 400000 in
theorem markCx (V : Int) (base : Nat) (a : Option Addr) (cap : Nat) (xs : List Int) (k : Int) (w : World) (hown : w.ownsRow base 2 1 (.slice a xs.length cap) xs.length (xs.map (Value.int .i64))) (hl : xs.length ≤ 1048576) (h0 : 0 ≤ k) (h1 : k ≤ 1099511627776) :
    Calls Tryd.prog 15 #[.agg #[.int .i64 V, .slice a xs.length cap], .int .i64 k] w fun e w' => e = .returned (.int .i64 (k + xs.length)) ∧
      w'.ownsRow base 2 1 (.slice a xs.length cap) xs.length ((count k xs.length).map (Value.int .i64)) ∧ w.grownBy w' (Value.ownBlock (.slice a xs.length cap)) := by
  have Hown := hid (hown.alloc (.cells #[.int .i64 V, .slice a xs.length cap] 24))
  clear hown
  go_enter Tryd.func15, Tryd.ntmps15
  go_wp2_with fail
  refine (markInts base a cap xs k _ Hown.out hl h0 h1).mono ?_
  rintro e w1 ⟨rfl, hown1, hgr⟩
  go_wp2_with fail
  go_ret
  exact ⟨rfl, hown1, (World.grownBy_alloc w _ _).trans hgr⟩

set_option maxHeartbeats 400000 in
theorem heldCx (V : Int) (a : Option Addr) (cap n : Nat) (xs : List Int) (k : Int) (w : World) (hxs : xs = count k n) (hx : SlI w w.heap.size a xs) (hl : n ≤ 1048576) (h0 : 0 ≤ k) (h1 : k ≤ 1099511627776) :
    Calls Tryd.prog 16 #[.agg #[.int .i64 V, .slice a n cap], .int .i64 k] w fun e w' => e = .returned (.int .i64 (k + n)) ∧ Below w.heap.size w w' := by
  have hB : Below w.heap.size w (w.alloc (.cells #[.int .i64 V, .slice a n cap] 24)) := (Below.refl _ w).alloc (Nat.le_refl _) _
  have Hxs := hid hxs
  have Hx := hid (hx.later hB (by simp))
  clear hxs hx
  go_enter Tryd.func16, Tryd.ntmps16
  go_wp2_with fail
  refine (heldInts a cap n xs k _ Hxs.out Hx.out hl h0 h1).mono ?_
  rintro e w1 ⟨rfl, hB1⟩
  go_wp2_with fail
  go_ret
  exact ⟨rfl, hB.trans (hB1.mono (by simp))⟩

end Go.Proofs.YtbgkalkipalndaaDoor
