import Derived.Lib.AppendZeros
import Derived.Lib.SliceRun
import Derived.Laws.OwnMore
import Derived.Test.YtgcpakhagbbiiaaRows
import Derived.ProofKit
import Derived.OpenShut
import Derived.ShutString
import Derived.ChangeOld
import Derived.Below
import Derived.Lib.SmallJoins
import Derived.Test.YtgcpakhagbbiiaaMB1
import Derived.Test.YtgcpakhagbbiiaaMB2
import Derived.Test.YtgcpakhagbbiiaaMB4
import Derived.Test.YtgcpakhagbbiiaaMB5
import Derived.Test.YtgcpakhagbbiiaaMB6
/-! l02Order: the model's order. -/
namespace Go.Proofs.Ytgcpakhagbbiiaa
open Go.RowKit

/-- Which faces have been put down. -/
def plL (L : List Int) : List Bool := (List.range 64).map fun i : Nat => decide ((i : Int) ∈ L)
theorem plL_nil : plL [] = List.replicate 64 false := by simp [plL]; decide
theorem plL_len (L : List Int) : (plL L).length = 64 := by simp [plL]
theorem plL_at (L : List Int) {i : Nat} (hi : i < 64) : (plL L)[i]? = some (decide ((i : Int) ∈ L)) := by simp [plL, hi]
theorem plL_set (L : List Int) {i : Nat} (hi : i < 64) : (plL L).set i true = plL (L ++ [(i : Int)]) := by
  apply List.ext_getElem?
  intro j
  by_cases hj : j < 64
  · rw [plL_at _ hj, List.getElem?_set]
    by_cases e : i = j
    · subst e
      simp [plL_len, hi]
    · rw [if_neg e, plL_at _ hj]
      have : ¬ ((j : Int) = (i : Int)) := by omega
      simp [this]
  · rw [List.getElem?_eq_none (by simp [plL_len]; omega), List.getElem?_eq_none (by simp [plL_len]; omega)]

/-- The world: what has been put down, as marks and in its order. -/
structure OrW (W0 wr : World) (bp : Nat) (v : Value) (L : List Int) : Prop where
  om : wr.ownsRow W0.heap.size 4 1 (.slice (some ⟨bp, 0, none⟩) 64 64) 64 ((plL L).map Value.bool)
  oo : wr.ownsRow W0.heap.size 2 1 v L.length (L.map (Value.int .i64))
  below : Below W0.heap.size W0 wr
theorem OrW.ne {W0 wr : World} {bp : Nat} {v : Value} {L : List Int} (h : OrW W0 wr bp v L) : v.ownBlock ≠ some bp := fun e => apart_ty h.oo h.om (by decide) bp e rfl
theorem OrW.later {W0 wr w' : World} {bp : Nat} {v : Value} {L : List Int} (h : OrW W0 wr bp v L) (hB : Below wr.heap.size wr w') : OrW W0 w' bp v L :=
  ⟨row_later (B := 0) h.om hB rfl, row_later (B := 0) h.oo hB rfl, h.below.trans (hB.mono h.below.size)⟩
theorem OrW.mark {W0 wr : World} {bp : Nat} {M : List Int} {i : Nat} (h : wr.ownsRow W0.heap.size 4 1 (.slice (some ⟨bp, 0, none⟩) 64 64) 64 ((plL M).map Value.bool)) (hi : i < 64) :
    (wr.setCell ⟨bp, i, none⟩ (.bool true)).ownsRow W0.heap.size 4 1 (.slice (some ⟨bp, 0, none⟩) 64 64) 64 ((plL (M ++ [(i : Int)])).map Value.bool) ∧ wr.grownBy (wr.setCell ⟨bp, i, none⟩ (.bool true)) (some bp) := by
  have hs := h.stored i (.bool true)
  rw [← List.map_set, plL_set M hi] at hs
  exact hs

/-- The faces ahead of a place, none of which can follow. -/
theorem next_first {fs ps : List Int} {n : Nat} {L : List Int} {i : Nat} (hi : i < fs.length) (hb : ∀ j, j < i → readyB ps n L (fs[j]?.getD 0) = false) (hr : readyB ps n L (fs[i]?.getD 0) = true) : nextF fs ps n L = some (fs[i]?.getD 0) := by
  unfold nextF
  rw [List.find?_eq_some_iff_getElem]
  refine ⟨hr, i, hi, by rw [List.getElem?_eq_getElem hi]; rfl, fun j hj => ?_⟩
  have := hb j hj
  rw [List.getElem?_eq_getElem (by omega)] at this
  simpa using this
theorem next_none {fs ps : List Int} {n : Nat} {L : List Int} (hb : ∀ j, j < fs.length → readyB ps n L (fs[j]?.getD 0) = false) : nextF fs ps n L = none := by
  unfold nextF
  rw [List.find?_eq_none]
  intro x hx
  obtain ⟨j, hj, rfl⟩ := List.getElem_of_mem hx
  have := hb j hj
  rw [List.getElem?_eq_getElem hj] at this
  simpa using this

/-- Parts of the test. -/
def noHiTo (ps : List Int) (x : Int) (k : Nat) : Bool := (List.range k).all fun j => decide (at0 ps (j * 2 + 1) ≠ x)
theorem noHiTo_succ (ps : List Int) (x : Int) (k : Nat) : noHiTo ps x (k + 1) = (noHiTo ps x k && decide (at0 ps (k * 2 + 1) ≠ x)) := by
  unfold noHiTo
  rw [List.range_succ, List.all_append]
  simp
theorem noHi_eq (ps : List Int) (n : Nat) (x : Int) : noHiTo ps x n = !isHighB ps n x := by
  unfold noHiTo isHighB
  rw [List.not_any_eq_all_not]
  simp
def dnB (L : List Int) (x : Int) (bs : List Int) : Bool := bs.all fun b => decide (b ∈ L) || decide (b = x)
theorem dnB_succ (L : List Int) (x : Int) {bs : List Int} {k : Nat} (hk : k < bs.length) : dnB L x (bs.take (k + 1)) = (dnB L x (bs.take k) && (decide (bs[k]?.getD 0 ∈ L) || decide (bs[k]?.getD 0 = x))) := by
  unfold dnB
  rw [take_snoc hk, List.all_append]
  simp
def grB (L : List Int) (x : Int) (gs : List Int) : Bool := gs.all fun m => dnB L x (belowR m.toNat 63)
theorem grB_succ (L : List Int) (x : Int) {gs : List Int} {k : Nat} (hk : k < gs.length) : grB L x (gs.take (k + 1)) = (grB L x (gs.take k) && dnB L x (belowR (gs[k]?.getD 0).toNat 63)) := by
  unfold grB
  rw [take_snoc hk, List.all_append]
  simp
theorem ready_parts (ps : List Int) (n : Nat) (L : List Int) (x : Int) : readyB ps n L x = (!decide (x ∈ L) && noHiTo ps x n && grB L x (grpL ps n x)) := by
  rw [noHi_eq]
  rfl

theorem grp_rng {ps : List Int} {n : Nat} (h : HighsB ps n) {q : Int} (hq : 0 ≤ q ∧ q < 64) {x : Int} (hx : x ∈ grpL ps n q) : 0 ≤ x ∧ x < 64 := by
  unfold grpL at hx
  split at hx
  · simp at hx; omega
  · simp at hx
    rcases hx with rfl | rfl
    · exact hq
    · exact h q
theorem grp_le (ps : List Int) (n : Nat) (q : Int) : (grpL ps n q).length ≤ 2 := by
  unfold grpL
  split <;> simp

set_option maxRecDepth 1000000 in
set_option maxHeartbeats 16000000 in
theorem order_any (V : Int) (a0 : Option Addr) (cap : Nat) (fs : List Int) (a1 : Option Addr) (n cap1 : Nat) (ps : List Int) (w : World) (hx : SlI w w.heap.size a0 fs) (hx1 : SlI w w.heap.size a1 ps) (hp : ps.length = 2 * n) (hn : n ≤ 1048576) (hC : IsC V fs) (hO : OkTo fs ps n) :
    Calls Try.prog 58 #[.agg #[.int .i64 V, .slice a0 fs.length cap], .slice a1 n cap1] w fun e w' => ∃ v, e = .returned (.tuple #[v, .bool (acyB ps n)]) ∧ Res w w' v (ordL fs ps n) := by
  have h63 := hC.len63
  have hl : fs.length ≤ 1048576 := by omega
  obtain ⟨W0, hW0⟩ : ∃ W0, W0 = w.alloc (.cells #[.int .i64 V, .slice a0 fs.length cap] 30) := ⟨_, rfl⟩
  have hB0 : Below w.heap.size w W0 := by rw [hW0]; exact (Below.refl _ w).alloc (Nat.le_refl _) _
  have hs0 : W0.heap.size = w.heap.size + 1 := by rw [hW0]; simp
  have q0 : W0.heap[w.heap.size]? = some (.cells #[.int .i64 V, .slice a0 fs.length cap] 30 (0, 0)) := by rw [hW0]; exact heap_alloc_new w _
  obtain ⟨wm, hmk, hownm, hgm, hBm⟩ := make_run64 W0
  have Hx := hid (hx.later hB0 hB0.size)
  have Hy := hid (hx1.later hB0 hB0.size)
  have Hp := hid hp
  have Hf := hid hC.range63
  have HC := hid hC
  have HO := hid hO
  have HB0 := hid hB0
  have Q0 := hid q0
  have hz := hBm.size
  have HW0 : Hid (OrW W0 (wm.alloc (.cells #[] 2)) W0.heap.size (.slice (some ⟨wm.heap.size, 0, none⟩) 0 0) []) := hid ⟨by rw [plL_nil]; exact hownm.alloc _, World.ownsRow_made (base := W0.heap.size) (e := 2) (size := 1) wm #[] 0 hz (by unfold maxLen; omega) rfl, hBm.alloc hz _⟩
  have HHb := hid (okTo_highs hC hO)
  have HAcy := hid (ordL_acy hC hO)
  have HEnd := hid (fun (k : Nat) (h1 : ∀ j, j < k → nextF fs ps n (ordN fs ps n j) ≠ none) (h2 : nextF fs ps n (ordN fs ps n k) = none) => ord_end hC hO h1 h2)
  have HInv := hid (fun k => ordN_inv hC hO k)
  obtain ⟨ab, hab⟩ : ∃ ab, ab = acyB ps n := ⟨_, rfl⟩
  rw [← hab] at HAcy ⊢
  obtain ⟨OL, hOL⟩ : ∃ OL, OL = ordL fs ps n := ⟨_, rfl⟩
  rw [← hOL] at HAcy HEnd ⊢
  clear hx hx1 hp hC hO hB0 q0 hownm hgm hab hOL
  go_enter Try.func58, Try.ntmps58
  go_wp2_with fail
  rw [← hW0]
  clear hW0
  go_wp2_with (simp only [hmk])
  go_loopg [7, 8] 70 (fun gg v mm wr => ∃ (k : Nat) (mb : Bool) (vo : Value), mm = .bool mb ∧ v = vo ∧ Hid (OrW W0 wr W0.heap.size vo (ordN fs ps n k)) ∧ Hid (∀ j, j < k → nextF fs ps n (ordN fs ps n j) ≠ none) ∧ Hid (mb = false → nextF fs ps n (ordN fs ps n k) = none) ∧ (if mb = true then 66 - k else 0) ≤ gg)
  case atStart => exact ⟨0, true, _, rfl, rfl, HW0, hid (fun j hj => by omega), hid (fun h => by cases h), by simp⟩
  case round =>
    obtain ⟨k, mb, vo, rfl, rfl, HW, Hk, Hm, hgg⟩ := hrel
    cases mb
    · have hN := Hm.out rfl
      obtain ⟨_, av, cv, rfl, _⟩ := ownsRow_slI HW.out.oo
      have k1 : wr.cell? ⟨w.heap.size, 1, none⟩ = some (.slice a0 fs.length cap) := (HW.out.below.cell (p := ⟨w.heap.size, 1, none⟩) (lt_of_get Q0.out)).trans (two_of Q0.out).2.1
      have hE := HEnd.out k Hk.out hN
      rw [hE] at HW ⊢
      go_wp2_with fail
      go_region
      go_wp2_with fail
      go_ret2
      have hBd : Below wr.heap.size wr wr.drew := below_drewN (Below.refl _ wr) 1
      refine ⟨_, ?_, ownsRow_base (row_later (B := 0) HW.out.oo hBd rfl) (by omega), HB0.out.trans ((HW.out.below.trans (hBd.mono HW.out.below.size)).mono (by omega))⟩
      have e : ((OL.length : Int) == (fs.length : Int)) = decide (OL.length = fs.length) := by
        apply Bool.eq_iff_iff.2
        simp
        omega
      rw [← HAcy.out, ← e]
      rfl
    · have hfs : fs.length - 0 ≤ 1048576 := by omega
      obtain ⟨L, hL⟩ : ∃ L, L = ordN fs ps n k := ⟨_, rfl⟩
      have HS := hid (show ordN fs ps n (k + 1) = stepO fs ps n L by rw [hL]; rfl)
      have HIk := hid (show InvO fs ps n L by rw [hL]; exact HInv.out k)
      have HIk1 := hid (HInv.out (k + 1))
      rw [← hL] at HW
      have HL := hid hL
      clear hL HW0
      go_wp2_with fail
      go_loopw [7, 8, 9] (fun v mm ii wr => ∃ (i : Nat) (m' : Bool) (vo' : Value), v = vo' ∧ mm = .bool m' ∧ ii = .int .i64 i ∧ i ≤ fs.length ∧ Hid (OrW W0 wr W0.heap.size vo' (if m' then ordN fs ps n (k + 1) else L)) ∧ Hid (m' = false → ∀ j, j < i → readyB ps n L (fs[j]?.getD 0) = false) ∧ Hid (m' = true → nextF fs ps n L ≠ none)) (fun _ _ i _ => fs.length - (intOf i).toNat)
      case atStart => exact ⟨0, false, _, rfl, rfl, rfl, Nat.zero_le _, HW, hid (fun _ j hj => by omega), hid (fun h => by cases h)⟩
      case round =>
        obtain ⟨i, m', vo', rfl, rfl, rfl, hi, HW, Hr, Hs⟩ := hrel
        obtain ⟨_, av, cv, rfl, _⟩ := ownsRow_slI HW.out.oo
        have hgp : w.heap.size < W0.heap.size := lt_of_get Q0.out
        have k1 : wr.cell? ⟨w.heap.size, 1, none⟩ = some (.slice a0 fs.length cap) := (HW.out.below.cell (p := ⟨w.heap.size, 1, none⟩) hgp).trans (two_of Q0.out).2.1
        by_cases hlt : i < fs.length ∧ m' = false
        · obtain ⟨hlt, rfl⟩ := hlt
          have Hr1 := hid (Hr.out rfl)
          simp only [if_false, Bool.false_eq_true] at HW ⊢
          obtain ⟨q, hq⟩ : ∃ q : Nat, fs[i]?.getD 0 = q := ⟨(fs[i]?.getD 0).toNat, by have := Hf.out (fs[i]?.getD 0) (getD_mem hlt); omega⟩
          have hq63 : 1 ≤ q ∧ q ≤ 63 := by have := Hf.out (fs[i]?.getD 0) (getD_mem hlt); omega
          rcases Hx.out with h | ⟨b, off, hb, rfl, hc⟩
          · rw [h] at hlt; simp at hlt
          have kc : wr.cell? ⟨b, off + i, none⟩ = some (.int .i64 (q : Int)) := by
            rw [HW.out.below.cell (p := ⟨b, off + i, none⟩) hb, hc i hlt, hq]
          have HH := hid (high_any a1 n cap1 ps (q : Int) wr (Hy.out.later HW.out.below HW.out.below.size) Hp.out hn)
          have Hq := hid hq
          clear hc hq
          have hi0 : (0 : Int) ≤ (i : Int) := by omega
          have hi1 : (i : Int) < (fs.length : Int) := by omega
          go_upto_if 44 with (go_at_call 116; refine HH.out.mono ?_; rintro e w' ⟨rfl, rfl⟩)
          go_cut [12] from 22 to 120 (fun gv wx => ∃ g c, gv = .slice (some ⟨g, 0, none⟩) (grpL ps n q).length c ∧ wx.ownsRow wr.heap.size 2 1 gv (grpL ps n q).length ((grpL ps n q).map (Value.int .i64)) ∧ Below wr.heap.size wr wx)
          case first =>
            have hown1 : (wr.alloc (.cells #[.int .i64 (q : Int)] 2)).ownsRow wr.heap.size 2 1 (.slice (some ⟨wr.heap.size, 0, none⟩) 1 1) [(q : Int)].length ([(q : Int)].map (Value.int .i64)) := ⟨by simp, .inr ⟨wr.heap.size, 1, #[.int .i64 (q : Int)], rfl, Nat.le_refl _, heap_alloc_new wr _, by simp, by simp [maxLen], rfl, by simp⟩⟩
            have hB1 : Below wr.heap.size wr (wr.alloc (.cells #[.int .i64 (q : Int)] 2)) := (Below.refl _ wr).alloc (Nat.le_refl _) _
            have hsz := hB1.size
            obtain ⟨w1, hw1⟩ : ∃ w1, w1 = wr.alloc (.cells #[.int .i64 (q : Int)] 2) := ⟨_, rfl⟩
            rw [← hw1] at hown1 hB1 hsz ⊢
            have Hown1 := hid hown1
            have HB1 := hid hB1
            clear hw1
            clear hown1 hB1
            by_cases h0 : highOf ps n q = 0
            · have hz0 : (highOf ps n q != 0) = false := by simp [h0]
              have hg : grpL ps n q = [(q : Int)] := by unfold grpL; rw [if_pos h0]
              have Hg := hid hg
              clear h0 hg
              go_wp2_with fail
              go_meet
              case rel => rw [Hg.out]; exact ⟨_, _, rfl, Hown1.out, HB1.out⟩
            · have hz0 : (highOf ps n q != 0) = true := by simp [h0]
              have hg : grpL ps n q = [(q : Int)] ++ [highOf ps n q] := by unfold grpL; rw [if_neg h0]; rfl
              have Hg := hid hg
              clear h0 hg
              go_wp2_with (at_builtin; refine append_int_at (xs := [(q : Int)]) rfl rfl Hown1.out hsz (by simp) rfl rfl ?_; intro v' w4 hown4 hgrow4 hat4 hB4)
              obtain ⟨g, c, rfl, _⟩ := owned_some hown4 (by rcases hat4 with h | h <;> rw [h] <;> simp [Value.ownBlock])
              go_meet
              case rel => rw [Hg.out]; exact ⟨_, _, rfl, hown4, HB1.out.trans hB4⟩
          case rest =>
            obtain ⟨g, c, rfl, hG, hBG⟩ := hcut
            have HX := hid (HW.out.later hBG)
            have cm : ∀ j : Nat, j < 64 → wc.cell? ⟨w.heap.size + 1, j, none⟩ = some (.bool (decide ((j : Int) ∈ L))) := fun j hj => by
              rw [← hs0, HX.out.om.cellAt j hj]
              simp [plL, hj]
            obtain ⟨b0, hb0⟩ : ∃ b0, b0 = decide ((q : Int) ∈ L) := ⟨_, rfl⟩
            have cq := cm q (by omega)
            rw [← hb0] at cq
            have Hcm := hid cm
            obtain ⟨G, hGe⟩ : ∃ G, G = grpL ps n q := ⟨_, rfl⟩
            have hG2 : G.length ≤ 2 := by rw [hGe]; exact grp_le _ _ _
            have hGr : ∀ i, i < G.length → 0 ≤ G[i]?.getD 0 ∧ G[i]?.getD 0 < 64 := fun i hi => by
              have := getD_mem hi
              rw [hGe] at this ⊢
              exact grp_rng HHb.out (by omega) this
            rw [← hGe] at hG ⊢
            have hgl := hG.lt g rfl
            have hgc : ∀ i, i < G.length → wc.cell? ⟨g, i, none⟩ = some (.int .i64 (G[i]?.getD 0)) := fun i hi => by rw [hG.cellAt i (by simpa using hi)]; simp [hi]
            have hgb : g ≠ w.heap.size + 1 := by
              have h : W0.heap.size < wr.heap.size := (HW.out.om.lt W0.heap.size rfl).2
              omega
            have hgv : (Value.slice av L.length cv).ownBlock ≠ some g := fun e => by
              have := (HW.out.oo.lt _ e).2
              omega
            have HGe := hid hGe
            have HGr := hid hGr
            have Hgc := hid hgc
            have HBG := hid hBG
            have Hb0 := hid hb0
            have Hcm := hid cm
            have hq0 : (0 : Int) ≤ (q : Int) := by omega
            have hq1 : (q : Int) < 64 := by omega
            clear cm hG hBG hb0 hGe hGr hgc
            go_wp2_with fail
            go_loopw [13, 14] (fun r jj wx => ∃ j : Nat, j ≤ n ∧ r = .bool (!b0 && noHiTo ps q j) ∧ jj = .int .i64 j ∧ Hid (Below wc.heap.size wc wx)) (fun _ jj _ => n - (intOf jj).toNat)
            case atStart => exact ⟨0, Nat.zero_le _, by simp [noHiTo], rfl, hid (Below.refl _ _)⟩
            case round =>
              obtain ⟨j, hj, rfl, rfl, HBj⟩ := hrel
              by_cases hjn : j < n
              · obtain ⟨b2, off2, hb2, rfl, hc2⟩ : ∃ b off, b < W0.heap.size ∧ a1 = some ⟨b, off, none⟩ ∧ ∀ i, i < ps.length → W0.cell? ⟨b, off + i, none⟩ = some (.int .i64 (ps[i]?.getD 0)) := by
                  rcases Hy.out with h | h
                  · have := Hp.out; rw [h] at this; simp at this; omega
                  · exact h
                have c1 : wr.cell? ⟨b2, off2 + j * 2 + 1, none⟩ = some (.int .i64 (at0 ps (j * 2 + 1))) := ((HX.out.below.trans (HBj.out.mono HX.out.below.size)).cell (p := ⟨b2, off2 + j * 2 + 1, none⟩) hb2).trans (hc2 (j * 2 + 1) (by have := Hp.out; omega))
                obtain ⟨y, hy⟩ : ∃ y, y = at0 ps (j * 2 + 1) := ⟨_, rfl⟩
                rw [← hy] at c1
                have hi0 : (0 : Int) ≤ (j : Int) := by omega
                have hi1 : (j : Int) < (n : Int) := by omega
                have Hsu : Hid ((!b0 && noHiTo ps q (j + 1)) = ((!b0 && noHiTo ps q j) && (y != (q : Int)))) := hid (by
                  rw [noHiTo_succ, ← hy, Bool.and_assoc]
                  congr 2
                  rw [Bool.eq_iff_iff]
                  simp)
                clear hc2 hy
                obtain ⟨rb, hrb⟩ : ∃ rb, rb = (!b0 && noHiTo ps q j) := ⟨_, rfl⟩
                rw [← hrb] at Hsu ⊢
                clear hrb
                obtain ⟨d, hd⟩ : ∃ d, (y != (q : Int)) = d := ⟨_, rfl⟩
                rw [hd] at Hsu
                cases rb
                · go_wp2_with fail
                  go_roundw
                  case rel => exact ⟨j + 1, by omega, by rw [Hsu.out]; rfl, by go_num, HBj⟩
                  case measure => simp [intOf]; omega
                · go_wp2_with fail
                  go_roundw
                  case rel => exact ⟨j + 1, by omega, by rw [Hsu.out]; first | rfl | (rw [← hd]; rfl) | simp [hd], by go_num, HBj⟩
                  case measure => simp [intOf]; omega
              · have hjn' : ¬ (j : Int) < (n : Int) := by omega
                have ej : noHiTo ps q j = noHiTo ps q n := by rw [show j = n by omega]
                rw [ej]
                obtain ⟨b1, hb1⟩ : ∃ b1, b1 = (!b0 && noHiTo ps q n) := ⟨_, rfl⟩
                have Hb1 := hid hb1
                rw [← hb1]
                clear ej hb1
                go_wp2_with fail
                go_loopw [13, 15] (fun r jj wx => ∃ t : Nat, t ≤ G.length ∧ r = .bool (b1 && grB L q (G.take t)) ∧ jj = .int .i64 t ∧ Hid (Below wc.heap.size wc wx)) (fun _ jj _ => G.length - (intOf jj).toNat)
                case atStart => exact ⟨0, Nat.zero_le _, by simp [grB], rfl, HBj⟩
                case round =>
                  clear HBj
                  obtain ⟨t, ht, rfl, rfl, HBt⟩ := hrel
                  by_cases htn : t < G.length
                  · obtain ⟨m, hm⟩ : ∃ m : Nat, G[t]?.getD 0 = m := ⟨(G[t]?.getD 0).toNat, by have := HGr.out t htn; omega⟩
                    have hm64 : m < 64 := by have := HGr.out t htn; omega
                    have cg : wr.cell? ⟨g, t, none⟩ = some (.int .i64 (m : Int)) := by
                      rw [HBt.out.cell (p := ⟨g, t, none⟩) hgl.2, Hgc.out t htn, hm]
                    have Hsu : Hid ((b1 && grB L q (G.take (t + 1))) = ((b1 && grB L q (G.take t)) && dnB L q (belowR m 63))) := hid (by
                      rw [grB_succ L q htn, hm, Int.toNat_natCast, Bool.and_assoc])
                    have HBl := hid (below_any m wr hm64)
                    have hi0 : (0 : Int) ≤ (t : Int) := by omega
                    have hi1 : (t : Int) < (G.length : Int) := by omega
                    clear hm
                    obtain ⟨bs, hbs⟩ : ∃ bs, bs = belowR m 63 := ⟨_, rfl⟩
                    rw [← hbs] at HBl Hsu
                    obtain ⟨r2, hr2⟩ : ∃ r2, r2 = (b1 && grB L q (G.take t)) := ⟨_, rfl⟩
                    rw [← hr2] at Hsu ⊢
                    have hbl : bs.length ≤ 63 := by rw [hbs]; exact belowR_len _ _
                    have Hbr := hid (fun i (hi : i < bs.length) => show 0 ≤ bs[i]?.getD 0 ∧ bs[i]?.getD 0 < 64 by
                      have := getD_mem hi
                      rw [hbs] at this ⊢
                      have := below_one (f := (m : Int)) (by omega) (by rwa [Int.toNat_natCast])
                      omega)
                    clear hr2 hbs
                    go_wp2_with fail
                    refine HBl.out.mono ?_
                    rintro e w4 ⟨v4, rfl, ho4, hB4⟩
                    have hbt : Below wc.heap.size wc w4 := HBt.out.trans (hB4.mono HBt.out.size)
                    obtain ⟨_, a4, c4, rfl, hs4⟩ := ownsRow_slI ho4
                    have HBt4 := hid hbt
                    have Hs4 := hid hs4
                    clear hbt hs4 ho4 hB4
                    go_wp2_with fail
                    go_loopw [13, 17] (fun r uu wx => ∃ u : Nat, u ≤ bs.length ∧ r = .bool (r2 && dnB L q (bs.take u)) ∧ uu = .int .i64 u ∧ Hid (Below w4.heap.size w4 wx)) (fun _ uu _ => bs.length - (intOf uu).toNat)
                    case atStart => exact ⟨0, Nat.zero_le _, by simp [dnB], rfl, hid (Below.refl _ _)⟩
                    case round =>
                      obtain ⟨u, hu, rfl, rfl, HBu⟩ := hrel
                      by_cases hun : u < bs.length
                      · obtain ⟨y, hy⟩ : ∃ y : Nat, bs[u]?.getD 0 = y := ⟨(bs[u]?.getD 0).toNat, by have := Hbr.out u hun; omega⟩
                        have hy64 : y < 64 := by have := Hbr.out u hun; omega
                        rcases Hs4.out with h | ⟨b4, off4, hb4, rfl, hc4⟩
                        · rw [h] at hun; simp at hun
                        have cb : wr.cell? ⟨b4, off4 + u, none⟩ = some (.int .i64 (y : Int)) := by
                          rw [HBu.out.cell (p := ⟨b4, off4 + u, none⟩) hb4, hc4 u hun, hy]
                        have hlw : w.heap.size + 1 < wc.heap.size := by
                          have h : W0.heap.size < wc.heap.size := (HX.out.om.lt W0.heap.size rfl).2
                          omega
                        have cp : wr.cell? ⟨w.heap.size + 1, y, none⟩ = some (.bool (decide ((y : Int) ∈ L))) := ((HBt4.out.trans (HBu.out.mono HBt4.out.size)).cell (p := ⟨w.heap.size + 1, y, none⟩) hlw).trans (Hcm.out y hy64)
                        have Hsv : Hid ((r2 && dnB L q (bs.take (u + 1))) = ((r2 && dnB L q (bs.take u)) && (decide ((y : Int) ∈ L) || ((y : Int) == (q : Int))))) := hid (by
                          rw [dnB_succ L q hun, hy, Bool.and_assoc]
                          congr 3)
                        obtain ⟨pb, hpb⟩ : ∃ pb, pb = decide ((y : Int) ∈ L) := ⟨_, rfl⟩
                        rw [← hpb] at cp Hsv
                        obtain ⟨r3, hr3⟩ : ∃ r3, r3 = (r2 && dnB L q (bs.take u)) := ⟨_, rfl⟩
                        rw [← hr3] at Hsv ⊢
                        have hi0 : (0 : Int) ≤ (u : Int) := by omega
                        have hi1 : (u : Int) < (bs.length : Int) := by omega
                        have hy0 : (0 : Int) ≤ (y : Int) := by omega
                        have hy1 : (y : Int) < 64 := by omega
                        obtain ⟨d, hd⟩ : ∃ d, ((y : Int) == (q : Int)) = d := ⟨_, rfl⟩
                        rw [hd] at Hsv
                        clear hpb hr3 hc4 hy
                        cases r3
                        · go_wp2_with fail
                          go_roundw
                          case rel => exact ⟨u + 1, by omega, by rw [Hsv.out]; rfl, by go_num, HBu⟩
                          case measure => simp [intOf]; omega
                        · cases pb
                          · go_wp2_with fail
                            go_roundw
                            case rel => exact ⟨u + 1, by omega, by rw [Hsv.out]; first | rfl | (rw [← hd]; rfl) | simp [hd], by go_num, HBu⟩
                            case measure => simp [intOf]; omega
                          · go_wp2_with fail
                            go_roundw
                            case rel => exact ⟨u + 1, by omega, by rw [Hsv.out]; rfl, by go_num, HBu⟩
                            case measure => simp [intOf]; omega
                      · have hun' : ¬ (u : Int) < (bs.length : Int) := by omega
                        have eu : bs.take u = bs := List.take_of_length_le (by omega)
                        rw [eu]
                        clear eu
                        go_wp2_with fail
                        go_roundw
                        case rel => exact ⟨t + 1, by omega, by rw [Hsu.out], by go_num, hid (HBt4.out.trans (HBu.out.mono HBt4.out.size))⟩
                        case measure => simp [intOf]; omega
                  · have htn' : ¬ (t : Int) < (G.length : Int) := by omega
                    have et : G.take t = G := List.take_of_length_le (by omega)
                    rw [et]
                    obtain ⟨rd, hrd⟩ : ∃ rd, rd = (b1 && grB L q G) := ⟨_, rfl⟩
                    have Hrd : Hid (readyB ps n L q = rd) := hid (by rw [ready_parts, hrd, Hb1.out, Hb0.out, HGe.out])
                    rw [← hrd]
                    clear et hrd
                    cases rd
                    · go_wp2_with fail
                      go_roundw
                      case rel => exact ⟨i + 1, false, _, rfl, rfl, by go_num, by omega, hid (HX.out.later HBt.out), hid (fun _ j hj => by
                          by_cases e : j = i
                          · rw [e, Hq.out]; exact Hrd.out
                          · exact Hr1.out j (by omega)), hid (fun h => by cases h)⟩
                      case measure => simp [intOf]; omega
                    · go_wp2_with fail
                      go_loopw [18] (fun uu wx => ∃ t : Nat, t ≤ G.length ∧ uu = .int .i64 t ∧ Hid (wx.ownsRow W0.heap.size 4 1 (.slice (some ⟨W0.heap.size, 0, none⟩) 64 64) 64 ((plL (L ++ G.take t)).map Value.bool) ∧ wx.ownsRow W0.heap.size 2 1 (.slice av L.length cv) L.length (L.map (Value.int .i64)) ∧ (∀ i, i < G.length → wx.cell? ⟨g, i, none⟩ = some (.int .i64 (G[i]?.getD 0))) ∧ Below W0.heap.size W0 wx ∧ g < wx.heap.size)) (fun uu _ => G.length - (intOf uu).toNat)
                      case atStart =>
                        have h := HX.out.later HBt.out
                        refine ⟨0, Nat.zero_le _, rfl, hid ⟨by simpa using h.om, h.oo, fun i hi => ?_, h.below, ?_⟩⟩
                        · rw [HBt.out.cell (p := ⟨g, i, none⟩) hgl.2, Hgc.out i hi]
                        · have := HBt.out.size
                          omega
                      case round =>
                        clear HBt
                        obtain ⟨t, ht, rfl, HT⟩ := hrel
                        by_cases htn : t < G.length
                        · obtain ⟨m, hm⟩ : ∃ m : Nat, G[t]?.getD 0 = m := ⟨(G[t]?.getD 0).toNat, by have := HGr.out t htn; omega⟩
                          have hm64 : m < 64 := by have := HGr.out t htn; omega
                          have cg : wr.cell? ⟨g, t, none⟩ = some (.int .i64 (m : Int)) := by rw [HT.out.2.2.1 t htn, hm]
                          obtain ⟨pb, hpb⟩ : ∃ pb, wr.cell? ⟨w.heap.size + 1, m, none⟩ = some (.bool pb) := ⟨decide ((m : Int) ∈ L ++ G.take t), by
                            rw [← hs0, HT.out.1.cellAt m hm64]
                            simp [plL, hm64]⟩
                          have hfr : wr.frozen? ⟨w.heap.size + 1, m, none⟩ = false := by rw [← hs0]; exact HT.out.1.frozenAt m
                          have hi0 : (0 : Int) ≤ (t : Int) := by omega
                          have hi1 : (t : Int) < (G.length : Int) := by omega
                          have hm0 : (0 : Int) ≤ (m : Int) := by omega
                          have hm1 : (m : Int) < 64 := by omega
                          have Hm := hid hm
                          clear hm
                          go_wp2_with fail
                          go_roundw
                          case rel =>
                            have hk := OrW.mark (M := L ++ G.take t) HT.out.1 hm64
                            have et : L ++ G.take (t + 1) = L ++ G.take t ++ [(m : Int)] := by rw [take_snoc htn, Hm.out, List.append_assoc]
                            refine ⟨t + 1, by omega, by go_num, ?_⟩
                            rw [← hs0]
                            refine hid ⟨by rw [et]; exact hk.1, ownsRow_set HT.out.2.1 (fun e => ?_) _, fun i hi => ?_, HT.out.2.2.2.1.grown hk.2 HT.out.2.2.2.1.size (fun r e => by cases e; exact Nat.le_refl _), ?_⟩
                            · exact apart_ty HT.out.2.1 HT.out.1 (by decide) _ e rfl
                            · rw [hk.2.cell_far _ HT.out.2.2.2.2 (fun e => hgb (Eq.trans (Option.some.inj e) hs0))]
                              exact HT.out.2.2.1 i hi
                            · have := HT.out.2.2.2.2
                              simpa [World.setCell] using this
                          case measure => simp [intOf]; omega
                        · have htn' : ¬ (t : Int) < (G.length : Int) := by omega
                          have et : G.take t = G := List.take_of_length_le (by omega)
                          rw [et] at HT
                          have hsz := HT.out.2.2.2.1.size
                          have hll : L.length ≤ 1048576 := by have := HIk.out.le; omega
                          clear et
                          go_wp2_with (at_builtin; refine append_ints_at rfl rfl HT.out.2.1 hsz hll (by omega) rfl rfl HT.out.2.2.1 ?_; intro v' w3 hown3 hg3 hat3 hB3)
                          go_roundw
                          case rel =>
                            have hnx : nextF fs ps n L = some (q : Int) := by
                              have := next_first hlt Hr1.out (by rw [Hq.out]; exact Hrd.out)
                              rw [this, Hq.out]
                            have hst : ordN fs ps n (k + 1) = L ++ G := by
                              rw [HS.out, HGe.out]
                              unfold stepO
                              rw [hnx]
                            refine ⟨i + 1, true, _, rfl, rfl, by go_num, by omega, ?_, hid (fun h => by cases h), hid (fun _ h => by rw [hnx] at h; cases h)⟩
                            rw [if_pos rfl, hst]
                            exact hid ⟨HT.out.1.kept hg3 (.inr (fun e => apart_ty HT.out.2.1 HT.out.1 (by decide) _ e.symm rfl)), hown3, HT.out.2.2.2.1.trans hB3⟩
                          case measure => simp [intOf]; omega
        · have hk63 : k ≤ 63 := by
            have h1 := ordN_len k Hk.out
            have h2 := (HInv.out k).le
            omega
          have Hlt := hid hlt
          clear hlt
          cases m'
          · have hil : ¬ (i : Int) < (fs.length : Int) := fun h => Hlt.out ⟨by omega, rfl⟩
            have HW' : Hid (OrW W0 wr W0.heap.size (.slice av L.length cv) L) := HW
            have Hnx : Hid (nextF fs ps n (ordN fs ps n k) = none) := hid (by rw [← HL.out]; exact next_none (fun j hj => Hr.out rfl j (by omega)))
            go_wp2_with fail
            go_roundg 0
            case measure => have h : 1 ≤ 66 - k := by omega
                            simp at hgg ⊢
                            omega
            case rel => exact ⟨k, false, _, rfl, rfl, hid (by rw [← HL.out]; exact HW'.out), Hk, hid (fun _ => Hnx.out), by simp⟩
          · have HW' : Hid (OrW W0 wr W0.heap.size (.slice av (ordN fs ps n (k + 1)).length cv) (ordN fs ps n (k + 1))) := HW
            have Hn1 := hid (Hs.out rfl)
            by_cases hil : (i : Int) < (fs.length : Int)
            · go_wp2_with fail
              go_roundg (66 - (k + 1))
              case measure =>
                simp at hgg ⊢
                omega
              case rel => exact ⟨k + 1, true, _, rfl, rfl, HW', hid (fun j hj => by
                by_cases e : j = k
                · rw [e, ← HL.out]; exact Hn1.out
                · exact Hk.out j (by omega)), hid (fun h => by cases h), by simp⟩
            · go_wp2_with fail
              go_roundg (66 - (k + 1))
              case measure =>
                simp at hgg ⊢
                omega
              case rel => exact ⟨k + 1, true, _, rfl, rfl, HW', hid (fun j hj => by
                by_cases e : j = k
                · rw [e, ← HL.out]; exact Hn1.out
                · exact Hk.out j (by omega)), hid (fun h => by cases h), by simp⟩

end Go.Proofs.Ytgcpakhagbbiiaa

/-! spec.OrderOfPairing. -/
namespace Go.Proofs.Ytgcpakhagbbiiaa
open Go.RowKit

/-- What OrderOfPairing answers. -/
noncomputable def orderR (V : Int) (fs : List Int) (n : Nat) (ps : List Int) : List Int × Int := if pcodeR V fs n ps = 0 then (if acyB ps n then (ordL fs ps n, 0) else ([], 5)) else ([], pcodeR V fs n ps)

set_option maxRecDepth 100000 in
set_option maxHeartbeats 1000000 in
theorem specOrderOfPairing (V : Int) (a0 : Option Addr) (cap : Nat) (fs : List Int) (a1 : Option Addr) (n cap1 : Nat) (ps : List Int) (w : World) (hx : SlI w w.heap.size a0 fs) (hx1 : SlI w w.heap.size a1 ps) (hl : fs.length ≤ 1048576) (hp : ps.length = 2 * n) (hn : n ≤ 1048576) (_hw : ∀ x ∈ ps, (Lit.int .i64 x).wf = true) :
    Calls Try.prog 17 #[.agg #[.int .i64 V, .slice a0 fs.length cap], .slice a1 n cap1] w fun e w' => ∃ v, e = .returned (.tuple #[v, .int .i64 (orderR V fs n ps).2]) ∧ Res w w' v (orderR V fs n ps).1 := by
  have hB0 : Below w.heap.size w (w.alloc (.cells #[.int .i64 V, .slice a0 fs.length cap] 30)) := (Below.refl _ w).alloc (Nat.le_refl _) _
  have HI := hid (pcode_spec V a0 cap fs a1 n cap1 ps _ (hx.later hB0 hB0.size) (hx1.later hB0 hB0.size) hl hp hn)
  have Hx0 := hid hx
  have Hy := hid hx1
  clear hx hx1
  by_cases h0 : pcodeR V fs n ps = 0
  · have hCO : IsC V fs ∧ OkTo fs ps n := by
      rcases pcode_cases V fs n ps with ⟨hC, ho, _⟩ | ⟨_, _, h2, _⟩ | ⟨_, h2, _⟩
      · exact ⟨hC, ho⟩
      · rw [h2] at h0; cases h0
      · rw [h2] at h0; cases h0
    have HJ0 := hid (fun w1 (h : Below w.heap.size w w1) => order_any V a0 cap fs a1 n cap1 ps w1 (Hx0.out.later h h.size) (Hy.out.later h h.size) hp hn hCO.1 hCO.2)
    have hR : orderR V fs n ps = if acyB ps n then (ordL fs ps n, 0) else ([], 5) := by unfold orderR; rw [if_pos h0]
    rw [h0] at HI
    cases hac : acyB ps n
    · refine res_mono (show orderR V fs n ps = ([], 5) by rw [hR, hac]; rfl) ?_
      rw [hac] at HJ0
      clear h0 hac hR hCO
      go_enter Try.func17, Try.ntmps17
      go_wp2_with fail
      refine HI.out.mono ?_
      rintro e w1 ⟨rfl, hB1⟩
      have HB1 := hid (hB0.trans (hB1.mono (by simp)))
      have k0 : w1.cell? ⟨w.heap.size, 0, none⟩ = some (.int .i64 V) := (hB1.cell (p := ⟨w.heap.size, 0, none⟩) (by simp)).trans (by simp [go_sem])
      have k1 : w1.cell? ⟨w.heap.size, 1, none⟩ = some (.slice a0 fs.length cap) := (hB1.cell (p := ⟨w.heap.size, 1, none⟩) (by simp)).trans (by simp [go_sem])
      have HJ := hid (HJ0.out w1 HB1.out)
      clear hB0 hB1 hp HI HJ0
      go_wp2_with fail
      refine HJ.out.mono ?_
      rintro e w2 ⟨v, rfl, hr⟩
      go_wp2_with fail
      go_ret2
      exact ⟨_, rfl, res_nil _ _ (HB1.out.trans (hr.2.mono HB1.out.size))⟩
    · refine res_mono (show orderR V fs n ps = (ordL fs ps n, 0) by rw [hR, hac]; rfl) ?_
      rw [hac] at HJ0
      clear h0 hac hR hCO
      go_enter Try.func17, Try.ntmps17
      go_wp2_with fail
      refine HI.out.mono ?_
      rintro e w1 ⟨rfl, hB1⟩
      have HB1 := hid (hB0.trans (hB1.mono (by simp)))
      have k0 : w1.cell? ⟨w.heap.size, 0, none⟩ = some (.int .i64 V) := (hB1.cell (p := ⟨w.heap.size, 0, none⟩) (by simp)).trans (by simp [go_sem])
      have k1 : w1.cell? ⟨w.heap.size, 1, none⟩ = some (.slice a0 fs.length cap) := (hB1.cell (p := ⟨w.heap.size, 1, none⟩) (by simp)).trans (by simp [go_sem])
      have HJ := hid (HJ0.out w1 HB1.out)
      clear hB0 hB1 hp HI HJ0
      go_wp2_with fail
      refine HJ.out.mono ?_
      rintro e w2 ⟨v, rfl, hr⟩
      go_wp2_with fail
      go_ret2
      exact ⟨v, rfl, hr.later HB1.out⟩
  · obtain ⟨c, hc⟩ : ∃ c, c = pcodeR V fs n ps := ⟨_, rfl⟩
    refine res_mono (show orderR V fs n ps = ([], c) by unfold orderR; rw [if_neg h0, hc]) ?_
    rw [← hc] at h0 HI
    have hcn : (c != 0) = true := by simpa using h0
    clear hc hp h0
    go_enter Try.func17, Try.ntmps17
    go_wp2_with fail
    refine HI.out.mono ?_
    rintro e w1 ⟨rfl, hB1⟩
    go_wp2_with fail
    go_ret2
    exact ⟨_, rfl, res_nil _ _ (hB0.trans (hB1.mono (by simp)))⟩

end Go.Proofs.Ytgcpakhagbbiiaa

/-! slices.Grow at nil and slices.Concat, over lists of int64. -/
namespace Go.Proofs.Ytgcpakhagbbiiaa
open Go.RowKit

set_option maxRecDepth 100000 in
set_option maxHeartbeats 2000000 in
theorem growI_nil (n : Nat) (w : World) (hn : n ≤ 1048576) :
    Calls Try.prog 126 #[.slice none 0 0, .int .i64 n] w fun e w' => ∃ v, e = .returned v ∧ w'.ownsRow w.heap.size 2 1 v 0 [] ∧ Below w.heap.size w w' := by
  by_cases h0 : n = 0
  · subst h0
    go_enter Try.func126, Try.ntmps126
    go_wp2_with fail
    go_ret
    exact ⟨.slice none 0 0, rfl, World.ownsRow_nil _ _ _ _, Below.refl _ _⟩
  · obtain ⟨i0, hi0, hz0, hzs, hzb⟩ := info_parts info_i64
    have hrz := Lib.run_append_nil_zeros (P := Try.prog) w 22 3 22 2 i0 _ .i64 .i64 Try.underlying22 Try.underlying3 hi0 hz0 n (by omega) (by omega) (by omega) (by rw [hzb]; omega)
    obtain ⟨G, hG⟩ : ∃ G, G = grownCap w n 0 2 := ⟨_, rfl⟩
    rw [← hG] at hrz
    have hGn : n ≤ G := by rw [hG]; exact grownCap_ge w _ _ _
    have hG63 : G ≤ maxLen := by rw [hG]; exact grownCap_le_maxLen w n 0 2 (by unfold maxLen; omega)
    obtain ⟨ROW, hROW⟩ : ∃ ROW : Array Value, ROW = Builtin.zeroCells (Value.int .i64 0).cells n ++ Builtin.zeroCells (Value.int .i64 0).cells (G - n) := ⟨_, rfl⟩
    rw [← hROW] at hrz
    have hRz : ROW.size = G * 1 := by
      rw [hROW]
      simp [Builtin.zeroCells, Value.cells]
      omega
    have HO : Hid ((w.drew.alloc (.cells ROW 2)).ownsRow w.heap.size 2 1 (.slice (some ⟨w.heap.size, 0, none⟩) 0 G) 0 []) := hid (World.ownsRow_made (base := w.heap.size) (e := 2) (size := 1) w.drew ROW G (Nat.le_refl _) hG63 hRz)
    have HB : Hid (Below w.heap.size w (w.drew.alloc (.cells ROW 2))) := hid (by
      have h := (Below.refl _ w).alloc (Nat.le_refl _) (.cells ROW 2)
      exact ⟨h.os, h.tape, h.output, h.size, h.block⟩)
    have hpos : (0 : Int) < (n : Int) := by omega
    have hneg : ¬ ((n : Int) < 0) := by omega
    clear hROW hRz hG hG63 hi0 hz0 hzs hzb
    obtain ⟨W1, hW1⟩ : ∃ W1, W1 = w.drew.alloc (.cells ROW 2) := ⟨_, rfl⟩
    rw [← hW1] at HO HB hrz
    clear hW1
    go_enter Try.func126, Try.ntmps126
    go_wp2_with (at_builtin; refine Lib.wpList_append_run _ rfl _ _ _ _ rfl _ _ rfl rfl _ _ hrz ?_)
    go_ret
    exact ⟨_, rfl, HO.out, HB.out⟩

theorem flat_take {gs : List (List Int)} {k : Nat} (h : k < gs.length) : (gs.take (k + 1)).flatten = (gs.take k).flatten ++ gs[k]?.getD [] := by
  rw [List.take_succ_eq_append_getElem h, List.getElem?_eq_getElem h, List.flatten_append, Option.getD_some]
  show _ ++ (gs[k] ++ []) = _
  rw [List.append_nil]
theorem flat_take_le (gs : List (List Int)) (k : Nat) : (gs.take k).flatten.length ≤ gs.flatten.length := by
  have h : gs.flatten.length = (gs.take k ++ gs.drop k).flatten.length := by rw [List.take_append_drop]
  rw [h, List.flatten_append, List.length_append]
  omega

set_option maxRecDepth 100000 in
set_option maxHeartbeats 4000000 in
theorem concatG_any (v : Value) (m B : Nat) (vs : List Value) (gs : List (List Int)) (w : World) (hm : m = gs.length) (hn : m ≤ 1048576) (hown : w.ownsRow B 22 1 v m vs) (hG : Gs w B vs gs) (hl : gs.flatten.length ≤ 1048576) :
    Calls Try.prog 62 #[v] w fun e w' => ∃ v', e = .returned v' ∧ w'.ownsRow w.heap.size 2 1 v' gs.flatten.length (gs.flatten.map (Value.int .i64)) ∧ Below w.heap.size w w' := by
  obtain ⟨a, cp, rfl⟩ := ownsRow_form hown
  have hcs : ∀ i, i < m → ∃ g b c, a = some ⟨g, 0, none⟩ ∧ g < w.heap.size ∧ w.cell? ⟨g, i, none⟩ = some (.slice (some ⟨b, 0, none⟩) (gs[i]?.getD []).length c) ∧ b < w.heap.size ∧ ∀ j, j < (gs[i]?.getD []).length → w.cell? ⟨b, j, none⟩ = some (.int .i64 ((gs[i]?.getD [])[j]?.getD 0)) := by
    intro i hi
    have hlv : vs.length = m := by have := hown.1; omega
    obtain ⟨b, hb1, _, hb3⟩ := hG.2 i (by omega)
    rcases hown.2 with ⟨h1, h2⟩ | ⟨g, cap, cur, h1, _, hg, _⟩
    · omega
    · injection h1 with h1 _ _
      subst h1
      refine ⟨g, b, (gs[i]?.getD []).length, rfl, lt_of_get hg, ?_, lt_of_get hb3, fun j hj => by simp [World.cell?, hb3, hj]⟩
      rw [hown.cellAt i (by omega), List.getElem?_eq_getElem (by omega)]
      rw [List.getElem?_eq_getElem (by omega), Option.getD_some] at hb1
      rw [hb1]
  have Hcs := hid hcs
  have Hm := hid hm
  have HF := hid (flat_take_le gs)
  have HFt := hid (fun k (h : k < gs.length) => flat_take (gs := gs) h)
  clear hcs hm hown hG
  go_enter Try.func62, Try.ntmps62
  go_wp2_with fail
  go_loopw [3, 11] (fun sv iv wx => ∃ k : Nat, k ≤ m ∧ sv = .int .i64 ((gs.take k).flatten.length : Nat) ∧ iv = .int .i64 k ∧ Hid (wx = w)) (fun _ iv _ => m - (intOf iv).toNat)
  case atStart => exact ⟨0, Nat.zero_le _, rfl, rfl, hid rfl⟩
  case round =>
    obtain ⟨k, hk, rfl, rfl, HW⟩ := hrel
    have hww : wr = w := HW.out
    clear HW
    subst hww
    obtain ⟨s, hs⟩ : ∃ s, s = (gs.take k).flatten.length := ⟨_, rfl⟩
    have hsl : s ≤ 1048576 := by rw [hs]; exact Nat.le_trans (HF.out k) hl
    by_cases hlt : k < m
    · obtain ⟨g, b, c, rfl, hg, hc, _, _⟩ := Hcs.out k hlt
      obtain ⟨l, hle⟩ : ∃ l, l = (gs[k]?.getD []).length := ⟨_, rfl⟩
      have hs2 : (gs.take (k + 1)).flatten.length = s + l := by rw [HFt.out k (by have := Hm.out; omega), List.length_append, hs, hle]
      have hsl2 : s + l ≤ 1048576 := by rw [← hs2]; exact Nat.le_trans (HF.out _) hl
      rw [← hle] at hc
      rw [← hs]
      have Hs2 := hid hs2
      have hi0 : (0 : Int) ≤ (k : Int) := by omega
      have hi1 : (k : Int) < (m : Int) := by omega
      have hneg : ¬ ((s : Int) + (l : Int) < 0) := by omega
      clear hs2 hs hle
      go_wp2_with fail
      go_roundw
      case rel => exact ⟨k + 1, by omega, by rw [Hs2.out]; go_num, by go_num, trivial⟩
      case measure => simp [intOf]; omega
    · obtain rfl : k = m := by omega
      have htk : (gs.take k).flatten.length = gs.flatten.length := by rw [List.take_of_length_le (by have := Hm.out; omega)]
      rw [← hs] at htk
      rw [← hs]
      have HG := hid (growI_nil s wr hsl)
      have Hs := hid htk
      clear hs htk
      go_wp2_with fail
      refine HG.out.mono ?_
      rintro e w1 ⟨v1, rfl, hown1, hB1⟩
      have HO1 := hid hown1
      have HB1 := hid hB1
      clear hown1 hB1 HG
      go_wp2_with fail
      go_loopw [6, 27] (fun ov iv wx => ∃ (j : Nat) (v : Value), j ≤ k ∧ ov = v ∧ iv = .int .i64 j ∧ Hid (wx.ownsRow wr.heap.size 2 1 v (gs.take j).flatten.length ((gs.take j).flatten.map (Value.int .i64))) ∧ Hid (Below wr.heap.size wr wx)) (fun _ iv _ => k - (intOf iv).toNat)
      case atStart => exact ⟨0, v1, Nat.zero_le _, rfl, rfl, HO1, HB1⟩
      case round =>
        clear HO1
        obtain ⟨j, v, hj, rfl, rfl, HO, HB⟩ := hrel
        by_cases hlt2 : j < k
        · obtain ⟨g, b, c, rfl, hg, hc, hbl, hcc⟩ := Hcs.out j hlt2
          obtain ⟨ys, hys⟩ : ∃ ys, ys = gs[j]?.getD [] := ⟨_, rfl⟩
          obtain ⟨xs, hxs⟩ : ∃ xs, xs = (gs.take j).flatten := ⟨_, rfl⟩
          have hx2 : (gs.take (j + 1)).flatten = xs ++ ys := by rw [HFt.out j (by have := Hm.out; omega), hxs, hys]
          have hxl : xs.length + ys.length ≤ 1048576 := by
            have := HF.out (j + 1)
            rw [hx2, List.length_append] at this
            omega
          rw [← hys] at hc hcc
          rw [← hxs] at HO
          have hcx := (HB.out.cell (p := ⟨g, j, none⟩) hg).trans hc
          have hcy : ∀ t, t < ys.length → wr.cell? ⟨b, t, none⟩ = some (.int .i64 (ys[t]?.getD 0)) := fun t ht => (HB.out.cell (p := ⟨b, t, none⟩) hbl).trans (hcc t ht)
          have Hcy := hid hcy
          have Hx2 := hid hx2
          have hi0 : (0 : Int) ≤ (j : Int) := by omega
          have hi1 : (j : Int) < (k : Int) := by omega
          have hsz := HB.out.size
          clear hc hcc hcy hx2 hys hxs
          go_wp2_with (at_builtin; refine append_ints_at rfl rfl HO.out hsz (by omega) (by omega) rfl rfl Hcy.out ?_; intro v' w4 hown4 hgrow4 _ hB4)
          have Hown4 := hid hown4
          have HB4 := hid (HB.out.trans ((hB4.mono (Nat.le_refl _))))
          clear hown4 hgrow4 hB4
          go_wp2_with fail
          go_roundw
          case rel => exact ⟨j + 1, v', by omega, rfl, by go_num, hid (by rw [Hx2.out]; exact Hown4.out), HB4⟩
          case measure => simp [intOf]; omega
        · obtain rfl : j = k := by omega
          rw [List.take_of_length_le (show gs.length ≤ j by have := Hm.out; omega)] at HO
          go_wp2_with fail
          go_ret
          exact ⟨_, rfl, HO.out, HB.out⟩

end Go.Proofs.Ytgcpakhagbbiiaa

/-! OrderOfPairing, the program's. -/
namespace Go.Proofs.Ytgcpakhagbbiiaa
open Go.RowKit

theorem acyB_no {ps : List Int} {n : Nat} (h : acyB ps n = true) : NoCycle ps n := Classical.byContradiction fun hn => by
  rw [acyB_false hn] at h
  cases h
theorem ordL_le {V : Int} {fs ps : List Int} {n : Nat} (hC : IsC V fs) (hO : OkTo fs ps n) : (ordL fs ps n).length ≤ 63 := Nat.le_trans (ordN_inv hC hO fs.length).le hC.len63

theorem orderR_len (V : Int) (fs : List Int) (n : Nat) (ps : List Int) (_h : fs.length ≤ 1048576) (_hp : ps.length = 2 * n) (_hn : n ≤ 1048576) : (orderR V fs n ps).1.length ≤ 1048576 := by
  unfold orderR
  split
  · rename_i h0
    have hCO : IsC V fs ∧ OkTo fs ps n := by
      rcases pcode_cases V fs n ps with ⟨hC, ho, _⟩ | ⟨_, _, h2, _⟩ | ⟨_, h2, _⟩
      · exact ⟨hC, ho⟩
      · rw [h2] at h0; cases h0
      · rw [h2] at h0; cases h0
    split
    · have := ordL_le hCO.1 hCO.2
      simp only
      omega
    · simp
  · simp

set_option maxRecDepth 1000000 in
set_option maxHeartbeats 2000000 in
theorem implOrderOfPairing (V : Int) (a0 : Option Addr) (cap : Nat) (fs : List Int) (a1 : Option Addr) (n cap1 : Nat) (ps : List Int) (w : World) (hx : SlI w w.heap.size a0 fs) (hx1 : SlI w w.heap.size a1 ps) (hl : fs.length ≤ 1048576) (hp : ps.length = 2 * n) (hn : n ≤ 1048576) (hw : ∀ x ∈ ps, (Lit.int .i64 x).wf = true) :
    Calls Try.prog 20 #[.agg #[.int .i64 V, .slice a0 fs.length cap], .slice a1 n cap1] w fun e w' => ∃ v, e = .returned (.tuple #[v, .int .i64 (orderR V fs n ps).2]) ∧ Res w w' v (orderR V fs n ps).1 := by
  have hB0 : Below w.heap.size w (w.alloc (.cells #[.int .i64 V, .slice a0 fs.length cap] 30)) := (Below.refl _ w).alloc (Nat.le_refl _) _
  have HK := hid (pcode_impl V a0 cap fs a1 n cap1 ps _ (hx.later hB0 hB0.size) (hx1.later hB0 hB0.size) hl hp hn hw)
  have Hx := hid hx
  have Hy := hid hx1
  clear hx hx1
  by_cases hpc : pcodeR V fs n ps = 0
  · rw [hpc] at HK
    have hCO : IsC V fs ∧ OkTo fs ps n := by
      rcases pcode_cases V fs n ps with ⟨hC, ho, _⟩ | ⟨_, _, h2, _⟩ | ⟨_, h2, _⟩
      · exact ⟨hC, ho⟩
      · rw [h2] at hpc; cases hpc
      · rw [h2] at hpc; cases hpc
    have hR : orderR V fs n ps = if acyB ps n then (ordL fs ps n, 0) else ([], 5) := by unfold orderR; rw [if_pos hpc]
    have HAc := hid (fun w1 h => isAcy_any a1 n cap1 ps w1 h hp hn hw (okTo_apart hCO.2) (okTo_highs hCO.1 hCO.2))
    cases hac : acyB ps n
    · refine res_mono (show orderR V fs n ps = ([], 5) by rw [hR, hac]; rfl) ?_
      rw [hac] at HAc
      clear hpc hCO hp hw hR hac
      go_enter Try.func20, Try.ntmps20
      go_wp2_with fail
      refine HK.out.mono ?_
      rintro e w1 ⟨rfl, hB1⟩
      have HB1 := hid (hB0.trans (hB1.mono (by simp)))
      clear hB0 hB1
      go_wp2_with fail
      refine (HAc.out w1 (Hy.out.later HB1.out HB1.out.size)).mono ?_
      rintro e w2 ⟨rfl, hB2⟩
      go_wp2_with fail
      go_ret2
      exact ⟨_, rfl, res_nil _ _ (HB1.out.trans (hB2.mono HB1.out.size))⟩
    · refine res_mono (show orderR V fs n ps = (ordL fs ps n, 0) by rw [hR, hac]; rfl) ?_
      have hno := acyB_no hac
      rw [hac] at HAc
      have hl63 := ordL_le hCO.1 hCO.2
      have HG := hid (fun w1 (h : Below w.heap.size w w1) => ordered_any V a0 cap fs a1 n cap1 ps w1 (Hx.out.later h h.size) (Hy.out.later h h.size) hp hn hw hCO.1 hCO.2 hno)
      clear hpc hCO hp hw hR hac hno
      go_enter Try.func20, Try.ntmps20
      go_wp2_with fail
      refine HK.out.mono ?_
      rintro e w1 ⟨rfl, hB1⟩
      have k0 : w1.cell? ⟨w.heap.size, 0, none⟩ = some (.int .i64 V) := (hB1.cell (p := ⟨w.heap.size, 0, none⟩) (by simp)).trans (by simp [go_sem])
      have k1 : w1.cell? ⟨w.heap.size, 1, none⟩ = some (.slice a0 fs.length cap) := (hB1.cell (p := ⟨w.heap.size, 1, none⟩) (by simp)).trans (by simp [go_sem])
      have hlt : w.heap.size < w1.heap.size := by have := hB1.size; simp at this; omega
      have HB1 := hid (hB0.trans (hB1.mono (by simp)))
      clear hB0 hB1
      go_wp2_with fail
      refine (HAc.out w1 (Hy.out.later HB1.out HB1.out.size)).mono ?_
      rintro e w2 ⟨rfl, hB2⟩
      have k0 := (hB2.cell (p := ⟨w.heap.size, 0, none⟩) hlt).trans k0
      have k1 := (hB2.cell (p := ⟨w.heap.size, 1, none⟩) hlt).trans k1
      have HB2 := hid (HB1.out.trans (hB2.mono HB1.out.size))
      clear hB2
      go_wp2_with fail
      refine (HG.out w2 HB2.out).mono ?_
      rintro e w3 ⟨v, vs, Os, rfl, hown, hgs, hflat, _, hB3⟩
      have hfl : (Os.map (grpL ps n)).flatten = ordL fs ps n := by rw [← hflat, List.flatMap_def]
      have hOl : Os.length ≤ 63 := by
        have := flat_len (Os := Os) (ps := ps) (n := n)
        rw [hflat] at this
        omega
      have HCc := hid (concatG_any v Os.length _ vs (Os.map (grpL ps n)) w3 (by simp) (by omega) hown hgs (by rw [hfl]; omega))
      have Hfl := hid hfl
      have HB3 := hid (HB2.out.trans (hB3.mono HB2.out.size))
      clear hown hgs hflat hB3 hfl k0 k1
      go_wp2_with fail
      refine HCc.out.mono ?_
      rintro e w4 ⟨v4, rfl, hown4, hB4⟩
      rw [Hfl.out] at hown4
      have HR := hid (show Res w w4 v4 (ordL fs ps n) from ⟨ownsRow_base hown4 HB3.out.size, HB3.out.trans (hB4.mono HB3.out.size)⟩)
      clear hown4 hB4
      go_wp2_with fail
      go_ret2
      exact ⟨v4, rfl, HR.out⟩
  · obtain ⟨c, hc⟩ : ∃ c, c = pcodeR V fs n ps := ⟨_, rfl⟩
    refine res_mono (show orderR V fs n ps = ([], c) by unfold orderR; rw [if_neg hpc, hc]) ?_
    rw [← hc] at hpc HK
    have hcn : (c != 0) = true := by simpa using hpc
    clear hc hp hw hpc
    go_enter Try.func20, Try.ntmps20
    go_wp2_with fail
    refine HK.out.mono ?_
    rintro e w1 ⟨rfl, hB1⟩
    go_wp2_with fail
    go_ret2
    exact ⟨_, rfl, res_nil _ _ (hB0.trans (hB1.mono (by simp)))⟩

end Go.Proofs.Ytgcpakhagbbiiaa

/-! What a complex that comes in is told as, for the rows of all laws. -/
namespace Go.Proofs.Ytgcpakhagbbiiaa
open Go.ChangeShapes Go.WideShapes Go.ChangeAt Go.RowKit Go.Joins

theorem own : ownKnob Try.prog.godebug = none := by kernel_rfl
theorem laidOut : laidOutB Try.prog = true := by kernel_rfl

variable {H : Type} {enc : TypeId × Value → H}

/-- A slice of int64 that came in. -/
theorem slI_of_trod {W : World} {n : Nat} {v : Value} {y : DataW H × List MemPlace} (hf : DataW.trod enc Try.prog W 0 (fun _ => true) true n 22 [v] = some y) :
    ∃ a len cap xs, v = .slice a len cap ∧ xs.length = len ∧ len ≤ 9223372036854775807 ∧ SlI W W.heap.size a xs ∧ ∀ x ∈ xs, (Lit.int .i64 x).wf = true := by
  rcases open_ints Try.underlying22 Try.underlying2 (by kernel_rfl) hf with ⟨hcs, _⟩ | ⟨x, l, c, zs, hcs, _, hl, hm, hz, _, hcell, hwf⟩
  · simp at hcs
    subst hcs
    exact ⟨none, 0, 0, [], rfl, rfl, by omega, .inl rfl, by simp⟩
  · simp at hcs
    subst hcs
    simp at hz
    have hlen : (zs.take l).length = l := by simp; omega
    unfold maxLen at hm
    refine ⟨some x, l, c, zs.take l, rfl, hlen, by omega, ?_, fun y hy => hwf y (List.mem_of_mem_take hy)⟩
    by_cases h0 : l = 0
    · subst h0; exact .inl (by simp)
    · right
      obtain ⟨b, off, spot⟩ := x
      have hc0 := hcell 0 (by omega)
      have hspot : spot = none := by simpa [Addr.add] using World.cell?_spot hc0
      subst hspot
      refine ⟨b, off, ?_, rfl, fun i hi => ?_⟩
      · have := World.block_lt_of_cell? W _ hc0
        simpa [Addr.add] using this
      · rw [hlen] at hi
        have := hcell i (by omega)
        have hadd : (⟨b, off, none⟩ : Addr).add i = ⟨b, off + i, none⟩ := by unfold Addr.add; split <;> simp_all
        rw [hadd] at this
        rw [List.getElem?_take, if_pos hi]
        simpa using this

end Go.Proofs.Ytgcpakhagbbiiaa

/-! What a list of pairs that comes in is told as. -/
namespace Go.Proofs.Ytgcpakhagbbiiaa
open Go.ChangeShapes Go.WideShapes Go.ChangeAt Go.RowKit Go.Joins

variable {H : Type} {enc : TypeId × Value → H}

/-- The number in a cell. -/
def cellInt (v : Option Value) : Int := match v with | some (.int _ n) => n | _ => 0

set_option maxRecDepth 100000 in
theorem two_of_trod {W : World} {n : Nat} {cs : List Value} {y : DataW H × List MemPlace} (hf : DataW.trod enc Try.prog W 0 (fun _ => true) true n 68 cs = some y) : ∃ x y : Int, cs = [.int .i64 x, .int .i64 y] ∧ (Lit.int .i64 x).wf = true ∧ (Lit.int .i64 y).wf = true := by
  cases n with
  | zero => simp [DataW.trod] at hf
  | succ n =>
    unfold DataW.trod at hf
    rw [Try.underlying68] at hf
    simp only at hf
    rw [show Try.prog.cellsOf 68 = 2 by kernel_rfl, show Try.prog.cellsOf 2 = 1 by kernel_rfl] at hf
    split at hf
    · next hl =>
      match cs, hl with
      | [c0, c1], _ =>
        simp only [Option.map_eq_some_iff] at hf
        obtain ⟨xs, hx, _⟩ := hf
        rw [show List.range 2 = [0, 1] from rfl, List.mapM_cons, List.mapM_cons, List.mapM_nil] at hx
        simp only [bind, Option.bind_eq_some_iff, pure, Option.some.injEq] at hx
        obtain ⟨y0, h0, _, ⟨y1, h1, _, rfl, rfl⟩, rfl⟩ := hx
        obtain ⟨a, ea, _, wa⟩ := DataW.trod_int Try.underlying2 h0
        obtain ⟨b, eb, _, wb⟩ := DataW.trod_int Try.underlying2 h1
        simp at ea eb
        subst ea; subst eb
        exact ⟨a, b, rfl, wa, wb⟩
    · cases hf

set_option maxRecDepth 100000 in
/-- A list of pairs that came in. -/
theorem pairs_of_trod {W : World} {n : Nat} {v : Value} {y : DataW H × List MemPlace} (hf : DataW.trod enc Try.prog W 0 (fun _ => true) true n 25 [v] = some y) :
    ∃ a len cap ps, v = .slice a len cap ∧ ps.length = 2 * len ∧ len ≤ 9223372036854775807 ∧ SlI W W.heap.size a ps ∧ ∀ x ∈ ps, (Lit.int .i64 x).wf = true := by
  rcases DataW.trod_slice Try.underlying25 hf with ⟨hcs, _⟩ | ⟨a, len, cap, elems, rest, m, _, hcs, _, hb, hl, hm, hlen, hel, _, _⟩
  · simp at hcs
    subst hcs
    exact ⟨none, 0, 0, [], rfl, rfl, by omega, .inl rfl, by simp⟩
  · simp at hcs
    subst hcs
    unfold maxLen at hm
    have hc : Try.prog.cellsOf 68 = 2 := by kernel_rfl
    have each : ∀ i, i < 2 * len → ∃ x, W.cell? (a.add i) = some (.int .i64 x) ∧ (Lit.int .i64 x).wf = true := by
      intro i hi
      have h := hel (i / 2) (by omega)
      rw [hc] at h
      have hy : elems[i / 2]? = some (elems[i / 2]'(by omega)) := List.getElem?_eq_getElem (by omega)
      rw [hy, Option.bind_eq_some_iff] at h
      obtain ⟨cs, hcs, ht⟩ := h
      obtain ⟨x, y, rfl, wx, wy⟩ := two_of_trod ht
      have h3 := (World.cells?_some hcs).2.2 (i % 2) (Nat.mod_lt _ (by decide))
      have hadd : (a.add (i / 2 * 2)).add (i % 2) = a.add i := by
        rw [Addr.add_add]
        congr 1
        omega
      rw [hadd] at h3
      rcases Nat.mod_two_eq_zero_or_one i with h | h <;> rw [h] at h3 <;> simp at h3
      · exact ⟨_, h3, wx⟩
      · exact ⟨_, h3, wy⟩
    refine ⟨some a, len, cap, (List.range (2 * len)).map (fun i => cellInt (W.cell? (a.add i))), rfl, by simp, by omega, ?_, ?_⟩
    rotate_left
    · intro x hx
      obtain ⟨i, hi, rfl⟩ := List.mem_map.1 hx
      obtain ⟨y, hy, wy⟩ := each i (List.mem_range.1 hi)
      rw [hy]
      exact wy
    by_cases h0 : len = 0
    · subst h0; exact .inl (by simp)
    · right
      obtain ⟨b, off, spot⟩ := a
      obtain ⟨x0, hc0, _⟩ := each 0 (by omega)
      have hspot : spot = none := by simpa [Addr.add] using World.cell?_spot hc0
      subst hspot
      refine ⟨b, off, ?_, rfl, fun i hi => ?_⟩
      · have := World.block_lt_of_cell? W _ hc0
        simpa [Addr.add] using this
      · simp only [List.length_map, List.length_range] at hi
        obtain ⟨x, hx, _⟩ := each i hi
        have hadd : (⟨b, off, none⟩ : Addr).add i = ⟨b, off + i, none⟩ := by unfold Addr.add; split <;> simp_all
        rw [hadd] at hx
        rw [hx, List.getElem?_map, List.getElem?_range hi]
        simp only [Option.map_some, Option.getD_some]
        rw [hadd, hx]
        rfl

theorem pairs_in {W : World} {n : Nat} {a : Option Addr} {m cap : Nat} {y : DataW H × List MemPlace} (hf : DataW.trod enc Try.prog W 0 (fun _ => true) true n 25 (Value.slice a m cap).cells.toList = some y) :
    ∃ ps, ps.length = 2 * m ∧ m ≤ 9223372036854775807 ∧ SlI W W.heap.size a ps ∧ ∀ x ∈ ps, (Lit.int .i64 x).wf = true := by
  obtain ⟨a', len, cap', ps, he, h1, h2, h3, h4⟩ := pairs_of_trod (v := .slice a m cap) hf
  cases he
  exact ⟨ps, h1, h2, h3, h4⟩

end Go.Proofs.Ytgcpakhagbbiiaa
