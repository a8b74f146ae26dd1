import Derived.Deep.RegionHeld3
import Derived.Deep.CutRange
import Derived.WalkSmall
import Derived.Maps.OwnIn
import Derived.Scope
import Derived.Test.YtplcbiconfpmlaaMB1
import Derived.Test.YtplcbiconfpmlaaMB2
import Derived.Test.YtplcbiconfpmlaaMB3
import Derived.Test.YtplcbiconfpmlaaMB4
/-! l02Reached: the model's search. -/
namespace Go.Proofs.Ytplcbiconfpmlaa
open Go.RowKit

theorem info_boolR : (Try.prog.info? 4).map (fun i => (i.zero, i.size, i.bytes)) = some (some (.bool false), 1, 1) := by kernel_rfl
/-- 'make([]bool, n)'. -/
theorem make_runB (w : World) (n : Nat) (hn : n ≤ 1099511627776) : ∃ w', (Instr.makeSlice 124 (.int .i64 (n : Int)) (.int .i64 (n : Int))).run Try.prog w = .ok (.slice (some ⟨w.heap.size, 0, none⟩) n n) w' ∧
    w'.ownsRow w.heap.size 4 1 (.slice (some ⟨w.heap.size, 0, none⟩) n n) n ((List.replicate n false).map Value.bool) ∧ w.grownBy w' none ∧ Below w.heap.size w w' := by
  obtain ⟨i0, hi, hz0, hz1, hz2⟩ := info_parts info_boolR
  obtain ⟨w', hrun, hown, hg⟩ := run_make_full (P := Try.prog) w w.heap.size 124 4 i0 (.bool false) 1 Try.underlying124 hi hz0 hz1 .i64 .i64 n (by rw [hz2]; omega) (by unfold maxLen; omega) (Nat.le_refl _)
  have e : (madeCells (Value.bool false).cells (n * 1)).toList = (List.replicate n false).map Value.bool := by
    rw [Nat.mul_one]
    exact (toList_madeCells_one _ _).trans (by simp)
  rw [e] at hown
  exact ⟨w', hrun, hown, hg, (Below.refl _ w).grown hg (Nat.le_refl _) (fun k hk => by cases hk)⟩

theorem make_run64 (w : World) : ∃ w', (Instr.makeSlice 124 (.int .i64 64) (.int .i64 64)).run Try.prog w = .ok (.slice (some ⟨w.heap.size, 0, none⟩) 64 64) w' ∧
    w'.ownsRow w.heap.size 4 1 (.slice (some ⟨w.heap.size, 0, none⟩) 64 64) 64 ((List.replicate 64 false).map Value.bool) ∧ w.grownBy w' none ∧ Below w.heap.size w w' := make_runB w 64 (by omega)

/-- 'append(a, b...)' of numbers; where the row lies afterwards. -/
theorem append_ints_at {w : World} {ops : Array Oper} {rest : List Oper} {o : Oper} {a : Act} {Q : Exit → Act → World → Prop} (hgd : o.guard = none) {s y : Operand}
    (ho : o.op = .call { callee := .builtin .append, args := #[s, y], argTypes := #[22, 22] })
    {base : Nat} {v : Value} {xs ys : List Int} {g c : Nat} (hown : w.ownsRow base 2 1 v xs.length (xs.map (Value.int .i64))) (hbase : base ≤ w.heap.size) (hl : xs.length ≤ 1048576) (hly : ys.length ≤ 1048576)
    (hs : a.eval s = v) (hy : a.eval y = .slice (some ⟨g, 0, none⟩) ys.length c) (hc : ∀ i, i < ys.length → w.cell? ⟨g, i, none⟩ = some (.int .i64 (ys[i]?.getD 0)))
    (hK : ∀ v' w', w'.ownsRow base 2 1 v' (xs ++ ys).length ((xs ++ ys).map (Value.int .i64)) → w.grownBy w' v.ownBlock → (v'.ownBlock = v.ownBlock ∨ v'.ownBlock = some w.heap.size) → Below base w w' → wpList Try.prog ops Q rest (a.put o.dst v') w') :
    wpList Try.prog ops Q (o :: rest) a w := by
  obtain ⟨i0, hi, hz0, hz1, hz2⟩ := info_parts info_i64
  refine wpList_append_own_at w hgd s y 22 ho base 2 i0 (.int .i64 0) 1 8 Try.underlying22 hi hz0 hz1 hz2 rfl (by decide) v _ _ hs hown ⟨g, 0, none⟩ ys.length c (ys.map (Value.int .i64)) hy (by simp) (fun j u hj => ?_) (fun u hu => ?_) (by unfold maxLen; omega) (by omega) hbase ?_
  · have hjl : j < ys.length := by
      have := (List.getElem?_eq_some_iff.1 hj).1
      simpa using this
    have := hc j hjl
    rw [List.getElem?_map, List.getElem?_eq_getElem hjl] at hj
    rw [List.getElem?_eq_getElem hjl] at this
    simp at hj this
    have hadd : (⟨g, 0, none⟩ : Addr).add j = ⟨g, j, none⟩ := by unfold Addr.add; split <;> simp_all
    rw [hadd, this, hj]
  · obtain ⟨x, _, rfl⟩ := List.mem_map.1 hu
    rfl
  · intro v' w1 hown1 hgrow1 _ hat
    exact hK v' w1 (by simpa using hown1) hgrow1 hat ((Below.refl base w).grown hgrow1 hbase (fun k hk => (hown.lt k hk).1))

/-- The search's world: what has been met lies in block bo, what waits in v's. -/
structure RchW (w wr : World) (ps : List Int) (n : Nat) (a : Int) (bo : Nat) (met : List Bool) (st : List Int) (v : Value) : Prop where
  om : wr.ownsRow w.heap.size 4 1 (.slice (some ⟨bo, 0, none⟩) 64 64) 64 (met.map Value.bool)
  os : wr.ownsRow w.heap.size 2 1 v st.length (st.map (Value.int .i64))
  nn : v.ownBlock ≠ none
  ne : v.ownBlock ≠ some bo
  srch : Srch ps n a met st
  below : Below w.heap.size w wr

theorem snoc_of {st : List Int} (h : st ≠ []) : ∃ st' x, st = st' ++ [x] := by
  rcases List.eq_nil_or_concat st with h1 | ⟨st', x, h1⟩
  · exact absurd h1 h
  · exact ⟨st', x, by rw [h1, List.concat_eq_append]⟩
theorem RchW.pop {w wr : World} {ps : List Int} {n : Nat} {a : Int} {bo g c : Nat} {met : List Bool} {st : List Int} {x : Int} (h : RchW w wr ps n a bo met (st ++ [x]) (.slice (some ⟨g, 0, none⟩) (st.length + 1) c)) :
    wr.ownsRow w.heap.size 2 1 (.slice (some ⟨g, 0, none⟩) st.length c) st.length (st.map (Value.int .i64)) := by
  have h1 := h.os
  have e : (st ++ [x]).length = st.length + 1 := by simp
  rw [e] at h1
  exact ownsRow_pop (n := st.length) (xs := st.map (Value.int .i64)) (last := [.int .i64 x]) (by simp) (by simpa using h1)
theorem RchW.skip {w wr : World} {ps : List Int} {n : Nat} {a : Int} {bo g c : Nat} {met : List Bool} {st : List Int} {x : Int} (h : RchW w wr ps n a bo met (st ++ [x]) (.slice (some ⟨g, 0, none⟩) (st.length + 1) c)) (hx : metAt met x = true) :
    RchW w wr ps n a bo met st (.slice (some ⟨g, 0, none⟩) st.length c) :=
  ⟨h.om, h.pop, by simp [Value.ownBlock], h.ne, h.srch.skip hx, h.below⟩
theorem RchW.push {w wr w2 w3 : World} {ps : List Int} {n : Nat} {a : Int} {bo g c q : Nat} {met : List Bool} {st : List Int} (hh : HighsB ps n) (h : RchW w wr ps n a bo met (st ++ [(q : Int)]) (.slice (some ⟨g, 0, none⟩) (st.length + 1) c))
    (hx : metAt met (q : Int) = false) (hb : Below (wr.setCell ⟨bo, q, none⟩ (.bool true)).heap.size (wr.setCell ⟨bo, q, none⟩ (.bool true)) w2) {v' : Value}
    (hown : w3.ownsRow w.heap.size 2 1 v' (st ++ nextL ps n q).length ((st ++ nextL ps n q).map (Value.int .i64))) (hg : w2.grownBy w3 (some g)) (hat : v'.ownBlock = some g ∨ v'.ownBlock = some w2.heap.size) :
    RchW w w3 ps n a bo (met.set q true) (st ++ nextL ps n q) v' := by
  have hq : q < 64 := by have := h.srch.rng (q : Int) (by simp); omega
  have hst := h.om.stored q (.bool true)
  have hgb : g ≠ bo := fun e => h.ne (by rw [e]; rfl)
  have hbo := h.om.lt bo rfl
  have hgl := h.os.lt g rfl
  have hsz : (wr.setCell ⟨bo, q, none⟩ (.bool true)).heap.size = wr.heap.size := by simp [World.setCell]
  have hs2 := hb.size
  rw [hsz] at hs2
  have hm1 : (wr.setCell ⟨bo, q, none⟩ (.bool true)).ownsRow w.heap.size 4 1 (.slice (some ⟨bo, 0, none⟩) 64 64) 64 ((met.set q true).map Value.bool) := by rw [List.map_set]; exact hst.1
  have hm2 := ownsRow_below hm1 hb (fun k hk => (hm1.lt k hk).2)
  have hm3 := hm2.kept hg (.inr (by simp [Value.ownBlock]; exact fun e => hgb e.symm))
  have hbw : Below w.heap.size w (wr.setCell ⟨bo, q, none⟩ (.bool true)) := h.below.grown hst.2 h.below.size (fun r e => by cases e; exact hbo.1)
  refine ⟨hm3, hown, ?_, ?_, ?_, ?_⟩
  · rcases hat with e | e <;> rw [e] <;> simp
  · rcases hat with e | e
    · rw [e]; simpa using hgb
    · rw [e]; intro e'; injection e' with e'; omega
  · have := h.srch.step hh hx
    rwa [Int.toNat_natCast] at this
  · exact (hbw.trans (hb.mono hbw.size)).grown hg (hbw.trans (hb.mono hbw.size)).size (fun r e => by cases e; exact hgl.1)

set_option maxRecDepth 1000000 in
set_option maxHeartbeats 4000000 in
theorem reached_any (a1 : Option Addr) (n cap : Nat) (ps : List Int) (a : Int) (w : World) (hx : SlI w w.heap.size a1 ps) (hp : ps.length = 2 * n) (hl : n ≤ 1048576) (hh : HighsB ps n) :
    Calls Try.prog 132 #[.slice a1 n cap, .int .i64 a] w fun e w' => ∃ g met, e = .returned (.slice (some ⟨g, 0, none⟩) 64 64) ∧ w'.ownsRow w.heap.size 4 1 (.slice (some ⟨g, 0, none⟩) 64 64) 64 (met.map Value.bool) ∧ Hid (Srch ps n a met []) ∧ Below w.heap.size w w' := by
  have HH := hid hh
  have HN := hid (fun x w' (h : Below w.heap.size w w') => next_any a1 n cap ps x w' (hx.later h h.size) hp hl (hh x))
  have Hl := hid (fun x => nextL_len ps n x)
  clear hx hp hh
  obtain ⟨wm, hmk, hownm, hgm, hBm⟩ := make_run64 w.drew
  have hdr : Below w.heap.size w w.drew := below_drewN (Below.refl _ w) 1
  have HBw := hid hdr
  have HBwm : Hid (Below w.heap.size w wm) := hid (hdr.trans hBm)
  have HBm := hid hBm
  have Hownm := hid hownm
  clear hownm hgm hdr hBm
  go_enter Try.func132, Try.ntmps132
  go_wp2_with fail
  go_cut [5, 6] from 8 to 11 (fun p q wx => ∃ bo g c : Nat, p = .slice (some ⟨bo, 0, none⟩) 64 64 ∧ w.heap.size ≤ bo ∧ wx.ownsRow w.heap.size 4 1 (.slice (some ⟨bo, 0, none⟩) 64 64) 64 ((List.replicate 64 false).map Value.bool) ∧ q = .slice (some ⟨g, 0, none⟩) (nextL ps n a).length c ∧ wx.ownsRow w.heap.size 2 1 (.slice (some ⟨g, 0, none⟩) (nextL ps n a).length c) (nextL ps n a).length ((nextL ps n a).map (Value.int .i64)) ∧ g ≠ bo ∧ Below w.heap.size w wx)
  case first =>
    go_region_held3 (fun w' => True) (trivial) (first
      | (go_at_call 138; (with_reducible_and_instances refine (HN.out a wm HBwm.out).mono ?_); rintro e w2 ⟨g, c, rfl, hr⟩; have HR := hid hr; clear hr)
      | (go_at_call 138; (with_reducible_and_instances refine (HN.out a w.drew HBw.out).mono ?_); rintro e w2 ⟨g, c, rfl, hr⟩; obtain ⟨w3, hmk3, hown3, hg3, hB3⟩ := make_run64 w2; have HR := hid hr; have Hown3 := hid hown3; have HB3 := hid hB3; clear hr hown3 hg3 hB3)
      | (simp only [hmk3]))
    · go_wp2_with fail
      go_meet
      case rel =>
        have hlm := (Hownm.out.lt w.heap.size rfl).2
        refine ⟨w.heap.size, g, c, rfl, Nat.le_refl _, ownsRow_below Hownm.out HR.out.2 (fun g hg => (Hownm.out.lt g hg).2), rfl, ownsRow_base HR.out.1 HBwm.out.size, ?_, HBwm.out.trans (HR.out.2.mono HBwm.out.size)⟩
        have := (HR.out.1.lt g rfl).1
        omega
    · go_wp2_with fail
      go_meet
      case rel =>
        have hs2 : w.heap.size ≤ w2.heap.size := HR.out.2.size
        refine ⟨w2.heap.size, g, c, rfl, hs2, ownsRow_base Hown3.out hs2, rfl, ownsRow_base (ownsRow_below HR.out.1 HB3.out (fun g hg => (HR.out.1.lt g hg).2)) (Nat.le_refl _), ?_, (HBw.out.trans HR.out.2).trans (HB3.out.mono hs2)⟩
        have := (HR.out.1.lt g rfl).2
        omega
  case rest =>
    obtain ⟨bo, g, c, rfl, hbo, hmet, rfl, hst, hgb, hb⟩ := hcut
    have H0 : Hid (RchW w wc ps n a bo (List.replicate 64 false) (nextL ps n a) (.slice (some ⟨g, 0, none⟩) (nextL ps n a).length c)) := hid ⟨hmet, hst, by simp [Value.ownBlock], by simpa [Value.ownBlock] using hgb, Srch.start HH.out a, hb⟩
    clear hmet hst hgb hb HBw HBwm HBm Hownm hmk
    go_wp2_with fail
    go_loopg [6] 5000 (fun gg v wr => ∃ (met : List Bool) (st : List Int), Hid (RchW w wr ps n a bo met st v) ∧ st.length + 64 * met.countP (fun b => !b) ≤ gg)
    case atStart => exact ⟨_, _, H0, H0.out.srch.small⟩
    case round =>
      clear H0
      obtain ⟨met, st, HW, hgg⟩ := hrel
      by_cases hst : st = []
      · subst hst
        obtain ⟨g', c', rfl, _⟩ := owned_some HW.out.os HW.out.nn
        go_wp2_with fail
        go_ret
        exact ⟨bo, met, rfl, HW.out.om, hid HW.out.srch, HW.out.below⟩
      · obtain ⟨st', x, rfl⟩ := snoc_of hst
        obtain ⟨g', c', rfl, hcap⟩ := owned_some HW.out.os HW.out.nn
        have hxr := HW.out.srch.rng x (by simp)
        obtain ⟨q, rfl⟩ : ∃ q : Nat, x = q := ⟨x.toNat, by omega⟩
        obtain ⟨m, hm⟩ : ∃ m, m = st'.length := ⟨_, rfl⟩
        have el : (st' ++ [(q : Int)]).length = st'.length + 1 := by simp
        have hsm := HW.out.srch.small
        rw [el] at hcap HW hgg hsm ⊢
        have hcx : wr.cell? ⟨g', m, none⟩ = some (.int .i64 (q : Int)) := by
          have h := HW.out.os
          rw [el] at h
          rw [h.cellAt m (by omega), hm]
          simp
        have hml := HW.out.srch.len
        have hq64 : q < 64 := by omega
        obtain ⟨b, hb⟩ : ∃ b, b = metAt met (q : Int) := ⟨_, rfl⟩
        have hcm : wr.cell? ⟨bo, q, none⟩ = some (.bool b) := by
          rw [HW.out.om.cellAt q (by omega), hb]
          unfold metAt
          rw [Int.toNat_natCast, List.getElem?_eq_getElem (by omega : q < met.length)]
          simp [hml, hq64]
        have hfr := HW.out.om.frozenAt q
        have hi0 : (0 : Int) ≤ (q : Int) := by omega
        have hi1 : (q : Int) < 64 := by omega
        have hm0 : (0 : Int) ≤ (m : Int) := by omega
        have hm1 : (m : Int) < (m : Int) + 1 := by omega
        have hm2 : (m : Int) ≤ (c' : Int) := by omega
        have hw1 : IntKind.i64.wrap (m : Int) = m := by rw [IntKind.wrap_i64]; omega
        have hw2 : IntKind.i64.wrap ((m : Int) + 1 - 1) = m := by rw [show (m : Int) + 1 - 1 = m by omega]; exact hw1
        have hw3 : wrap64 (m : Int) = m := IntWalk.wrap64_in _ ⟨by omega, by omega⟩
        have hw4 : wrap64 ((m : Int) + 1 - 1) = m := by rw [show (m : Int) + 1 - 1 = m by omega]; exact hw3
        have HM := hid hm
        have Hb := hid hb
        rw [← hm] at HW ⊢
        clear hst el hsm hm hxr hcap hml hb
        cases b
        · have hst := HW.out.om.stored q (.bool true)
          have hbs : Below w.heap.size w (wr.setCell ⟨bo, q, none⟩ (.bool true)) := HW.out.below.grown hst.2 HW.out.below.size (fun r e => by cases e; exact hbo)
          have hW' := HW.out
          rw [HM.out] at hW'
          have hp : wr.ownsRow w.heap.size 2 1 (.slice (some ⟨g', 0, none⟩) m c') st'.length (st'.map (Value.int .i64)) := by rw [HM.out]; exact hW'.pop
          have HP := hid (ownsRow_set (a := ⟨bo, q, none⟩) hp HW.out.ne (.bool true))
          have HBs := hid hbs
          have hcq := HN.out (q : Int) _ hbs
          clear hst hbs hW' hp
          go_wp2_with fail
          refine hcq.mono ?_
          rintro e w2 ⟨g2, c2, rfl, hr⟩
          have hcs : ∀ i, i < (nextL ps n q).length → w2.cell? ⟨g2, i, none⟩ = some (.int .i64 ((nextL ps n q)[i]?.getD 0)) := fun i hi => by
            rcases owned_slI hr.1 with h | ⟨b, off, _, h1, h2⟩
            · rw [h] at hi; simp at hi
            · injection h1 with h1
              injection h1 with h1 h3
              subst h1
              subst h3
              have := h2 i hi
              rwa [Nat.zero_add] at this
          have hown2 := ownsRow_below HP.out hr.2 (fun k hk => (HP.out.lt k hk).2)
          have hsz2 : w.heap.size ≤ w2.heap.size := Nat.le_trans HBs.out.size hr.2.size
          have hly : (nextL ps n q).length ≤ 1048576 := by have := Hl.out (q : Int); omega
          have hlx : st'.length ≤ 1048576 := by have := HW.out.srch.small; simp at this; omega
          have HR := hid hr.2
          clear hr hcq
          go_wp2_with (at_builtin; refine append_ints_at rfl rfl hown2 hsz2 hlx hly rfl rfl hcs ?_; intro v' w3 hown3 hg3 hat3 hB3)
          go_roundg ((st' ++ nextL ps n q).length + 64 * (met.set q true).countP (fun b => !b))
          case measure =>
            have := HW.out.srch.less (x := (q : Int)) Hb.out.symm
            rw [Int.toNat_natCast] at this
            have e : (st' ++ [(q : Int)]).length = st'.length + 1 := by simp
            omega
          case rel =>
            have hW' := HW.out
            rw [HM.out] at hW'
            exact ⟨_, _, hid (hW'.push HH.out Hb.out.symm HR.out hown3 hg3 hat3), Nat.le_refl _⟩
        · go_wp2_with fail
          go_roundg (st'.length + 64 * met.countP (fun b => !b))
          case measure => omega
          case rel =>
            have hW' := HW.out
            rw [HM.out] at hW' ⊢
            exact ⟨_, _, hid (hW'.skip Hb.out.symm), Nat.le_refl _⟩

end Go.Proofs.Ytplcbiconfpmlaa

/-! l02Acyclic: the model's word on cycles. -/
namespace Go.Proofs.Ytplcbiconfpmlaa
open Go.RowKit

noncomputable def wayB (ps : List Int) (n : Nat) (a b : Int) : Bool := @decide (Way ps n a b) (Classical.propDecidable _)
theorem wayB_true {ps : List Int} {n : Nat} {a b : Int} (h : Way ps n a b) : wayB ps n a b = true := by unfold wayB; exact @decide_eq_true _ (Classical.propDecidable _) h
theorem wayB_false {ps : List Int} {n : Nat} {a b : Int} (h : ¬ Way ps n a b) : wayB ps n a b = false := by unfold wayB; exact @decide_eq_false _ (Classical.propDecidable _) h
theorem met_way {ps : List Int} {n : Nat} (hh : HighsB ps n) {a y : Int} {met : List Bool} (h : Srch ps n a met []) (hy : 0 ≤ y ∧ y < 64) : metAt met y = wayB ps n a y := by
  by_cases hw : Way ps n a y
  · rw [wayB_true hw]; exact h.done hh hw
  · rw [wayB_false hw]
    cases hm : metAt met y
    · rfl
    · have := h.good y.toNat (by omega) hm
      rw [show ((y.toNat : Nat) : Int) = y by omega] at this
      exact absurd this hw
/-- No low face of a pair lies on a cycle. -/
def NoCycle (ps : List Int) (n : Nat) : Prop := ∀ i, i < n → ¬ Way ps n (at0 ps (i * 2)) (at0 ps (i * 2))
noncomputable def acyB (ps : List Int) (n : Nat) : Bool := @decide (NoCycle ps n) (Classical.propDecidable _)
theorem acyB_true {ps : List Int} {n : Nat} (h : NoCycle ps n) : acyB ps n = true := by unfold acyB; exact @decide_eq_true _ (Classical.propDecidable _) h
theorem acyB_false {ps : List Int} {n : Nat} (h : ¬ NoCycle ps n) : acyB ps n = false := by unfold acyB; exact @decide_eq_false _ (Classical.propDecidable _) h

/-- What l02Reached says of a number. -/
theorem reached_at (a1 : Option Addr) (n cap : Nat) (ps : List Int) (a : Int) (y : Nat) (w : World) (hx : SlI w w.heap.size a1 ps) (hp : ps.length = 2 * n) (hl : n ≤ 1048576) (hh : HighsB ps n) (hy : y < 64) :
    Calls Try.prog 132 #[.slice a1 n cap, .int .i64 a] w fun e w' => ∃ g, e = .returned (.slice (some ⟨g, 0, none⟩) 64 64) ∧ w'.cell? ⟨g, y, none⟩ = some (.bool (wayB ps n a (y : Int))) ∧ Below w.heap.size w w' :=
  (reached_any a1 n cap ps a w hx hp hl hh).mono fun e w' ⟨g, met, he, hom, HS, hB⟩ => by
    refine ⟨g, he, ?_, hB⟩
    have hml := HS.out.len
    rw [hom.cellAt y (by omega), ← met_way hh HS.out (by omega)]
    unfold metAt
    rw [Int.toNat_natCast, List.getElem?_eq_getElem (by omega : y < met.length)]
    simp [hml, hy]

set_option maxRecDepth 1000000 in
set_option maxHeartbeats 4000000 in
theorem acyclicS_any (a1 : Option Addr) (n cap : Nat) (ps : List Int) (w : World) (hx : SlI w w.heap.size a1 ps) (hp : ps.length = 2 * n) (hl : n ≤ 1048576) (hh : HighsB ps n) (hlo : ∀ i, i < n → 0 ≤ at0 ps (i * 2) ∧ at0 ps (i * 2) < 64) :
    Calls Try.prog 77 #[.slice a1 n cap] w fun e w' => e = .returned (.bool (acyB ps n)) ∧ Below w.heap.size w w' := by
  obtain ⟨E, hE⟩ : ∃ E, E = acyB ps n := ⟨_, rfl⟩
  have HE := hid hE
  rw [← hE]
  clear hE
  have HR := hid (fun a y w' (h : Below w.heap.size w w') (hy : y < 64) => reached_at a1 n cap ps a y w' (hx.later h h.size) hp hl hh hy)
  have Hx := hid hx
  have Hp := hid hp
  have Hlo := hid hlo
  clear hx hp hh hlo
  go_enter Try.func77, Try.ntmps77
  go_wp2
  go_loopw [3] (fun i wr => ∃ k : Nat, k ≤ n ∧ i = .int .i64 k ∧ Hid (∀ j, j < k → ¬ Way ps n (at0 ps (j * 2)) (at0 ps (j * 2))) ∧ Below w.heap.size w wr) (fun i _ => n - (intOf i).toNat)
  case atStart => exact ⟨0, Nat.zero_le _, rfl, hid (fun j hj => absurd hj (Nat.not_lt_zero _)), Below.refl _ _⟩
  case round =>
    obtain ⟨k, hk, rfl, Hk, hB⟩ := hrel
    by_cases hlt : k < n
    · obtain ⟨b, off, hb, rfl, hc⟩ : ∃ b off, b < w.heap.size ∧ a1 = some ⟨b, off, none⟩ ∧ ∀ i, i < ps.length → w.cell? ⟨b, off + i, none⟩ = some (.int .i64 (ps[i]?.getD 0)) := by
        rcases Hx.out with h | h
        · have := Hp.out; rw [h] at this; simp at this; omega
        · exact h
      have hck : wr.cell? ⟨b, off + k * 2, none⟩ = some (.int .i64 (at0 ps (k * 2))) := (hB.cell (p := ⟨b, off + k * 2, none⟩) hb).trans (hc _ (by have := Hp.out; omega))
      have hxr := Hlo.out k hlt
      obtain ⟨x, hx⟩ : ∃ x : Nat, (x : Int) = at0 ps (k * 2) := ⟨(at0 ps (k * 2)).toNat, by omega⟩
      rw [← hx] at hck hxr
      have Hxx := hid hx
      have hx0 : (0 : Int) ≤ (x : Int) := by omega
      have hx64 : (x : Int) < 64 := by omega
      have hi0 : (0 : Int) ≤ (k : Int) := by omega
      have hi1 : (k : Int) < (n : Int) := by omega
      have HC := hid (HR.out (x : Int) x wr.drew (below_drewN hB 1) (by omega))
      have HB := hid hB
      have hbr : b < wr.heap.size := Nat.lt_of_lt_of_le hb hB.size
      obtain ⟨q, hq⟩ : ∃ q, q = wayB ps n (x : Int) (x : Int) := ⟨_, rfl⟩
      rw [← hq] at HC
      have Hq := hid hq
      clear hx hc hB hq hxr
      cases q
      · go_wp2_with fail
        go_region_with (first
          | (go_at_call 132; refine HC.out.mono ?_; rintro e w2 ⟨g, rfl, hcm, hB2⟩; have n0 := (hB2.cell (p := ⟨b, off + k * 2, none⟩) hbr).trans hck; have HB2 := hid hB2; clear hB2))
        all_goals
          have HB3 := hid ((below_drewN HB.out 1).trans (HB2.out.mono (below_drewN HB.out 1).size))
          have He : Hid (∀ j, j < k + 1 → ¬ Way ps n (at0 ps (j * 2)) (at0 ps (j * 2))) := hid (fun j hj hw => by
            by_cases e : j = k
            · subst e
              rw [← Hxx.out] at hw
              have := Hq.out
              rw [wayB_true hw] at this
              cases this
            · exact Hk.out j (by omega) hw)
          clear HB HB2 hcm n0 hck
          go_wp2_with fail
          go_roundw
          case rel => exact ⟨k + 1, by omega, by go_num, He, HB3.out⟩
          case measure => simp [intOf]; omega
      · go_wp2_with fail
        go_region_with (first
          | (go_at_call 132; refine HC.out.mono ?_; rintro e w2 ⟨g, rfl, hcm, hB2⟩; have n0 := (hB2.cell (p := ⟨b, off + k * 2, none⟩) hbr).trans hck; have HB2 := hid hB2; clear hB2))
        all_goals
          have HB3 := hid ((below_drewN HB.out 1).trans (HB2.out.mono (below_drewN HB.out 1).size))
          have He : Hid (E = false) := hid (by
            rw [HE.out]
            refine acyB_false (fun hno => ?_)
            have := Hq.out
            rw [wayB_false (by rw [Hxx.out]; exact hno k hlt)] at this
            cases this)
          clear HB HB2 hcm n0 hck
          go_wp2_with fail
          go_ret
          exact ⟨ret_bool (by rw [He.out]), HB3.out⟩
    · have He : Hid (E = true) := hid (by rw [HE.out]; exact acyB_true (fun i hi => Hk.out i (by omega)))
      go_wp2_with fail
      go_ret
      exact ⟨ret_bool (by rw [He.out]), hB⟩

end Go.Proofs.Ytplcbiconfpmlaa

/-! settledPairs, the mathematics: pairs that settle one behind the other. -/
namespace Go.Proofs.Ytplcbiconfpmlaa
open Go.RowKit

/-- A step leads from the low face of pair i to that of pair j. -/
def StepP (ps : List Int) (n i j : Nat) : Prop := at0 ps (j * 2) ∈ nextL ps n (at0 ps (i * 2))
/-- Each pair of the list has all pairs to which its steps lead ahead of it. -/
def Ordered (ps : List Int) (n : Nat) (L : List Nat) : Prop := ∀ pre i post, L = pre ++ i :: post → ∀ j, j < n → StepP ps n i j → j ∈ pre
theorem Ordered.nil (ps : List Int) (n : Nat) : Ordered ps n [] := fun pre i post h => by
  have := congrArg List.length h
  simp at this
theorem Ordered.snoc {ps : List Int} {n : Nat} {L : List Nat} (h : Ordered ps n L) {i : Nat} (hi : ∀ j, j < n → StepP ps n i j → j ∈ L) : Ordered ps n (L ++ [i]) := by
  intro pre k post he j hj hs
  rcases List.eq_nil_or_concat post with hp | ⟨post', z, hp⟩
  · subst hp
    have h1 := List.append_inj' he rfl
    have h2 : i = k := by simpa using h1.2
    rw [← h1.1]
    exact hi j hj (by rw [h2]; exact hs)
  · rw [List.concat_eq_append] at hp
    subst hp
    have he' : L ++ [i] = (pre ++ k :: post') ++ [z] := by rw [he]; simp
    have h1 := List.append_inj' he' rfl
    exact h pre k post' h1.1 j hj hs

/-- A number that has steps is the low face of a pair. -/
theorem next_low {ps : List Int} {n : Nat} {x y : Int} (h : y ∈ nextL ps n x) : ∃ i, i < n ∧ at0 ps (i * 2) = x := by
  refine Classical.byContradiction fun hn => ?_
  have : highOf ps n x = 0 := highOf_none (fun i hi e => hn ⟨i, hi, e⟩)
  unfold nextL at h
  rw [if_pos this] at h
  simp at h

/-- Along a way the pairs stand ever further ahead. -/
theorem way_ahead {ps : List Int} {n : Nat} {L : List Nat} (hO : Ordered ps n L) {i : Nat} {y : Int} (hw : Way ps n (at0 ps (i * 2)) y) :
    ∀ pre post, L = pre ++ i :: post → ∀ j, j < n → at0 ps (j * 2) = y → j ∈ pre := by
  induction hw with
  | one h1 =>
    intro pre post he j hj hy
    exact hO pre i post he j hj (by unfold StepP; rw [hy]; exact h1)
  | @more x y _ h2 ih =>
    intro pre post he j hj hy
    obtain ⟨k, hk, hkx⟩ := next_low h2
    have hkp := ih pre post he k hk hkx
    obtain ⟨p1, p2, hp⟩ := List.append_of_mem hkp
    have hj1 := hO p1 k (p2 ++ i :: post) (by rw [he, hp]; simp) j hj (by unfold StepP; rw [hy, hkx]; exact h2)
    rw [hp]
    exact List.mem_append_left _ hj1
/-- All settled: no cycle. -/
theorem settled_acyclic {ps : List Int} {n : Nat} {L : List Nat} (hO : Ordered ps n L) (hall : ∀ i, i < n → i ∈ L) : NoCycle ps n := by
  intro i hi hw
  obtain ⟨pre, post, he, hn⟩ : ∃ pre post, L = pre ++ i :: post ∧ i ∉ pre := by
    have := List.eq_append_cons_of_mem (hall i hi)
    obtain ⟨pre, post, h1, h2⟩ := this
    exact ⟨pre, post, h1, h2⟩
  exact hn (way_ahead hO hw pre post he i hi rfl)

theorem way_trans {ps : List Int} {n : Nat} {a b c : Int} (h1 : Way ps n a b) (h2 : Way ps n b c) : Way ps n a c := by
  induction h2 with
  | one h => exact .more h1 h
  | more _ h ih => exact .more ih h
/-- Nothing more can settle, and there is no cycle: all are settled. -/
theorem acyclic_settled {ps : List Int} {n : Nat} {L : List Nat} (hc : NoCycle ps n) (hs : ∀ i, i < n → i ∉ L → ∃ j, j < n ∧ StepP ps n i j ∧ j ∉ L) : ∀ i, i < n → i ∈ L := by
  have key : ∀ (m i : Nat), (List.range n).countP (fun j => wayB ps n (at0 ps (i * 2)) (at0 ps (j * 2))) = m → i < n → i ∈ L := by
    intro m
    induction m using Nat.strongRecOn with
    | _ m ih =>
      intro i hm hi
      refine Classical.byContradiction fun hn => ?_
      obtain ⟨j, hj, hst, hjn⟩ := hs i hi hn
      have hw : Way ps n (at0 ps (i * 2)) (at0 ps (j * 2)) := .one hst
      have hlt : (List.range n).countP (fun k => wayB ps n (at0 ps (j * 2)) (at0 ps (k * 2))) < (List.range n).countP (fun k => wayB ps n (at0 ps (i * 2)) (at0 ps (k * 2))) := by
        refine countP_lt (y := j) (fun k _ hk => ?_) (by simpa using hj) (wayB_true hw) (wayB_false (hc j hj))
        by_cases hw2 : Way ps n (at0 ps (j * 2)) (at0 ps (k * 2))
        · exact wayB_true (way_trans hw hw2)
        · rw [wayB_false hw2] at hk; cases hk
      exact hjn (ih _ (by omega) j rfl hj)
  exact fun i hi => key _ i rfl hi

end Go.Proofs.Ytplcbiconfpmlaa

/-! What a law keeps of the world, for rows of any type that are read as integers (a list of n pairs: 2 * n integers). -/
namespace Go.Proofs.Ytplcbiconfpmlaa
open Go.RowKit

/-- A row that lies in blocks from lo to hi: n elements of a type and size, read as integers. -/
structure Bk where
  lo : Nat
  hi : Nat
  ty : TypeId
  sz : Nat
  n : Nat
  v : Value
  xs : List Int

structure OwnB (w : World) (p : Bk) : Prop where
  own : w.ownsRow p.lo p.ty p.sz p.v p.n (p.xs.map (Value.int .i64))
  lt : ∀ g, p.v.ownBlock = some g → g < p.hi
  le : p.hi ≤ w.heap.size

/-- What is owned reads as integers. -/
theorem flat_slI {w : World} {base e sz : Nat} {a : Option Addr} {n m cap : Nat} {xs : List Int} (h : w.ownsRow base e sz (.slice a m cap) n (xs.map (Value.int .i64))) : SlI w w.heap.size a xs := by
  have hl := h.1
  rcases h.2 with ⟨hv, hn⟩ | ⟨g, cap', cur, hv, _, hg, _⟩
  · subst hn
    exact .inl (List.eq_nil_of_length_eq_zero (by simpa using hl))
  · cases hv
    refine .inr ⟨g, 0, (Array.getElem?_eq_some_iff.1 hg).1, rfl, fun i hi => ?_⟩
    have := h.cells (g := g) rfl i (.int .i64 (xs[i]?.getD 0)) (by simp [hi])
    have hadd : (⟨g, 0, none⟩ : Addr).add i = ⟨g, i, none⟩ := by unfold Addr.add; split <;> simp_all
    rw [hadd] at this
    simpa using this

structure Book (w0 : World) (w : World) (A : List (Option Addr × List Int)) (bs : List (Nat × Obj)) (L : List Bk) : Prop where
  from0 : Below w0.heap.size w0 w
  args : ∀ q ∈ A, SlI w w0.heap.size q.1 q.2
  blocks : ∀ b ∈ bs, w.heap[b.1]? = some b.2
  rows : ∀ p ∈ L, OwnB w p

section
variable {w0 w w' : World} {A : List (Option Addr × List Int)} {bs : List (Nat × Obj)} {L : List Bk}

theorem Book.ge (h : Book w0 w A bs L) : w0.heap.size ≤ w.heap.size := h.from0.size

theorem Book.below (h : Book w0 w A bs L) (hb : Below w.heap.size w w') : Book w0 w' A bs L where
  from0 := h.from0.trans (hb.mono h.ge)
  args := fun q hq => (h.args q hq).below (hb.mono h.ge)
  blocks := fun b hbm => (hb.block b.1 (Array.getElem?_eq_some_iff.1 (h.blocks b hbm)).1).trans (h.blocks b hbm)
  rows := fun p hp => ⟨ownsRow_below (h.rows p hp).own hb (fun g hg => Nat.lt_of_lt_of_le ((h.rows p hp).lt g hg) (h.rows p hp).le), (h.rows p hp).lt, Nat.le_trans (h.rows p hp).le hb.size⟩

theorem Book.drew (h : Book w0 w A bs L) : Book w0 w.drew A bs L := h.below (Below.refl _ _).drew
theorem Book.drewN (h : Book w0 w A bs L) (n : Nat) : Book w0 (w.drewN n) A bs L := h.below ⟨rfl, rfl, rfl, Nat.le_refl _, fun _ _ => rfl⟩

theorem Book.arg (h : Book w0 w A bs L) {q : Option Addr × List Int} (hq : q ∈ A) : SlI w w.heap.size q.1 q.2 := (h.args q hq).mono h.ge

theorem Book.alloc (h : Book w0 w A bs L) (o : Obj) : Book w0 (w.alloc o) A ((w.heap.size, o) :: bs) L where
  from0 := h.from0.alloc h.ge o
  args := fun q hq => (h.args q hq).below ((Below.refl _ w).alloc h.ge _)
  blocks := fun b hb => by
    rcases List.mem_cons.1 hb with rfl | hb
    · exact heap_alloc_new w o
    · exact (Below.heap_alloc w o _ (Array.getElem?_eq_some_iff.1 (h.blocks b hb)).1).trans (h.blocks b hb)
  rows := fun p hp => ⟨(h.rows p hp).own.alloc o, (h.rows p hp).lt, by have := (h.rows p hp).le; simp; omega⟩

/-- A new row, out of a call. -/
theorem Book.row (h : Book w0 w A bs L) {ty : TypeId} {sz n : Nat} {v : Value} {xs : List Int}
    (hown : w'.ownsRow w.heap.size ty sz v n (xs.map (Value.int .i64))) (hb : Below w.heap.size w w') : Book w0 w' A bs (⟨w.heap.size, w'.heap.size, ty, sz, n, v, xs⟩ :: L) :=
  { h.below hb with
    rows := fun p hp => by
      rcases List.mem_cons.1 hp with rfl | hp
      · exact ⟨hown, fun g hg => (hown.lt g hg).2, Nat.le_refl _⟩
      · exact (h.below hb).rows p hp }

/-- A row is marked: the others stay. -/
theorem Book.mark {L' : List Bk} (h : Book w0 w A bs L) {p : Bk} {ys : List Int} (hp : p ∈ L)
    (hown : w'.ownsRow p.lo p.ty p.sz p.v p.n (ys.map (Value.int .i64))) (hg : w.grownBy w' p.v.ownBlock)
    (hB : w0.heap.size ≤ p.lo) (hbs : ∀ b ∈ bs, b.1 < p.lo ∨ p.hi ≤ b.1) (hL : ∀ q ∈ L', q = { p with xs := ys } ∨ (q ∈ L ∧ (q.hi ≤ p.lo ∨ p.hi ≤ q.lo))) : Book w0 w' A bs L' where
  from0 := h.from0.grown hg h.ge (fun k e => Nat.le_trans hB ((h.rows p hp).own.lt k e).1)
  args := fun q hq => (h.args q hq).below ((Below.refl _ w).grown hg h.ge (fun k e => Nat.le_trans hB ((h.rows p hp).own.lt k e).1))
  blocks := fun b hb => (hg.block b.1 (Array.getElem?_eq_some_iff.1 (h.blocks b hb)).1 (fun e => by
    have h1 := ((h.rows p hp).own.lt _ e.symm).1
    have h2 := (h.rows p hp).lt _ e.symm
    rcases hbs b hb with h3 | h3 <;> omega)).trans (h.blocks b hb)
  rows := fun q hq => by
    rcases hL q hq with rfl | ⟨hqm, hap⟩
    · exact ⟨hown, (h.rows p hp).lt, Nat.le_trans (h.rows p hp).le hg.size⟩
    · refine ⟨(h.rows q hqm).own.kept hg ?_, (h.rows q hqm).lt, Nat.le_trans (h.rows q hqm).le hg.size⟩
      cases hv : q.v.ownBlock with
      | none => exact .inl rfl
      | some g =>
        refine .inr (fun e => ?_)
        have h1 := ((h.rows p hp).own.lt _ e.symm).1
        have h2 := (h.rows p hp).lt _ e.symm
        have h3 := ((h.rows q hqm).own.lt _ hv).1
        have h4 := (h.rows q hqm).lt _ hv
        rcases hap with h5 | h5 <;> omega

/-- Some of it. -/
theorem Book.only {bs' : List (Nat × Obj)} {L' : List Bk} (h : Book w0 w A bs L) (hb : ∀ b ∈ bs', b ∈ bs) (hL : ∀ p ∈ L', p ∈ L) : Book w0 w A bs' L' :=
  ⟨h.from0, h.args, fun b hbm => h.blocks b (hb b hbm), fun p hp => h.rows p (hL p hp)⟩

/-- A block of another type is written. -/
theorem Book.set2 {b t : Nat} {x y u v : Value} (h : Book w0 w A ((b, .cells #[x, y] t (0, 0)) :: bs) L) (hw : w0.heap.size ≤ b) (hb : ∀ q ∈ bs, q.1 ≠ b) (hty : ∀ p ∈ L, p.ty ≠ t) :
    Book w0 ((w.setCell ⟨b, 0, none⟩ u).setCell ⟨b, 1, none⟩ v) A ((b, .cells #[u, v] t (0, 0)) :: bs) L where
  from0 := (h.from0.setCell (p := ⟨b, 0, none⟩) hw _).setCell (p := ⟨b, 1, none⟩) hw _
  args := fun q hq => (h.args q hq).below (((Below.refl _ w).setCell (p := ⟨b, 0, none⟩) hw _).setCell (p := ⟨b, 1, none⟩) hw _)
  blocks := fun q hq => by
    rcases List.mem_cons.1 hq with rfl | hq
    · have hbk := h.blocks _ (List.mem_cons_self ..)
      simp only at hbk
      simp only [World.setCell, Array.getElem?_modify, hbk]
      simp
    · exact (Below.heap_setCell _ _ _ _ (hb q hq)).trans ((Below.heap_setCell _ _ _ _ (hb q hq)).trans (h.blocks q (List.mem_cons_of_mem _ hq)))
  rows := fun p hp => by
    have hbk := h.blocks _ (List.mem_cons_self ..)
    have hn : p.v.ownBlock ≠ some b := by
      intro e
      have ho := (h.rows p hp).own
      rcases ho.2 with ⟨hv, _⟩ | ⟨g, cap, cur, hv, _, hg, _⟩
      · rw [hv] at e; simp [Value.ownBlock] at e
      · rw [hv] at e
        simp [Value.ownBlock] at e
        subst e
        rw [hg] at hbk
        simp at hbk
        exact hty p hp hbk.2
    exact ⟨ownsRow_set (ownsRow_set (h.rows p hp).own hn _) hn _, (h.rows p hp).lt, by have := (h.rows p hp).le; simpa [World.setCell] using this⟩

theorem Book.slI (h : Book w0 w A bs L) {lo hi : Nat} {ty : TypeId} {sz n : Nat} {a : Option Addr} {m cap : Nat} {xs : List Int} (hp : (⟨lo, hi, ty, sz, n, .slice a m cap, xs⟩ : Bk) ∈ L) : SlI w w.heap.size a xs :=
  flat_slI (h.rows _ hp).own

theorem Book.own (h : Book w0 w A bs L) {lo hi : Nat} {ty : TypeId} {sz n : Nat} {v : Value} {xs : List Int} (hp : (⟨lo, hi, ty, sz, n, v, xs⟩ : Bk) ∈ L) : w.ownsRow lo ty sz v n (xs.map (Value.int .i64)) := (h.rows _ hp).own

theorem Book.two (h : Book w0 w A bs L) {b t : Nat} {u v : Value} (hb : (b, Obj.cells #[u, v] t (0, 0)) ∈ bs) : w.cell? ⟨b, 0, none⟩ = some u ∧ w.cell? ⟨b, 1, none⟩ = some v := by
  have := h.blocks _ hb
  constructor <;> simp [World.cell?, this]

end

end Go.Proofs.Ytplcbiconfpmlaa

/-! Results of several parts: rows in intervals of blocks that do not meet. -/
namespace Go.Proofs.Ytplcbiconfpmlaa
open Go.RowKit

/-- A result: a slice of pairs in new memory. -/
def ResP (w w' : World) (v : Value) (L : List (Int × Int)) : Prop := w'.ownsRow w.heap.size 49 2 v L.length ((flatP L).map (Value.int .i64)) ∧ Below w.heap.size w w'

theorem ResP.later {w0 w w' : World} {v : Value} {L : List (Int × Int)} (h : ResP w w' v L) (h0 : Below w0.heap.size w0 w) : ResP w0 w' v L :=
  ⟨ownsRow_base h.1 h0.size, h0.trans (h.2.mono h0.size)⟩
theorem resP_nil (w w' : World) (h : Below w.heap.size w w') : ResP w w' (.slice none 0 0) [] := ⟨World.ownsRow_nil _ _ _ _, h⟩

structure PartB (w w' : World) (p : Bk) : Prop where
  own : w'.ownsRow p.lo p.ty p.sz p.v p.n (p.xs.map (Value.int .i64))
  lt : ∀ g, p.v.ownBlock = some g → g < p.hi
  le : p.hi ≤ w'.heap.size
  ge : w.heap.size ≤ p.lo

theorem part_ints {w w' : World} {v : Value} {xs : List Int} (h : Res w w' v xs) : PartB w w' ⟨w.heap.size, w'.heap.size, 2, 1, xs.length, v, xs⟩ :=
  ⟨h.1, fun g hg => (h.1.lt g hg).2, Nat.le_refl _, Nat.le_refl _⟩
theorem part_pairs {w w' : World} {v : Value} {L : List (Int × Int)} (h : ResP w w' v L) : PartB w w' ⟨w.heap.size, w'.heap.size, 49, 2, L.length, v, flatP L⟩ :=
  ⟨h.1, fun g hg => (h.1.lt g hg).2, Nat.le_refl _, Nat.le_refl _⟩

/-- Two rows in blocks of their own. -/
def Apart (v q : Value) : Prop := ∀ g, v.ownBlock = some g → q.ownBlock ≠ some g

theorem apart_ty {w : World} {b1 e1 s1 n1 b2 e2 s2 n2 : Nat} {v q : Value} {xs ys : List Value} (h1 : w.ownsRow b1 e1 s1 v n1 xs) (h2 : w.ownsRow b2 e2 s2 q n2 ys) (hne : e1 ≠ e2) : Apart v q := by
  intro g hv hq
  rcases h1.2 with ⟨rfl, _⟩ | ⟨g1, _, _, rfl, _, hg1, _⟩
  · simp [Value.ownBlock] at hv
  rcases h2.2 with ⟨rfl, _⟩ | ⟨g2, _, _, rfl, _, hg2, _⟩
  · simp [Value.ownBlock] at hq
  simp [Value.ownBlock] at hv hq
  subst hv hq
  rw [hg1] at hg2
  simp at hg2
  exact hne hg2.2

theorem row_at {w : World} {b e s n : Nat} {v : Value} {xs : List Value} (h : w.ownsRow b e s v n xs) : (v.ownBlock = none ∧ ∀ b', w.ownsRow b' e s v n xs) ∨ ∃ g, v.ownBlock = some g ∧ b ≤ g ∧ g < w.heap.size ∧ w.ownsRow g e s v n xs := by
  rcases h.2 with ⟨rfl, hn⟩ | ⟨g, cp, cur, rfl, hb, hg, rest⟩
  · exact .inl ⟨rfl, fun b' => ⟨h.1, .inl ⟨rfl, hn⟩⟩⟩
  · exact .inr ⟨g, rfl, hb, (Array.getElem?_eq_some_iff.1 hg).1, h.1, .inr ⟨g, cp, cur, rfl, Nat.le_refl _, hg, rest⟩⟩

theorem two_parts {w w' : World} {e1 s1 n1 e2 s2 n2 : Nat} {v q : Value} {xs ys : List Int} (h1 : w'.ownsRow w.heap.size e1 s1 v n1 (xs.map (Value.int .i64))) (h2 : w'.ownsRow w.heap.size e2 s2 q n2 (ys.map (Value.int .i64))) (ha : Apart v q) (hB : Below w.heap.size w w') :
    ∃ l1 r1 l2 r2, PartB w w' ⟨l1, r1, e1, s1, n1, v, xs⟩ ∧ PartB w w' ⟨l2, r2, e2, s2, n2, q, ys⟩ ∧ (r1 ≤ l2 ∨ r2 ≤ l1) := by
  have hs := hB.size
  rcases row_at h1 with ⟨hv, h1'⟩ | ⟨g1, hv, hb1, hl1, h1'⟩
  · rcases row_at h2 with ⟨hq, h2'⟩ | ⟨g2, hq, hb2, hl2, h2'⟩
    · exact ⟨_, _, _, _, ⟨h1' w.heap.size, fun g hg => (by simp only at hg; rw [hv] at hg; cases hg), hs, Nat.le_refl _⟩, ⟨h2' w.heap.size, fun g hg => (by simp only at hg; rw [hq] at hg; cases hg), hs, Nat.le_refl _⟩, .inl (Nat.le_refl _)⟩
    · exact ⟨_, w.heap.size, _, g2 + 1, ⟨h1' w.heap.size, fun g hg => (by simp only at hg; rw [hv] at hg; cases hg), hs, Nat.le_refl _⟩, ⟨h2', fun g hg => (by simp only at hg; rw [hq] at hg; cases hg; simp only; omega), hl2, hb2⟩, .inl hb2⟩
  · rcases row_at h2 with ⟨hq, h2'⟩ | ⟨g2, hq, hb2, hl2, h2'⟩
    · exact ⟨_, g1 + 1, _, w.heap.size, ⟨h1', fun g hg => (by simp only at hg; rw [hv] at hg; cases hg; simp only; omega), hl1, hb1⟩, ⟨h2' w.heap.size, fun g hg => (by simp only at hg; rw [hq] at hg; cases hg), hs, Nat.le_refl _⟩, .inr hb1⟩
    · have hne : g1 ≠ g2 := fun e => ha g1 hv (by rw [hq, e])
      exact ⟨_, g1 + 1, _, g2 + 1, ⟨h1', fun g hg => (by simp only at hg; rw [hv] at hg; cases hg; simp only; omega), hl1, hb1⟩, ⟨h2', fun g hg => (by simp only at hg; rw [hq] at hg; cases hg; simp only; omega), hl2, hb2⟩, (by omega)⟩

theorem pairs_form {w : World} {base e n : Nat} {v : Value} {L : List (Int × Int)} (h : w.ownsRow base e 2 v n ((flatP L).map (Value.int .i64))) : n = L.length ∧ ∃ a cap, v = .slice a L.length cap ∧ True := by
  have hl := h.1
  simp [flatP_len] at hl
  have hn : n = L.length := by omega
  rcases h.2 with ⟨rfl, hn0⟩ | ⟨g, cap, cur, rfl, _⟩
  · refine ⟨hn, none, 0, ?_, trivial⟩
    rw [show L.length = 0 by omega]
  · exact ⟨hn, _, cap, by rw [hn], trivial⟩

theorem Book.add {w0 w w' : World} {A : List (Option Addr × List Int)} {bs : List (Nat × Obj)} {L : List Bk} {p : Bk} (h : Book w0 w' A bs L) (hp : PartB w w' p) : Book w0 w' A bs (p :: L) :=
  ⟨h.from0, h.args, h.blocks, fun q hq => by
    rcases List.mem_cons.1 hq with rfl | hq
    · exact ⟨hp.own, hp.lt, hp.le⟩
    · exact h.rows q hq⟩

end Go.Proofs.Ytplcbiconfpmlaa

/-! settledPairs: what it keeps of the world, and what a pass does. -/
namespace Go.Proofs.Ytplcbiconfpmlaa
open Go.RowKit Go.Shelf

attribute [local go_sem] Oper.semAt_some

def pairAt (ps : List Int) (i : Nat) : Int × Int := (at0 ps (i * 2), at0 ps (i * 2 + 1))
def setP (ps : List Int) (L : List Nat) : List (Int × Int) := L.map (pairAt ps)
theorem setP_snoc (ps : List Int) (L : List Nat) (i : Nat) : setP ps (L ++ [i]) = setP ps L ++ [pairAt ps i] := by simp [setP]
theorem setP_len (ps : List Int) (L : List Nat) : (setP ps L).length = L.length := by simp [setP]

/-- What has settled. -/
structure Stl (ps : List Int) (n : Nat) (L : List Nat) : Prop where
  ord : Ordered ps n L
  nodup : L.Nodup
  lt : ∀ i ∈ L, i < n
theorem nodup_le : ∀ (n : Nat) (L : List Nat), L.Nodup → (∀ i ∈ L, i < n) → L.length ≤ n
  | 0, L, _, hl => by
    cases L with
    | nil => simp
    | cons x L => exact absurd (hl x (by simp)) (Nat.not_lt_zero _)
  | n + 1, L, hn, hl => by
    have ih := nodup_le n (L.erase n) (hn.erase n) (fun i hi => by
      have h1 := hl i (List.mem_of_mem_erase hi)
      have h2 : i ≠ n := (hn.mem_erase_iff.1 hi).1
      omega)
    have h := @List.length_erase _ _ _ n L
    split at h <;> omega
theorem Stl.len {ps : List Int} {n : Nat} {L : List Nat} (h : Stl ps n L) : L.length ≤ n := nodup_le n L h.nodup h.lt
/-- The first k pairs have settled, or a step leads to one that has not. -/
def SatTo (ps : List Int) (n k : Nat) (L : List Nat) : Prop := ∀ i, i < k → i ∉ L → ∃ j, j < n ∧ StepP ps n i j ∧ j ∉ L
theorem SatTo.zero (ps : List Int) (n : Nat) (L : List Nat) : SatTo ps n 0 L := fun _ hi => absurd hi (Nat.not_lt_zero _)
theorem SatTo.skip {ps : List Int} {n k : Nat} {L : List Nat} (h : SatTo ps n k L) (hk : k ∈ L ∨ ∃ j, j < n ∧ StepP ps n k j ∧ j ∉ L) : SatTo ps n (k + 1) L := by
  intro i hi hn
  by_cases e : i = k
  · subst e
    exact hk.resolve_left hn
  · exact h i (by omega) hn
theorem Stl.snoc {ps : List Int} {n : Nat} {L : List Nat} (h : Stl ps n L) {i : Nat} (hi : i < n) (hL : i ∉ L) (hs : ∀ j, j < n → StepP ps n i j → j ∈ L) : Stl ps n (L ++ [i]) :=
  ⟨h.ord.snoc hs, by
    rw [List.nodup_append]
    exact ⟨h.nodup, by simp, fun a ha b hb => by simp at hb; subst hb; exact fun e => hL (e ▸ ha)⟩, fun j hj => by
    rcases List.mem_append.1 hj with h1 | h1
    · exact h.lt j h1
    · simp at h1; omega⟩
theorem Stl.nil (ps : List Int) (n : Nat) : Stl ps n [] := ⟨Ordered.nil ps n, by simp, by simp⟩

theorem lows_inj {ps : List Int} {n : Nat} (hd : LowsApart ps n) {i j : Nat} (hi : i < n) (hj : j < n) (h : at0 ps (i * 2) = at0 ps (j * 2)) : i = j := by
  rcases Nat.lt_trichotomy i j with h1 | h1 | h1
  · exact absurd h (hd i j h1 hj)
  · exact h1
  · exact absurd h.symm (hd j i h1 hi)
theorem mem_setP {ps : List Int} {n : Nat} (hd : LowsApart ps n) {L : List Nat} (hL : ∀ i ∈ L, i < n) {i : Nat} (hi : i < n) : pairAt ps i ∈ setP ps L ↔ i ∈ L := by
  unfold setP
  constructor
  · intro h
    obtain ⟨j, hj, e⟩ := List.mem_map.1 h
    have := lows_inj hd (hL j hj) hi (congrArg Prod.fst e)
    exact this ▸ hj
  · exact fun h => List.mem_map.2 ⟨i, h, rfl⟩
theorem wf_pairAt {ps : List Int} {n : Nat} (hp : ps.length = 2 * n) (hw : ∀ x ∈ ps, (Lit.int .i64 x).wf = true) {i : Nat} (hi : i < n) : wfP (pairAt ps i) :=
  ⟨hw _ (getD_mem (by omega)), hw _ (getD_mem (by omega))⟩
theorem wf_setP {ps : List Int} {n : Nat} (hp : ps.length = 2 * n) (hw : ∀ x ∈ ps, (Lit.int .i64 x).wf = true) {L : List Nat} (hL : ∀ i ∈ L, i < n) : ∀ q ∈ setP ps L, wfP q := by
  intro q hq
  obtain ⟨j, hj, rfl⟩ := List.mem_map.1 hq
  exact wf_pairAt hp hw (hL j hj)

/-- 'own, ok := lows[a]', told by the pairs. -/
theorem lows_look2 {w : World} {b N n : Nat} {ps : List Int} {a : Int} (hown : w.ownsMap Try.prog 2 pairElem b N (lowsD ps n)) (hd : LowsApart ps n) (ha : (Lit.int .i64 a).wf = true) :
    (∃ i, i < n ∧ at0 ps (i * 2) = a ∧ (Instr.lookup 139 (.map (some b)) (.int .i64 a) true).run Try.prog w = .ok (.tuple #[.agg #[.int .i64 a, .int .i64 (at0 ps (i * 2 + 1))], .bool true]) w) ∨
    ((∀ i, i < n → at0 ps (i * 2) ≠ a) ∧ (Instr.lookup 139 (.map (some b)) (.int .i64 a) true).run Try.prog w = .ok (.tuple #[.agg #[.int .i64 0, .int .i64 0], .bool false]) w) := by
  obtain ⟨v, qs, hrun, hv⟩ := hown.look_ok (Maps.int_keyed Try.underlying2) Try.underlying139 (zero_pair w) (pairElem_mk 0 0) (Maps.keyOf_int_mk Try.underlying2 ha)
  by_cases hex : ∃ i, i < n ∧ at0 ps (i * 2) = a
  · obtain ⟨i, hi, hia⟩ := hex
    obtain ⟨h1, h2⟩ := lows_hit n i hd hi hia
    rw [h1] at hv
    rw [h2, pairElem_inv hv] at hrun
    exact .inl ⟨i, hi, hia, hrun⟩
  · obtain ⟨h1, h2⟩ := lows_miss n (fun i hi e => hex ⟨i, hi, e⟩)
    rw [h1] at hv
    rw [h2, pairElem_inv hv] at hrun
    exact .inr ⟨fun i hi e => hex ⟨i, hi, e⟩, hrun⟩

/-- What the walk keeps of the world: M the map of the low faces, B its box. -/
structure SetW (w W : World) (M B n : Nat) (ps : List Int) (L : List Nat) (v : Value) (Ds : List Nat) : Prop where
  below : Below w.heap.size w W
  lo : w.heap.size ≤ M
  mb : M < B
  lows : W.ownsMap Try.prog 2 pairElem M n (lowsD ps n)
  b3 : W.heap[B]? = some (.cells #[.map (some M)] 139 (0, 0))
  own : MapP W (B + 1) L.length (setP ps L)
  b4 : W.heap[B + 2]? = some (.cells #[.map (some (B + 1))] 82 (0, 0))
  row : W.ownsRow (B + 3) 49 2 v (setP ps L).length ((flatP (setP ps L)).map (Value.int .i64))
  off : ∀ D ∈ Ds, v.ownBlock ≠ some D
  nodup : Ds.Nodup
  marks : ∀ D ∈ Ds, B + 3 ≤ D ∧ W.heap[D]? = some (.deferred (some []))
theorem SetW.size {w W : World} {M B n : Nat} {ps : List Int} {L : List Nat} {v : Value} {Ds : List Nat} (h : SetW w W M B n ps L v Ds) : B + 3 ≤ W.heap.size := by
  have := lt_of_get h.b4; omega
/-- A turn of what lies beyond. -/
theorem SetW.turn {w W W' : World} {M B n : Nat} {ps : List Int} {L : List Nat} {v : Value} {Ds : List Nat} (h : SetW w W M B n ps L v Ds) {row : Option Nat} (hg : W.grownBy W' row) (hr : ∀ r, row = some r → B + 3 ≤ r ∧ r ∉ Ds ∧ v.ownBlock ≠ some r) : SetW w W' M B n ps L v Ds where
  below := h.below.grown hg (by have := h.size; have := h.lo; have := h.mb; omega) (fun k e => by have := (hr k e).1; have := h.lo; have := h.mb; omega)
  lo := h.lo
  mb := h.mb
  lows := h.lows.kept hg (fun e => by have := (hr _ e.symm).1; have := h.mb; omega)
  b3 := (hg.block _ (lt_of_get h.b3) (fun e => by have := (hr _ e.symm).1; omega)).trans h.b3
  own := World.ownsMap.kept h.own hg (fun e => by have := (hr _ e.symm).1; omega)
  b4 := (hg.block _ (lt_of_get h.b4) (fun e => by have := (hr _ e.symm).1; omega)).trans h.b4
  row := by
    cases hv : v.ownBlock with
    | none => exact h.row.kept hg (.inl hv)
    | some g => exact h.row.kept hg (.inr (fun e => by rw [hv] at e; exact (hr g e.symm).2.2 hv))
  off := h.off
  nodup := h.nodup
  marks := fun D hD => ⟨(h.marks D hD).1, (hg.block _ (lt_of_get (h.marks D hD).2) (fun e => (hr _ e.symm).2.1 hD)).trans (h.marks D hD).2⟩
theorem SetW.alloc {w W : World} {M B n : Nat} {ps : List Int} {L : List Nat} {v : Value} {Ds : List Nat} (h : SetW w W M B n ps L v Ds) (o : Obj) : SetW w (W.alloc o) M B n ps L v Ds := h.turn (World.grownBy_alloc W o none) (fun r e => by cases e)
theorem SetW.mark {w W : World} {M B n : Nat} {ps : List Int} {L : List Nat} {v : Value} {Ds : List Nat} (h : SetW w W M B n ps L v Ds) {D : Nat} (hD : W.heap[D]? = some (.deferred (some []))) (hb : B + 3 ≤ D) (hn : D ∉ Ds) (hv : v.ownBlock ≠ some D) : SetW w W M B n ps L v (D :: Ds) :=
  { h with
    off := fun E hE => by
      rcases List.mem_cons.1 hE with rfl | hE
      · exact hv
      · exact h.off E hE
    nodup := List.nodup_cons.2 ⟨hn, h.nodup⟩
    marks := fun E hE => by
      rcases List.mem_cons.1 hE with rfl | hE
      · exact ⟨hb, hD⟩
      · exact h.marks E hE }
/-- Within a range: everything of the walk lies ahead of its blocks. -/
theorem set_ownIn {β : Type} {w : World} {M B n : Nat} {ps : List Int} {L : List Nat} {v : Value} {Ds : List Nat} {lo k : Nat} (hlo : B + 3 ≤ lo) (hD : ∀ D ∈ Ds, D < lo) (hv : ∀ g, v.ownBlock = some g → g < lo) :
    OwnIn lo k (fun (_ : β) W' => SetW w W' M B n ps L v Ds) := by
  intro s A C row h hg hr
  refine h.turn hg (fun r e => ?_)
  obtain ⟨h1, _⟩ := hr r e
  exact ⟨by omega, fun hm => by have := hD r hm; omega, fun ev => by have := hv r ev; omega⟩
/-- A pair settles: the map has it. -/
theorem SetW.put {w W W' : World} {M B n : Nat} {ps : List Int} {L : List Nat} {v : Value} {Ds : List Nat} (h : SetW w W M B n ps L v Ds) {i : Nat} (hown : W'.ownsMap Try.prog 49 (plainElem (H := Unit) Try.prog 4) (B + 1) (L.length + 1) ((pknD (setP ps L)).put (keyP (pairAt ps i)) (.lit (.bool true)))) (hg : W.grownBy W' (some (B + 1)))
    {W2 : World} {v2 : Value} (hrow : W2.ownsRow (B + 3) 49 2 v2 (setP ps L ++ [pairAt ps i]).length ((flatP (setP ps L ++ [pairAt ps i])).map (Value.int .i64))) (hg2 : W'.grownBy W2 v.ownBlock) (hat : v2.ownBlock = v.ownBlock ∨ ∃ k, v2.ownBlock = some k ∧ W'.heap.size ≤ k) : SetW w W2 M B n ps (L ++ [i]) v2 Ds := by
  have hvlo : ∀ g, v.ownBlock = some g → B + 3 ≤ g ∧ g < W.heap.size := h.row.lt
  have hsz := h.size
  have hlo := h.lo
  have hmb := h.mb
  have t1 : ∀ j, j < W.heap.size → j ≠ B + 1 → v.ownBlock ≠ some j → W2.heap[j]? = W.heap[j]? := fun j hj h1 h2 =>
    (hg2.block j (Nat.lt_of_lt_of_le hj hg.size) (fun e => h2 e.symm)).trans (hg.block j hj (fun e => h1 (by injection e)))
  have ne3 : ∀ j, j < B + 3 → v.ownBlock ≠ some j := fun j hj e => by have := (hvlo j e).1; omega
  refine { below := ?_, lo := h.lo, mb := h.mb, lows := ?_, b3 := (t1 B (by omega) (by omega) (ne3 _ (by omega))).trans h.b3, own := ?_, b4 := (t1 (B + 2) (by omega) (by omega) (ne3 _ (by omega))).trans h.b4, row := by rw [setP_snoc]; exact hrow, off := fun D hD e => ?_, nodup := h.nodup, marks := fun D hD => ⟨(h.marks D hD).1, (t1 D (lt_of_get (h.marks D hD).2) (by have := (h.marks D hD).1; omega) (h.off D hD)).trans (h.marks D hD).2⟩ }
  · have hb1 := h.below.grown hg (by omega) (fun k e => by cases e; omega)
    exact hb1.grown hg2 (by have := hb1.size; omega) (fun k e => by have := (hvlo k e).1; omega)
  · have h1 := h.lows.kept hg (fun e => by injection e; omega)
    exact h1.kept hg2 (fun e => by have := (hvlo M e.symm).1; omega)
  · have h1 : W'.ownsMap Try.prog 49 (plainElem (H := Unit) Try.prog 4) (B + 1) (L ++ [i]).length (pknD (setP ps (L ++ [i]))) := by
      rw [setP_snoc, pknD_snoc]
      simpa using hown
    exact World.ownsMap.kept h1 hg2 (fun e => by have := (hvlo _ e.symm).1; omega)
  · rcases hat with h1 | ⟨k, h1, h2⟩
    · exact h.off D hD (h1.symm.trans e)
    · rw [h1] at e
      injection e with e
      have := lt_of_get (h.marks D hD).2
      have := hg.size
      omega

/-- At the end. -/
theorem SetW.leaves {w W w' : World} {M B n : Nat} {ps : List Int} {L : List Nat} {v : Value} {Ds : List Nat} (h : SetW w W M B n ps L v Ds) (hw' : Shut Ds W w') : ResP w w' v (setP ps L) := by
  have h1 := h.lo
  have h2 := h.mb
  refine ⟨?_, h.below.trans (hw'.below (fun D hD => by have := (h.marks D hD).1; omega))⟩
  have hr := ownsRow_base h.row (show w.heap.size ≤ B + 3 by omega)
  refine ⟨hr.1, ?_⟩
  rcases hr.2 with hn | ⟨g, cap, cur, hv, hb, hg, rest⟩
  · exact .inl hn
  · exact .inr ⟨g, cap, cur, hv, hb, (hw'.block g (fun hm => h.off g hm (by rw [hv]; rfl))).trans hg, rest⟩

/-- 'order = append(order, pair)', at the operation. -/
theorem append_pairIn {F : Fence} {nF : Nat} {w : World} {ops : Array Oper} {rest : List Oper} {o : Oper} {a : Act} {Q : Exit → Act → World → Prop} (hgd : o.guard = none) {s y : Operand}
    (ho : o.op = .call { callee := .builtin .append, args := #[s, y], argTypes := #[40, 40] })
    {base : Nat} {v : Value} {L : List (Int × Int)} {x x' : Int} (hown : w.ownsRow base 49 2 v L.length ((flatP L).map (Value.int .i64))) (hbase : base ≤ w.heap.size) (hl : L.length ≤ 1099511627776)
    (hs : a.eval s = v) (hy : a.eval y = .slice (some ⟨w.heap.size, 0, none⟩) 1 1)
    (hK : ∀ v' w', w'.ownsRow base 49 2 v' (L ++ [(x, x')]).length ((flatP (L ++ [(x, x')])).map (Value.int .i64)) → w.grownBy w' v.ownBlock → (v'.ownBlock = v.ownBlock ∨ ∃ k, v'.ownBlock = some k ∧ w.heap.size ≤ k) → wpListIn F nF Try.prog ops Q rest (a.put o.dst v') w') :
    wpListIn F nF Try.prog ops Q (o :: rest) a (w.alloc (.cells #[.int .i64 x, .int .i64 x'] 49)) := by
  obtain ⟨i0, hi, hz0, hz1, hz2⟩ := info_parts info_pair
  refine wpListIn_append_own_at _ hgd s y 40 ho base 49 i0 (.agg #[.int .i64 0, .int .i64 0]) 2 16 Try.underlying40 hi hz0 hz1 hz2 rfl (by decide) v _ _ hs (hown.alloc _) ⟨w.heap.size, 0, none⟩ 1 1 [.int .i64 x, .int .i64 x'] hy rfl ?_ (by simp [Value.oneCell']) (by unfold maxLen; omega) (by omega) (by simp; omega) ?_
  · intro j u hj
    match j, hj with
    | 0, hj => simp at hj; subst hj; simp [go_sem, Addr.add]
    | 1, hj => simp at hj; subst hj; simp [go_sem, Addr.add]
    | j + 2, hj => simp at hj
  · intro v' w1 hown1 hgrow1 _ hat
    refine hK v' w1 (by rw [flatP_snoc]; simpa using hown1) ((World.grownBy_alloc w _ _).trans hgrow1) ?_
    rcases hat with h | h
    · exact .inl h
    · exact .inr ⟨_, h, by simp⟩

end Go.Proofs.Ytplcbiconfpmlaa

/-! settledPairs, walked. -/
namespace Go.Proofs.Ytplcbiconfpmlaa
open Go.RowKit Go.Shelf

attribute [local go_sem] Oper.semAt_some

/-- Ahead of a pass. -/
def StOut (w : World) (M B n cap1 : Nat) (a1 : Option Addr) (ps : List Int) (a' : Act) (W : World) : Prop :=
  ∃ (L : List Nat) (av : Option Addr) (cp : Nat) (b : Int) (Ds : List Nat) (us : Nat → Value), a' = { tmps := List.toArray ((.slice a1 n cap1) :: us 1 :: (.slice none 0 0) :: (.pointer (some ⟨B, 0, none⟩)) :: (.pointer (some ⟨B + 1 + 1, 0, none⟩)) :: (.slice av L.length cp) :: (.int .i64 b) :: us 7 :: us 8 :: us 9 :: us 10 :: us 11 :: (.slice a1 n cap1) :: (.map (some M)) :: (.map (some (B + 1))) :: us 15 :: us 16 :: us 17 :: us 18 :: us 19 :: us 20 :: us 21 :: us 22 :: us 23 :: us 24 :: us 25 :: us 26 :: us 27 :: us 28 :: us 29 :: us 30 :: us 31 :: us 32 :: us 33 :: us 34 :: us 35 :: us 36 :: us 37 :: us 38 :: us 39 :: us 40 :: us 41 :: us 42 :: us 43 :: us 44 :: us 45 :: us 46 :: us 47 :: us 48 :: us 49 :: us 50 :: us 51 :: us 52 :: us 53 :: us 54 :: us 55 :: []), defers := marks Ds } ∧
    Hid (SetW w W M B n ps L (.slice av L.length cp) Ds) ∧ Hid (Stl ps n L) ∧ -1 ≤ b ∧ b ≤ (L.length : Int) ∧ Hid (b = (L.length : Int) → SatTo ps n n L)
theorem stOut_of {w W : World} {M B n cap1 : Nat} {a1 : Option Addr} {ps : List Int} {L : List Nat} {av : Option Addr} {cp : Nat} {b : Int} {Ds : List Nat} (tm : Array Value) (ds : List Deferred) (hds : ds = marks Ds)
    (h : tm = List.toArray ((.slice a1 n cap1) :: tm.getD 1 undef :: (.slice none 0 0) :: (.pointer (some ⟨B, 0, none⟩)) :: (.pointer (some ⟨B + 1 + 1, 0, none⟩)) :: (.slice av L.length cp) :: (.int .i64 b) :: tm.getD 7 undef :: tm.getD 8 undef :: tm.getD 9 undef :: tm.getD 10 undef :: tm.getD 11 undef :: (.slice a1 n cap1) :: (.map (some M)) :: (.map (some (B + 1))) :: tm.getD 15 undef :: tm.getD 16 undef :: tm.getD 17 undef :: tm.getD 18 undef :: tm.getD 19 undef :: tm.getD 20 undef :: tm.getD 21 undef :: tm.getD 22 undef :: tm.getD 23 undef :: tm.getD 24 undef :: tm.getD 25 undef :: tm.getD 26 undef :: tm.getD 27 undef :: tm.getD 28 undef :: tm.getD 29 undef :: tm.getD 30 undef :: tm.getD 31 undef :: tm.getD 32 undef :: tm.getD 33 undef :: tm.getD 34 undef :: tm.getD 35 undef :: tm.getD 36 undef :: tm.getD 37 undef :: tm.getD 38 undef :: tm.getD 39 undef :: tm.getD 40 undef :: tm.getD 41 undef :: tm.getD 42 undef :: tm.getD 43 undef :: tm.getD 44 undef :: tm.getD 45 undef :: tm.getD 46 undef :: tm.getD 47 undef :: tm.getD 48 undef :: tm.getD 49 undef :: tm.getD 50 undef :: tm.getD 51 undef :: tm.getD 52 undef :: tm.getD 53 undef :: tm.getD 54 undef :: tm.getD 55 undef :: [])) (HW : Hid (SetW w W M B n ps L (.slice av L.length cp) Ds)) (HS : Hid (Stl ps n L)) (h1 : -1 ≤ b) (h2 : b ≤ (L.length : Int)) (h3 : Hid (b = (L.length : Int) → SatTo ps n n L)) :
    StOut w M B n cap1 a1 ps { tmps := tm, defers := ds } W :=
  ⟨L, av, cp, b, Ds, fun i => tm.getD i undef, by rw [hds]; exact congrArg (fun t => ({ tmps := t, defers := marks Ds } : Act)) h, HW, HS, h1, h2, h3⟩
/-- Within a pass, ahead of pair k. -/
def StIn (w : World) (M B n cap1 : Nat) (a1 : Option Addr) (ps : List Int) (b : Nat) (a' : Act) (W : World) : Prop :=
  ∃ (k : Nat) (L : List Nat) (av : Option Addr) (cp : Nat) (Ds : List Nat) (us : Nat → Value), a' = { tmps := List.toArray ((.slice a1 n cap1) :: us 1 :: (.slice none 0 0) :: (.pointer (some ⟨B, 0, none⟩)) :: (.pointer (some ⟨B + 1 + 1, 0, none⟩)) :: (.slice av L.length cp) :: (.int .i64 (b : Int)) :: us 7 :: us 8 :: us 9 :: us 10 :: us 11 :: (.slice a1 n cap1) :: (.map (some M)) :: (.map (some (B + 1))) :: us 15 :: us 16 :: us 17 :: us 18 :: us 19 :: us 20 :: (.slice a1 n cap1) :: (.int .i64 (n : Int)) :: (.int .i64 (k : Int)) :: us 24 :: us 25 :: us 26 :: us 27 :: us 28 :: us 29 :: us 30 :: us 31 :: us 32 :: us 33 :: us 34 :: us 35 :: us 36 :: us 37 :: us 38 :: us 39 :: us 40 :: us 41 :: us 42 :: us 43 :: us 44 :: us 45 :: us 46 :: us 47 :: us 48 :: us 49 :: us 50 :: us 51 :: us 52 :: us 53 :: us 54 :: us 55 :: []), defers := marks Ds } ∧
    Hid (SetW w W M B n ps L (.slice av L.length cp) Ds) ∧ Hid (Stl ps n L) ∧ k ≤ n ∧ b ≤ L.length ∧ Hid (b = L.length → SatTo ps n k L)
theorem stIn_of {w W : World} {M B n cap1 : Nat} {a1 : Option Addr} {ps : List Int} {L : List Nat} {av : Option Addr} {cp b k : Nat} {Ds : List Nat} (tm : Array Value) (ds : List Deferred) (hds : ds = marks Ds)
    (h : tm = List.toArray ((.slice a1 n cap1) :: tm.getD 1 undef :: (.slice none 0 0) :: (.pointer (some ⟨B, 0, none⟩)) :: (.pointer (some ⟨B + 1 + 1, 0, none⟩)) :: (.slice av L.length cp) :: (.int .i64 (b : Int)) :: tm.getD 7 undef :: tm.getD 8 undef :: tm.getD 9 undef :: tm.getD 10 undef :: tm.getD 11 undef :: (.slice a1 n cap1) :: (.map (some M)) :: (.map (some (B + 1))) :: tm.getD 15 undef :: tm.getD 16 undef :: tm.getD 17 undef :: tm.getD 18 undef :: tm.getD 19 undef :: tm.getD 20 undef :: (.slice a1 n cap1) :: (.int .i64 (n : Int)) :: (.int .i64 (k : Int)) :: tm.getD 24 undef :: tm.getD 25 undef :: tm.getD 26 undef :: tm.getD 27 undef :: tm.getD 28 undef :: tm.getD 29 undef :: tm.getD 30 undef :: tm.getD 31 undef :: tm.getD 32 undef :: tm.getD 33 undef :: tm.getD 34 undef :: tm.getD 35 undef :: tm.getD 36 undef :: tm.getD 37 undef :: tm.getD 38 undef :: tm.getD 39 undef :: tm.getD 40 undef :: tm.getD 41 undef :: tm.getD 42 undef :: tm.getD 43 undef :: tm.getD 44 undef :: tm.getD 45 undef :: tm.getD 46 undef :: tm.getD 47 undef :: tm.getD 48 undef :: tm.getD 49 undef :: tm.getD 50 undef :: tm.getD 51 undef :: tm.getD 52 undef :: tm.getD 53 undef :: tm.getD 54 undef :: tm.getD 55 undef :: [])) (HW : Hid (SetW w W M B n ps L (.slice av L.length cp) Ds)) (HS : Hid (Stl ps n L)) (h1 : k ≤ n) (h2 : b ≤ L.length) (h3 : Hid (b = L.length → SatTo ps n k L)) :
    StIn w M B n cap1 a1 ps b { tmps := tm, defers := ds } W :=
  ⟨k, L, av, cp, Ds, fun i => tm.getD i undef, by rw [hds]; exact congrArg (fun t => ({ tmps := t, defers := marks Ds } : Act)) h, HW, HS, h1, h2, h3⟩

theorem wpIn_scope_wide {n : Nat} {P : Program} {c : Code} {Q : Exit → Act → World → Prop} {a : Act} {w : World} (h : c.wpIn Fence.wide n P (Exit.noGoto Q) a w) : (Code.scope c).wpIn Fence.wide n P Q a w :=
  wpIn_wide.2 (wp_scope_straight (wpIn_wide.1 h))

set_option maxRecDepth 1000000 in
set_option maxHeartbeats 4000000 in
theorem settled_in (a1 : Option Addr) (n cap1 : Nat) (ps : List Int) (w : World) (hx1 : SlI w w.heap.size a1 ps) (hp : ps.length = 2 * n) (hn : n ≤ 1048576) (hw : ∀ x ∈ ps, (Lit.int .i64 x).wf = true) (hd : LowsApart ps n) (hh : HighsB ps n) :
    CallsIn Fence.wide 14 Try.prog 90 #[.slice a1 n cap1] w fun e w' => ∃ L v, e = .returned v ∧ Stl ps n L ∧ SatTo ps n n L ∧ ResP w w' v (setP ps L) := by
  have HLw := hid (lows_any a1 n cap1 ps w hx1 hp hn hw)
  have Hy := hid hx1
  have Hp := hid hp
  have Hw := hid hw
  have HD := hid hd
  have HH := hid hh
  have hmm := @run_makeMap Try.prog
  clear hx1 hp hw hd hh
  refine callsIn_of_wp_marks Try.func90 rfl trivial ?_ rfl
  simp only [Try.ntmps90, List.size_toArray, List.length_cons, List.length_nil, Nat.reduceAdd, Nat.reduceSub, Array.replicate_succ, Array.replicate_zero, List.push_toArray, List.append_toArray, List.nil_append, List.cons_append]
  gi_wp2_with (first
    | (refine ⟨trivial, ?_⟩; gi_at_call 145; refine (callsIn_wide.2 HLw.out).mono ?_; rintro e w1 ⟨rfl, hown, hB1⟩))
  clear hmm
  have hMB : w.heap.size < w1.heap.size := hown.lt
  have H0 : Hid (SetW w (((w1.alloc (.cells #[.map (some w.heap.size)] 139)).alloc (.map #[] 0)).alloc (.cells #[.map (some (w1.heap.size + 1))] 82)) w.heap.size w1.heap.size n ps [] (.slice none 0 0) []) := by
    have e3 := heap_alloc_new ((w1.alloc (.cells #[.map (some w.heap.size)] 139)).alloc (.map #[] 0)) (.cells #[.map (some (w1.heap.size + 1))] 82)
    rw [World.size_alloc, World.size_alloc] at e3
    have m0 := World.ownsMap_made (H := Unit) (w1.alloc (.cells #[.map (some w.heap.size)] 139)) Try.prog 49 (plainElem (H := Unit) Try.prog 4)
    rw [World.size_alloc] at m0
    exact hid {
      below := ((hB1.alloc (by omega) _).alloc (by simp; omega) _).alloc (by simp; omega) _
      lo := Nat.le_refl _
      mb := hMB
      lows := ((hown.alloc _).alloc _).alloc _
      b3 := (Below.heap_alloc _ _ _ (by simp; omega)).trans ((Below.heap_alloc _ _ _ (by simp)).trans (heap_alloc_new _ _))
      own := World.ownsMap.alloc m0 _
      b4 := e3
      row := World.ownsRow_nil _ _ _ _
      off := by simp
      nodup := by simp
      marks := by simp }
  obtain ⟨M, hM⟩ : ∃ M, M = w.heap.size := ⟨_, rfl⟩
  obtain ⟨B, hBd⟩ : ∃ B, B = w1.heap.size := ⟨_, rfl⟩
  have HMw := hid hM
  rw [← hM, ← hBd] at H0 ⊢
  clear hMB hown hB1 HLw hM hBd
  refine wpIn_loop (StOut w M B n cap1 a1 ps) (fun a' _ => ((n : Int) - intOf (a'.tmps.getD 6 undef)).toNat) ?start ?round
  case start => exact stOut_of (L := []) (Ds := []) _ _ rfl rfl H0 (hid (Stl.nil ps n)) (by decide) (by decide) (hid (fun h => by simp at h))
  case round =>
    rintro a' W ⟨L, av, cp, b, Ds, us, rfl, HW, HS, hb0, hb1, HSat⟩
    clear H0
    by_cases hlt : b < (L.length : Int)
    · clear HSat
      have hsz := HW.out.size
      have hLn := HS.out.len
      gi_wp2
      refine wpIn_scope_wide ?_
      gi_wp2
      refine wpIn_label ?_
      gi_wp2
      refine wpIn_loop (StIn w M B n cap1 a1 ps L.length) (fun a' _ => n - (intOf (a'.tmps.getD 23 undef)).toNat) ?start2 ?round2
      case start2 => exact stIn_of (k := 0) (L := L) (Ds := Ds) _ _ rfl rfl HW HS (Nat.zero_le _) (Nat.le_refl _) (hid (fun _ => SatTo.zero _ _ _))
      case round2 =>
        clear HW hsz
        rintro a' W ⟨k, L2, av, cp, Ds, us, rfl, HW, HS2, hk, hb, HSat⟩
        by_cases hlt2 : k < n
        · obtain ⟨lb, off, hlb, rfl, hc⟩ : ∃ b off, b < w.heap.size ∧ a1 = some ⟨b, off, none⟩ ∧ ∀ i, i < ps.length → w.cell? ⟨b, off + i, none⟩ = some (.int .i64 (ps[i]?.getD 0)) := by
            rcases Hy.out with h | h
            · have := Hp.out; rw [h] at this; simp at this; omega
            · exact h
          have hB := HW.out.below
          have hc2 : W.cell? ⟨lb, off + k * 2, none⟩ = some (.int .i64 (at0 ps (k * 2))) := (hB.cell (p := ⟨lb, off + k * 2, none⟩) hlb).trans (hc _ (by have := Hp.out; omega))
          have hc3 : W.cell? ⟨lb, off + k * 2 + 1, none⟩ = some (.int .i64 (at0 ps (k * 2 + 1))) := (hB.cell (p := ⟨lb, off + (k * 2 + 1), none⟩) hlb).trans (hc _ (by have := Hp.out; omega))
          have hwk := wf_pairAt Hp.out Hw.out hlt2
          have hlk := lookup_pair (HW.out.alloc (.cells #[.int .i64 (at0 ps (k * 2)), .int .i64 (at0 ps (k * 2 + 1))] 49)).own (wf_setP Hp.out Hw.out HS2.out.lt) hwk
          have hmem := mem_setP HD.out HS2.out.lt hlt2
          obtain ⟨x, hx⟩ : ∃ x, x = at0 ps (k * 2) := ⟨_, rfl⟩
          obtain ⟨y, hy⟩ : ∃ y, y = at0 ps (k * 2 + 1) := ⟨_, rfl⟩
          have Hxy : Hid (pairAt ps k = (x, y)) := hid (by rw [hx, hy]; rfl)
          have Hx := hid hx
          rw [show (pairAt ps k).1 = x by rw [Hxy.out], show (pairAt ps k).2 = y by rw [Hxy.out]] at hlk
          rw [← hx, ← hy] at hlk
          rw [← hx] at hc2
          rw [← hy] at hc3
          have c4 : ∀ o : Obj, (W.alloc o).cell? ⟨B + 1 + 1, 0, none⟩ = some (.map (some (B + 1))) := fun o => cell_alloc0 (box_cell HW.out.b4).1 o
          have c3 : ∀ o : Obj, (W.alloc o).cell? ⟨B, 0, none⟩ = some (.map (some M)) := fun o => cell_alloc0 (box_cell HW.out.b3).1 o
          have hi0 : (0 : Int) ≤ (k : Int) := by omega
          have hi1 : (k : Int) < (n : Int) := by omega
          have Hwx : Hid ((Lit.int .i64 x).wf = true) := hid (by rw [hx]; exact hwk.1)
          have Hwk : Hid (wfP (x, y)) := hid (by rw [← Hxy.out]; exact hwk)
          clear hx hy hc hB hwk
          by_cases hm : k ∈ L2
          · rw [decide_eq_true (hmem.2 hm)] at hlk
            have Hm := hid hm
            clear hm hmem
            gi_wp2
            exact ⟨stIn_of (k := k + 1) (L := L2) (Ds := Ds) _ _ rfl rfl (hid (HW.out.alloc _)) HS2 (by omega) hb (hid (fun h => (HSat.out h).skip (.inl Hm.out))), by simp [intOf]; omega⟩
          · rw [decide_eq_false (fun h => hm (hmem.1 h))] at hlk
            have Hm := hid hm
            clear hm hmem
            gi_wp2_with (first
              | (refine ⟨trivial, ?_⟩; gi_at_call 148; refine (stepsFrom_in _ M x _).mono ?_; rintro e w' ⟨rfl, rfl⟩))
            obtain ⟨W3, hW3⟩ : ∃ W3, W3 = ((W.alloc (.cells #[.int .i64 x, .int .i64 y] 49)).alloc (.cells #[.map (some M)] 139)).alloc (.cells #[.int .i64 x] 2) := ⟨_, rfl⟩
            have hs3 : W3.heap.size = W.heap.size + 3 := by rw [hW3]; simp
            have hpb : W3.heap[W.heap.size]? = some (.cells #[.int .i64 x, .int .i64 y] 49 (0, 0)) := by rw [hW3]; exact (Below.heap_alloc _ _ _ (by simp <;> omega)).trans ((Below.heap_alloc _ _ _ (by simp)).trans (heap_alloc_new _ _))
            have hbm : W3.heap[W.heap.size + 1]? = some (.cells #[.map (some M)] 139 (0, 0)) := by
              have := heap_alloc_new (W.alloc (.cells #[.int .i64 x, .int .i64 y] 49)) (.cells #[.map (some M)] 139)
              rw [World.size_alloc] at this
              rw [hW3]
              exact (Below.heap_alloc _ _ _ (by simp)).trans this
            have hbx : W3.heap[W.heap.size + 1 + 1]? = some (.cells #[.int .i64 x] 2 (0, 0)) := by
              have := heap_alloc_new ((W.alloc (.cells #[.int .i64 x, .int .i64 y] 49)).alloc (.cells #[.map (some M)] 139)) (.cells #[.int .i64 x] 2)
              rw [World.size_alloc, World.size_alloc] at this
              rw [hW3]
              exact this
            have HS3 : Hid (SetW w W3 M B n ps L2 (.slice av L2.length cp) Ds) := hid (by rw [hW3]; exact ((HW.out.alloc _).alloc _).alloc _)
            have HDs : Hid (∀ D ∈ Ds, D < W3.heap.size) := hid (fun D hD => by have := lt_of_get (HW.out.marks D hD).2; omega)
            have Hvb : Hid (∀ g, (Value.slice av L2.length cp).ownBlock = some g → g < W3.heap.size) := hid (fun g hg => by have := (HW.out.row.lt g hg).2; omega)
            have hsz := HW.out.size
            rw [← hW3]
            clear hW3 hlk c4 c3 hc2 hc3
            refine wpIn_rangeFunc_P rfl (by decide) (gf := 192) (lb := #[.pointer (some ⟨W.heap.size + 1, 0, none⟩), .pointer (some ⟨W.heap.size + 1 + 1, 0, none⟩)]) rfl trivial (enters_of Try.func192 (by kernel_rfl) rfl)
              (steps_P 13 (by decide) (W.heap.size + 1) (W.heap.size + 1 + 1) M n n ps x W3 hbm hbx HS3.out.lows HD.out HH.out Hwx.out) (by simp) (Below.refl _ _) (fun _ => rfl)
              (fun pre W' => SetW w W' M B n ps L2 (.slice av L2.length cp) Ds ∧ W'.heap[W.heap.size]? = some (.cells #[.int .i64 x, .int .i64 y] 49 (0, 0)) ∧ ∀ z ∈ pre, ∀ j, j < n → at0 ps (j * 2) = ((z : Fin 64).val : Int) → j ∈ L2)
              (fun c _ W' => c = .exit 3 ∧ SetW w W' M B n ps L2 (.slice av L2.length cp) Ds ∧ ∃ j, j < n ∧ StepP ps n k j ∧ j ∉ L2)
              (OwnIn.and (set_ownIn (by omega) HDs.out Hvb.out) (OwnIn.and (ownIn_block (β := List (Fin 64)) (fun _ => _) (by omega)) (ownIn_pure _ _ (fun (pre : List (Fin 64)) => ∀ z ∈ pre, ∀ j, j < n → at0 ps (j * 2) = (z.val : Int) → j ∈ L2))))
              (fun c => OwnIn.and (ownIn_pure _ _ (fun (_ : List (Fin 64)) => c = .exit 3)) (OwnIn.and (set_ownIn (by omega) HDs.out Hvb.out) (ownIn_pure _ _ (fun (_ : List (Fin 64)) => ∃ j, j < n ∧ StepP ps n k j ∧ j ∉ L2))))
              ⟨HS3.out, hpb, by simp⟩
              (fun z => { tmps := List.toArray ((.slice (some ⟨lb, off, none⟩) n cap1) :: us 1 :: (.slice none 0 0) :: (.pointer (some ⟨B, 0, none⟩)) :: (.pointer (some ⟨B + 1 + 1, 0, none⟩)) :: (.slice av L2.length cp) :: (.int .i64 (L.length : Int)) :: us 7 :: (.pointer (some ⟨W.heap.size, 0, none⟩)) :: (.int .i64 (z.val : Int)) :: us 10 :: us 11 :: (.slice (some ⟨lb, off, none⟩) n cap1) :: (.map (some M)) :: (.map (some (B + 1))) :: us 15 :: us 16 :: us 17 :: us 18 :: us 19 :: us 20 :: (.slice (some ⟨lb, off, none⟩) n cap1) :: (.int .i64 (n : Int)) :: (.int .i64 (k : Int)) :: (.bool true) :: (.pointer (some ⟨lb, off + k * 2, none⟩)) :: (.agg #[.int .i64 x, .int .i64 y]) :: (.map (some (B + 1))) :: (.agg #[.int .i64 x, .int .i64 y]) :: (.bool false) :: (.map (some M)) :: (.pointer (some ⟨W.heap.size, 0, none⟩)) :: (.int .i64 x) :: (.func (.func 192) #[] #[.pointer (some ⟨W.heap.size + 1, 0, none⟩), .pointer (some ⟨W.heap.size + 1 + 1, 0, none⟩)]) :: (.int .i64 (z.val : Int)) :: us 35 :: us 36 :: us 37 :: us 38 :: us 39 :: us 40 :: us 41 :: us 42 :: us 43 :: us 44 :: us 45 :: us 46 :: us 47 :: us 48 :: us 49 :: us 50 :: us 51 :: us 52 :: us 53 :: us 54 :: us 55 :: []), defers := [] }) ?assign ?body ?done ?stop
            case assign =>
              intro l z W4 K hK
              gi_wp2
              exact hK
            case body =>
              rintro l pre z W4 hpre hsz4 ⟨hS, hpb4, hok⟩
              clear HW HSat hpb hbm hbx HS3
              have hzw : (Lit.int .i64 (z.val : Int)).wf = true := WalkArith.wf_i64 (by have := z.isLt; omega)
              obtain ⟨q3, _⟩ := box_cell hS.b3
              have q4 : ∀ o : Obj, (W4.alloc o).cell? ⟨B + 1 + 1, 0, none⟩ = some (.map (some (B + 1))) := fun o => cell_alloc0 (box_cell hS.b4).1 o
              have Hstep : Hid (∀ j, at0 ps (j * 2) = (z.val : Int) → StepP ps n k j) := hid (fun j hj => by
                unfold StepP
                rw [← Hx.out, hj]
                exact (mem_stepsF HH.out x _).1 ⟨z, hpre.subset (by simp), rfl⟩)
              have Hok := hid hok
              have HSa := hid hS
              have Hpb4 := hid hpb4
              rcases lows_look2 hS.lows HD.out hzw with ⟨j, hj, hjz, hrun⟩ | ⟨hno, hrun⟩
              · obtain ⟨u, hu⟩ : ∃ u, u = at0 ps (j * 2 + 1) := ⟨_, rfl⟩
                have hpj : pairAt ps j = ((z.val : Int), u) := by unfold pairAt; rw [hjz, hu]
                have hlk := lookup_pair (hS.alloc (.cells #[.int .i64 (z.val : Int), .int .i64 u] 49)).own (wf_setP Hp.out Hw.out HS2.out.lt) (wf_pairAt Hp.out Hw.out hj)
                have hmem := mem_setP HD.out HS2.out.lt hj
                rw [hpj] at hlk hmem
                simp only at hlk
                rw [← hu] at hrun
                have Hjz := hid hjz
                have Hj := hid hj
                clear hS hpb4 hok hjz hu hpj hj
                by_cases hm : j ∈ L2
                · rw [decide_eq_true (hmem.2 hm)] at hlk
                  have Hmj := hid hm
                  clear hm hmem
                  gi_wp2
                  refine ⟨KeepP.new _ (by simp) (by omega), HSa.out.alloc _, (Below.heap_alloc _ _ _ (lt_of_get Hpb4.out)).trans Hpb4.out, fun z' hz' j' hj' he => ?_⟩
                  rcases List.mem_append.1 hz' with h | h
                  · exact Hok.out z' h j' hj' he
                  · simp at h
                    subst h
                    exact (lows_inj HD.out hj' Hj.out (he.trans Hjz.out.symm)) ▸ Hmj.out
                · rw [decide_eq_false (fun h => hm (hmem.1 h))] at hlk
                  have Hmj := hid hm
                  clear hm hmem
                  gi_wp2
                  exact ⟨KeepP.new _ (by simp) (by omega), rfl, HSa.out.alloc _, j, Hj.out, Hstep.out j Hjz.out, Hmj.out⟩
              · have Hno := hid hno
                clear hS hpb4 hok hno
                gi_wp2
                refine ⟨KeepP.new _ (by simp) (by omega), HSa.out.alloc _, (Below.heap_alloc _ _ _ (lt_of_get Hpb4.out)).trans Hpb4.out, fun z' hz' j' hj' he => ?_⟩
                rcases List.mem_append.1 hz' with h | h
                · exact Hok.out z' h j' hj' he
                · simp at h
                  subst h
                  exact absurd he (Hno.out j' hj')
            case done =>
              rintro W4 ⟨hS, hpb4, hok⟩ hD4
              have hS4 := hS.mark hD4 (by omega) (fun hm => by have := HDs.out _ hm; omega) (fun e => by have := Hvb.out _ e; omega)
              obtain ⟨L3, hL3⟩ : ∃ L3, L3 = L2 ++ [k] := ⟨_, rfl⟩
              have Hst : Hid (Stl ps n L3) := hid (by
                rw [hL3]
                refine HS2.out.snoc hlt2 Hm.out (fun j hj hs => ?_)
                unfold StepP at hs
                rw [← Hx.out] at hs
                obtain ⟨z, hz, he⟩ := (mem_stepsF HH.out x _).2 hs
                exact hok z hz j hj he)
              have hl2 := HS2.out.len
              have hl3 : L3.length = L2.length + 1 := by rw [hL3]; simp
              have he3 : (setP ps L2 ++ [(x, y)]).length = L3.length := by rw [hL3]; simp [setP]
              obtain ⟨W5, hrun5, hown5, hg5⟩ := World.ownsMap.update hS4.own keyedP Try.underlying82 (show L2.length < maxLen by unfold maxLen; omega) (keyOfP Hwk.out) (plainElem_bool Try.underlying4 true)
              have hpb5 : W5.heap[W.heap.size]? = some (.cells #[.int .i64 x, .int .i64 y] 49 (0, 0)) := (hg5.block _ (lt_of_get hpb4) (fun e => by injection e with e; omega)).trans hpb4
              have hrow5 := hS4.row.kept hg5 (by
                cases hv : (Value.slice av L2.length cp).ownBlock with
                | none => exact .inl rfl
                | some g => exact .inr (fun e => by have := (hS4.row.lt g hv).1; injection e with e; omega))
              obtain ⟨p40, p41, _, _⟩ := two_of hpb4
              obtain ⟨p50, p51, _, _⟩ := two_of hpb5
              obtain ⟨q4, _⟩ := box_cell hS4.b4
              have q4' : W4.cell? ⟨B + 1 + 1, 0, none⟩ = some (.map (some (B + 1))) := q4
              have hsz5 : B + 3 ≤ W5.heap.size := Nat.le_trans hS4.size hg5.size
              have Hr5 := hid hrow5
              have HS4 := hid hS4
              have Ho5 := hid hown5
              have Hg5 := hid hg5
              have hsl : (setP ps L2).length = L2.length := setP_len ps L2
              have He3 := hid he3
              have HL3 := hid hL3
              have Hl3 := hid hl3
              clear hl3 hS hS4 hok hD4 hpb4 hpb5 hrow5 hown5 hg5 he3 hL3 q4
              gi_wp2_with (first
                | (gi_at_builtin; refine append_pairIn rfl rfl Hr5.out (by omega) (by omega) (by first | rfl | (simp only [hsl]; rfl)) rfl ?_; intro v' w6 hr6 hg6 hat6; obtain ⟨_, av', cp', rfl, _⟩ := pairs_form hr6; rw [He3.out] at hr6 hat6 ⊢; have Hr6 := hid hr6; have Hg6 := hid hg6; have Hat6 := hid hat6; clear hr6 hg6 hat6))
              have h6 := HS4.out.put (i := k) (by rw [Hxy.out]; exact Ho5.out) Hg5.out (by rw [Hxy.out, He3.out]; exact Hr6.out) Hg6.out Hat6.out
              rw [← HL3.out, hs3] at h6
              exact ⟨stIn_of (k := k + 1) (L := L3) (Ds := (W.heap.size + 3) :: Ds) _ _ rfl rfl (hid h6) Hst (by omega) (by rw [Hl3.out]; omega) (hid (fun h => by rw [Hl3.out] at h; omega)), by simp [intOf]; omega⟩
            case stop =>
              rintro c pre W4 hpre ⟨rfl, hS, hj⟩ hD4
              have HS4 := hid (hS.mark hD4 (by omega) (fun hm => by have := HDs.out _ hm; omega) (fun e => by have := Hvb.out _ e; omega))
              have Hj := hid hj
              clear hS hj hD4
              gi_wp2
              exact ⟨stIn_of (k := k + 1) (L := L2) (Ds := W3.heap.size :: Ds) _ _ rfl rfl HS4 HS2 (by omega) hb (hid (fun h => (HSat.out h).skip (.inr Hj.out))), by simp [intOf]; omega⟩
        · obtain rfl : k = n := by omega
          clear hlt2
          gi_wp2
          simp only [Exit.noGoto]
          gi_wp2
          exact ⟨stOut_of (L := L2) (Ds := Ds) _ _ rfl rfl HW HS2 (by omega) (by omega) (hid (fun h => HSat.out (by omega))), by simp [intOf]; omega⟩
    · have hbL : b = (L.length : Int) := by omega
      have Hsat := hid (HSat.out hbL)
      clear HSat
      gi_wp2
      refine leaves_marks (by simp) Ds _ HW.out.nodup (fun D hD => (HW.out.marks D hD).2) (fun w' hw' => ?_)
      exact ⟨_, results_tmp rfl _ _ _, L, .slice av L.length cp, rfl, HS.out, Hsat.out, HW.out.leaves hw'⟩

end Go.Proofs.Ytplcbiconfpmlaa

/-! The critical faces, the program's. -/
namespace Go.Proofs.Ytplcbiconfpmlaa
open Go.RowKit

noncomputable def pcodeR (V : Int) (fs : List Int) (n : Nat) (ps : List Int) : Int := if isCB V fs then (if pairingB fs ps n then 0 else 2) else 1
def critL (fs ps : List Int) : List Int := fs.filter fun x => !decide (x ∈ ps)
noncomputable def criticalFacesR (V : Int) (fs : List Int) (n : Nat) (ps : List Int) : List Int × Int := if pcodeR V fs n ps = 0 then (critL fs ps, 0) else ([], pcodeR V fs n ps)

theorem pcode_cases (V : Int) (fs : List Int) (n : Nat) (ps : List Int) :
    (IsC V fs ∧ OkTo fs ps n ∧ pcodeR V fs n ps = 0 ∧ isPairingR V fs n ps = (true, 0) ∧ pairingB fs ps n = true) ∨ (IsC V fs ∧ ¬ OkTo fs ps n ∧ pcodeR V fs n ps = 2 ∧ isPairingR V fs n ps = (false, 0) ∧ pairingB fs ps n = false) ∨ (¬ IsC V fs ∧ pcodeR V fs n ps = 1 ∧ isPairingR V fs n ps = (false, 1)) := by
  unfold pcodeR isPairingR
  by_cases hC : IsC V fs
  · rw [isCB_true hC]
    by_cases ho : OkTo fs ps n
    · rw [pairingB_true ho]; exact .inl ⟨hC, ho, by simp, by simp, rfl⟩
    · rw [pairingB_false ho]; exact .inr (.inl ⟨hC, ho, by simp, by simp, rfl⟩)
  · rw [isCB_false hC]; exact .inr (.inr ⟨hC, by simp, by simp⟩)

set_option maxRecDepth 100000 in
set_option maxHeartbeats 1000000 in
theorem pcode_impl (V : Int) (a0 : Option Addr) (cap : Nat) (fs : List Int) (a1 : Option Addr) (n cap1 : Nat) (ps : List Int) (w : World) (hx : SlI w w.heap.size a0 fs) (hx1 : SlI w w.heap.size a1 ps) (hl : fs.length ≤ 1048576) (hp : ps.length = 2 * n) (hn : n ≤ 1048576) (hw : ∀ x ∈ ps, (Lit.int .i64 x).wf = true) :
    Calls Try.prog 78 #[.agg #[.int .i64 V, .slice a0 fs.length cap], .slice a1 n cap1] w fun e w' => e = .returned (.int .i64 (pcodeR V fs n ps)) ∧ Below w.heap.size w w' := by
  have hB0 : Below w.heap.size w (w.alloc (.cells #[.int .i64 V, .slice a0 fs.length cap] 28)) := (Below.refl _ w).alloc (Nat.le_refl _) _
  have HI := hid (implIsPairing V a0 cap fs a1 n cap1 ps _ (hx.later hB0 hB0.size) (hx1.later hB0 hB0.size) hl hp hn hw)
  clear hx hx1 hp hw
  rcases pcode_cases V fs n ps with ⟨_, _, h0, h1, _⟩ | ⟨_, _, h0, h1, _⟩ | ⟨_, h0, h1⟩
  all_goals
    rw [h1] at HI
    rw [h0]
    clear h0 h1
    go_enter Try.func78, Try.ntmps78
    go_wp2_with fail
    refine HI.out.mono ?_
    rintro e w1 ⟨rfl, hB1⟩
    go_wp2_with fail
    go_ret
    exact ⟨rfl, hB0.trans (hB1.mono (by simp))⟩

theorem critWanted (L : List Int) (bm b n : Nat) (x : Int) (w : World) (hx0 : 1 ≤ x) (hx1 : x ≤ 63) (hm : w.cell? ⟨bm, 0, none⟩ = some (.map (some b))) (hM : w.ownsMap Try.prog 2 (plainElem (H := Unit) Try.prog 4) b n (knownD L)) :
    Calls Try.prog 154 #[.int .i64 x, .pointer (some ⟨bm, 0, none⟩)] w fun e w' => e = .returned (.bool (!decide (x ∈ L))) ∧ Below w.heap.size w w' := by
  have hlook := lookup_known hM (p := x) (WalkArith.wf_i64 (by omega))
  clear hM
  obtain ⟨c, hc⟩ : ∃ c, c = decide (x ∈ L) := ⟨_, rfl⟩
  rw [← hc] at hlook ⊢
  clear hc
  cases c
  · go_enter Try.func154, Try.ntmps154
    go_wp2_with fail
    go_ret
    exact ⟨rfl, Below.refl _ _⟩
  · go_enter Try.func154, Try.ntmps154
    go_wp2_with fail
    go_ret
    exact ⟨rfl, Below.refl _ _⟩

theorem res_mono {P : Program} {f : FuncId} {args : Array Value} {w : World} {r : List Int × Int} {xs : List Int} {c : Int} (hr : r = (xs, c))
    (h : Calls P f args w fun e w' => ∃ v, e = .returned (.tuple #[v, .int .i64 c]) ∧ Res w w' v xs) : Calls P f args w fun e w' => ∃ v, e = .returned (.tuple #[v, .int .i64 r.2]) ∧ Res w w' v r.1 := by
  subst hr; exact h

/-- What the loop keeps: the map's variable, the map. -/
structure CrW (w1 wr : World) (L : List Int) : Prop where
  below : Below w1.heap.size w1 wr
  own : wr.ownsMap Try.prog 2 (plainElem (H := Unit) Try.prog 4) w1.heap.size L.length (knownD L)
  mbox : wr.heap[w1.heap.size + 1]? = some (.cells #[.map (some w1.heap.size)] 117 (0, 0))

set_option maxRecDepth 100000 in
set_option maxHeartbeats 4000000 in
theorem crit_ok (V : Int) (a0 : Option Addr) (cap : Nat) (fs : List Int) (a1 : Option Addr) (n cap1 : Nat) (ps : List Int) (w : World) (hx : SlI w w.heap.size a0 fs) (hx1 : SlI w w.heap.size a1 ps) (hl : fs.length ≤ 1048576) (hp : ps.length = 2 * n) (hn : n ≤ 1048576) (hw : ∀ x ∈ ps, (Lit.int .i64 x).wf = true)
    (hC : IsC V fs) (h0 : pcodeR V fs n ps = 0) :
    Calls Try.prog 96 #[.agg #[.int .i64 V, .slice a0 fs.length cap], .slice a1 n cap1] w fun e w' => ∃ v, e = .returned (.tuple #[v, .int .i64 0]) ∧ Res w w' v (critL fs ps) := by
  have hB0 : Below w.heap.size w (w.alloc (.cells #[.int .i64 V, .slice a0 fs.length cap] 28)) := (Below.refl _ w).alloc (Nat.le_refl _) _
  have HI := hid (pcode_impl V a0 cap fs a1 n cap1 ps _ (hx.later hB0 hB0.size) (hx1.later hB0 hB0.size) hl hp hn hw)
  rw [h0] at HI
  have Hx := hid hx
  have Hy := hid hx1
  have Hp := hid hp
  have Hw := hid hw
  have Hf := hid hC.range63
  have hmm := @run_makeMap Try.prog
  clear hx hx1 hp hw hC h0
  go_enter Try.func96, Try.ntmps96
  go_wp2_with fail
  refine HI.out.mono ?_
  rintro e w1 ⟨rfl, hB1⟩
  have HB1 := hid (hB0.trans (hB1.mono (by simp)))
  have q0 : w1.heap[w.heap.size]? = some (.cells #[.int .i64 V, .slice a0 fs.length cap] 28 (0, 0)) := (hB1.block _ (by simp)).trans (heap_alloc_new _ _)
  have Q0 := hid q0
  have hs1 : w.heap.size < w1.heap.size := by have := hB1.size; simp at this; omega
  have hF0 : CrW w1 ((w1.alloc (.map #[] 0)).alloc (.cells #[.map (some w1.heap.size)] 117)) [] := by
    have e3 := heap_alloc_new (w1.alloc (.map #[] 0)) (.cells #[.map (some w1.heap.size)] 117)
    rw [World.size_alloc] at e3
    exact ⟨((Below.refl _ w1).alloc (Nat.le_refl _) _).alloc (by simp) _, (World.ownsMap_made w1 Try.prog 2 (plainElem (H := Unit) Try.prog 4)).alloc _, e3⟩
  have HF0 := hid hF0
  clear hB0 hB1 q0 hF0
  go_wp2_with fail
  clear hmm
  go_loopw [19] (fun i wr => ∃ k : Nat, k ≤ n ∧ i = .int .i64 k ∧ CrW w1 wr (ps.take (k * 2))) (fun i _ => n - (intOf i).toNat)
  case atStart => exact ⟨0, Nat.zero_le _, rfl, by simpa using HF0.out⟩
  case round =>
    obtain ⟨k, hk, rfl, hcr⟩ := hrel
    have HC := hid hcr
    clear hcr HF0
    by_cases hlt : k < n
    · obtain ⟨b, off, hb, rfl, hc⟩ : ∃ b off, b < w.heap.size ∧ a1 = some ⟨b, off, none⟩ ∧ ∀ i, i < ps.length → w.cell? ⟨b, off + i, none⟩ = some (.int .i64 (ps[i]?.getD 0)) := by
        rcases Hy.out with h | h
        · have := Hp.out; rw [h] at this; simp at this; omega
        · exact h
      have hBw : Hid (Below w.heap.size w wr) := hid (HB1.out.trans (HC.out.below.mono (by omega)))
      have hc2 : wr.cell? ⟨b, off + k * 2, none⟩ = some (.int .i64 (at0 ps (k * 2))) := (hBw.out.cell (p := ⟨b, off + k * 2, none⟩) hb).trans (hc _ (by have := Hp.out; omega))
      have hc3 : wr.cell? ⟨b, off + k * 2 + 1, none⟩ = some (.int .i64 (at0 ps (k * 2 + 1))) := (hBw.out.cell (p := ⟨b, off + (k * 2 + 1), none⟩) hb).trans (hc _ (by have := Hp.out; omega))
      obtain ⟨x, hx⟩ : ∃ x, x = at0 ps (k * 2) := ⟨_, rfl⟩
      obtain ⟨y, hy⟩ : ∃ y, y = at0 ps (k * 2 + 1) := ⟨_, rfl⟩
      have hlen := Hp.out
      have hwx : (Lit.int .i64 x).wf = true := Hw.out x (by rw [hx]; exact getD_mem (by omega))
      have hwy : (Lit.int .i64 y).wf = true := Hw.out y (by rw [hy]; exact getD_mem (by omega))
      have Hsn : Hid (ps.take ((k + 1) * 2) = ps.take (k * 2) ++ [x] ++ [y]) := hid (by
        rw [show (k + 1) * 2 = k * 2 + 1 + 1 by omega, take_snoc (show k * 2 + 1 < ps.length by omega), take_snoc (show k * 2 < ps.length by omega), hx, hy]; rfl)
      have htl : (ps.take (k * 2)).length = k * 2 := by rw [List.length_take]; omega
      have Htl := hid htl
      rw [← hx] at hc2
      rw [← hy] at hc3
      have hmb : wr.cell? ⟨w1.heap.size + 1, 0, none⟩ = some (.map (some w1.heap.size)) := (box_cell HC.out.mbox).1
      have hsr : w1.heap.size + 1 < wr.heap.size := lt_get HC.out.mbox
      have hi0 : (0 : Int) ≤ (k : Int) := by omega
      have hi1 : (k : Int) < (n : Int) := by omega
      obtain ⟨wa, hrun1, hwa, hga⟩ := World.ownsMap.update (w := World.drew (wr.alloc (.cells #[.int .i64 x, .int .i64 y] 49))) (World.ownsMap.alloc HC.out.own _) (Maps.int_keyed Try.underlying2) Try.underlying117 (show (ps.take (k * 2)).length < maxLen by rw [htl]; unfold maxLen; omega) (Maps.keyOf_int_mk Try.underlying2 hwx) (plainElem_bool Try.underlying4 true)
      obtain ⟨wb, hrun2, hwb, hgb⟩ := World.ownsMap.update hwa (Maps.int_keyed Try.underlying2) Try.underlying117 (show (ps.take (k * 2)).length + 1 < maxLen by rw [htl]; unfold maxLen; omega) (Maps.keyOf_int_mk Try.underlying2 hwy) (plainElem_bool Try.underlying4 true)
      have hba : ∀ j, j ≠ w1.heap.size → j < wr.heap.size + 1 → wa.heap[j]? = (wr.alloc (.cells #[.int .i64 x, .int .i64 y] 49)).heap[j]? := fun j hj hlt => hga.block j (by show j < (wr.alloc _).heap.size; simp; omega) (by simpa using hj)
      have qa : wa.heap[wr.heap.size]? = some (.cells #[.int .i64 x, .int .i64 y] 49 (0, 0)) := (hba _ (by omega) (by omega)).trans (heap_alloc_new _ _)
      have qb : wb.heap[wr.heap.size]? = some (.cells #[.int .i64 x, .int .i64 y] 49 (0, 0)) := (hgb.block _ (lt_get qa) (by simp; omega)).trans qa
      have ma : wa.heap[w1.heap.size + 1]? = some (.cells #[.map (some w1.heap.size)] 117 (0, 0)) := (hba _ (by omega) (by omega)).trans ((Below.heap_alloc _ _ _ hsr).trans HC.out.mbox)
      have mb : wb.heap[w1.heap.size + 1]? = some (.cells #[.map (some w1.heap.size)] 117 (0, 0)) := (hgb.block _ (lt_get ma) (by simp)).trans ma
      obtain ⟨ca0, ca1, _, _⟩ := two_of qa
      obtain ⟨cb0, cb1, _, _⟩ := two_of qb
      have da := (box_cell ma).1
      have db := (box_cell mb).1
      have Hga := hid hga
      have Hgb := hid hgb
      have Hwb := hid hwb
      have Mb := hid mb
      clear hga hgb hwb hwa hba qa qb ma mb hx hy hc htl hlen
      go_wp2_with fail
      go_region_held3 (fun w' => w'.cell? ⟨wr.heap.size, 0, none⟩ = some (.int .i64 x) ∧ w'.cell? ⟨wr.heap.size, 1, none⟩ = some (.int .i64 y) ∧ w'.cell? ⟨w1.heap.size + 1, 0, none⟩ = some (.map (some w1.heap.size))) (go_keep) (first
        | (simp only [hrun1])
        | (simp only [hrun2]))
      go_wp2_with fail
      go_roundw
      case rel =>
        have hBx : Below w1.heap.size w1 wa := (HC.out.below.alloc HC.out.below.size _).grown (w := wr.alloc (.cells #[.int .i64 x, .int .i64 y] 49)) ⟨Hga.out.os, Hga.out.tape, Hga.out.output, Hga.out.size, Hga.out.block⟩ (by have := HC.out.below.size; simp; omega) (fun r e => by cases e; omega)
        refine ⟨k + 1, by omega, by go_num, hBx.grown Hgb.out hBx.size (fun r e => by cases e; omega), ?_, Mb.out⟩
        rw [Hsn.out, knownD_snoc, knownD_snoc, List.length_append, List.length_append]
        exact Hwb.out
      case measure => simp [intOf]; omega
    · obtain rfl : k = n := by omega
      have htk : ps.take (k * 2) = ps := List.take_of_length_le (by have := Hp.out; omega)
      rw [htk] at HC
      have hBw : Hid (Below w.heap.size w wr) := hid (HB1.out.trans (HC.out.below.mono (by omega)))
      have q0 : wr.heap[w.heap.size]? = some (.cells #[.int .i64 V, .slice a0 fs.length cap] 28 (0, 0)) := (HC.out.below.block _ hs1).trans Q0.out
      obtain ⟨k0, k1, _, _⟩ := two_of q0
      have HFW : Hid (Calls Try.prog 153 #[.agg #[.int .i64 V, .slice a0 fs.length cap], .func (.func 154) #[] #[.pointer (some ⟨w1.heap.size + 1, 0, none⟩)]] wr fun e w' => ∃ v, e = .returned v ∧ Res wr w' v (critL fs ps)) := hid (by
        unfold critL
        refine fw_any V _ cap fs wr 154 _ (fun x => !decide (x ∈ ps)) (Hx.out.later hBw.out hBw.out.size) hl (enters_of Try.func154 (by kernel_rfl) rfl) ?_
        intro W' x hW' hxm
        have hr := Hf.out x hxm
        have hkeep : wr.grownBy W' none := ⟨hW'.os, hW'.tape, hW'.output, hW'.size, fun k hk _ => hW'.block k hk⟩
        exact critWanted ps _ _ _ x W' hr.1 hr.2 ((hW'.cell (p := ⟨w1.heap.size + 1, 0, none⟩) (lt_get HC.out.mbox)).trans (box_cell HC.out.mbox).1) (HC.out.own.kept hkeep (by simp)))
      clear q0 htk HI
      go_wp2_with fail
      refine HFW.out.mono ?_
      rintro e w2 ⟨v, rfl, hr⟩
      go_wp2_with fail
      go_ret2
      exact ⟨v, rfl, ownsRow_base hr.1 hBw.out.size, hBw.out.trans (hr.2.mono hBw.out.size)⟩

set_option maxRecDepth 100000 in
set_option maxHeartbeats 1000000 in
theorem crit_bad (V : Int) (a0 : Option Addr) (cap : Nat) (fs : List Int) (a1 : Option Addr) (n cap1 : Nat) (ps : List Int) (w : World) (hx : SlI w w.heap.size a0 fs) (hx1 : SlI w w.heap.size a1 ps) (hl : fs.length ≤ 1048576) (hp : ps.length = 2 * n) (hn : n ≤ 1048576) (hw : ∀ x ∈ ps, (Lit.int .i64 x).wf = true)
    (c : Int) (hc : (c != 0) = true) (h0 : pcodeR V fs n ps = c) :
    Calls Try.prog 96 #[.agg #[.int .i64 V, .slice a0 fs.length cap], .slice a1 n cap1] w fun e w' => ∃ v, e = .returned (.tuple #[v, .int .i64 c]) ∧ Res w w' v [] := by
  have hB0 : Below w.heap.size w (w.alloc (.cells #[.int .i64 V, .slice a0 fs.length cap] 28)) := (Below.refl _ w).alloc (Nat.le_refl _) _
  have HI := hid (pcode_impl V a0 cap fs a1 n cap1 ps _ (hx.later hB0 hB0.size) (hx1.later hB0 hB0.size) hl hp hn hw)
  rw [h0] at HI
  clear hx hx1 hp hw h0
  go_enter Try.func96, Try.ntmps96
  go_wp2_with fail
  refine HI.out.mono ?_
  rintro e w1 ⟨rfl, hB1⟩
  go_wp2_with fail
  go_ret2
  exact ⟨_, rfl, res_nil _ _ (hB0.trans (hB1.mono (by simp)))⟩

theorem implCriticalFaces (V : Int) (a0 : Option Addr) (cap : Nat) (fs : List Int) (a1 : Option Addr) (n cap1 : Nat) (ps : List Int) (w : World) (hx : SlI w w.heap.size a0 fs) (hx1 : SlI w w.heap.size a1 ps) (hl : fs.length ≤ 1048576) (hp : ps.length = 2 * n) (hn : n ≤ 1048576) (hw : ∀ x ∈ ps, (Lit.int .i64 x).wf = true) :
    Calls Try.prog 96 #[.agg #[.int .i64 V, .slice a0 fs.length cap], .slice a1 n cap1] w fun e w' => ∃ v, e = .returned (.tuple #[v, .int .i64 (criticalFacesR V fs n ps).2]) ∧ Res w w' v (criticalFacesR V fs n ps).1 := by
  rcases pcode_cases V fs n ps with ⟨hC, _, h0, _, _⟩ | ⟨_, _, h0, _, _⟩ | ⟨_, h0, _⟩
  · exact res_mono (by unfold criticalFacesR; rw [h0, if_pos rfl]) (crit_ok V a0 cap fs a1 n cap1 ps w hx hx1 hl hp hn hw hC h0)
  · exact res_mono (by unfold criticalFacesR; rw [h0, if_neg (by decide)]) (crit_bad V a0 cap fs a1 n cap1 ps w hx hx1 hl hp hn hw 2 (by decide) h0)
  · exact res_mono (by unfold criticalFacesR; rw [h0, if_neg (by decide)]) (crit_bad V a0 cap fs a1 n cap1 ps w hx hx1 hl hp hn hw 1 (by decide) h0)

end Go.Proofs.Ytplcbiconfpmlaa

/-! The critical faces, the model's. -/
namespace Go.Proofs.Ytplcbiconfpmlaa
open Go.RowKit Go.Sort

set_option maxRecDepth 100000 in
set_option maxHeartbeats 8000000 in
theorem critS_any (V : Int) (a0 : Option Addr) (cap : Nat) (fs : List Int) (a1 : Option Addr) (n cap1 : Nat) (ps : List Int) (w : World) (hx : SlI w w.heap.size a0 fs) (hx1 : SlI w w.heap.size a1 ps) (hl : fs.length ≤ 1048576) (hp : ps.length = 2 * n) (hn : n ≤ 1048576) :
    Calls Try.prog 92 #[.agg #[.int .i64 V, .slice a0 fs.length cap], .slice a1 n cap1] w fun e w' => ∃ v, e = .returned v ∧ Res w w' v (critL fs ps) := by
  have hB0 : Below w.heap.size w (w.alloc (.cells #[.int .i64 V, .slice a0 fs.length cap] 28)) := (Below.refl _ w).alloc (Nat.le_refl _) _
  have hB00 := (hB0.alloc (by simp) (.cells #[] 2))
  have hown0 := World.ownsRow_made (base := w.heap.size + 1) (e := 2) (size := 1) (w.alloc (.cells #[.int .i64 V, .slice a0 fs.length cap] 28)) #[] 0 (by simp) (by simp [maxLen]) rfl
  rw [World.size_alloc] at hown0
  have Hown0 := hid hown0
  have HB0 := hid hB0
  have HB00 := hid hB00
  clear hown0 hB0 hB00
  rcases hx with rfl | ⟨b, off, hb, rfl, hc⟩
  · go_enter Try.func92, Try.ntmps92
    go_wp2
    refine wp_loop_rounds 1 ?_; rw [rounds_succ]
    go_wp2
    go_ret
    exact ⟨_, rfl, ownsRow_base (by simpa [critL] using Hown0.out) (Nat.le_succ _), HB00.out⟩
  · have Hc := hid hc
    have Hp := hid hp
    have Hy := hid hx1
    clear hc hp hx1
    go_enter Try.func92, Try.ntmps92
    go_wp2
    go_loopw [5, 6] (fun v i wr => ∃ k : Nat, k ≤ fs.length ∧ i = .int .i64 k ∧ wr.ownsRow (w.heap.size + 1) 2 1 v (critL (fs.take k) ps).length ((critL (fs.take k) ps).map (Value.int .i64)) ∧
        Below (w.heap.size + 1) (w.alloc (.cells #[.int .i64 V, .slice (some ⟨b, off, none⟩) fs.length cap] 28)) wr) (fun _ i _ => fs.length - (intOf i).toNat)
    case atStart => exact ⟨0, Nat.zero_le _, rfl, Hown0.out, (Below.refl _ _).alloc (by simp) _⟩
    case round =>
      obtain ⟨k, hk, rfl, hown, hB⟩ := hrel
      have c0 : wr.cell? ⟨w.heap.size, 0, none⟩ = some (.int .i64 V) := (hB.cell (p := ⟨w.heap.size, 0, none⟩) (by simp)).trans (by simp [go_sem])
      have c1 : wr.cell? ⟨w.heap.size, 1, none⟩ = some (.slice (some ⟨b, off, none⟩) fs.length cap) := (hB.cell (p := ⟨w.heap.size, 1, none⟩) (by simp)).trans (by simp [go_sem])
      by_cases hlt : k < fs.length
      · obtain ⟨x, hx⟩ : ∃ x, x = fs[k]?.getD 0 := ⟨_, rfl⟩
        have Hp' : Hid (∀ c, decide (x ∉ ps) = c → critL (fs.take (k + 1)) ps = critL (fs.take k) ps ++ (if c then [x] else [])) := hid (fun c hc => by
          unfold critL
          rw [take_snoc hlt, List.filter_append, ← hx]
          cases c <;> simpa using hc)
        have Hx := hid hx
        have hi0 : (0 : Int) ≤ (k : Int) := by omega
        have hi1 : (k : Int) < (fs.length : Int) := by omega
        have hfl : (critL (fs.take k) ps).length ≤ 1048576 := Nat.le_trans (List.length_filter_le _ _) (by simp; omega)
        have HB := hid hB
        have Hown := hid hown
        clear hx hB hown
        go_wp2
        clear c0 c1
        go_loopw [7, 8] (fun q j wx => ∃ m : Nat, m ≤ n ∧ q = .bool (decide (x ∉ ps.take (m * 2))) ∧ j = .int .i64 m ∧ wx.ownsRow (w.heap.size + 1) 2 1 u5 (critL (fs.take k) ps).length ((critL (fs.take k) ps).map (Value.int .i64)) ∧
            Below (w.heap.size + 1) (w.alloc (.cells #[.int .i64 V, .slice (some ⟨b, off, none⟩) fs.length cap] 28)) wx) (fun _ j _ => n - (intOf j).toNat)
        case atStart => exact ⟨0, Nat.zero_le _, by simp, rfl, Hown.out, HB.out⟩
        case round =>
          clear HB Hown
          obtain ⟨m, hm, rfl, rfl, hown, hBx⟩ := hrel
          have c0 : wr.cell? ⟨w.heap.size, 0, none⟩ = some (.int .i64 V) := (hBx.cell (p := ⟨w.heap.size, 0, none⟩) (by simp)).trans (by simp [go_sem])
          have c1 : wr.cell? ⟨w.heap.size, 1, none⟩ = some (.slice (some ⟨b, off, none⟩) fs.length cap) := (hBx.cell (p := ⟨w.heap.size, 1, none⟩) (by simp)).trans (by simp [go_sem])
          have hBw : Below w.heap.size w wr := HB0.out.trans (hBx.mono (Nat.le_succ _))
          have hck : wr.cell? ⟨b, off + k, none⟩ = some (.int .i64 x) := by rw [Hx.out]; exact (hBw.cell (p := ⟨b, off + k, none⟩) hb).trans (Hc.out k hlt)
          by_cases hltm : m < n
          · obtain ⟨b1, o1, hb1, rfl, hc1⟩ : ∃ b o, b < w.heap.size ∧ a1 = some ⟨b, o, none⟩ ∧ ∀ i, i < ps.length → w.cell? ⟨b, o + i, none⟩ = some (.int .i64 (ps[i]?.getD 0)) := by
              rcases Hy.out with h | h
              · have := Hp.out; rw [h] at this; simp at this; omega
              · exact h
            have hd2 : wr.cell? ⟨b1, o1 + m * 2, none⟩ = some (.int .i64 (at0 ps (m * 2))) := (hBw.cell (p := ⟨b1, o1 + m * 2, none⟩) hb1).trans (hc1 _ (by have := Hp.out; omega))
            have hd3 : wr.cell? ⟨b1, o1 + m * 2 + 1, none⟩ = some (.int .i64 (at0 ps (m * 2 + 1))) := (hBw.cell (p := ⟨b1, o1 + (m * 2 + 1), none⟩) hb1).trans (hc1 _ (by have := Hp.out; omega))
            obtain ⟨u, hu⟩ : ∃ u, u = at0 ps (m * 2) := ⟨_, rfl⟩
            obtain ⟨v, hv⟩ : ∃ v, v = at0 ps (m * 2 + 1) := ⟨_, rfl⟩
            have Hsn : Hid (ps.take ((m + 1) * 2) = ps.take (m * 2) ++ [u] ++ [v]) := hid (by
              have := Hp.out
              rw [show (m + 1) * 2 = m * 2 + 1 + 1 by omega, take_snoc (show m * 2 + 1 < ps.length by omega), take_snoc (show m * 2 < ps.length by omega), hu, hv]; rfl)
            rw [← hu] at hd2
            rw [← hv] at hd3
            have hm0 : (0 : Int) ≤ (m : Int) := by omega
            have hm1 : (m : Int) < (n : Int) := by omega
            have HBx := hid hBx
            have HO := hid hown
            clear hu hv hBx hBw hc1 hown
            by_cases h0 : x ∈ ps.take (m * 2)
            · have hfr : decide (x ∉ ps.take (m * 2)) = false := by simp [h0]
              have He : Hid (decide (x ∉ ps.take ((m + 1) * 2)) = false) := hid (by rw [Hsn.out]; simp [h0])
              rw [hfr]
              clear h0 hfr
              go_wp2_with fail
              refine wp_region_quiet_lit (by kernel_rfl) (by kernel_rfl) ?_
              iterate 28 (with_reducible refine wpQuiet_step (fun K hK => ?_); have HK := hid hK; clear hK; go_simp; (first | with_reducible refine HK.out _ ?_ | (rw [if_neg (by decide)]; with_reducible refine HK.out _ ?_)); clear HK K)
              with_reducible refine wpQuiet_nil ?_
              intro _ hw'
              obtain ⟨nq, hw''⟩ := hw'
              subst hw''
              go_wp2_with fail
              go_roundw
              case rel => exact ⟨m + 1, by omega, by rw [He.out], by go_num, HO.out, HBx.out.trans ⟨rfl, rfl, rfl, Nat.le_refl _, fun _ _ => rfl⟩⟩
              case measure => simp [intOf]; omega
            · have hfr : decide (x ∉ ps.take (m * 2)) = true := by simp [h0]
              by_cases h1 : u = x
              · have g1 : (u != x) = false := by simp [h1]
                have He : Hid (decide (x ∉ ps.take ((m + 1) * 2)) = false) := hid (by rw [Hsn.out]; simp [h1])
                rw [hfr]
                clear h0 h1 hfr
                go_wp2_with fail
                refine wp_region_quiet_lit (by kernel_rfl) (by kernel_rfl) ?_
                iterate 28 (with_reducible refine wpQuiet_step (fun K hK => ?_); have HK := hid hK; clear hK; go_simp; (first | with_reducible refine HK.out _ ?_ | (rw [if_neg (by decide)]; with_reducible refine HK.out _ ?_)); clear HK K)
                with_reducible refine wpQuiet_nil ?_
                intro _ hw'
                obtain ⟨nq, hw''⟩ := hw'
                subst hw''
                go_wp2_with fail
                go_roundw
                case rel => exact ⟨m + 1, by omega, by rw [He.out], by go_num, HO.out, HBx.out.trans ⟨rfl, rfl, rfl, Nat.le_refl _, fun _ _ => rfl⟩⟩
                case measure => simp [intOf]; omega
              · have g1 : (u != x) = true := by simp [h1]
                by_cases h2 : v = x
                · have g2 : (v != x) = false := by simp [h2]
                  have He : Hid (decide (x ∉ ps.take ((m + 1) * 2)) = false) := hid (by rw [Hsn.out]; simp [h2])
                  rw [hfr]
                  clear h0 h1 h2 hfr
                  go_wp2_with fail
                  refine wp_region_quiet_lit (by kernel_rfl) (by kernel_rfl) ?_
                  iterate 28 (with_reducible refine wpQuiet_step (fun K hK => ?_); have HK := hid hK; clear hK; go_simp; (first | with_reducible refine HK.out _ ?_ | (rw [if_neg (by decide)]; with_reducible refine HK.out _ ?_)); clear HK K)
                  with_reducible refine wpQuiet_nil ?_
                  intro _ hw'
                  obtain ⟨nq, hw''⟩ := hw'
                  subst hw''
                  go_wp2_with fail
                  go_roundw
                  case rel => exact ⟨m + 1, by omega, by rw [He.out], by go_num, HO.out, HBx.out.trans ⟨rfl, rfl, rfl, Nat.le_refl _, fun _ _ => rfl⟩⟩
                  case measure => simp [intOf]; omega
                · have g2 : (v != x) = true := by simp [h2]
                  have He : Hid (decide (x ∉ ps.take ((m + 1) * 2)) = true) := hid (by rw [Hsn.out]; simp [h0, Ne.symm h1, Ne.symm h2])
                  rw [hfr]
                  clear h0 h1 h2 hfr
                  go_wp2_with fail
                  refine wp_region_quiet_lit (by kernel_rfl) (by kernel_rfl) ?_
                  iterate 28 (with_reducible refine wpQuiet_step (fun K hK => ?_); have HK := hid hK; clear hK; go_simp; (first | with_reducible refine HK.out _ ?_ | (rw [if_neg (by decide)]; with_reducible refine HK.out _ ?_)); clear HK K)
                  with_reducible refine wpQuiet_nil ?_
                  intro _ hw'
                  obtain ⟨nq, hw''⟩ := hw'
                  subst hw''
                  go_wp2_with fail
                  go_roundw
                  case rel => exact ⟨m + 1, by omega, by rw [He.out], by go_num, HO.out, HBx.out.trans ⟨rfl, rfl, rfl, Nat.le_refl _, fun _ _ => rfl⟩⟩
                  case measure => simp [intOf]; omega
          · obtain rfl : m = n := by omega
            have htk : ps.take (m * 2) = ps := List.take_of_length_le (by have := Hp.out; omega)
            have hsz := hBx.size
            simp only [World.size_alloc] at hsz
            have HBx := hid hBx
            have HO := hid hown
            rw [htk]
            clear htk hBx hBw hown
            by_cases hin : x ∉ ps
            · have HP := hid (Hp'.out true (by simp [hin]))
              have hdx : decide (x ∉ ps) = true := by simp [hin]
              rw [hdx]
              clear hin hdx
              go_wp2_with (at_builtin; refine append_int rfl rfl HO.out hsz (by omega) rfl rfl ?_; intro v' w2 hown2 hgrow2 hB2)
              go_roundw
              case rel => exact ⟨k + 1, by omega, by go_num, by rw [HP.out]; exact hown2, HBx.out.trans hB2⟩
              case measure => simp [intOf]; omega
            · have HP := hid (Hp'.out false (by simpa using hin))
              have hdx : decide (x ∉ ps) = false := by simpa using hin
              rw [hdx]
              clear hin hdx
              go_wp2_with fail
              go_roundw
              case rel => exact ⟨k + 1, by omega, by go_num, by rw [HP.out]; simpa using HO.out, HBx.out⟩
              case measure => simp [intOf]; omega
      · obtain rfl : k = fs.length := by omega
        rw [List.take_of_length_le (Nat.le_refl _)] at hown
        go_wp2
        go_ret
        exact ⟨_, rfl, ownsRow_base hown (Nat.le_succ _), HB0.out.trans (hB.mono (Nat.le_succ _))⟩

set_option maxRecDepth 100000 in
set_option maxHeartbeats 1000000 in
theorem pcode_spec (V : Int) (a0 : Option Addr) (cap : Nat) (fs : List Int) (a1 : Option Addr) (n cap1 : Nat) (ps : List Int) (w : World) (hx : SlI w w.heap.size a0 fs) (hx1 : SlI w w.heap.size a1 ps) (hl : fs.length ≤ 1048576) (hp : ps.length = 2 * n) (hn : n ≤ 1048576) :
    Calls Try.prog 74 #[.agg #[.int .i64 V, .slice a0 fs.length cap], .slice a1 n cap1, .slice none 0 0] w fun e w' => e = .returned (.int .i64 (pcodeR V fs n ps)) ∧ Below w.heap.size w w' := by
  have hB0 : Below w.heap.size w (w.alloc (.cells #[.int .i64 V, .slice a0 fs.length cap] 28)) := (Below.refl _ w).alloc (Nat.le_refl _) _
  have Hx := hid (hx.later hB0 hB0.size)
  have Hx0 := hid hx
  have Hy := hid hx1
  clear hx hx1
  rcases pcode_cases V fs n ps with ⟨hC, _, h0, _, h1⟩ | ⟨hC, _, h0, _, h1⟩ | ⟨hC, h0, _⟩
  · rw [h0]
    have HC := hid hC
    clear hC h0
    go_enter Try.func74, Try.ntmps74
    go_wp2_with fail
    refine (is_yes V a0 cap fs _ Hx.out hl HC.out).mono ?_
    rintro e w1 ⟨rfl, hB1⟩
    have HB1 := hid (hB0.trans (hB1.mono (by simp)))
    have k0 : w1.cell? ⟨w.heap.size, 0, none⟩ = some (.int .i64 V) := (hB1.cell (p := ⟨w.heap.size, 0, none⟩) (by simp)).trans (by simp [go_sem])
    have k1 : w1.cell? ⟨w.heap.size, 1, none⟩ = some (.slice a0 fs.length cap) := (hB1.cell (p := ⟨w.heap.size, 1, none⟩) (by simp)).trans (by simp [go_sem])
    have HI := hid (pis_any V a0 cap fs a1 n cap1 ps w1 (Hx0.out.later HB1.out HB1.out.size) (Hy.out.later HB1.out HB1.out.size) hl HC.out.range63 hp hn)
    rw [h1] at HI
    clear hB0 hB1 h1 hp
    go_wp2_with fail
    refine HI.out.mono ?_
    rintro e w2 ⟨rfl, hB2⟩
    go_wp2_with fail
    refine wp_loop_rounds 1 ?_; rw [rounds_succ]
    go_wp2_with fail
    go_ret
    exact ⟨rfl, HB1.out.trans (hB2.mono HB1.out.size)⟩
  · rw [h0]
    have HC := hid hC
    clear hC h0
    go_enter Try.func74, Try.ntmps74
    go_wp2_with fail
    refine (is_yes V a0 cap fs _ Hx.out hl HC.out).mono ?_
    rintro e w1 ⟨rfl, hB1⟩
    have HB1 := hid (hB0.trans (hB1.mono (by simp)))
    have k0 : w1.cell? ⟨w.heap.size, 0, none⟩ = some (.int .i64 V) := (hB1.cell (p := ⟨w.heap.size, 0, none⟩) (by simp)).trans (by simp [go_sem])
    have k1 : w1.cell? ⟨w.heap.size, 1, none⟩ = some (.slice a0 fs.length cap) := (hB1.cell (p := ⟨w.heap.size, 1, none⟩) (by simp)).trans (by simp [go_sem])
    have HI := hid (pis_any V a0 cap fs a1 n cap1 ps w1 (Hx0.out.later HB1.out HB1.out.size) (Hy.out.later HB1.out HB1.out.size) hl HC.out.range63 hp hn)
    rw [h1] at HI
    clear hB0 hB1 h1 hp
    go_wp2_with fail
    refine HI.out.mono ?_
    rintro e w2 ⟨rfl, hB2⟩
    go_wp2_with fail
    go_ret
    exact ⟨rfl, HB1.out.trans (hB2.mono HB1.out.size)⟩
  · rw [h0]
    clear h0
    go_enter Try.func74, Try.ntmps74
    go_wp2_with fail
    refine (is_no V a0 cap fs _ Hx.out hl hC).mono ?_
    rintro e w1 ⟨rfl, hB1⟩
    go_wp2_with fail
    go_ret
    exact ⟨rfl, hB0.trans (hB1.mono (by simp))⟩


theorem criticalFacesR_len (V : Int) (fs : List Int) (n : Nat) (ps : List Int) (h : fs.length ≤ 1048576) (_hp : ps.length = 2 * n) (_hn : n ≤ 1048576) : (criticalFacesR V fs n ps).1.length ≤ 1048576 := by
  unfold criticalFacesR
  split
  · exact Nat.le_trans (List.length_filter_le _ _) h
  · simp

end Go.Proofs.Ytplcbiconfpmlaa
