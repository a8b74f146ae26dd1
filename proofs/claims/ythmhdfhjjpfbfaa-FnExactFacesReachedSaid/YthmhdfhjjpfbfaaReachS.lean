import Derived.Test.YthmhdfhjjpfbfaaReachM
import Derived.Deep.RegionHeld3
import Derived.Deep.CutRange
import Derived.WalkSmall
/-! l02Reached: the model's search. -/
namespace Go.Proofs.Ythmhdfhjjpfbfaa
open Go.RowKit

theorem info_boolR : (Try.prog.info? 4).map (fun i => (i.zero, i.size, i.bytes)) = some (some (.bool false), 1, 1) := by kernel_rfl
/-- 'make([]bool, n)'. -/
theorem make_runB (w : World) (n : Nat) (hn : n ≤ 1099511627776) : ∃ w', (Instr.makeSlice 88 (.int .i64 (n : Int)) (.int .i64 (n : Int))).run Try.prog w = .ok (.slice (some ⟨w.heap.size, 0, none⟩) n n) w' ∧
    w'.ownsRow w.heap.size 4 1 (.slice (some ⟨w.heap.size, 0, none⟩) n n) n ((List.replicate n false).map Value.bool) ∧ w.grownBy w' none ∧ Below w.heap.size w w' := by
  obtain ⟨i0, hi, hz0, hz1, hz2⟩ := info_parts info_boolR
  obtain ⟨w', hrun, hown, hg⟩ := run_make_full (P := Try.prog) w w.heap.size 88 4 i0 (.bool false) 1 Try.underlying88 hi hz0 hz1 .i64 .i64 n (by rw [hz2]; omega) (by unfold maxLen; omega) (Nat.le_refl _)
  have e : (madeCells (Value.bool false).cells (n * 1)).toList = (List.replicate n false).map Value.bool := by
    rw [Nat.mul_one]
    exact (toList_madeCells_one _ _).trans (by simp)
  rw [e] at hown
  exact ⟨w', hrun, hown, hg, (Below.refl _ w).grown hg (Nat.le_refl _) (fun k hk => by cases hk)⟩

theorem make_run64 (w : World) : ∃ w', (Instr.makeSlice 88 (.int .i64 64) (.int .i64 64)).run Try.prog w = .ok (.slice (some ⟨w.heap.size, 0, none⟩) 64 64) w' ∧
    w'.ownsRow w.heap.size 4 1 (.slice (some ⟨w.heap.size, 0, none⟩) 64 64) 64 ((List.replicate 64 false).map Value.bool) ∧ w.grownBy w' none ∧ Below w.heap.size w w' := make_runB w 64 (by omega)

/-- 'append(a, b...)' of numbers; where the row lies afterwards. -/
theorem append_ints_at {w : World} {ops : Array Oper} {rest : List Oper} {o : Oper} {a : Act} {Q : Exit → Act → World → Prop} (hgd : o.guard = none) {s y : Operand}
    (ho : o.op = .call { callee := .builtin .append, args := #[s, y], argTypes := #[22, 22] })
    {base : Nat} {v : Value} {xs ys : List Int} {g c : Nat} (hown : w.ownsRow base 2 1 v xs.length (xs.map (Value.int .i64))) (hbase : base ≤ w.heap.size) (hl : xs.length ≤ 1048576) (hly : ys.length ≤ 1048576)
    (hs : a.eval s = v) (hy : a.eval y = .slice (some ⟨g, 0, none⟩) ys.length c) (hc : ∀ i, i < ys.length → w.cell? ⟨g, i, none⟩ = some (.int .i64 (ys[i]?.getD 0)))
    (hK : ∀ v' w', w'.ownsRow base 2 1 v' (xs ++ ys).length ((xs ++ ys).map (Value.int .i64)) → w.grownBy w' v.ownBlock → (v'.ownBlock = v.ownBlock ∨ v'.ownBlock = some w.heap.size) → Below base w w' → wpList Try.prog ops Q rest (a.put o.dst v') w') :
    wpList Try.prog ops Q (o :: rest) a w := by
  obtain ⟨i0, hi, hz0, hz1, hz2⟩ := info_parts info_i64
  refine wpList_append_own_at w hgd s y 22 ho base 2 i0 (.int .i64 0) 1 8 Try.underlying22 hi hz0 hz1 hz2 rfl (by decide) v _ _ hs hown ⟨g, 0, none⟩ ys.length c (ys.map (Value.int .i64)) hy (by simp) (fun j u hj => ?_) (fun u hu => ?_) (by unfold maxLen; omega) (by omega) hbase ?_
  · have hjl : j < ys.length := by
      have := (List.getElem?_eq_some_iff.1 hj).1
      simpa using this
    have := hc j hjl
    rw [List.getElem?_map, List.getElem?_eq_getElem hjl] at hj
    rw [List.getElem?_eq_getElem hjl] at this
    simp at hj this
    have hadd : (⟨g, 0, none⟩ : Addr).add j = ⟨g, j, none⟩ := by unfold Addr.add; split <;> simp_all
    rw [hadd, this, hj]
  · obtain ⟨x, _, rfl⟩ := List.mem_map.1 hu
    rfl
  · intro v' w1 hown1 hgrow1 _ hat
    exact hK v' w1 (by simpa using hown1) hgrow1 hat ((Below.refl base w).grown hgrow1 hbase (fun k hk => (hown.lt k hk).1))

/-- The search's world: what has been met lies in block bo, what waits in v's. -/
structure RchW (w wr : World) (ps : List Int) (n : Nat) (a : Int) (bo : Nat) (met : List Bool) (st : List Int) (v : Value) : Prop where
  om : wr.ownsRow w.heap.size 4 1 (.slice (some ⟨bo, 0, none⟩) 64 64) 64 (met.map Value.bool)
  os : wr.ownsRow w.heap.size 2 1 v st.length (st.map (Value.int .i64))
  nn : v.ownBlock ≠ none
  ne : v.ownBlock ≠ some bo
  srch : Srch ps n a met st
  below : Below w.heap.size w wr

theorem snoc_of {st : List Int} (h : st ≠ []) : ∃ st' x, st = st' ++ [x] := by
  rcases List.eq_nil_or_concat st with h1 | ⟨st', x, h1⟩
  · exact absurd h1 h
  · exact ⟨st', x, by rw [h1, List.concat_eq_append]⟩
theorem RchW.pop {w wr : World} {ps : List Int} {n : Nat} {a : Int} {bo g c : Nat} {met : List Bool} {st : List Int} {x : Int} (h : RchW w wr ps n a bo met (st ++ [x]) (.slice (some ⟨g, 0, none⟩) (st.length + 1) c)) :
    wr.ownsRow w.heap.size 2 1 (.slice (some ⟨g, 0, none⟩) st.length c) st.length (st.map (Value.int .i64)) := by
  have h1 := h.os
  have e : (st ++ [x]).length = st.length + 1 := by simp
  rw [e] at h1
  exact ownsRow_pop (n := st.length) (xs := st.map (Value.int .i64)) (last := [.int .i64 x]) (by simp) (by simpa using h1)
theorem RchW.skip {w wr : World} {ps : List Int} {n : Nat} {a : Int} {bo g c : Nat} {met : List Bool} {st : List Int} {x : Int} (h : RchW w wr ps n a bo met (st ++ [x]) (.slice (some ⟨g, 0, none⟩) (st.length + 1) c)) (hx : metAt met x = true) :
    RchW w wr ps n a bo met st (.slice (some ⟨g, 0, none⟩) st.length c) :=
  ⟨h.om, h.pop, by simp [Value.ownBlock], h.ne, h.srch.skip hx, h.below⟩
theorem RchW.push {w wr w2 w3 : World} {ps : List Int} {n : Nat} {a : Int} {bo g c q : Nat} {met : List Bool} {st : List Int} (hh : HighsB ps n) (h : RchW w wr ps n a bo met (st ++ [(q : Int)]) (.slice (some ⟨g, 0, none⟩) (st.length + 1) c))
    (hx : metAt met (q : Int) = false) (hb : Below (wr.setCell ⟨bo, q, none⟩ (.bool true)).heap.size (wr.setCell ⟨bo, q, none⟩ (.bool true)) w2) {v' : Value}
    (hown : w3.ownsRow w.heap.size 2 1 v' (st ++ nextL ps n q).length ((st ++ nextL ps n q).map (Value.int .i64))) (hg : w2.grownBy w3 (some g)) (hat : v'.ownBlock = some g ∨ v'.ownBlock = some w2.heap.size) :
    RchW w w3 ps n a bo (met.set q true) (st ++ nextL ps n q) v' := by
  have hq : q < 64 := by have := h.srch.rng (q : Int) (by simp); omega
  have hst := h.om.stored q (.bool true)
  have hgb : g ≠ bo := fun e => h.ne (by rw [e]; rfl)
  have hbo := h.om.lt bo rfl
  have hgl := h.os.lt g rfl
  have hsz : (wr.setCell ⟨bo, q, none⟩ (.bool true)).heap.size = wr.heap.size := by simp [World.setCell]
  have hs2 := hb.size
  rw [hsz] at hs2
  have hm1 : (wr.setCell ⟨bo, q, none⟩ (.bool true)).ownsRow w.heap.size 4 1 (.slice (some ⟨bo, 0, none⟩) 64 64) 64 ((met.set q true).map Value.bool) := by rw [List.map_set]; exact hst.1
  have hm2 := ownsRow_below hm1 hb (fun k hk => (hm1.lt k hk).2)
  have hm3 := hm2.kept hg (.inr (by simp [Value.ownBlock]; exact fun e => hgb e.symm))
  have hbw : Below w.heap.size w (wr.setCell ⟨bo, q, none⟩ (.bool true)) := h.below.grown hst.2 h.below.size (fun r e => by cases e; exact hbo.1)
  refine ⟨hm3, hown, ?_, ?_, ?_, ?_⟩
  · rcases hat with e | e <;> rw [e] <;> simp
  · rcases hat with e | e
    · rw [e]; simpa using hgb
    · rw [e]; intro e'; injection e' with e'; omega
  · have := h.srch.step hh hx
    rwa [Int.toNat_natCast] at this
  · exact (hbw.trans (hb.mono hbw.size)).grown hg (hbw.trans (hb.mono hbw.size)).size (fun r e => by cases e; exact hgl.1)

set_option maxRecDepth 1000000 in
set_option maxHeartbeats 4000000 in
theorem reached_any (a1 : Option Addr) (n cap : Nat) (ps : List Int) (a : Int) (w : World) (hx : SlI w w.heap.size a1 ps) (hp : ps.length = 2 * n) (hl : n ≤ 1048576) (hh : HighsB ps n) :
    Calls Try.prog 79 #[.slice a1 n cap, .int .i64 a] w fun e w' => ∃ g met, e = .returned (.slice (some ⟨g, 0, none⟩) 64 64) ∧ w'.ownsRow w.heap.size 4 1 (.slice (some ⟨g, 0, none⟩) 64 64) 64 (met.map Value.bool) ∧ Hid (Srch ps n a met []) ∧ Below w.heap.size w w' := by
  have HH := hid hh
  have HN := hid (fun x w' (h : Below w.heap.size w w') => next_any a1 n cap ps x w' (hx.later h h.size) hp hl (hh x))
  have Hl := hid (fun x => nextL_len ps n x)
  clear hx hp hh
  obtain ⟨wm, hmk, hownm, hgm, hBm⟩ := make_run64 w.drew
  have hdr : Below w.heap.size w w.drew := below_drewN (Below.refl _ w) 1
  have HBw := hid hdr
  have HBwm : Hid (Below w.heap.size w wm) := hid (hdr.trans hBm)
  have HBm := hid hBm
  have Hownm := hid hownm
  clear hownm hgm hdr hBm
  go_enter Try.func79, Try.ntmps79
  go_wp2_with fail
  go_cut [5, 6] from 8 to 11 (fun p q wx => ∃ bo g c : Nat, p = .slice (some ⟨bo, 0, none⟩) 64 64 ∧ w.heap.size ≤ bo ∧ wx.ownsRow w.heap.size 4 1 (.slice (some ⟨bo, 0, none⟩) 64 64) 64 ((List.replicate 64 false).map Value.bool) ∧ q = .slice (some ⟨g, 0, none⟩) (nextL ps n a).length c ∧ wx.ownsRow w.heap.size 2 1 (.slice (some ⟨g, 0, none⟩) (nextL ps n a).length c) (nextL ps n a).length ((nextL ps n a).map (Value.int .i64)) ∧ g ≠ bo ∧ Below w.heap.size w wx)
  case first =>
    go_region_held3 (fun w' => True) (trivial) (first
      | (go_at_call 119; (with_reducible_and_instances refine (HN.out a wm HBwm.out).mono ?_); rintro e w2 ⟨g, c, rfl, hr⟩; have HR := hid hr; clear hr)
      | (go_at_call 119; (with_reducible_and_instances refine (HN.out a w.drew HBw.out).mono ?_); rintro e w2 ⟨g, c, rfl, hr⟩; obtain ⟨w3, hmk3, hown3, hg3, hB3⟩ := make_run64 w2; have HR := hid hr; have Hown3 := hid hown3; have HB3 := hid hB3; clear hr hown3 hg3 hB3)
      | (simp only [hmk3]))
    · go_wp2_with fail
      go_meet
      case rel =>
        have hlm := (Hownm.out.lt w.heap.size rfl).2
        refine ⟨w.heap.size, g, c, rfl, Nat.le_refl _, ownsRow_below Hownm.out HR.out.2 (fun g hg => (Hownm.out.lt g hg).2), rfl, ownsRow_base HR.out.1 HBwm.out.size, ?_, HBwm.out.trans (HR.out.2.mono HBwm.out.size)⟩
        have := (HR.out.1.lt g rfl).1
        omega
    · go_wp2_with fail
      go_meet
      case rel =>
        have hs2 : w.heap.size ≤ w2.heap.size := HR.out.2.size
        refine ⟨w2.heap.size, g, c, rfl, hs2, ownsRow_base Hown3.out hs2, rfl, ownsRow_base (ownsRow_below HR.out.1 HB3.out (fun g hg => (HR.out.1.lt g hg).2)) (Nat.le_refl _), ?_, (HBw.out.trans HR.out.2).trans (HB3.out.mono hs2)⟩
        have := (HR.out.1.lt g rfl).2
        omega
  case rest =>
    obtain ⟨bo, g, c, rfl, hbo, hmet, rfl, hst, hgb, hb⟩ := hcut
    have H0 : Hid (RchW w wc ps n a bo (List.replicate 64 false) (nextL ps n a) (.slice (some ⟨g, 0, none⟩) (nextL ps n a).length c)) := hid ⟨hmet, hst, by simp [Value.ownBlock], by simpa [Value.ownBlock] using hgb, Srch.start HH.out a, hb⟩
    clear hmet hst hgb hb HBw HBwm HBm Hownm hmk
    go_wp2_with fail
    go_loopg [6] 5000 (fun gg v wr => ∃ (met : List Bool) (st : List Int), Hid (RchW w wr ps n a bo met st v) ∧ st.length + 64 * met.countP (fun b => !b) ≤ gg)
    case atStart => exact ⟨_, _, H0, H0.out.srch.small⟩
    case round =>
      clear H0
      obtain ⟨met, st, HW, hgg⟩ := hrel
      by_cases hst : st = []
      · subst hst
        obtain ⟨g', c', rfl, _⟩ := owned_some HW.out.os HW.out.nn
        go_wp2_with fail
        go_ret
        exact ⟨bo, met, rfl, HW.out.om, hid HW.out.srch, HW.out.below⟩
      · obtain ⟨st', x, rfl⟩ := snoc_of hst
        obtain ⟨g', c', rfl, hcap⟩ := owned_some HW.out.os HW.out.nn
        have hxr := HW.out.srch.rng x (by simp)
        obtain ⟨q, rfl⟩ : ∃ q : Nat, x = q := ⟨x.toNat, by omega⟩
        obtain ⟨m, hm⟩ : ∃ m, m = st'.length := ⟨_, rfl⟩
        have el : (st' ++ [(q : Int)]).length = st'.length + 1 := by simp
        have hsm := HW.out.srch.small
        rw [el] at hcap HW hgg hsm ⊢
        have hcx : wr.cell? ⟨g', m, none⟩ = some (.int .i64 (q : Int)) := by
          have h := HW.out.os
          rw [el] at h
          rw [h.cellAt m (by omega), hm]
          simp
        have hml := HW.out.srch.len
        have hq64 : q < 64 := by omega
        obtain ⟨b, hb⟩ : ∃ b, b = metAt met (q : Int) := ⟨_, rfl⟩
        have hcm : wr.cell? ⟨bo, q, none⟩ = some (.bool b) := by
          rw [HW.out.om.cellAt q (by omega), hb]
          unfold metAt
          rw [Int.toNat_natCast, List.getElem?_eq_getElem (by omega : q < met.length)]
          simp [hml, hq64]
        have hfr := HW.out.om.frozenAt q
        have hi0 : (0 : Int) ≤ (q : Int) := by omega
        have hi1 : (q : Int) < 64 := by omega
        have hm0 : (0 : Int) ≤ (m : Int) := by omega
        have hm1 : (m : Int) < (m : Int) + 1 := by omega
        have hm2 : (m : Int) ≤ (c' : Int) := by omega
        have hw1 : IntKind.i64.wrap (m : Int) = m := by rw [IntKind.wrap_i64]; omega
        have hw2 : IntKind.i64.wrap ((m : Int) + 1 - 1) = m := by rw [show (m : Int) + 1 - 1 = m by omega]; exact hw1
        have hw3 : wrap64 (m : Int) = m := IntWalk.wrap64_in _ ⟨by omega, by omega⟩
        have hw4 : wrap64 ((m : Int) + 1 - 1) = m := by rw [show (m : Int) + 1 - 1 = m by omega]; exact hw3
        have HM := hid hm
        have Hb := hid hb
        rw [← hm] at HW ⊢
        clear hst el hsm hm hxr hcap hml hb
        cases b
        · have hst := HW.out.om.stored q (.bool true)
          have hbs : Below w.heap.size w (wr.setCell ⟨bo, q, none⟩ (.bool true)) := HW.out.below.grown hst.2 HW.out.below.size (fun r e => by cases e; exact hbo)
          have hW' := HW.out
          rw [HM.out] at hW'
          have hp : wr.ownsRow w.heap.size 2 1 (.slice (some ⟨g', 0, none⟩) m c') st'.length (st'.map (Value.int .i64)) := by rw [HM.out]; exact hW'.pop
          have HP := hid (ownsRow_set (a := ⟨bo, q, none⟩) hp HW.out.ne (.bool true))
          have HBs := hid hbs
          have hcq := HN.out (q : Int) _ hbs
          clear hst hbs hW' hp
          go_wp2_with fail
          refine hcq.mono ?_
          rintro e w2 ⟨g2, c2, rfl, hr⟩
          have hcs : ∀ i, i < (nextL ps n q).length → w2.cell? ⟨g2, i, none⟩ = some (.int .i64 ((nextL ps n q)[i]?.getD 0)) := fun i hi => by
            rcases owned_slI hr.1 with h | ⟨b, off, _, h1, h2⟩
            · rw [h] at hi; simp at hi
            · injection h1 with h1
              injection h1 with h1 h3
              subst h1
              subst h3
              have := h2 i hi
              rwa [Nat.zero_add] at this
          have hown2 := ownsRow_below HP.out hr.2 (fun k hk => (HP.out.lt k hk).2)
          have hsz2 : w.heap.size ≤ w2.heap.size := Nat.le_trans HBs.out.size hr.2.size
          have hly : (nextL ps n q).length ≤ 1048576 := by have := Hl.out (q : Int); omega
          have hlx : st'.length ≤ 1048576 := by have := HW.out.srch.small; simp at this; omega
          have HR := hid hr.2
          clear hr hcq
          go_wp2_with (at_builtin; refine append_ints_at rfl rfl hown2 hsz2 hlx hly rfl rfl hcs ?_; intro v' w3 hown3 hg3 hat3 hB3)
          go_roundg ((st' ++ nextL ps n q).length + 64 * (met.set q true).countP (fun b => !b))
          case measure =>
            have := HW.out.srch.less (x := (q : Int)) Hb.out.symm
            rw [Int.toNat_natCast] at this
            have e : (st' ++ [(q : Int)]).length = st'.length + 1 := by simp
            omega
          case rel =>
            have hW' := HW.out
            rw [HM.out] at hW'
            exact ⟨_, _, hid (hW'.push HH.out Hb.out.symm HR.out hown3 hg3 hat3), Nat.le_refl _⟩
        · go_wp2_with fail
          go_roundg (st'.length + 64 * met.countP (fun b => !b))
          case measure => omega
          case rel =>
            have hW' := HW.out
            rw [HM.out] at hW' ⊢
            exact ⟨_, _, hid (hW'.skip Hb.out.symm), Nat.le_refl _⟩

end Go.Proofs.Ythmhdfhjjpfbfaa
