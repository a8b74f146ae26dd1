import Derived.Deep.RegionHeld3
import Derived.Deep.CutRange
import Derived.WalkSmall
import Derived.Test.YtbhdipljhelddaaMFS1
import Derived.Test.YtbhdipljhelddaaMFS2
import Derived.Test.YtbhdipljhelddaaMFS3
/-! The search for a shelling, the model's. -/
namespace Go.Proofs.Ytbhdipljhelddaa
open Go.RowKit

/-- Numbers as the program holds them. -/
def intsN (ns : List Nat) : List Int := ns.map fun o : Nat => (o : Int)
theorem intsN_len (ns : List Nat) : (intsN ns).length = ns.length := by simp [intsN]
theorem intsN_at {ns : List Nat} {i : Nat} (h : i < ns.length) : (intsN ns)[i]?.getD 0 = ((ns[i]?.getD 0 : Nat) : Int) := by
  unfold intsN
  rw [List.getElem?_map, List.getElem?_eq_getElem h]
  rfl
/-- A list that doesn't lie in block g. -/
def SlX (W : World) (g : Nat) (a : Option Addr) (xs : List Int) : Prop := xs = [] ∨ ∃ b off, b ≠ g ∧ b < W.heap.size ∧ a = some ⟨b, off, none⟩ ∧ ∀ i, i < xs.length → W.cell? ⟨b, off + i, none⟩ = some (.int .i64 (xs[i]?.getD 0))
theorem SlX.kept {W W' : World} {g : Nat} {a : Option Addr} {xs : List Int} (h : SlX W g a xs) (hg : W.grownBy W' (some g)) : SlX W' g a xs := by
  rcases h with h | ⟨b, off, h1, h2, h3, h4⟩
  · exact .inl h
  · refine .inr ⟨b, off, h1, Nat.lt_of_lt_of_le h2 hg.size, h3, fun i hi => ?_⟩
    rw [World.cell?_of_block (hg.block b h2 (fun e => h1 (by injection e)))]
    exact h4 i hi
theorem SlX.slI {W : World} {g : Nat} {a : Option Addr} {xs : List Int} (h : SlX W g a xs) : SlI W W.heap.size a xs := by
  rcases h with h | ⟨b, off, _, h2, h3, h4⟩
  · exact .inl h
  · exact .inr ⟨b, off, h2, h3, h4⟩
theorem SlX.new {W : World} {g base : Nat} {a : Option Addr} {c : Nat} {xs : List Int} (h : W.ownsRow base 2 1 (.slice a xs.length c) xs.length (xs.map (Value.int .i64))) (hb : g < base) : SlX W g a xs := by
  rcases h.2 with ⟨_, h0⟩ | ⟨b, cap, cur, hv, hbb, hh, _⟩
  · exact .inl (List.length_eq_zero_iff.1 h0)
  · injection hv with e1 _ e3
    subst e1
    subst e3
    refine .inr ⟨b, 0, by omega, lt_of_get hh, rfl, fun i hi => ?_⟩
    have := h.cells rfl i _ (show (xs.map (Value.int .i64))[i]? = some (.int .i64 (xs[i]?.getD 0)) by simp [hi])
    have hadd : (⟨b, 0, none⟩ : Addr).add i = ⟨b, 0 + i, none⟩ := by unfold Addr.add; split <;> simp_all
    rwa [hadd] at this
/-- Which sets have failed: a row of 2 ^ n bools. -/
def DeadAt (W : World) (g n : Nat) (dd : List Nat) : Prop := ∃ cur : Array Value, W.heap[g]? = some (.cells cur 4 (0, 0)) ∧ cur.size = 2 ^ n ∧ ∀ s, s < 2 ^ n → cur[s]? = some (.bool (decide (s ∈ dd)))
theorem DeadAt.lt {W : World} {g n : Nat} {dd : List Nat} (h : DeadAt W g n dd) : g < W.heap.size := by
  obtain ⟨cur, h1, _⟩ := h
  exact lt_of_get h1
theorem DeadAt.cell {W : World} {g n : Nat} {dd : List Nat} (h : DeadAt W g n dd) {s : Nat} (hs : s < 2 ^ n) : W.cell? ⟨g, s, none⟩ = some (.bool (decide (s ∈ dd))) ∧ W.frozen? ⟨g, s, none⟩ = false := by
  obtain ⟨cur, h1, h2, h3⟩ := h
  have := h3 s hs
  exact ⟨by simp [World.cell?, h1, this], by simp [World.frozen?, h1]⟩
theorem DeadAt.kept {W W' : World} {g n : Nat} {dd : List Nat} (h : DeadAt W g n dd) (hb : Below W.heap.size W W') : DeadAt W' g n dd := by
  obtain ⟨cur, h1, h2, h3⟩ := h
  exact ⟨cur, (hb.block g (lt_of_get h1)).trans h1, h2, h3⟩
theorem DeadAt.put {W : World} {g n : Nat} {dd : List Nat} (h : DeadAt W g n dd) {s : Nat} (hs : s < 2 ^ n) : DeadAt (W.setCell ⟨g, s, none⟩ (.bool true)) g n (s :: dd) ∧ W.grownBy (W.setCell ⟨g, s, none⟩ (.bool true)) (some g) := by
  obtain ⟨cur, h1, h2, h3⟩ := h
  refine ⟨⟨cur.setIfInBounds s (.bool true), ?_, by simp [h2], fun t ht => ?_⟩, grownBy_set W ⟨g, s, none⟩ (.bool true)⟩
  · simp only [World.setCell, Array.getElem?_modify, h1]
    simp
  · rw [Array.getElem?_setIfInBounds]
    by_cases e : s = t
    · subst e
      rw [if_pos rfl, if_pos (by omega)]
      simp
    · rw [if_neg e, h3 t ht]
      have : (t ∈ s :: dd) ↔ t ∈ dd := by simp [show ¬ t = s from fun h => e h.symm]
      simp [this]
theorem grown_of {W W' : World} (hb : Below W.heap.size W W') (row : Option Nat) : W.grownBy W' row := ⟨hb.os, hb.tape, hb.output, hb.size, fun q hq _ => hb.block q hq⟩

theorem bit12 {s k : Nat} (hs : s < 4096) : bits BinOp.and IntKind.i64 ((s : Int) / 2 ^ k) 1 = if s.testBit k then 1 else 0 := by
  have e : ((s : Int) / 2 ^ k) = ((s / 2 ^ k : Nat) : Int) := by simp
  have hle : s / 2 ^ k ≤ s := Nat.div_le_self _ _
  rw [e]
  have h := (bits_nat .i64 12 (by decide) (fun n h0 h1 => by rw [IntKind.wrap_i64]; omega) (s / 2 ^ k) 1 (by omega) (by decide)).1
  have h' : bits BinOp.and IntKind.i64 ((s / 2 ^ k : Nat) : Int) 1 = ((s / 2 ^ k &&& 1 : Nat) : Int) := h
  rw [h', Nat.and_one_is_mod, Nat.testBit_eq_decide_div_mod_eq]
  rcases Nat.mod_two_eq_zero_or_one (s / 2 ^ k) with h0 | h0 <;> simp [h0]
theorem or12 {s k : Nat} (hs : s < 4096) (hk : k < 12) : bits BinOp.or IntKind.i64 (s : Int) ((2 ^ k : Nat) : Int) = ((s ||| 2 ^ k : Nat) : Int) :=
  (bits_nat .i64 12 (by decide) (fun n h0 h1 => by rw [IntKind.wrap_i64]; omega) s (2 ^ k) (by omega) (Nat.pow_lt_pow_right (by decide) hk)).2
theorem pow12 {k : Nat} (hk : k < 12) : wrap64 (2 ^ k) = ((2 ^ k : Nat) : Int) := pow_wrap (by omega)

theorem append_runI {w : World} {base bp : Nat} {v : Value} {xs : List Int} {x : Int} (hown : w.ownsRow base 2 1 v xs.length (xs.map (Value.int .i64))) (hbase : base ≤ w.heap.size) (hm : xs.length ≤ 1048576) (hc : w.cell? ⟨bp, 0, none⟩ = some (.int .i64 x)) :
    ∃ v' w', (Builtin.append_ #[22, 22] 22 #[v, .slice (some ⟨bp, 0, none⟩) 1 1]).run Try.prog w = .ok v' w' ∧ w'.ownsRow base 2 1 v' (xs.length + 1) ((xs ++ [x]).map (Value.int .i64)) ∧ w.grownBy w' v.ownBlock := by
  obtain ⟨i0, hi, hz0, hz1, hz2⟩ := info_parts info_i64
  obtain ⟨v', w', h1, h2, h3, _, _⟩ := run_append_own_at (P := Try.prog) (w := w) base 22 22 2 i0 (.int .i64 0) 1 8 Try.underlying22 hi hz0 hz1 hz2 rfl (by decide) v xs.length (xs.map (Value.int .i64)) hown ⟨bp, 0, none⟩ 1 1 [.int .i64 x] (by simp) (fun j u hj => by
    match j, hj with
    | 0, hj =>
      simp at hj
      subst hj
      have hadd : (⟨bp, 0, none⟩ : Addr).add 0 = ⟨bp, 0, none⟩ := by unfold Addr.add; split <;> simp_all
      rw [hadd]
      exact hc
    | j + 1, hj => simp at hj) (fun u hu => by simp at hu; subst hu; rfl) (by unfold maxLen; omega) (by omega) hbase
  exact ⟨v', w', h1, by simpa using h2, h3⟩
theorem step_app_I {P : Program} {ops : Array Oper} {o : Oper} {a : Act} {w w' : World} {K : Act → World → Prop} {Q : Exit → Act → World → Prop} {E : Prop} (hg : o.guard = none) {s y : Operand} {T : TypeId} (ho : o.op = .call { callee := .builtin .append, args := #[s, y], argTypes := #[T, T] })
    {v u v' : Value} (hs : a.eval s = v) (hy : a.eval y = u) (hr : (Builtin.append_ #[T, T] o.type #[v, u]).run P w = .ok v' w') (hK : K (a.put o.dst v') w') :
    if Region.wanted o (yielded ops a.tmps) = true then Oper.wp P o a w K Q else E := by
  have hw : Region.wanted o (yielded ops a.tmps) = true := by simp [Region.wanted, hg]
  rw [if_pos hw]
  unfold Oper.wp execOp
  simp only [ho, resolve, invoke, builtin, Sem.run_bind, Sem.run_pure, Result.andThen_ok, List.map_toArray, List.map_cons, List.map_nil, hs, hy, hr]
  exact hK

/-- What the model asks of a facet behind others. -/
def gdS (L : List Nat) (f : Nat) : Bool := shG (f : Int) (intsN L)
/-- A fact laid by. -/
structure KeptQ (p : Prop) : Prop where
  out : p
structure FindR (B : Nat) (ns : List Nat) (d : Nat) (L : List Nat) (set : Nat) (dd : List Nat) (g : Nat) (w : World) (v : Value) (b : Bool) (w' : World) : Prop where
  ok : b = (srch ns gdS d L set dd).1.isSome
  dead : DeadAt w' g ns.length (srch ns gdS d L set dd).2
  grown : w.grownBy w' (some g)
  row : ∀ x, (srch ns gdS d L set dd).1 = some x → ∃ a c, v = .slice a x.length c ∧ w'.ownsRow B 2 1 v x.length ((intsN x).map (Value.int .i64))

theorem findR_no {B : Nat} {ns : List Nat} {d : Nat} {L L2 : List Nat} {set s2 k : Nat} {dd d2 : List Nat} {g : Nat} {w wr x3 w' : World} {v : Value} (HE : loopTo (roundF ns gdS d L set) (k + 1) dd = srch ns gdS d L2 s2 d2) (hG : w.grownBy wr (some g)) (hB : Below wr.heap.size wr x3) (hR : FindR B ns d L2 s2 d2 g x3 v false w') :
    loopTo (roundF ns gdS d L set) (k + 1) dd = (none, (srch ns gdS d L2 s2 d2).2) ∧ DeadAt w' g ns.length (srch ns gdS d L2 s2 d2).2 ∧ w.grownBy w' (some g) := by
  refine ⟨?_, hR.dead, (hG.trans (grown_of hB _)).trans hR.grown⟩
  rw [HE]
  have := hR.ok
  cases h : srch ns gdS d L2 s2 d2 with
  | mk o dd' =>
    rw [h] at this
    cases o with
    | none => rfl
    | some x => cases this
theorem findR_up {B : Nat} {ns : List Nat} {d : Nat} {L L2 : List Nat} {set s2 k : Nat} {dd d2 : List Nat} {g : Nat} {w wr x3 w' : World} {v : Value} (hdd : set ∉ dd) (hk : k < ns.length) (HE : loopTo (roundF ns gdS d L set) (k + 1) dd = srch ns gdS d L2 s2 d2) (hG : w.grownBy wr (some g)) (hB : Below wr.heap.size wr x3) (hR : FindR B ns d L2 s2 d2 g x3 v true w') : FindR B ns (d + 1) L set dd g w v true w' := by
  have ho := hR.ok
  have hd := hR.dead
  have hrow := hR.row
  cases h : srch ns gdS d L2 s2 d2 with
  | mk o dd' =>
    rw [h] at ho hd hrow HE
    cases o with
    | none => cases ho
    | some x =>
      have e := srch_some hdd (k := k + 1) hk HE
      exact ⟨by rw [e]; rfl, by rw [e]; exact hd, (hG.trans (grown_of hB _)).trans hR.grown, fun y hy => by rw [e] at hy; exact hrow y hy⟩
theorem intsN_snoc (L : List Nat) (f : Nat) : intsN (L ++ [f]) = intsN L ++ [(f : Int)] := by simp [intsN]

set_option maxRecDepth 1000000 in
set_option maxHeartbeats 8000000 in
theorem findS_any (B : Nat) (ns : List Nat) (hn12 : ns.length ≤ 12) : ∀ (d : Nat) (L : List Nat) (set : Nat) (dd : List Nat) (w : World) (af al : Option Addr) (cf cl g cg : Nat), SSt ns d L set → SlX w g af (intsN ns) → w.ownsRow B 2 1 (.slice al L.length cl) L.length ((intsN L).map (Value.int .i64)) → SlX w g al (intsN L) → B ≤ w.heap.size → DeadAt w g ns.length dd →
    Calls Try.prog 65 #[.slice af ns.length cf, .slice al L.length cl, .int .i64 (set : Int), .slice (some ⟨g, 0, none⟩) (2 ^ ns.length) cg] w fun e w' => ∃ v b, e = .returned (.tuple #[v, .bool b]) ∧ FindR B ns d L set dd g w v b w' := by
  intro d
  induction d with
  | zero =>
    intro L set dd w af al cf cl g cg hS hf hLo hL hBw hD
    have hlen : (L.length : Int) = (ns.length : Int) := by have := hS.len; omega
    have HR := KeptQ.mk (show FindR B ns 0 L set dd g w (.slice al L.length cl) true w from ⟨rfl, hD, grown_of (Below.refl _ _) _, fun x hx => by
      rw [srch_zero] at hx
      injection hx with hx
      subst hx
      exact ⟨al, cl, rfl, hLo⟩⟩)
    clear hf hLo hL hD hS
    go_enter Try.func65, Try.ntmps65
    go_wp2_with fail
    go_ret2
    exact ⟨_, _, rfl, HR.out⟩
  | succ d ih =>
    intro L set dd w af al cf cl g cg hS hf hLo hL hBw hD
    have hlen : ((L.length : Int) == (ns.length : Int)) = false := by have := hS.len; simp; omega
    have h4096 : 2 ^ ns.length ≤ 4096 := Nat.pow_le_pow_right (n := 2) (by decide) hn12
    have hset := hS.lt
    have hs0 : (0 : Int) ≤ (set : Int) := by omega
    have hs1 : (set : Int) < (2 ^ ns.length : Nat) := by omega
    obtain ⟨N2, hN2⟩ : ∃ N2, N2 = 2 ^ ns.length := ⟨_, rfl⟩
    rw [← hN2] at h4096 hset hs1 ⊢
    have hc := (hD.cell (s := set) (by rw [← hN2]; exact hset)).1
    have HBw := KeptQ.mk hBw
    have HS := KeptQ.mk hS
    have HF := KeptQ.mk hf
    have HL := KeptQ.mk hL
    have HD := KeptQ.mk hD
    have HN2 := KeptQ.mk hN2
    have Hih := KeptQ.mk ih
    have Hlen : KeptQ (L.length ≤ 12) := KeptQ.mk (by have := hS.len; omega)
    clear hS hf hL hD hN2 ih hLo hBw
    by_cases hdd : set ∈ dd
    · have HR := KeptQ.mk (show FindR B ns (d + 1) L set dd g w (.slice none 0 0) false w from by
        have e := srch_dead (ns := ns) (gd := gdS) (d := d) (L := L) hdd
        exact ⟨by rw [e]; rfl, by rw [e]; exact HD.out, grown_of (Below.refl _ _) _, fun x hx => by rw [e] at hx; cases hx⟩)
      rw [decide_eq_true hdd] at hc
      clear hdd
      go_enter Try.func65, Try.ntmps65
      go_wp2_with fail
      go_ret2
      exact ⟨_, _, rfl, HR.out⟩
    · rw [decide_eq_false hdd] at hc
      have Hdd := KeptQ.mk hdd
      clear hdd
      go_enter Try.func65, Try.ntmps65
      go_wp2_with fail
      clear hc
      go_loopw [10] (fun iv wx => ∃ (k : Nat) (d2 : List Nat), k ≤ ns.length ∧ iv = .int .i64 (k : Int) ∧ KeptQ (loopTo (roundF ns gdS d L set) k dd = (none, d2)) ∧ KeptQ (DeadAt wx g ns.length d2) ∧ KeptQ (w.grownBy wx (some g))) (fun iv _ => ns.length - (intOf iv).toNat)
      case atStart => exact ⟨0, dd, Nat.zero_le _, rfl, KeptQ.mk rfl, HD, KeptQ.mk (grown_of (Below.refl _ _) _)⟩
      case round =>
        obtain ⟨k, d2, hk, rfl, HLp, HDx, HG⟩ := hrel
        by_cases hlt : k < ns.length
        · have hbit := bit12 (s := set) (k := k) (by omega)
          have hk0 : (0 : Int) ≤ (k : Int) := by omega
          have hk1 : (k : Int) < (ns.length : Int) := by omega
          have hk12 : (ns.length : Int) ≤ 12 := by omega
          obtain ⟨f, hf⟩ : ∃ f, f = ns[k]?.getD 0 := ⟨_, rfl⟩
          obtain ⟨b, off, hbg, hbw, rfl, hcl⟩ : ∃ b off, b ≠ g ∧ b < w.heap.size ∧ af = some ⟨b, off, none⟩ ∧ ∀ i, i < (intsN ns).length → w.cell? ⟨b, off + i, none⟩ = some (.int .i64 ((intsN ns)[i]?.getD 0)) := by
            rcases HF.out with h | h
            · have := intsN_len ns
              rw [h] at this
              simp at this
              omega
            · exact h
          have hfc : wr.cell? ⟨b, off + k, none⟩ = some (.int .i64 (f : Int)) := by
            rw [World.cell?_of_block (HG.out.block b hbw (fun e => hbg (by injection e))), hcl k (by rw [intsN_len]; exact hlt), intsN_at hlt, hf]
          clear hcl
          have Hf := KeptQ.mk hf
          clear hf
          by_cases hb : set.testBit k = true
          · rw [if_pos hb] at hbit
            have HE := KeptQ.mk ((loopTo_none HLp.out).trans (round_skip (by rw [hb]; rfl)))
            clear hb
            go_wp2_with fail
            go_roundw
            all_goals first
              | exact ⟨⟨k + 1, d2, by omega, by go_num, HE, HDx, HG⟩, by simp [intOf]; omega⟩
              | (case rel => exact ⟨k + 1, d2, by omega, by go_num, HE, HDx, HG⟩)
              | (simp [intOf]; omega)
          · rw [if_neg hb] at hbit
            have hbf : set.testBit k = false := by simpa using hb
            have Hbf := KeptQ.mk hbf
            clear hb hbf
            have HGo := KeptQ.mk (goes_any al cl (intsN L) (f : Int) wr ((HL.out.kept HG.out).slI) (by rw [intsN_len]; have := Hlen.out; omega))
            rw [intsN_len] at HGo
            go_wp2_with fail
            refine HGo.out.mono ?_
            rintro e w5 ⟨rfl, rfl⟩
            obtain ⟨c, hc⟩ : ∃ c, c = shG (f : Int) (intsN L) := ⟨_, rfl⟩
            obtain ⟨rr, hrr⟩ : ∃ rr, rr = shR (f : Int) (intsN L) 6 := ⟨_, rfl⟩
            rw [← hc, ← hrr]
            have Hc := KeptQ.mk (show gdS L (ns[k]?.getD 0) = c by rw [hc, ← Hf.out]; rfl)
            clear hc hrr HGo
            cases c
            · have HE := KeptQ.mk ((loopTo_none HLp.out).trans (round_skip (by rw [Hc.out]; simp)))
              go_wp2_with fail
              go_roundw
              all_goals first
                | exact ⟨⟨k + 1, d2, by omega, by go_num, HE, HDx, HG⟩, by simp [intOf]; omega⟩
                | (case rel => exact ⟨k + 1, d2, by omega, by go_num, HE, HDx, HG⟩)
                | (simp [intOf]; omega)
            · have HE := KeptQ.mk ((loopTo_none HLp.out).trans (round_go (by rw [Hc.out, Hbf.out]; rfl)))
              have HSt := KeptQ.mk (HS.out.step hlt Hbf.out)
              rw [← Hf.out] at HE HSt
              go_wp2_with fail
              obtain ⟨x0, hx0⟩ : ∃ x0, x0 = wr.drew := ⟨_, rfl⟩
              have Hx0 := hid (show x0.cell? ⟨b, off + k, none⟩ = some (.int .i64 (f : Int)) by rw [hx0]; exact hfc)
              have HB0 := KeptQ.mk (show Below wr.heap.size wr x0 by rw [hx0]; exact (Below.refl _ _).drew)
              obtain ⟨Q, hQ⟩ : ∃ Q : Nat, Q = 2 ^ k := ⟨_, rfl⟩
              have hsh := pow12 (k := k) (by omega)
              have hor := or12 (s := set) (k := k) (by omega) (by omega)
              rw [← hQ] at hsh hor HE HSt
              obtain ⟨s2, hs2⟩ : ∃ s2, s2 = set ||| Q := ⟨_, rfl⟩
              rw [← hs2] at hor HE HSt
              have HxL := KeptQ.mk (((HL.out.kept HG.out).kept (grown_of HB0.out _)).slI)
              have hbw2 : b < wr.heap.size := Nat.lt_of_lt_of_le hbw HG.out.size
              have hwu : IntKind.u64.wrap (k : Int) = (k : Int) := by first | (rw [IntKind.wrap_u64]; omega) | (simp [IntKind.wrap]; omega)
              have hsh2 : IntKind.i64.wrap (2 ^ k) = (Q : Int) := by first | exact hsh | (rw [IntKind.wrap_i64]; rw [wrap64] at hsh; exact hsh)
              have HOwn := KeptQ.mk (fun (X : World) (h : SlI X X.heap.size al (intsN L)) => own_any al cl (intsN L) X h (by rw [intsN_len]; have := Hlen.out; omega))
              simp only [intsN_len] at HOwn
              clear hQ hs2 hfc hbit
              refine region_M 20 (fun W : World => W.cell? ⟨b, off + k, none⟩ = some (.int .i64 (f : Int))) (by kernel_rfl) ?_
              rw [← hx0]
              clear hx0
              refine anyM_take (i := 0) (v := .slice (some ⟨b, off, none⟩) ns.length cf) [15, 16, 17, 19, 20] rfl (by kernel_rfl) (fun _ _ _ h => h) (Or.inl ⟨by rfl, fun W hW => by (clear hW; go_simp)⟩) Hx0.out ?_
              refine anyM_take (i := 1) (v := .slice al L.length cl) [2, 8, 15, 16, 17, 19, 20] rfl (by kernel_rfl) (fun _ _ _ h => h) (Or.inl ⟨by rfl, fun W hW => by (clear hW; go_simp)⟩) Hx0.out ?_
              refine anyM_take (i := 3) (v := .slice (some ⟨b, off, none⟩) ns.length cf) [5, 6, 7, 8, 15, 16, 17, 19, 20] rfl (by kernel_rfl) (fun _ _ _ h => h) (Or.inl ⟨by rfl, fun W hW => by (clear hW; go_simp)⟩) Hx0.out ?_
              refine anyM_take (i := 4) (v := .int .i64 (k : Int)) [5, 6, 7, 8, 15, 16, 17, 19, 20] rfl (by kernel_rfl) (fun _ _ _ h => h) (Or.inl ⟨by rfl, fun W hW => by (clear hW; go_simp)⟩) Hx0.out ?_
              refine anyM_take (i := 5) (v := .pointer (some ⟨b, off + k, none⟩)) [6, 7, 8, 15, 16, 17, 19, 20] rfl (by kernel_rfl) (fun _ _ _ h => h) (Or.inl ⟨by rfl, fun W hW => by (clear hW; go_simp)⟩) Hx0.out ?_
              refine anyM_take (i := 6) (v := .int .i64 (f : Int)) [7, 8, 15, 16, 17, 19, 20] rfl (by kernel_rfl) (fun _ _ _ h => h) (Or.inl ⟨by rfl, fun W hW => by go_simp⟩) Hx0.out ?_
              refine anyM_take (i := 9) (v := .int .i64 (set : Int)) [13, 15, 16, 17, 19, 20] rfl (by kernel_rfl) (fun _ _ _ h => h) (Or.inl ⟨by rfl, fun W hW => by (clear hW; go_simp)⟩) Hx0.out ?_
              refine anyM_take (i := 10) (v := .int .i64 (k : Int)) [11, 12, 13, 15, 16, 17, 19, 20] rfl (by kernel_rfl) (fun _ _ _ h => h) (Or.inl ⟨by rfl, fun W hW => by (clear hW; go_simp)⟩) Hx0.out ?_
              refine anyM_take (i := 11) (v := .int .u64 (k : Int)) [12, 13, 15, 16, 17, 19, 20] rfl (by kernel_rfl) (fun _ _ _ h => h) (Or.inl ⟨by rfl, fun W hW => by (clear hW; go_simp)⟩) Hx0.out ?_
              refine anyM_take (i := 12) (v := .int .i64 (Q : Int)) [13, 15, 16, 17, 19, 20] rfl (by kernel_rfl) (fun _ _ _ h => h) (Or.inl ⟨by rfl, fun W hW => by (clear hW; go_simp)⟩) Hx0.out ?_
              refine anyM_take (i := 13) (v := .int .i64 (s2 : Int)) [15, 16, 17, 19, 20] rfl (by kernel_rfl) (fun _ _ _ h => h) (Or.inl ⟨by rfl, fun W hW => by (clear hW; go_simp)⟩) Hx0.out ?_
              refine anyM_take (i := 14) (v := .slice (some ⟨g, 0, none⟩) N2 cg) [15, 16, 17, 19, 20] rfl (by kernel_rfl) (fun _ _ _ h => h) (Or.inl ⟨by rfl, fun W hW => by (clear hW; go_simp)⟩) Hx0.out ?_
              refine anyM_ready (rs := [2, 7]) (by kernel_rfl) (by simp) ?_
              refine AllM.cons rfl (fun K hK => ?ordA) (AllM.cons rfl (fun K hK => ?ordB) AllM.nil)
              case' ordA =>
                go_simp
                go_at_call 130
                refine (HOwn.out x0 HxL.out).mono ?_
                rintro e x1 ⟨v1, rfl, hr1⟩
                have Hc1 := hid ((hr1.2.cell (p := ⟨b, off + k, none⟩) (Nat.lt_of_lt_of_le hbw2 HB0.out.size)).trans Hx0.out)
                refine hK.out _ _ (fun _ => Hc1.out) ?_
                clear hK K
                obtain ⟨X, hX⟩ : ∃ X, X = x1.alloc (.cells #[.int .i64 (f : Int)] 2) := ⟨_, rfl⟩
                have hbl : Below x1.heap.size x1 X := by rw [hX]; exact (Below.refl _ _).alloc (Nat.le_refl _) _
                have HcX := hid ((hbl.cell (p := ⟨b, off + k, none⟩) (Nat.lt_of_lt_of_le (Nat.lt_of_lt_of_le hbw2 HB0.out.size) hr1.2.size)).trans Hc1.out)
                have HOX := KeptQ.mk (show X.ownsRow x0.heap.size 2 1 v1 L.length ((intsN L).map (Value.int .i64)) by rw [hX]; have := hr1.1.alloc (.cells #[.int .i64 (f : Int)] 2); rwa [intsN_len] at this)
                have HBX := KeptQ.mk ((HB0.out.trans (hr1.2.mono HB0.out.size)).trans (hbl.mono (Nat.le_trans HB0.out.size hr1.2.size)))
                have HXs := KeptQ.mk (show x0.heap.size ≤ X.heap.size from Nat.le_trans hr1.2.size hbl.size)
                have HNX := KeptQ.mk (show X.cell? ⟨x1.heap.size, 0, none⟩ = some (.int .i64 (f : Int)) by rw [hX]; exact (box_cell (heap_alloc_new x1 _)).1)
                clear hr1 hbl
                refine anyM_ready (rs := [7]) (by kernel_rfl) (by simp) ?_
                refine AllM.cons rfl (fun K hK => ?_) AllM.nil
                go_simp
                rw [← hX]
                refine hK.out _ _ (fun _ => HcX.out) ?_
                clear hK K hX
                obtain ⟨bp, hbp⟩ : ∃ bp, bp = x1.heap.size := ⟨_, rfl⟩
                rw [← hbp] at HNX ⊢
                clear hbp
              case' ordB =>
                go_simp
                obtain ⟨x1, hx1⟩ : ∃ X, X = x0.alloc (.cells #[.int .i64 (f : Int)] 2) := ⟨_, rfl⟩
                have hbl : Below x0.heap.size x0 x1 := by rw [hx1]; exact (Below.refl _ _).alloc (Nat.le_refl _) _
                have Hc1 := hid ((hbl.cell (p := ⟨b, off + k, none⟩) (Nat.lt_of_lt_of_le hbw2 HB0.out.size)).trans Hx0.out)
                have HN1 := KeptQ.mk (show x1.heap[x0.heap.size]? = some (.cells #[.int .i64 (f : Int)] 2 (0, 0)) by rw [hx1]; exact heap_alloc_new x0 _)
                have HB1 := KeptQ.mk (HB0.out.trans (hbl.mono HB0.out.size))
                have Hl1 := KeptQ.mk (show x0.heap.size ≤ x1.heap.size from hbl.size)
                have HxL1 := KeptQ.mk (HxL.out.later hbl hbl.size)
                rw [← hx1]
                clear hx1 hbl
                refine hK.out _ _ (fun _ => Hc1.out) ?_
                clear hK K
                refine anyM_ready (rs := [2]) (by kernel_rfl) (by simp) ?_
                refine AllM.cons rfl (fun K hK => ?_) AllM.nil
                go_simp
                go_at_call 130
                refine (HOwn.out x1 HxL1.out).mono ?_
                rintro e X ⟨v1, rfl, hr1⟩
                have HcX := hid ((hr1.2.cell (p := ⟨b, off + k, none⟩) (Nat.lt_of_lt_of_le (Nat.lt_of_lt_of_le hbw2 HB0.out.size) Hl1.out)).trans Hc1.out)
                have HOX := KeptQ.mk (show X.ownsRow x0.heap.size 2 1 v1 L.length ((intsN L).map (Value.int .i64)) by have := ownsRow_base hr1.1 Hl1.out; rwa [intsN_len] at this)
                have HBX := KeptQ.mk (HB1.out.trans (hr1.2.mono HB1.out.size))
                have HXs := KeptQ.mk (show x0.heap.size ≤ X.heap.size from Nat.le_trans Hl1.out hr1.2.size)
                have HNX := KeptQ.mk ((box_cell ((hr1.2.block _ (lt_of_get HN1.out)).trans HN1.out)).1)
                clear hr1
                refine hK.out _ _ (fun _ => HcX.out) ?_
                clear hK K
                obtain ⟨bp, hbp⟩ : ∃ bp, bp = x0.heap.size := ⟨_, rfl⟩
                have hbp2 := hbp
                rw [← hbp] at HNX ⊢
                clear hbp hbp2
              all_goals
                have HX0 := KeptQ.mk HBX.out.size
                have hb0 : wr.heap.size ≤ x0.heap.size := HB0.out.size
                obtain ⟨v3, x3, hr3, hown3, hg3⟩ := append_runI (base := x0.heap.size) (xs := intsN L) (by rw [intsN_len]; exact HOX.out) HXs.out (by rw [intsN_len]; have := Hlen.out; omega) HNX.out
                rw [intsN_len] at hown3
                obtain ⟨g3, c3, rfl⟩ := ownsRow_succ hown3
                have hB3 : Below wr.heap.size wr x3 := HBX.out.grown hg3 HX0.out (fun q hq => by have := (HOX.out.lt q hq).1; omega)
                have HB3 := KeptQ.mk hB3
                have hgw : g < wr.heap.size := HDx.out.lt
                have HL3 := KeptQ.mk (show SlX x3 g (some ⟨g3, 0, none⟩) (intsN (L ++ [f])) from SlX.new (base := x0.heap.size) (c := c3) (by rw [intsN_len, intsN_snoc]; simpa using hown3) (by omega))
                have HF3 := KeptQ.mk ((HF.out.kept HG.out).kept (grown_of hB3 _))
                have hBx0 : B ≤ x0.heap.size := Nat.le_trans HBw.out (Nat.le_trans HG.out.size hb0)
                have HO3 := KeptQ.mk (show x3.ownsRow B 2 1 (.slice (some ⟨g3, 0, none⟩) (L ++ [f]).length c3) (L ++ [f]).length ((intsN (L ++ [f])).map (Value.int .i64)) by rw [intsN_snoc]; simpa using ownsRow_base hown3 hBx0)
                have HB33 := KeptQ.mk (show B ≤ x3.heap.size from Nat.le_trans hBx0 (Nat.le_trans HXs.out hg3.size))
                have HD3 := KeptQ.mk (HDx.out.kept hB3)
                have Hc3 := hid ((hB3.cell (p := ⟨b, off + k, none⟩) hbw2).trans (show wr.cell? ⟨b, off + k, none⟩ = some (.int .i64 (f : Int)) from (HB0.out.cell (p := ⟨b, off + k, none⟩) hbw2).symm.trans Hx0.out))
                clear hown3 hg3 hB3 hBx0
                refine anyM_ready (rs := [8]) (by kernel_rfl) (by simp) ?_
                refine AllM.cons rfl (fun K hK => ?_) AllM.nil
                refine step_app_I (s := .tmp 51) (y := .tmp 56) rfl rfl rfl rfl hr3 ?_
                refine hK.out _ _ (fun _ => Hc3.out) ?_
                clear hK K hr3
                have HRec := Hih.out (L ++ [f]) s2 d2 x3 (some ⟨b, off, none⟩) (some ⟨g3, 0, none⟩) cf c3 g cg HSt.out HF3.out HO3.out HL3.out HB33.out HD3.out
                simp only [List.length_append, List.length_cons, List.length_nil, Nat.zero_add] at HRec
                rw [← HN2.out] at HRec
                have HRecK := KeptQ.mk HRec
                clear HRec
                refine anyM_ready (rs := [15]) (by kernel_rfl) (by simp) ?_
                refine AllM.cons rfl (fun K hK => ?_) AllM.nil
                go_simp
                go_at_call 65
                refine HRecK.out.mono ?_
                rintro e x4 ⟨v4, b4, rfl, hR4⟩
                have HR4 := KeptQ.mk hR4
                have Hc4 := hid ((World.cell?_of_block (hR4.grown.block b (Nat.lt_of_lt_of_le hbw2 HB3.out.size) (fun e => hbg (by injection e)))).trans Hc3.out)
                clear hR4 HRecK
                refine hK.out _ _ (fun _ => Hc4.out) ?_
                clear hK K
                refine anyM_take (i := 16) (v := .tuple #[v4, .bool b4]) [17, 19, 20] rfl (by kernel_rfl) (fun _ _ _ h => h) (Or.inl ⟨by rfl, fun W hW => by (clear hW; go_simp)⟩) Hc4.out ?_
                refine anyM_take (i := 17) (v := v4) [19, 20] rfl (by kernel_rfl) (fun _ _ _ h => h) (Or.inl ⟨by rfl, fun W hW => by (clear hW; go_simp)⟩) Hc4.out ?_
                refine anyM_take (i := 18) (v := .bool b4) [20] rfl (by kernel_rfl) (fun _ _ _ h => h) (Or.inl ⟨by rfl, fun W hW => by (clear hW; go_simp)⟩) Hc4.out ?_
                refine anyM_take (i := 19) (v := v4) [20] rfl (by kernel_rfl) (fun _ _ _ h => h) (Or.inl ⟨by rfl, fun W hW => by (clear hW; go_simp)⟩) Hc4.out ?_
                refine anyM_ready (rs := [20]) (by kernel_rfl) (by simp) ?_
                refine AllM.cons rfl (fun K hK => ?_) AllM.nil
                go_simp
                refine hK.out _ _ (fun h => absurd rfl h) ?_
                clear hK K
                refine anyM_done (by kernel_rfl) ?_ _
                cases b4
                · obtain ⟨e1, e2, e3⟩ := findR_no HE.out HG.out HB3.out HR4.out
                  have E1 := KeptQ.mk e1
                  have E2 := KeptQ.mk e2
                  have E3 := KeptQ.mk e3
                  obtain ⟨d3, hd3⟩ : ∃ d3, d3 = (srch ns gdS d (L ++ [f]) s2 d2).2 := ⟨_, rfl⟩
                  rw [← hd3] at E1 E2
                  clear e1 e2 e3 hd3 HR4
                  go_wp2_with fail
                  go_roundw
                  all_goals first
                    | exact ⟨⟨k + 1, d3, by omega, by go_num, E1, E2, E3⟩, by simp [intOf]; omega⟩
                    | (case rel => exact ⟨k + 1, d3, by omega, by go_num, E1, E2, E3⟩)
                    | (simp [intOf]; omega)
                · have HFin := KeptQ.mk (findR_up Hdd.out hlt HE.out HG.out HB3.out HR4.out)
                  clear HR4
                  go_wp2_with fail
                  go_ret2
                  exact ⟨_, _, rfl, HFin.out⟩
        · obtain rfl : k = ns.length := by omega
          have e := srch_none Hdd.out HLp.out
          obtain ⟨hq, hqf⟩ := HDx.out.cell (s := set) (by rw [← HN2.out]; exact hset)
          obtain ⟨hput, hgr⟩ := HDx.out.put (s := set) (by rw [← HN2.out]; exact hset)
          have HR := KeptQ.mk (show FindR B ns (d + 1) L set dd g w (.slice none 0 0) false (wr.setCell ⟨g, set, none⟩ (.bool true)) from ⟨by rw [e]; rfl, by rw [e]; exact hput, HG.out.trans hgr, fun x hx => by rw [e] at hx; cases hx⟩)
          clear e hput hgr
          go_wp2_with fail
          go_ret2
          exact ⟨_, _, rfl, HR.out⟩

end Go.Proofs.Ytbhdipljhelddaa

/-! Pairs compared. -/
namespace Go.Proofs.Ytbhdipljhelddaa
open Go.RowKit

/-- A pair comes ahead of another one. -/
def lessP (x y x' y' : Int) : Bool := decide (x < x') || (decide (x = x') && decide (y < y'))

set_option maxRecDepth 100000 in
set_option maxHeartbeats 1000000 in
theorem less_any (x y x' y' : Int) (w : World) :
    Calls Try.prog 114 #[.agg #[.int .i64 x, .int .i64 y], .agg #[.int .i64 x', .int .i64 y']] w fun e w' => e = .returned (.bool (lessP x y x' y')) ∧ Below w.heap.size w w' := by
  have HB : Hid (Below w.heap.size w ((w.alloc (.cells #[.int .i64 x, .int .i64 y] 65)).alloc (.cells #[.int .i64 x', .int .i64 y'] 65))) := hid (((Below.refl _ w).alloc (Nat.le_refl _) _).alloc (by simp) _)
  by_cases h1 : x < x'
  · have hd : decide (x < x') = true := decide_eq_true h1
    have He : Hid (lessP x y x' y' = true) := hid (by unfold lessP; simp [h1])
    clear h1
    go_enter Try.func114, Try.ntmps114
    go_wp2
    go_ret
    exact ⟨ret_bool He.out.symm, HB.out⟩
  · have hd : decide (x < x') = false := decide_eq_false h1
    by_cases h2 : x = x'
    · have hd2 : (x == x') = true := by simp [h2]
      have He : Hid (lessP x y x' y' = decide (y < y')) := hid (by unfold lessP; simp [h2])
      clear h1 h2
      go_enter Try.func114, Try.ntmps114
      go_wp2
      go_ret
      exact ⟨ret_bool He.out.symm, HB.out⟩
    · have hd2 : (x == x') = false := by simp [h2]
      have He : Hid (lessP x y x' y' = false) := hid (by unfold lessP; simp [h1, h2])
      clear h1 h2
      go_enter Try.func114, Try.ntmps114
      go_wp2
      go_ret
      exact ⟨ret_bool He.out.symm, HB.out⟩

/-- -1, 0 or 1. -/
def cmpI (x y : Int) : Int := if x < y then -1 else if y < x then 1 else 0

set_option maxRecDepth 100000 in
set_option maxHeartbeats 1000000 in
theorem nan_any (x : Int) (w : World) : Calls Try.prog 180 #[.int .i64 x] w fun e w' => e = .returned (.bool false) ∧ w = w' := by
  have hne : (x != x) = false := by simp
  go_enter Try.func180, Try.ntmps180
  go_wp2
  go_ret
  exact ⟨rfl, rfl⟩

set_option maxRecDepth 100000 in
set_option maxHeartbeats 1000000 in
theorem cmp_any (x y : Int) (w : World) : Calls Try.prog 123 #[.int .i64 x, .int .i64 y] w fun e w' => e = .returned (.int .i64 (cmpI x y)) ∧ w = w' := by
  by_cases h1 : x < y
  · have hd : decide (x < y) = true := decide_eq_true h1
    have He : Hid (cmpI x y = -1) := hid (by unfold cmpI; simp [h1])
    clear h1
    go_enter Try.func123, Try.ntmps123
    go_wp2_with (go_at_call 180; refine (nan_any _ _).mono ?_; rintro e w' ⟨rfl, rfl⟩)
    go_ret
    exact ⟨ret_int He.out.symm, rfl⟩
  · have hd : decide (x < y) = false := decide_eq_false h1
    by_cases h2 : y < x
    · have hd2 : decide (y < x) = true := decide_eq_true h2
      have He : Hid (cmpI x y = 1) := hid (by unfold cmpI; simp [h1, h2])
      clear h1 h2
      go_enter Try.func123, Try.ntmps123
      go_wp2_with (go_at_call 180; refine (nan_any _ _).mono ?_; rintro e w' ⟨rfl, rfl⟩)
      go_ret
      exact ⟨ret_int He.out.symm, rfl⟩
    · have hd2 : decide (y < x) = false := decide_eq_false h2
      have He : Hid (cmpI x y = 0) := hid (by unfold cmpI; simp [h1, h2])
      clear h1 h2
      go_enter Try.func123, Try.ntmps123
      go_wp2_with (go_at_call 180; refine (nan_any _ _).mono ?_; rintro e w' ⟨rfl, rfl⟩)
      go_ret
      exact ⟨ret_int He.out.symm, rfl⟩

/-- The first of two that is not 0. -/
def orI (u v : Int) : Int := if u = 0 then v else u

theorem two_new (W : World) (H : Nat) (hH : W.heap.size = H) (u v : Value) (t : Nat) : (W.alloc (.cells #[u, v] t)).cell? ⟨H, 0, none⟩ = some u ∧ (W.alloc (.cells #[u, v] t)).cell? ⟨H, 1, none⟩ = some v := by
  subst hH
  constructor <;> simp [go_sem]

theorem two_new_d (W : World) (H : Nat) (hH : W.heap.size = H) (u v : Value) (t : Nat) : (W.alloc (.cells #[u, v] t)).drew.cell? ⟨H, 0, none⟩ = some u ∧ (W.alloc (.cells #[u, v] t)).drew.cell? ⟨H, 1, none⟩ = some v := two_new W H hH u v t

set_option maxRecDepth 100000 in
set_option maxHeartbeats 1000000 in
theorem or_any (u v : Int) (b : Nat) (w : World) (h0 : w.cell? ⟨b, 0, none⟩ = some (.int .i64 u)) (h1 : w.cell? ⟨b, 1, none⟩ = some (.int .i64 v)) :
    Calls Try.prog 122 #[.slice (some ⟨b, 0, none⟩) 2 2] w fun e w' => e = .returned (.int .i64 (orI u v)) ∧ w = w' := by
  by_cases hu : u = 0
  · have hd : (u != 0) = false := by simp [hu]
    by_cases hv : v = 0
    · have hd2 : (v != 0) = false := by simp [hv]
      have He : Hid (orI u v = 0) := hid (by unfold orI; rw [if_pos hu, hv])
      clear hu hv
      go_enter Try.func122, Try.ntmps122
      go_wp2
      refine wp_loop_rounds 3 ?_; rw [rounds_succ]
      go_wp2
      rw [rounds_succ]
      go_wp2
      rw [rounds_succ]
      go_wp2
      go_ret
      exact ⟨ret_int He.out.symm, rfl⟩
    · have hd2 : (v != 0) = true := by simp [hv]
      have He : Hid (orI u v = v) := hid (by unfold orI; rw [if_pos hu])
      clear hu hv
      go_enter Try.func122, Try.ntmps122
      go_wp2
      refine wp_loop_rounds 3 ?_; rw [rounds_succ]
      go_wp2
      rw [rounds_succ]
      go_wp2
      go_ret
      exact ⟨ret_int He.out.symm, rfl⟩
  · have hd : (u != 0) = true := by simp [hu]
    have He : Hid (orI u v = u) := hid (by unfold orI; rw [if_neg hu])
    clear hu
    go_enter Try.func122, Try.ntmps122
    go_wp2
    refine wp_loop_rounds 3 ?_; rw [rounds_succ]
    go_wp2
    go_ret
    exact ⟨ret_int He.out.symm, rfl⟩

/-- What comparePairs hands back. -/
def cmpP (x y x' y' : Int) : Int := orI (cmpI x x') (cmpI y y')

theorem cmpP_neg (x y x' y' : Int) : cmpP x y x' y' < 0 ↔ lessP x y x' y' = true := by
  unfold cmpP orI cmpI lessP
  simp only [Bool.or_eq_true, Bool.and_eq_true, decide_eq_true_eq]
  repeat' split
  all_goals omega

set_option maxRecDepth 100000 in
set_option maxHeartbeats 1000000 in
theorem cp_any (x y x' y' : Int) (w : World) :
    Calls Try.prog 59 #[.agg #[.int .i64 x, .int .i64 y], .agg #[.int .i64 x', .int .i64 y']] w fun e w' => e = .returned (.int .i64 (cmpP x y x' y')) ∧ Below w.heap.size w w' := by
  go_enter Try.func59, Try.ntmps59
  go_wp2
  have q0 : ((w.alloc (.cells #[.int .i64 x, .int .i64 y] 65)).alloc (.cells #[.int .i64 x', .int .i64 y'] 65)).cell? ⟨w.heap.size, 0, none⟩ = some (.int .i64 x) := by simp [go_sem]
  have q1 : ((w.alloc (.cells #[.int .i64 x, .int .i64 y] 65)).alloc (.cells #[.int .i64 x', .int .i64 y'] 65)).cell? ⟨w.heap.size, 1, none⟩ = some (.int .i64 y) := by simp [go_sem]
  have q2 : ((w.alloc (.cells #[.int .i64 x, .int .i64 y] 65)).alloc (.cells #[.int .i64 x', .int .i64 y'] 65)).cell? ⟨w.heap.size + 1, 0, none⟩ = some (.int .i64 x') := by simp [go_sem]
  have q3 : ((w.alloc (.cells #[.int .i64 x, .int .i64 y] 65)).alloc (.cells #[.int .i64 x', .int .i64 y'] 65)).cell? ⟨w.heap.size + 1, 1, none⟩ = some (.int .i64 y') := by simp [go_sem]
  have hsz : ((w.alloc (.cells #[.int .i64 x, .int .i64 y] 65)).alloc (.cells #[.int .i64 x', .int .i64 y'] 65)).heap.size = w.heap.size + 1 + 1 := by simp
  have HB : Hid (Below w.heap.size w ((w.alloc (.cells #[.int .i64 x, .int .i64 y] 65)).alloc (.cells #[.int .i64 x', .int .i64 y'] 65))) := hid (((Below.refl _ w).alloc (Nat.le_refl _) _).alloc (by simp) _)
  obtain ⟨W, hW⟩ : ∃ W, W = (w.alloc (.cells #[.int .i64 x, .int .i64 y] 65)).alloc (.cells #[.int .i64 x', .int .i64 y'] 65) := ⟨_, rfl⟩
  rw [← hW] at q0 q1 q2 q3 hsz HB ⊢
  clear hW
  go_region_held3 (fun w' => w'.cell? ⟨w.heap.size, 0, none⟩ = some (.int .i64 x) ∧ w'.cell? ⟨w.heap.size, 1, none⟩ = some (.int .i64 y) ∧ w'.cell? ⟨w.heap.size + 1, 0, none⟩ = some (.int .i64 x') ∧ w'.cell? ⟨w.heap.size + 1, 1, none⟩ = some (.int .i64 y')) (go_keep) (first
    | (go_at_call 123; refine (cmp_any _ _ _).mono ?_; rintro e w' ⟨rfl, rfl⟩)
    | (go_at_call 122; refine (or_any (cmpI x x') (cmpI y y') _ _ (two_new_d W _ hsz _ _ _).1 (two_new_d W _ hsz _ _ _).2).mono ?_; rintro e w' ⟨rfl, rfl⟩))
  all_goals
    go_wp2_with fail
    go_ret
    exact ⟨rfl, HB.out.trans (Below.mono (w := W) (((Below.refl _ W).alloc (Nat.le_refl _) _).drew) HB.out.size)⟩

end Go.Proofs.Ytbhdipljhelddaa

/-! slices.IsSortedFunc on a list of pairs. -/
namespace Go.Proofs.Ytbhdipljhelddaa
open Go.RowKit

/-- The number at a place. -/
def at0 (ps : List Int) (i : Nat) : Int := ps[i]?.getD 0

/-- No pair comes ahead of the one before it, from place k on. -/
def NoDrop (ps : List Int) (n k : Nat) : Prop := ∀ j, k ≤ j → 1 ≤ j → j < n → lessP (at0 ps (j * 2)) (at0 ps (j * 2 + 1)) (at0 ps ((j - 1) * 2)) (at0 ps ((j - 1) * 2 + 1)) = false

noncomputable def noDropB (ps : List Int) (n : Nat) : Bool := @decide (NoDrop ps n 1) (Classical.propDecidable _)
theorem noDropB_true {ps : List Int} {n : Nat} (h : NoDrop ps n 1) : noDropB ps n = true := by unfold noDropB; exact @decide_eq_true _ (Classical.propDecidable _) h
theorem noDropB_false {ps : List Int} {n : Nat} (h : ¬ NoDrop ps n 1) : noDropB ps n = false := by unfold noDropB; exact @decide_eq_false _ (Classical.propDecidable _) h

set_option maxRecDepth 100000 in
set_option maxHeartbeats 2000000 in
theorem sorted_any (a : Option Addr) (n cap : Nat) (ps : List Int) (w : World) (hx : SlI w w.heap.size a ps) (hp : ps.length = 2 * n) (hl : n ≤ 1048576) :
    Calls Try.prog 221 #[.slice a n cap, .func (.func 59) #[] #[]] w fun e w' => e = .returned (.bool (noDropB ps n)) ∧ Below w.heap.size w w' := by
  have hent : ∀ args w, (callFunc 59 args).run Try.prog w = .ok (.enter 59 args) w := enters_of Try.func59 (by kernel_rfl) rfl
  by_cases hn : n ≤ 1
  · have He : Hid (noDropB ps n = true) := hid (noDropB_true (fun j h1 h2 h3 => by omega))
    clear hx hp
    have h0 : n = 0 ∨ n = 1 := by omega
    rcases h0 with rfl | rfl
    · go_enter Try.func221, Try.ntmps221
      go_wp2
      refine wp_loop_rounds 1 ?_; rw [rounds_succ]
      go_wp2
      go_ret
      exact ⟨ret_bool He.out.symm, Below.refl _ _⟩
    · go_enter Try.func221, Try.ntmps221
      go_wp2
      refine wp_loop_rounds 1 ?_; rw [rounds_succ]
      go_wp2
      go_ret
      exact ⟨ret_bool He.out.symm, Below.refl _ _⟩
  · obtain ⟨b, off, hb, rfl, hc⟩ : ∃ b off, b < w.heap.size ∧ a = some ⟨b, off, none⟩ ∧ ∀ i, i < ps.length → w.cell? ⟨b, off + i, none⟩ = some (.int .i64 (ps[i]?.getD 0)) := by
      rcases hx with rfl | h
      · simp at hp; omega
      · exact h
    have Hc := hid hc
    have Hp := hid hp
    clear hc hx hp
    go_enter Try.func221, Try.ntmps221
    go_wp2
    go_loopw [5] (fun i wr => ∃ k : Nat, k < n ∧ i = .int .i64 k ∧ Hid (NoDrop ps n (k + 1)) ∧ Below w.heap.size w wr) (fun i _ => (intOf i).toNat)
    case atStart => exact ⟨n - 1, by omega, by go_num, hid (fun j h1 h2 h3 => by omega), Below.refl _ _⟩
    case round =>
      obtain ⟨k, hk, rfl, Hk, hB⟩ := hrel
      by_cases hlt : 0 < k
      · obtain ⟨m, rfl⟩ : ∃ m : Nat, k = m + 1 := ⟨k - 1, by omega⟩
        have c0 : wr.cell? ⟨b, off + (m + 1) * 2, none⟩ = some (.int .i64 (at0 ps ((m + 1) * 2))) := (hB.cell (p := ⟨b, off + (m + 1) * 2, none⟩) hb).trans (Hc.out _ (by have := Hp.out; omega))
        have c1 : wr.cell? ⟨b, off + (m + 1) * 2 + 1, none⟩ = some (.int .i64 (at0 ps ((m + 1) * 2 + 1))) := (hB.cell (p := ⟨b, off + ((m + 1) * 2 + 1), none⟩) hb).trans (Hc.out _ (by have := Hp.out; omega))
        have d0 : wr.cell? ⟨b, off + m * 2, none⟩ = some (.int .i64 (at0 ps (m * 2))) := (hB.cell (p := ⟨b, off + m * 2, none⟩) hb).trans (Hc.out _ (by have := Hp.out; omega))
        have d1 : wr.cell? ⟨b, off + m * 2 + 1, none⟩ = some (.int .i64 (at0 ps (m * 2 + 1))) := (hB.cell (p := ⟨b, off + (m * 2 + 1), none⟩) hb).trans (Hc.out _ (by have := Hp.out; omega))
        obtain ⟨x, hx⟩ : ∃ x, x = at0 ps ((m + 1) * 2) := ⟨_, rfl⟩
        obtain ⟨y, hy⟩ : ∃ y, y = at0 ps ((m + 1) * 2 + 1) := ⟨_, rfl⟩
        obtain ⟨x', hx'⟩ : ∃ x, x = at0 ps (m * 2) := ⟨_, rfl⟩
        obtain ⟨y', hy'⟩ : ∃ y, y = at0 ps (m * 2 + 1) := ⟨_, rfl⟩
        rw [← hx] at c0
        rw [← hy] at c1
        rw [← hx'] at d0
        rw [← hy'] at d1
        have Hstep : Hid (∀ c, lessP x y x' y' = c → (c = false → NoDrop ps n (m + 1)) ∧ (c = true → ¬ NoDrop ps n 1)) := hid (fun c hc => by
          refine ⟨fun h0 j h1 h2 h3 => ?_, fun h0 hno => ?_⟩
          · by_cases hj : j = m + 1
            · subst hj
              rw [Nat.add_sub_cancel, ← hx, ← hy, ← hx', ← hy', hc, h0]
            · exact Hk.out j (by omega) h2 h3
          · have := hno (m + 1) (by omega) (by omega) hk
            rw [Nat.add_sub_cancel, ← hx, ← hy, ← hx', ← hy', hc, h0] at this
            cases this)
        have Hneg := hid (cmpP_neg x y x' y')
        obtain ⟨q, hq⟩ : ∃ q, q = cmpP x y x' y' := ⟨_, rfl⟩
        have Hq := hid hq
        rw [← hq] at Hneg
        have hi0 : (0 : Int) ≤ (m : Int) := by omega
        have hi1 : (m : Int) < (n : Int) := by omega
        have hi2 : (m : Int) + 1 < (n : Int) := by omega
        have hi3 : (0 : Int) ≤ (m : Int) + 1 := by omega
        have hw1 : IntKind.i64.wrap (m : Int) = m := by rw [IntKind.wrap_i64]; omega
        have hw2 : IntKind.i64.wrap ((m : Int) + 1 - 1) = m := by rw [show (m : Int) + 1 - 1 = m by omega]; exact hw1
        have hw3 : wrap64 (m : Int) = m := IntWalk.wrap64_in _ ⟨by omega, by omega⟩
        have HB := hid hB
        clear hx hy hx' hy' hq hB Hk
        go_wp2_with fail
        go_region_with (go_at_call 59; refine (cp_any x y x' y' _).mono ?_; rintro e w2 ⟨rfl, hB2⟩; rw [← Hq.out])
        all_goals
          have HB2 := hid (HB.out.trans (Below.mono (w := wr) ⟨hB2.os, hB2.tape, hB2.output, hB2.size, hB2.block⟩ HB.out.size))
          clear hB2
          by_cases hql : q < 0
          · have He : Hid (noDropB ps n = false) := hid (noDropB_false ((Hstep.out true (Hneg.out.1 hql)).2 rfl))
            go_wp2_with fail
            go_ret
            exact ⟨ret_bool He.out.symm, HB2.out⟩
          · have hq0 : 0 ≤ q := by omega
            have He : Hid (NoDrop ps n (m + 1)) := hid ((Hstep.out false (by
              cases hc : lessP x y x' y'
              · rfl
              · exact absurd (Hneg.out.2 hc) hql)).1 rfl)
            clear hql
            go_wp2_with fail
            go_roundw
            case rel => exact ⟨m, by omega, by go_num, He.out, HB2.out⟩
            case measure => simp [intOf] <;> omega
      · obtain rfl : k = 0 := by omega
        have He : Hid (noDropB ps n = true) := hid (noDropB_true (fun j h1 h2 h3 => Hk.out j (by omega) h2 h3))
        go_wp2
        go_ret
        exact ⟨ret_bool He.out.symm, hB⟩

end Go.Proofs.Ytbhdipljhelddaa

/-! l02High, l02Next: the steps from a face. -/
namespace Go.Proofs.Ytbhdipljhelddaa
open Go.RowKit

/-- The high face of the first pair with a low face; 0: there is none. -/
def highOf (ps : List Int) (n : Nat) (a : Int) : Int := match (List.range n).find? (fun i => decide (at0 ps (i * 2) = a)) with
  | some i => at0 ps (i * 2 + 1)
  | none => 0
theorem highOf_some {ps : List Int} {n i : Nat} {a : Int} (hi : i < n) (ha : at0 ps (i * 2) = a) (h : ∀ j, j < i → at0 ps (j * 2) ≠ a) : highOf ps n a = at0 ps (i * 2 + 1) := by
  have : (List.range n).find? (fun i => decide (at0 ps (i * 2) = a)) = some i := by
    rw [List.find?_range_eq_some]
    exact ⟨by simp [ha], by simpa using hi, fun j hj => by simpa using h j hj⟩
  unfold highOf
  rw [this]
theorem highOf_none {ps : List Int} {n : Nat} {a : Int} (h : ∀ j, j < n → at0 ps (j * 2) ≠ a) : highOf ps n a = 0 := by
  have : (List.range n).find? (fun i => decide (at0 ps (i * 2) = a)) = none := by
    rw [List.find?_eq_none]
    intro i hi
    simpa using h i (by simpa using hi)
  unfold highOf
  rw [this]
/-- The faces to which steps lead. -/
def nextL (ps : List Int) (n : Nat) (a : Int) : List Int := if highOf ps n a = 0 then [] else (belowR (highOf ps n a).toNat 63).filter fun y => decide (y ≠ a)
theorem nextL_len (ps : List Int) (n : Nat) (a : Int) : (nextL ps n a).length ≤ 63 := by
  unfold nextL
  split
  · simp
  · exact Nat.le_trans (List.length_filter_le _ _) (belowR_len _ _)

/-- 'append' of a number; where the row lies afterwards. -/
theorem append_int_at {w : World} {ops : Array Oper} {rest : List Oper} {o : Oper} {a : Act} {Q : Exit → Act → World → Prop} (hgd : o.guard = none) {s y : Operand}
    (ho : o.op = .call { callee := .builtin .append, args := #[s, y], argTypes := #[22, 22] })
    {base : Nat} {v : Value} {xs : List Int} {x : Int} (hown : w.ownsRow base 2 1 v xs.length (xs.map (Value.int .i64))) (hbase : base ≤ w.heap.size) (hl : xs.length ≤ 1099511627776)
    (hs : a.eval s = v) (hy : a.eval y = .slice (some ⟨w.heap.size, 0, none⟩) 1 1)
    (hK : ∀ v' w', w'.ownsRow base 2 1 v' (xs ++ [x]).length ((xs ++ [x]).map (Value.int .i64)) → w.grownBy w' v.ownBlock → (v'.ownBlock = v.ownBlock ∨ v'.ownBlock = some (w.heap.size + 1)) → Below base w w' → wpList Try.prog ops Q rest (a.put o.dst v') w') :
    wpList Try.prog ops Q (o :: rest) a (w.alloc (.cells #[.int .i64 x] 2)) := by
  obtain ⟨i0, hi, hz0, hz1, hz2⟩ := info_parts info_i64
  refine wpList_append_own_at _ hgd s y 22 ho base 2 i0 (.int .i64 0) 1 8 Try.underlying22 hi hz0 hz1 hz2 rfl (by decide) v _ _ hs (hown.alloc _) ⟨w.heap.size, 0, none⟩ 1 1 [.int .i64 x] hy rfl (cell_one_new _ _ _) (by simp [Value.oneCell']) (by unfold maxLen; omega) (by omega) (by simp; omega) ?_
  intro v' w1 hown1 hgrow1 _ hat
  have hg : w.grownBy w1 v.ownBlock := (World.grownBy_alloc w _ _).trans hgrow1
  exact hK v' w1 (by simpa using hown1) hg (by simpa using hat) ((Below.refl base w).grown hg hbase (fun k hk => (hown.lt k hk).1))

set_option maxRecDepth 100000 in
set_option maxHeartbeats 2000000 in
theorem high_any (a1 : Option Addr) (n cap : Nat) (ps : List Int) (a : Int) (w : World) (hx : SlI w w.heap.size a1 ps) (hp : ps.length = 2 * n) (hl : n ≤ 1048576) :
    Calls Try.prog 53 #[.slice a1 n cap, .int .i64 a] w fun e w' => e = .returned (.int .i64 (highOf ps n a)) ∧ w = w' := by
  obtain ⟨E, hE⟩ : ∃ E, E = highOf ps n a := ⟨_, rfl⟩
  have HE := hid hE
  rw [← hE]
  clear hE
  have Hx := hid hx
  have Hp := hid hp
  clear hx hp
  go_enter Try.func53, Try.ntmps53
  go_wp2
  go_loop [5] (fun i => ∃ k : Nat, k ≤ n ∧ i = .int .i64 k ∧ Hid (∀ j, j < k → at0 ps (j * 2) ≠ a)) (fun i => n - (intOf i).toNat)
  case atStart => exact ⟨0, Nat.zero_le _, rfl, hid (fun j hj => absurd hj (Nat.not_lt_zero _))⟩
  case round =>
    obtain ⟨k, hk, rfl, Hk⟩ := hrel
    by_cases hlt : k < n
    · obtain ⟨b, off, hb, rfl, hc⟩ : ∃ b off, b < w.heap.size ∧ a1 = some ⟨b, off, none⟩ ∧ ∀ i, i < ps.length → w.cell? ⟨b, off + i, none⟩ = some (.int .i64 (ps[i]?.getD 0)) := by
        rcases Hx.out with h | h
        · have := Hp.out; rw [h] at this; simp at this; omega
        · exact h
      have c0 : w.cell? ⟨b, off + k * 2, none⟩ = some (.int .i64 (at0 ps (k * 2))) := hc _ (by have := Hp.out; omega)
      have c1 : w.cell? ⟨b, off + k * 2 + 1, none⟩ = some (.int .i64 (at0 ps (k * 2 + 1))) := hc (k * 2 + 1) (by have := Hp.out; omega)
      obtain ⟨x, hx⟩ : ∃ x, x = at0 ps (k * 2) := ⟨_, rfl⟩
      obtain ⟨y, hy⟩ : ∃ y, y = at0 ps (k * 2 + 1) := ⟨_, rfl⟩
      rw [← hx] at c0
      rw [← hy] at c1
      have hi0 : (0 : Int) ≤ (k : Int) := by omega
      have hi1 : (k : Int) < (n : Int) := by omega
      clear hc
      by_cases hxa : x = a
      · have hd : (x == a) = true := by simp [hxa]
        have He : Hid (E = y) := hid (by rw [HE.out, hy]; exact highOf_some hlt (by rw [← hx, hxa]) Hk.out)
        clear hxa hx hy
        go_wp2
        go_ret
        exact ⟨ret_int (by rw [He.out]), rfl⟩
      · have hd : (x == a) = false := by simp [hxa]
        have He : Hid (∀ j, j < k + 1 → at0 ps (j * 2) ≠ a) := hid (fun j hj => by
          by_cases h : j = k
          · rw [h, ← hx]; exact hxa
          · exact Hk.out j (by omega))
        clear hxa hx hy
        go_wp2
        go_round
        case rel => exact ⟨k + 1, by omega, by go_num, He.out⟩
        case measure => simp [intOf]; omega
    · have He : Hid (E = 0) := hid (by rw [HE.out]; exact highOf_none (fun j hj => Hk.out j (by omega)))
      go_wp2
      go_ret
      exact ⟨ret_int (by rw [He.out]), rfl⟩

theorem owned_some {w : World} {base e size n : Nat} {v : Value} {xs : List Value} (h : w.ownsRow base e size v n xs) (hn : v.ownBlock ≠ none) : ∃ g cap, v = .slice (some ⟨g, 0, none⟩) n cap ∧ n ≤ cap := by
  rcases h.2 with ⟨rfl, _⟩ | ⟨g, cap, cur, rfl, _, _, h1, _⟩
  · exact absurd rfl hn
  · exact ⟨g, cap, rfl, h1⟩

set_option maxRecDepth 100000 in
set_option maxHeartbeats 2000000 in
theorem next_any (a1 : Option Addr) (n cap : Nat) (ps : List Int) (a : Int) (w : World) (hx : SlI w w.heap.size a1 ps) (hp : ps.length = 2 * n) (hl : n ≤ 1048576) (hh : 0 ≤ highOf ps n a ∧ highOf ps n a < 64) :
    Calls Try.prog 113 #[.slice a1 n cap, .int .i64 a] w fun e w' => ∃ g c, e = .returned (.slice (some ⟨g, 0, none⟩) (nextL ps n a).length c) ∧ Res w w' (.slice (some ⟨g, 0, none⟩) (nextL ps n a).length c) (nextL ps n a) := by
  have HI := hid (high_any a1 n cap ps a w hx hp hl)
  obtain ⟨f, hf⟩ : ∃ f : Nat, highOf ps n a = f := ⟨(highOf ps n a).toNat, by omega⟩
  have hN : nextL ps n a = if f = 0 then [] else (belowR f 63).filter fun y => decide (y ≠ a) := by
    unfold nextL
    rw [hf, Int.toNat_natCast]
    by_cases h : f = 0
    · rw [if_pos h, if_pos (by omega)]
    · rw [if_neg h, if_neg (by omega)]
  have hf64 : f < 64 := by omega
  rw [hf] at HI
  rw [hN]
  clear hx hp hh hN hf
  have Hown0 := hid (World.ownsRow_made (base := w.heap.size) (e := 2) (size := 1) w #[] 0 (Nat.le_refl _) (by simp [maxLen]) rfl)
  by_cases h0 : f = 0
  · subst h0
    rw [if_pos rfl]
    go_enter Try.func113, Try.ntmps113
    go_wp2_with (go_at_call 53; refine HI.out.mono ?_; rintro e w' ⟨rfl, rfl⟩)
    go_ret
    exact ⟨w.heap.size, 0, rfl, Hown0.out, (Below.refl _ w).alloc (Nat.le_refl _) _⟩
  · rw [if_neg h0]
    have hne : ((f : Int) == 0) = false := by simp; omega
    obtain ⟨ys, hys⟩ : ∃ ys, ys = belowR f 63 := ⟨_, rfl⟩
    have HB := hid (fun w => below_any f w hf64)
    have hyl : ys.length ≤ 63 := by rw [hys]; exact belowR_len _ _
    rw [← hys] at HB ⊢
    clear hys h0
    go_enter Try.func113, Try.ntmps113
    go_wp2_with (go_at_call 53; refine HI.out.mono ?_; rintro e w' ⟨rfl, rfl⟩)
    refine (HB.out _).mono ?_
    rintro e w2 ⟨v, rfl, hown2, hB2⟩
    obtain ⟨_, av, cv, rfl, hs⟩ := ownsRow_slI hown2
    have hown1 := ownsRow_below Hown0.out hB2 (fun g hg => (Hown0.out.lt g hg).2)
    have hB12 : Below w.heap.size w w2 := ((Below.refl _ w).alloc (Nat.le_refl _) _).trans (hB2.mono (by simp))
    have hb0 : ∀ b off, av = some ⟨b, off, none⟩ → w.heap.size + 1 ≤ b := fun b off h => by
      have := (hown2.lt b (by rw [h]; rfl)).1
      simpa using this
    have Hown1 := hid hown1
    have HB12 := hid hB12
    clear hown1 hB12 hown2 hB2
    rcases hs with rfl | ⟨b, off, hb, rfl, hc⟩
    · go_wp2_with fail
      refine wp_loop_rounds 1 ?_; rw [rounds_succ]
      go_wp2
      go_ret
      exact ⟨w.heap.size, 0, rfl, Hown1.out, HB12.out⟩
    · have hbw := hb0 b off rfl
      have Hc := hid hc
      clear hc hb0
      go_wp2_with fail
      go_loopw [6, 8] (fun v i wr => ∃ k : Nat, k ≤ ys.length ∧ i = .int .i64 k ∧ wr.ownsRow w.heap.size 2 1 v ((ys.take k).filter fun y => decide (y ≠ a)).length (((ys.take k).filter fun y => decide (y ≠ a)).map (Value.int .i64)) ∧ v.ownBlock ≠ none ∧ v.ownBlock ≠ some b ∧ Hid (b < wr.heap.size ∧ ∀ i, i < ys.length → wr.cell? ⟨b, off + i, none⟩ = some (.int .i64 (ys[i]?.getD 0))) ∧ Below w.heap.size w wr) (fun _ i _ => ys.length - (intOf i).toNat)
      case atStart => exact ⟨0, Nat.zero_le _, rfl, Hown1.out, by simp [Value.ownBlock], by simp [Value.ownBlock]; omega, hid ⟨hb, Hc.out⟩, HB12.out⟩
      case round =>
        obtain ⟨k, hk, rfl, hown, hnn, hne', HC, hB⟩ := hrel
        by_cases hlt : k < ys.length
        · obtain ⟨y, hy⟩ : ∃ y, y = ys[k]?.getD 0 := ⟨_, rfl⟩
          have hck : wr.cell? ⟨b, off + k, none⟩ = some (.int .i64 y) := by rw [hy]; exact HC.out.2 k hlt
          have Htk : Hid (ys.take (k + 1) = ys.take k ++ [y]) := hid (by rw [take_snoc hlt, hy])
          have hi0 : (0 : Int) ≤ (k : Int) := by omega
          have hi1 : (k : Int) < (ys.length : Int) := by omega
          have hfl : ((ys.take k).filter fun y => decide (y ≠ a)).length ≤ 1048576 := Nat.le_trans (List.length_filter_le _ _) (by simp; omega)
          have hsz := hB.size
          have HB' := hid hB
          have Hown := hid hown
          clear hy hown hB
          by_cases hya : y = a
          · have hd : (y != a) = false := by simp [hya]
            have He : Hid ((ys.take (k + 1)).filter (fun y => decide (y ≠ a)) = (ys.take k).filter (fun y => decide (y ≠ a))) := hid (by rw [Htk.out, List.filter_append]; simp [hya])
            clear hya
            go_wp2_with fail
            go_roundw
            case rel => exact ⟨k + 1, by omega, by go_num, by rw [He.out]; exact Hown.out, hnn, hne', HC, HB'.out⟩
            case measure => simp [intOf]; omega
          · have hd : (y != a) = true := by simp [hya]
            have He : Hid ((ys.take (k + 1)).filter (fun y => decide (y ≠ a)) = (ys.take k).filter (fun y => decide (y ≠ a)) ++ [y]) := hid (by rw [Htk.out, List.filter_append]; simp [hya])
            clear hya
            go_wp2_with (at_builtin; refine append_int_at rfl rfl Hown.out hsz (by omega) rfl rfl ?_; intro v' w4 hown4 hgrow4 hat4 hB4)
            go_roundw
            case rel =>
              have hbn := HC.out.1
              refine ⟨k + 1, by omega, by go_num, by rw [He.out]; exact hown4, ?_, ?_, hid ⟨Nat.lt_of_lt_of_le hbn hB4.size, fun i hi => ?_⟩, HB'.out.trans hB4⟩
              · rcases hat4 with h | h
                · rw [h]; exact hnn
                · rw [h]; intro e; cases e
              · rcases hat4 with h | h
                · rw [h]; exact hne'
                · rw [h]; intro e; injection e with e; omega
              · rw [hgrow4.cell_far _ hbn (fun e => hne' e.symm)]; exact HC.out.2 i hi
            case measure => simp [intOf]; omega
        · obtain rfl : k = ys.length := by omega
          rw [List.take_length] at hown
          have HB' := hid hB
          have Hown := hid hown
          clear hB hown
          go_wp2_with fail
          obtain ⟨g, c, rfl, _⟩ := owned_some Hown.out hnn
          go_ret
          exact ⟨g, c, rfl, Hown.out, HB'.out⟩

end Go.Proofs.Ytbhdipljhelddaa

/-! Gradient ways, the mathematics: what a search over the steps finds. -/
namespace Go.Proofs.Ytbhdipljhelddaa
open Go.RowKit

/-- A gradient way with at least one step. -/
inductive Way (ps : List Int) (n : Nat) (a : Int) : Int → Prop
  | one {y : Int} : y ∈ nextL ps n a → Way ps n a y
  | more {x y : Int} : Way ps n a x → y ∈ nextL ps n x → Way ps n a y

/-- All high faces are numbers below 64. -/
def HighsB (ps : List Int) (n : Nat) : Prop := ∀ a, 0 ≤ highOf ps n a ∧ highOf ps n a < 64
theorem next_range {ps : List Int} {n : Nat} (h : HighsB ps n) {a y : Int} (hy : y ∈ nextL ps n a) : 0 ≤ y ∧ y < 64 := by
  unfold nextL at hy
  split at hy
  · simp at hy
  · have hm := (List.mem_filter.1 hy).1
    obtain ⟨v, h1, _, h3, h4, h5⟩ := (mem_belowR 63 (Nat.le_refl _)).1 hm
    have h6 : 2 ^ v ≤ (highOf ps n a).toNat := by
      unfold bitN at h3
      simp at h3
      exact Classical.byContradiction fun hn => by
        rw [Nat.div_eq_of_lt (by omega)] at h3
        simp at h3
    have := h a
    have e : ((2 ^ v : Nat) : Int) = (2 : Int) ^ v := by simp
    have hp : 0 < 2 ^ v := Nat.two_pow_pos v
    omega

def metAt (met : List Bool) (y : Int) : Bool := met[y.toNat]?.getD false
/-- A search under way: what has been met, and what waits. -/
structure Srch (ps : List Int) (n : Nat) (a : Int) (met : List Bool) (st : List Int) : Prop where
  len : met.length = 64
  good : ∀ i : Nat, i < 64 → met[i]?.getD false = true → Way ps n a i
  way : ∀ x ∈ st, Way ps n a x
  rng : ∀ x ∈ st, 0 ≤ x ∧ x < 64
  c0 : ∀ y ∈ nextL ps n a, y ∈ st ∨ metAt met y = true
  c1 : ∀ i : Nat, i < 64 → met[i]?.getD false = true → ∀ y ∈ nextL ps n i, y ∈ st ∨ metAt met y = true
  small : st.length + 64 * met.countP (fun b => !b) ≤ 5000

theorem Srch.start {ps : List Int} {n : Nat} (h : HighsB ps n) (a : Int) : Srch ps n a (List.replicate 64 false) (nextL ps n a) := by
  have hz : ∀ i : Nat, (List.replicate 64 false)[i]?.getD false = false := fun i => by
    rw [List.getElem?_replicate]
    split <;> rfl
  refine ⟨by simp, fun i _ hi => ?_, fun x hx => .one hx, fun x hx => next_range h hx, fun y hy => .inl hy, fun i _ hi => ?_, ?_⟩
  · rw [hz] at hi; cases hi
  · rw [hz] at hi; cases hi
  · have := nextL_len ps n a
    have e : (List.replicate 64 false).countP (fun b => !b) = 64 := by decide
    rw [e]; omega
theorem Srch.skip {ps : List Int} {n : Nat} {a x : Int} {met : List Bool} {st : List Int} (h : Srch ps n a met (st ++ [x])) (hx : metAt met x = true) : Srch ps n a met st := by
  have hk : ∀ y, (y ∈ st ++ [x] ∨ metAt met y = true) → (y ∈ st ∨ metAt met y = true) := fun y hy => by
    rcases hy with h1 | h1
    · rcases List.mem_append.1 h1 with h2 | h2
      · exact .inl h2
      · simp at h2; subst h2; exact .inr hx
    · exact .inr h1
  refine ⟨h.len, h.good, fun y hy => h.way y (List.mem_append_left _ hy), fun y hy => h.rng y (List.mem_append_left _ hy), fun y hy => hk y (h.c0 y hy), fun i h1 h2 y hy => hk y (h.c1 i h1 h2 y hy), ?_⟩
  have := h.small
  simp at this
  omega
theorem metAt_set {met : List Bool} {x y : Int} (hl : met.length = 64) (hx : 0 ≤ x ∧ x < 64) (hy : metAt met y = true ∨ y = x) : metAt (met.set x.toNat true) y = true := by
  unfold metAt at *
  by_cases e : x.toNat = y.toNat
  · rw [← e, List.getElem?_set_self (by omega)]; rfl
  · rw [List.getElem?_set_ne e]
    rcases hy with h | h
    · exact h
    · exact absurd (by rw [h]) e
theorem Srch.step {ps : List Int} {n : Nat} (hh : HighsB ps n) {a x : Int} {met : List Bool} {st : List Int} (h : Srch ps n a met (st ++ [x])) (hx : metAt met x = false) : Srch ps n a (met.set x.toNat true) (st ++ nextL ps n x) := by
  have hr := h.rng x (by simp)
  have hw := h.way x (by simp)
  have hxe : ((x.toNat : Nat) : Int) = x := by omega
  have hk : ∀ y, (y ∈ st ++ [x] ∨ metAt met y = true) → (y ∈ st ++ nextL ps n x ∨ metAt (met.set x.toNat true) y = true) := fun y hy => by
    rcases hy with h1 | h1
    · rcases List.mem_append.1 h1 with h2 | h2
      · exact .inl (List.mem_append_left _ h2)
      · simp at h2; exact .inr (metAt_set h.len hr (.inr h2))
    · exact .inr (metAt_set h.len hr (.inl h1))
  have hg : ∀ i : Nat, (met.set x.toNat true)[i]?.getD false = true → i = x.toNat ∨ met[i]?.getD false = true := fun i hi => by
    by_cases e : x.toNat = i
    · exact .inl e.symm
    · rw [List.getElem?_set_ne e] at hi; exact .inr hi
  refine ⟨by simp [h.len], fun i hi hm => ?_, fun y hy => ?_, fun y hy => ?_, fun y hy => hk y (h.c0 y hy), fun i hi hm y hy => ?_, ?_⟩
  · rcases hg i hm with e | e
    · rw [e, hxe]; exact hw
    · exact h.good i hi e
  · rcases List.mem_append.1 hy with h1 | h1
    · exact h.way y (List.mem_append_left _ h1)
    · exact .more hw h1
  · rcases List.mem_append.1 hy with h1 | h1
    · exact h.rng y (List.mem_append_left _ h1)
    · exact next_range hh h1
  · rcases hg i hm with e | e
    · rw [e, hxe] at hy; exact .inl (List.mem_append_right _ hy)
    · exact hk y (h.c1 i hi e y hy)
  · have hs := h.small
    have hn := nextL_len ps n x
    have hxl : x.toNat < met.length := by rw [h.len]; omega
    have hf : met[x.toNat] = false := by
      unfold metAt at hx
      rw [List.getElem?_eq_getElem hxl] at hx
      simpa using hx
    have hc := List.countP_set (p := fun b : Bool => !b) (a := true) hxl
    rw [hf] at hc
    simp at hc
    have hp : 0 < met.countP (fun b => !b) := List.countP_pos_iff.2 ⟨_, List.getElem_mem hxl, by simp [hf]⟩
    simp at hs ⊢
    omega
/-- The measure falls. -/
theorem Srch.less {ps : List Int} {n : Nat} {a x : Int} {met : List Bool} {st : List Int} (h : Srch ps n a met (st ++ [x])) (hx : metAt met x = false) :
    (st ++ nextL ps n x).length + 64 * (met.set x.toNat true).countP (fun b => !b) < (st ++ [x]).length + 64 * met.countP (fun b => !b) := by
  have hr := h.rng x (by simp)
  have hn := nextL_len ps n x
  have hxl : x.toNat < met.length := by rw [h.len]; omega
  have hf : met[x.toNat] = false := by
    unfold metAt at hx
    rw [List.getElem?_eq_getElem hxl] at hx
    simpa using hx
  have hc := List.countP_set (p := fun b : Bool => !b) (a := true) hxl
  rw [hf] at hc
  simp at hc
  have hp : 0 < met.countP (fun b => !b) := List.countP_pos_iff.2 ⟨_, List.getElem_mem hxl, by simp [hf]⟩
  simp
  omega
theorem Srch.done {ps : List Int} {n : Nat} (hh : HighsB ps n) {a : Int} {met : List Bool} (h : Srch ps n a met []) {y : Int} (hy : Way ps n a y) : metAt met y = true := by
  induction hy with
  | one h1 => exact (h.c0 _ h1).resolve_left (by simp)
  | @more x y h1 h2 ih =>
    have hr : 0 ≤ x ∧ x < 64 := by
      cases h1 with
      | one h3 => exact next_range hh h3
      | more _ h3 => exact next_range hh h3
    have hxe : ((x.toNat : Nat) : Int) = x := by omega
    exact (h.c1 x.toNat (by omega) ih y (by rw [hxe]; exact h2)).resolve_left (by simp)

end Go.Proofs.Ytbhdipljhelddaa

/-! l02Reached: the model's search. -/
namespace Go.Proofs.Ytbhdipljhelddaa
open Go.RowKit

theorem info_boolR : (Try.prog.info? 4).map (fun i => (i.zero, i.size, i.bytes)) = some (some (.bool false), 1, 1) := by kernel_rfl
/-- 'make([]bool, n)'. -/
theorem make_runB (w : World) (n : Nat) (hn : n ≤ 1099511627776) : ∃ w', (Instr.makeSlice 78 (.int .i64 (n : Int)) (.int .i64 (n : Int))).run Try.prog w = .ok (.slice (some ⟨w.heap.size, 0, none⟩) n n) w' ∧
    w'.ownsRow w.heap.size 4 1 (.slice (some ⟨w.heap.size, 0, none⟩) n n) n ((List.replicate n false).map Value.bool) ∧ w.grownBy w' none ∧ Below w.heap.size w w' := by
  obtain ⟨i0, hi, hz0, hz1, hz2⟩ := info_parts info_boolR
  obtain ⟨w', hrun, hown, hg⟩ := run_make_full (P := Try.prog) w w.heap.size 78 4 i0 (.bool false) 1 Try.underlying78 hi hz0 hz1 .i64 .i64 n (by rw [hz2]; omega) (by unfold maxLen; omega) (Nat.le_refl _)
  have e : (madeCells (Value.bool false).cells (n * 1)).toList = (List.replicate n false).map Value.bool := by
    rw [Nat.mul_one]
    exact (toList_madeCells_one _ _).trans (by simp)
  rw [e] at hown
  exact ⟨w', hrun, hown, hg, (Below.refl _ w).grown hg (Nat.le_refl _) (fun k hk => by cases hk)⟩

theorem make_run64 (w : World) : ∃ w', (Instr.makeSlice 78 (.int .i64 64) (.int .i64 64)).run Try.prog w = .ok (.slice (some ⟨w.heap.size, 0, none⟩) 64 64) w' ∧
    w'.ownsRow w.heap.size 4 1 (.slice (some ⟨w.heap.size, 0, none⟩) 64 64) 64 ((List.replicate 64 false).map Value.bool) ∧ w.grownBy w' none ∧ Below w.heap.size w w' := make_runB w 64 (by omega)

/-- 'append(a, b...)' of numbers; where the row lies afterwards. -/
theorem append_ints_at {w : World} {ops : Array Oper} {rest : List Oper} {o : Oper} {a : Act} {Q : Exit → Act → World → Prop} (hgd : o.guard = none) {s y : Operand}
    (ho : o.op = .call { callee := .builtin .append, args := #[s, y], argTypes := #[22, 22] })
    {base : Nat} {v : Value} {xs ys : List Int} {g c : Nat} (hown : w.ownsRow base 2 1 v xs.length (xs.map (Value.int .i64))) (hbase : base ≤ w.heap.size) (hl : xs.length ≤ 1048576) (hly : ys.length ≤ 1048576)
    (hs : a.eval s = v) (hy : a.eval y = .slice (some ⟨g, 0, none⟩) ys.length c) (hc : ∀ i, i < ys.length → w.cell? ⟨g, i, none⟩ = some (.int .i64 (ys[i]?.getD 0)))
    (hK : ∀ v' w', w'.ownsRow base 2 1 v' (xs ++ ys).length ((xs ++ ys).map (Value.int .i64)) → w.grownBy w' v.ownBlock → (v'.ownBlock = v.ownBlock ∨ v'.ownBlock = some w.heap.size) → Below base w w' → wpList Try.prog ops Q rest (a.put o.dst v') w') :
    wpList Try.prog ops Q (o :: rest) a w := by
  obtain ⟨i0, hi, hz0, hz1, hz2⟩ := info_parts info_i64
  refine wpList_append_own_at w hgd s y 22 ho base 2 i0 (.int .i64 0) 1 8 Try.underlying22 hi hz0 hz1 hz2 rfl (by decide) v _ _ hs hown ⟨g, 0, none⟩ ys.length c (ys.map (Value.int .i64)) hy (by simp) (fun j u hj => ?_) (fun u hu => ?_) (by unfold maxLen; omega) (by omega) hbase ?_
  · have hjl : j < ys.length := by
      have := (List.getElem?_eq_some_iff.1 hj).1
      simpa using this
    have := hc j hjl
    rw [List.getElem?_map, List.getElem?_eq_getElem hjl] at hj
    rw [List.getElem?_eq_getElem hjl] at this
    simp at hj this
    have hadd : (⟨g, 0, none⟩ : Addr).add j = ⟨g, j, none⟩ := by unfold Addr.add; split <;> simp_all
    rw [hadd, this, hj]
  · obtain ⟨x, _, rfl⟩ := List.mem_map.1 hu
    rfl
  · intro v' w1 hown1 hgrow1 _ hat
    exact hK v' w1 (by simpa using hown1) hgrow1 hat ((Below.refl base w).grown hgrow1 hbase (fun k hk => (hown.lt k hk).1))

/-- The search's world: what has been met lies in block bo, what waits in v's. -/
structure RchW (w wr : World) (ps : List Int) (n : Nat) (a : Int) (bo : Nat) (met : List Bool) (st : List Int) (v : Value) : Prop where
  om : wr.ownsRow w.heap.size 4 1 (.slice (some ⟨bo, 0, none⟩) 64 64) 64 (met.map Value.bool)
  os : wr.ownsRow w.heap.size 2 1 v st.length (st.map (Value.int .i64))
  nn : v.ownBlock ≠ none
  ne : v.ownBlock ≠ some bo
  srch : Srch ps n a met st
  below : Below w.heap.size w wr

theorem snoc_of {st : List Int} (h : st ≠ []) : ∃ st' x, st = st' ++ [x] := by
  rcases List.eq_nil_or_concat st with h1 | ⟨st', x, h1⟩
  · exact absurd h1 h
  · exact ⟨st', x, by rw [h1, List.concat_eq_append]⟩
theorem RchW.pop {w wr : World} {ps : List Int} {n : Nat} {a : Int} {bo g c : Nat} {met : List Bool} {st : List Int} {x : Int} (h : RchW w wr ps n a bo met (st ++ [x]) (.slice (some ⟨g, 0, none⟩) (st.length + 1) c)) :
    wr.ownsRow w.heap.size 2 1 (.slice (some ⟨g, 0, none⟩) st.length c) st.length (st.map (Value.int .i64)) := by
  have h1 := h.os
  have e : (st ++ [x]).length = st.length + 1 := by simp
  rw [e] at h1
  exact ownsRow_pop (n := st.length) (xs := st.map (Value.int .i64)) (last := [.int .i64 x]) (by simp) (by simpa using h1)
theorem RchW.skip {w wr : World} {ps : List Int} {n : Nat} {a : Int} {bo g c : Nat} {met : List Bool} {st : List Int} {x : Int} (h : RchW w wr ps n a bo met (st ++ [x]) (.slice (some ⟨g, 0, none⟩) (st.length + 1) c)) (hx : metAt met x = true) :
    RchW w wr ps n a bo met st (.slice (some ⟨g, 0, none⟩) st.length c) :=
  ⟨h.om, h.pop, by simp [Value.ownBlock], h.ne, h.srch.skip hx, h.below⟩
theorem RchW.push {w wr w2 w3 : World} {ps : List Int} {n : Nat} {a : Int} {bo g c q : Nat} {met : List Bool} {st : List Int} (hh : HighsB ps n) (h : RchW w wr ps n a bo met (st ++ [(q : Int)]) (.slice (some ⟨g, 0, none⟩) (st.length + 1) c))
    (hx : metAt met (q : Int) = false) (hb : Below (wr.setCell ⟨bo, q, none⟩ (.bool true)).heap.size (wr.setCell ⟨bo, q, none⟩ (.bool true)) w2) {v' : Value}
    (hown : w3.ownsRow w.heap.size 2 1 v' (st ++ nextL ps n q).length ((st ++ nextL ps n q).map (Value.int .i64))) (hg : w2.grownBy w3 (some g)) (hat : v'.ownBlock = some g ∨ v'.ownBlock = some w2.heap.size) :
    RchW w w3 ps n a bo (met.set q true) (st ++ nextL ps n q) v' := by
  have hq : q < 64 := by have := h.srch.rng (q : Int) (by simp); omega
  have hst := h.om.stored q (.bool true)
  have hgb : g ≠ bo := fun e => h.ne (by rw [e]; rfl)
  have hbo := h.om.lt bo rfl
  have hgl := h.os.lt g rfl
  have hsz : (wr.setCell ⟨bo, q, none⟩ (.bool true)).heap.size = wr.heap.size := by simp [World.setCell]
  have hs2 := hb.size
  rw [hsz] at hs2
  have hm1 : (wr.setCell ⟨bo, q, none⟩ (.bool true)).ownsRow w.heap.size 4 1 (.slice (some ⟨bo, 0, none⟩) 64 64) 64 ((met.set q true).map Value.bool) := by rw [List.map_set]; exact hst.1
  have hm2 := ownsRow_below hm1 hb (fun k hk => (hm1.lt k hk).2)
  have hm3 := hm2.kept hg (.inr (by simp [Value.ownBlock]; exact fun e => hgb e.symm))
  have hbw : Below w.heap.size w (wr.setCell ⟨bo, q, none⟩ (.bool true)) := h.below.grown hst.2 h.below.size (fun r e => by cases e; exact hbo.1)
  refine ⟨hm3, hown, ?_, ?_, ?_, ?_⟩
  · rcases hat with e | e <;> rw [e] <;> simp
  · rcases hat with e | e
    · rw [e]; simpa using hgb
    · rw [e]; intro e'; injection e' with e'; omega
  · have := h.srch.step hh hx
    rwa [Int.toNat_natCast] at this
  · exact (hbw.trans (hb.mono hbw.size)).grown hg (hbw.trans (hb.mono hbw.size)).size (fun r e => by cases e; exact hgl.1)

set_option maxRecDepth 1000000 in
set_option maxHeartbeats 4000000 in
theorem reached_any (a1 : Option Addr) (n cap : Nat) (ps : List Int) (a : Int) (w : World) (hx : SlI w w.heap.size a1 ps) (hp : ps.length = 2 * n) (hl : n ≤ 1048576) (hh : HighsB ps n) :
    Calls Try.prog 169 #[.slice a1 n cap, .int .i64 a] w fun e w' => ∃ g met, e = .returned (.slice (some ⟨g, 0, none⟩) 64 64) ∧ w'.ownsRow w.heap.size 4 1 (.slice (some ⟨g, 0, none⟩) 64 64) 64 (met.map Value.bool) ∧ Hid (Srch ps n a met []) ∧ Below w.heap.size w w' := by
  have HH := hid hh
  have HN := hid (fun x w' (h : Below w.heap.size w w') => next_any a1 n cap ps x w' (hx.later h h.size) hp hl (hh x))
  have Hl := hid (fun x => nextL_len ps n x)
  clear hx hp hh
  obtain ⟨wm, hmk, hownm, hgm, hBm⟩ := make_run64 w.drew
  have hdr : Below w.heap.size w w.drew := below_drewN (Below.refl _ w) 1
  have HBw := hid hdr
  have HBwm : Hid (Below w.heap.size w wm) := hid (hdr.trans hBm)
  have HBm := hid hBm
  have Hownm := hid hownm
  clear hownm hgm hdr hBm
  go_enter Try.func169, Try.ntmps169
  go_wp2_with fail
  go_cut [5, 6] from 8 to 11 (fun p q wx => ∃ bo g c : Nat, p = .slice (some ⟨bo, 0, none⟩) 64 64 ∧ w.heap.size ≤ bo ∧ wx.ownsRow w.heap.size 4 1 (.slice (some ⟨bo, 0, none⟩) 64 64) 64 ((List.replicate 64 false).map Value.bool) ∧ q = .slice (some ⟨g, 0, none⟩) (nextL ps n a).length c ∧ wx.ownsRow w.heap.size 2 1 (.slice (some ⟨g, 0, none⟩) (nextL ps n a).length c) (nextL ps n a).length ((nextL ps n a).map (Value.int .i64)) ∧ g ≠ bo ∧ Below w.heap.size w wx)
  case first =>
    go_region_held3 (fun w' => True) (trivial) (first
      | (go_at_call 113; (with_reducible_and_instances refine (HN.out a wm HBwm.out).mono ?_); rintro e w2 ⟨g, c, rfl, hr⟩; have HR := hid hr; clear hr)
      | (go_at_call 113; (with_reducible_and_instances refine (HN.out a w.drew HBw.out).mono ?_); rintro e w2 ⟨g, c, rfl, hr⟩; obtain ⟨w3, hmk3, hown3, hg3, hB3⟩ := make_run64 w2; have HR := hid hr; have Hown3 := hid hown3; have HB3 := hid hB3; clear hr hown3 hg3 hB3)
      | (simp only [hmk3]))
    · go_wp2_with fail
      go_meet
      case rel =>
        have hlm := (Hownm.out.lt w.heap.size rfl).2
        refine ⟨w.heap.size, g, c, rfl, Nat.le_refl _, ownsRow_below Hownm.out HR.out.2 (fun g hg => (Hownm.out.lt g hg).2), rfl, ownsRow_base HR.out.1 HBwm.out.size, ?_, HBwm.out.trans (HR.out.2.mono HBwm.out.size)⟩
        have := (HR.out.1.lt g rfl).1
        omega
    · go_wp2_with fail
      go_meet
      case rel =>
        have hs2 : w.heap.size ≤ w2.heap.size := HR.out.2.size
        refine ⟨w2.heap.size, g, c, rfl, hs2, ownsRow_base Hown3.out hs2, rfl, ownsRow_base (ownsRow_below HR.out.1 HB3.out (fun g hg => (HR.out.1.lt g hg).2)) (Nat.le_refl _), ?_, (HBw.out.trans HR.out.2).trans (HB3.out.mono hs2)⟩
        have := (HR.out.1.lt g rfl).2
        omega
  case rest =>
    obtain ⟨bo, g, c, rfl, hbo, hmet, rfl, hst, hgb, hb⟩ := hcut
    have H0 : Hid (RchW w wc ps n a bo (List.replicate 64 false) (nextL ps n a) (.slice (some ⟨g, 0, none⟩) (nextL ps n a).length c)) := hid ⟨hmet, hst, by simp [Value.ownBlock], by simpa [Value.ownBlock] using hgb, Srch.start HH.out a, hb⟩
    clear hmet hst hgb hb HBw HBwm HBm Hownm hmk
    go_wp2_with fail
    go_loopg [6] 5000 (fun gg v wr => ∃ (met : List Bool) (st : List Int), Hid (RchW w wr ps n a bo met st v) ∧ st.length + 64 * met.countP (fun b => !b) ≤ gg)
    case atStart => exact ⟨_, _, H0, H0.out.srch.small⟩
    case round =>
      clear H0
      obtain ⟨met, st, HW, hgg⟩ := hrel
      by_cases hst : st = []
      · subst hst
        obtain ⟨g', c', rfl, _⟩ := owned_some HW.out.os HW.out.nn
        go_wp2_with fail
        go_ret
        exact ⟨bo, met, rfl, HW.out.om, hid HW.out.srch, HW.out.below⟩
      · obtain ⟨st', x, rfl⟩ := snoc_of hst
        obtain ⟨g', c', rfl, hcap⟩ := owned_some HW.out.os HW.out.nn
        have hxr := HW.out.srch.rng x (by simp)
        obtain ⟨q, rfl⟩ : ∃ q : Nat, x = q := ⟨x.toNat, by omega⟩
        obtain ⟨m, hm⟩ : ∃ m, m = st'.length := ⟨_, rfl⟩
        have el : (st' ++ [(q : Int)]).length = st'.length + 1 := by simp
        have hsm := HW.out.srch.small
        rw [el] at hcap HW hgg hsm ⊢
        have hcx : wr.cell? ⟨g', m, none⟩ = some (.int .i64 (q : Int)) := by
          have h := HW.out.os
          rw [el] at h
          rw [h.cellAt m (by omega), hm]
          simp
        have hml := HW.out.srch.len
        have hq64 : q < 64 := by omega
        obtain ⟨b, hb⟩ : ∃ b, b = metAt met (q : Int) := ⟨_, rfl⟩
        have hcm : wr.cell? ⟨bo, q, none⟩ = some (.bool b) := by
          rw [HW.out.om.cellAt q (by omega), hb]
          unfold metAt
          rw [Int.toNat_natCast, List.getElem?_eq_getElem (by omega : q < met.length)]
          simp [hml, hq64]
        have hfr := HW.out.om.frozenAt q
        have hi0 : (0 : Int) ≤ (q : Int) := by omega
        have hi1 : (q : Int) < 64 := by omega
        have hm0 : (0 : Int) ≤ (m : Int) := by omega
        have hm1 : (m : Int) < (m : Int) + 1 := by omega
        have hm2 : (m : Int) ≤ (c' : Int) := by omega
        have hw1 : IntKind.i64.wrap (m : Int) = m := by rw [IntKind.wrap_i64]; omega
        have hw2 : IntKind.i64.wrap ((m : Int) + 1 - 1) = m := by rw [show (m : Int) + 1 - 1 = m by omega]; exact hw1
        have hw3 : wrap64 (m : Int) = m := IntWalk.wrap64_in _ ⟨by omega, by omega⟩
        have hw4 : wrap64 ((m : Int) + 1 - 1) = m := by rw [show (m : Int) + 1 - 1 = m by omega]; exact hw3
        have HM := hid hm
        have Hb := hid hb
        rw [← hm] at HW ⊢
        clear hst el hsm hm hxr hcap hml hb
        cases b
        · have hst := HW.out.om.stored q (.bool true)
          have hbs : Below w.heap.size w (wr.setCell ⟨bo, q, none⟩ (.bool true)) := HW.out.below.grown hst.2 HW.out.below.size (fun r e => by cases e; exact hbo)
          have hW' := HW.out
          rw [HM.out] at hW'
          have hp : wr.ownsRow w.heap.size 2 1 (.slice (some ⟨g', 0, none⟩) m c') st'.length (st'.map (Value.int .i64)) := by rw [HM.out]; exact hW'.pop
          have HP := hid (ownsRow_set (a := ⟨bo, q, none⟩) hp HW.out.ne (.bool true))
          have HBs := hid hbs
          have hcq := HN.out (q : Int) _ hbs
          clear hst hbs hW' hp
          go_wp2_with fail
          refine hcq.mono ?_
          rintro e w2 ⟨g2, c2, rfl, hr⟩
          have hcs : ∀ i, i < (nextL ps n q).length → w2.cell? ⟨g2, i, none⟩ = some (.int .i64 ((nextL ps n q)[i]?.getD 0)) := fun i hi => by
            rcases owned_slI hr.1 with h | ⟨b, off, _, h1, h2⟩
            · rw [h] at hi; simp at hi
            · injection h1 with h1
              injection h1 with h1 h3
              subst h1
              subst h3
              have := h2 i hi
              rwa [Nat.zero_add] at this
          have hown2 := ownsRow_below HP.out hr.2 (fun k hk => (HP.out.lt k hk).2)
          have hsz2 : w.heap.size ≤ w2.heap.size := Nat.le_trans HBs.out.size hr.2.size
          have hly : (nextL ps n q).length ≤ 1048576 := by have := Hl.out (q : Int); omega
          have hlx : st'.length ≤ 1048576 := by have := HW.out.srch.small; simp at this; omega
          have HR := hid hr.2
          clear hr hcq
          go_wp2_with (at_builtin; refine append_ints_at rfl rfl hown2 hsz2 hlx hly rfl rfl hcs ?_; intro v' w3 hown3 hg3 hat3 hB3)
          go_roundg ((st' ++ nextL ps n q).length + 64 * (met.set q true).countP (fun b => !b))
          case measure =>
            have := HW.out.srch.less (x := (q : Int)) Hb.out.symm
            rw [Int.toNat_natCast] at this
            have e : (st' ++ [(q : Int)]).length = st'.length + 1 := by simp
            omega
          case rel =>
            have hW' := HW.out
            rw [HM.out] at hW'
            exact ⟨_, _, hid (hW'.push HH.out Hb.out.symm HR.out hown3 hg3 hat3), Nat.le_refl _⟩
        · go_wp2_with fail
          go_roundg (st'.length + 64 * met.countP (fun b => !b))
          case measure => omega
          case rel =>
            have hW' := HW.out
            rw [HM.out] at hW' ⊢
            exact ⟨_, _, hid (hW'.skip Hb.out.symm), Nat.le_refl _⟩

end Go.Proofs.Ytbhdipljhelddaa

/-! FirstShelling: the answer, and the model's door. -/
namespace Go.Proofs.Ytbhdipljhelddaa
open Go.RowKit

def nsOf (fs : List Int) : List Nat := (facetsL fs).map Int.toNat
def ansF : Option (List Nat) → List Int × Int
  | some x => (intsN x, 0)
  | none => ([], 4)
/-- What FirstShelling answers. -/
noncomputable def fshR (V : Int) (fs : List Int) : List Int × Int :=
  if isCB V fs then (if pureB (facetsL fs) then (if (facetsL fs).length ≤ 12 then ansF (srch (nsOf fs) gdS (nsOf fs).length [] 0 []).1 else ([], 3)) else ([], 5)) else ([], 1)
theorem nsOf_len (fs : List Int) : (nsOf fs).length = (facetsL fs).length := by simp [nsOf]
theorem facets_in {fs : List Int} {x : Int} (h : x ∈ facetsL fs) : x ∈ fs := (List.mem_filter.1 h).1
theorem nsOf_ints {V : Int} {fs : List Int} (hC : IsC V fs) : intsN (nsOf fs) = facetsL fs := by
  unfold intsN nsOf
  rw [List.map_map]
  refine (List.map_congr_left fun x hx => ?_).trans (List.map_id _)
  have := hC.range63 x (facets_in hx)
  show ((x.toNat : Nat) : Int) = x
  omega
theorem nsOf_mem {V : Int} {fs : List Int} (hC : IsC V fs) {x : Nat} : x ∈ nsOf fs ↔ (x : Int) ∈ facetsL fs := by
  rw [← nsOf_ints hC]
  unfold intsN
  simp only [List.mem_map]
  refine ⟨fun h => ⟨x, h, rfl⟩, fun ⟨q, h1, h2⟩ => ?_⟩
  have : q = x := by omega
  subst this
  exact h1
theorem nsOf_lt {V : Int} {fs : List Int} (hC : IsC V fs) {x : Nat} (h : x ∈ nsOf fs) : x < 64 := by
  have := hC.range63 _ (facets_in ((nsOf_mem hC).1 h))
  omega
theorem nsOf_nodup {V : Int} {fs : List Int} (hC : IsC V fs) : (nsOf fs).Nodup := by
  have h : (intsN (nsOf fs)).Nodup := by
    rw [nsOf_ints hC]
    exact (hC.asc.filter _).imp (fun h e => by omega)
  unfold intsN at h
  exact List.Pairwise.of_map _ (fun a b h e => h (by rw [e])) h
theorem nsOf_max {V : Int} {fs : List Int} (hC : IsC V fs) : ∀ x ∈ nsOf fs, ∀ y ∈ nsOf fs, x &&& y = y → x = y := by
  intro x hx y hy e
  exact facet_max hC ((nsOf_mem hC).1 hy) (facets_in ((nsOf_mem hC).1 hx)) e
theorem fshR_len (V : Int) (fs : List Int) (_ : fs.length ≤ 1048576) : (fshR V fs).1.length ≤ 1048576 := by
  unfold fshR
  by_cases hC : IsC V fs
  · rw [isCB_true hC, if_pos rfl]
    split
    · split
      · rename_i h12
        cases h : srch (nsOf fs) gdS (nsOf fs).length [] 0 [] with
        | mk o dd =>
          cases o with
          | none => simp [ansF]
          | some x =>
            have := (srch_found _ _ _ _ _ _ (SSt.start (nsOf_nodup hC)) h).1
            simp only [ansF, intsN_len]
            rw [this, nsOf_len]
            omega
      · simp
    · simp
  · rw [isCB_false hC, if_neg (by simp)]
    simp
/-- A row of false bools: no set has failed. -/
theorem dead_new {W : World} {g n N : Nat} (hN : N = 2 ^ n) (h : W.ownsRow g 4 1 (.slice (some ⟨g, 0, none⟩) N N) N ((List.replicate N false).map Value.bool)) : DeadAt W g n [] := by
  rcases h.2 with ⟨h0, _⟩ | ⟨g', cap, cur, hv, _, hh, h1, _, h3, h4⟩
  · cases h0
  · injection hv with e1 _ e3
    injection e1 with e1
    injection e1 with e1 _ _
    subst e1
    subst e3
    refine ⟨cur, hh, by rw [h3, hN, Nat.mul_one], fun s hs => ?_⟩
    have hs' : s < N := by omega
    have h5 : (cur.toList.take (N * 1))[s]? = some (Value.bool false) := by rw [h4]; simp [hs']
    rw [List.getElem?_take_of_lt (by omega), Array.getElem?_toList] at h5
    simpa using h5

theorem list_monoF {fn : FuncId} {args : Array Value} {w : World} {P : Program} {R : List Int × Int} {xs : List Int} {c : Int} (hR : R = (xs, c))
    (h : Calls P fn args w fun e w' => ∃ v, e = .returned (.tuple #[v, .int .i64 c]) ∧ Res w w' v xs) : Calls P fn args w fun e w' => ∃ v, e = .returned (.tuple #[v, .int .i64 R.2]) ∧ Res w w' v R.1 := by rw [hR]; exact h
theorem res_nilF {w w' : World} (h : Below w.heap.size w w') : Res w w' (.slice none 0 0) [] := ⟨World.ownsRow_nil _ _ _ _, h⟩

set_option maxRecDepth 1000000 in
set_option maxHeartbeats 8000000 in
theorem specFirstShelling (V : Int) (a : Option Addr) (cap : Nat) (fs : List Int) (w : World) (hx : SlI w w.heap.size a fs) (hl : fs.length ≤ 1048576) :
    Calls Try.prog 27 #[.agg #[.int .i64 V, .slice a fs.length cap]] w fun e w' => ∃ v, e = .returned (.tuple #[v, .int .i64 (fshR V fs).2]) ∧ Res w w' v (fshR V fs).1 := by
  obtain ⟨W0, hW0⟩ : ∃ W0, W0 = w.alloc (.cells #[.int .i64 V, .slice a fs.length cap] 28) := ⟨_, rfl⟩
  have hB0 : Below w.heap.size w W0 := by rw [hW0]; exact (Below.refl _ w).alloc (Nat.le_refl _) _
  have Hk := KeptQ.mk (show W0.heap[w.heap.size]? = some (.cells #[.int .i64 V, .slice a fs.length cap] 28 (0, 0)) by rw [hW0]; exact heap_alloc_new _ _)
  have Hx := KeptQ.mk (hx.later hB0 hB0.size)
  have Hxw := KeptQ.mk hx
  have HB0 := KeptQ.mk hB0
  by_cases hC : IsC V fs
  · have HI := KeptQ.mk (is_yes V a cap fs W0 Hx.out hl hC)
    have Hp := KeptQ.mk (fun W (h : Below w.heap.size w W) => pureS_any V a cap fs W (hx.later h h.size) hl hC)
    have HFa := KeptQ.mk (fun W (h : Below w.heap.size w W) => facets_any V a cap fs W (hx.later h h.size) hl hC.range63)
    have HC := KeptQ.mk hC
    rw [hW0] at HI
    clear hx hB0
    obtain ⟨b, hb⟩ : ∃ b, b = pureB (facetsL fs) := ⟨_, rfl⟩
    rw [← hb] at Hp
    cases b
    · refine list_monoF (show fshR V fs = ([], 5) by rw [fshR, isCB_true hC, if_pos rfl, ← hb, if_neg (by simp)]) ?_
      clear hb hC
      go_enter Try.func27, Try.ntmps27
      go_wp2_with fail
      refine HI.out.mono ?_
      rintro e w1 ⟨rfl, hB1⟩
      rw [← hW0] at hB1
      have HB1 := KeptQ.mk (HB0.out.trans (hB1.mono HB0.out.size))
      obtain ⟨k0, k1, _, _⟩ := two_of ((hB1.block _ (lt_get Hk.out)).trans Hk.out)
      clear hB1 HI
      go_wp2_with fail
      refine (Hp.out w1 HB1.out).mono ?_
      rintro e w2 ⟨rfl, hB2⟩
      have HB2 := KeptQ.mk (HB1.out.trans (hB2.mono HB1.out.size))
      clear hB2 k0 k1
      go_wp2_with fail
      go_ret2
      exact ⟨_, rfl, res_nilF HB2.out⟩
    · have hnl := nsOf_len fs
      by_cases h12 : (facetsL fs).length ≤ 12
      · obtain ⟨o, ho⟩ : ∃ o, o = (srch (nsOf fs) gdS (nsOf fs).length [] 0 []).1 := ⟨_, rfl⟩
        refine list_monoF (show fshR V fs = ((ansF o).1, (ansF o).2) by rw [fshR, isCB_true hC, if_pos rfl, ← hb, if_pos rfl, if_pos h12, ← ho]) ?_
        have hni := nsOf_ints hC
        obtain ⟨ns, hns⟩ : ∃ ns, ns = nsOf fs := ⟨_, rfl⟩
        obtain ⟨F, hF⟩ : ∃ F, F = facetsL fs := ⟨_, rfl⟩
        have hS := SSt.start (nsOf_nodup hC)
        rw [← hns] at ho hni hnl hS
        rw [← hF] at hni hnl h12 HFa
        obtain ⟨n, hn⟩ : ∃ n, n = F.length := ⟨_, rfl⟩
        obtain ⟨N, hN⟩ : ∃ N : Nat, N = 2 ^ n := ⟨_, rfl⟩
        have hgt : ¬ (12 : Int) < (n : Int) := by omega
        have hN4 : N ≤ 4096 := by rw [hN]; exact Nat.pow_le_pow_right (n := 2) (by decide) (show n ≤ 12 by omega)
        have hp1 : IntKind.i64.wrap (2 ^ n) = (N : Int) := by
          have : ((2 : Int) ^ n) = (N : Int) := by rw [hN]; simp
          rw [this, IntKind.wrap_i64]
          omega
        have hp2 : wrap64 (2 ^ n) = (N : Int) := by
          have : ((2 : Int) ^ n) = (N : Int) := by rw [hN]; simp
          rw [this]
          exact IntWalk.wrap64_in _ ⟨by omega, by omega⟩
        have hwu : IntKind.u64.wrap (n : Int) = (n : Int) := by first | (rw [IntKind.wrap_u64]; omega) | (simp [IntKind.wrap]; omega)
        have Hn := KeptQ.mk hn
        have HN := KeptQ.mk hN
        have Hnl := KeptQ.mk (hnl.trans hn.symm)
        have Hni := KeptQ.mk hni
        have HSS := KeptQ.mk hS
        have Ho := KeptQ.mk ho
        have H12 := KeptQ.mk h12
        clear hb hC hnl hn hN h12 hni hS ho hns hF
        go_enter Try.func27, Try.ntmps27
        go_wp2_with fail
        refine HI.out.mono ?_
        rintro e w1 ⟨rfl, hB1⟩
        rw [← hW0] at hB1
        have HB1 := KeptQ.mk (HB0.out.trans (hB1.mono HB0.out.size))
        have Hk1 := KeptQ.mk ((hB1.block _ (lt_get Hk.out)).trans Hk.out)
        obtain ⟨k0, k1, _, _⟩ := two_of Hk1.out
        clear hB1 HI
        go_wp2_with fail
        refine (Hp.out w1 HB1.out).mono ?_
        rintro e w2 ⟨rfl, hB2⟩
        have HB2 := KeptQ.mk (HB1.out.trans (hB2.mono HB1.out.size))
        have Hk2 := KeptQ.mk ((hB2.block _ (lt_get Hk1.out)).trans Hk1.out)
        obtain ⟨k0', k1', _, _⟩ := two_of Hk2.out
        clear hB2 k0 k1
        go_wp2_with fail
        refine (HFa.out w2 HB2.out).mono ?_
        rintro e w3 ⟨v3, rfl, hr3⟩
        have HB3 := KeptQ.mk (HB2.out.trans (Below.mono (w := w2) hr3.2 HB2.out.size))
        obtain ⟨_, a3, c3, rfl, hs3⟩ := ownsRow_slI hr3.1
        rw [← Hn.out]
        obtain ⟨W4, hW4⟩ : ∃ W4, W4 = w3.alloc (.cells #[] 2) := ⟨_, rfl⟩
        have hb4 : Below w3.heap.size w3 W4 := by rw [hW4]; exact (Below.refl _ _).alloc (Nat.le_refl _) _
        have hs4 : W4.heap.size = w3.heap.size + 1 := by rw [hW4]; simp
        have ho4 : W4.ownsRow w3.heap.size 2 1 (.slice (some ⟨w3.heap.size, 0, none⟩) 0 0) 0 [] := by rw [hW4]; exact World.ownsRow_made w3 #[] 0 (Nat.le_refl _) (Nat.zero_le _) rfl
        obtain ⟨w5, hrun, hown5, hg5, hb5⟩ := make_runB W4 N (by omega)
        have ho5 := ho4.kept hg5 (Classical.em _)
        have hb35 : Below w3.heap.size w3 w5 := hb4.trans (hb5.mono hb4.size)
        have hf5 : SlX w5 W4.heap.size a3 (intsN ns) := by
          rw [Hni.out]
          rcases hs3 with h | ⟨bb, oo, h1, h2, h3⟩
          · exact .inl h
          · exact .inr ⟨bb, oo, by omega, Nat.lt_of_lt_of_le h1 hb35.size, h2, fun i hi => (hb35.cell (p := ⟨bb, oo + i, none⟩) h1).trans (h3 i hi)⟩
        have HFi := findS_any w3.heap.size ns (by rw [Hnl.out, Hn.out]; exact H12.out) ns.length [] 0 [] w5 a3 (some ⟨w3.heap.size, 0, none⟩) c3 0 W4.heap.size N HSS.out hf5 (by simpa [intsN] using ho5) (.inl rfl) hb35.size (dead_new (by rw [HN.out, Hnl.out]) hown5)
        rw [Hnl.out, ← HN.out] at HFi
        simp only [List.length_nil, show ((0 : Nat) : Int) = 0 from rfl] at HFi
        rw [hs4] at HFi
        have HFiK := KeptQ.mk HFi
        have HB5 := KeptQ.mk (HB3.out.trans (hb35.mono HB3.out.size))
        have HBw := KeptQ.mk HB3.out.size
        clear hr3 k0' k1' hs3 hb4 ho4 hown5 hg5 hb5 ho5 hb35 hf5 HFi
        have Hgw := KeptQ.mk (show w.heap.size ≤ w3.heap.size + 1 by have := HB3.out.size; omega)
        have Ho2 := KeptQ.mk (show o = (srch ns gdS n [] 0 []).1 by rw [Ho.out, Hnl.out])
        rw [hW4] at hrun
        clear hs4
        go_wp2_with fail
        try rw [← hW4]
        refine HFiK.out.mono ?_
        rintro e w6 ⟨v6, b6, rfl, hR⟩
        have HB6 := KeptQ.mk (HB5.out.grown hR.grown HB5.out.size (fun q e => by injection e with e; have := Hgw.out; omega))
        have hok := hR.ok
        have hrow := hR.row
        rw [← Ho2.out] at hok hrow
        cases o with
        | none =>
          obtain rfl : b6 = false := hok
          clear hR hrow HFiK hrun hW4
          go_wp2_with fail
          go_ret2
          exact ⟨_, rfl, res_nilF HB6.out⟩
        | some x =>
          obtain rfl : b6 = true := hok
          obtain ⟨a6, c6, rfl, ho6⟩ := hrow x rfl
          have HRes := KeptQ.mk (show Res w w6 (.slice a6 x.length c6) (intsN x) from ⟨by rw [intsN_len]; exact ownsRow_base ho6 HBw.out, HB6.out⟩)
          clear hR hrow HFiK hrun hW4 ho6
          go_wp2_with fail
          go_ret2
          exact ⟨_, rfl, HRes.out⟩
      · refine list_monoF (show fshR V fs = ([], 3) by rw [fshR, isCB_true hC, if_pos rfl, ← hb, if_pos rfl, if_neg h12]) ?_
        obtain ⟨n, hn⟩ : ∃ n, n = (facetsL fs).length := ⟨_, rfl⟩
        have hgt : (12 : Int) < (n : Int) := by omega
        have Hn := KeptQ.mk hn
        clear hb hC hnl hn h12
        go_enter Try.func27, Try.ntmps27
        go_wp2_with fail
        refine HI.out.mono ?_
        rintro e w1 ⟨rfl, hB1⟩
        rw [← hW0] at hB1
        have HB1 := KeptQ.mk (HB0.out.trans (hB1.mono HB0.out.size))
        have Hk1 := KeptQ.mk ((hB1.block _ (lt_get Hk.out)).trans Hk.out)
        obtain ⟨k0, k1, _, _⟩ := two_of Hk1.out
        clear hB1 HI
        go_wp2_with fail
        refine (Hp.out w1 HB1.out).mono ?_
        rintro e w2 ⟨rfl, hB2⟩
        have HB2 := KeptQ.mk (HB1.out.trans (hB2.mono HB1.out.size))
        have Hk2 := KeptQ.mk ((hB2.block _ (lt_get Hk1.out)).trans Hk1.out)
        obtain ⟨k0', k1', _, _⟩ := two_of Hk2.out
        clear hB2 k0 k1
        go_wp2_with fail
        refine (HFa.out w2 HB2.out).mono ?_
        rintro e w3 ⟨v3, rfl, hr3⟩
        have HB3 := KeptQ.mk (HB2.out.trans (Below.mono (w := w2) hr3.2 HB2.out.size))
        obtain ⟨_, a3, c3, rfl, _⟩ := ownsRow_slI hr3.1
        rw [← Hn.out]
        clear hr3 k0' k1'
        go_wp2_with fail
        go_ret2
        exact ⟨_, rfl, res_nilF HB3.out⟩
  · refine list_monoF (show fshR V fs = ([], 1) by rw [fshR, isCB_false hC, if_neg (by simp)]) ?_
    have HI := KeptQ.mk (is_no V a cap fs W0 Hx.out hl hC)
    rw [hW0] at HI
    clear hx hB0 hC
    go_enter Try.func27, Try.ntmps27
    go_wp2_with fail
    refine HI.out.mono ?_
    rintro e w1 ⟨rfl, hB1⟩
    rw [← hW0] at hB1
    have HB1 := KeptQ.mk (HB0.out.trans (hB1.mono HB0.out.size))
    clear hB1 HI
    go_wp2_with fail
    go_ret2
    exact ⟨_, rfl, res_nilF HB1.out⟩

end Go.Proofs.Ytbhdipljhelddaa
