import Derived.Maps.OwnSet
import Derived.Laws.AppendOwn
import Derived.Deep.LoopGhost
import Derived.Lib.Walk
import Derived.Sort.WalkB12
import Derived.Lib.SlicesMore
import Derived.Sort.OwnSortedInts
import Derived.Test.YtbhdipljhelddaaRows
import Derived.ProofKit
import Derived.OpenShut
import Derived.ShutString
import Derived.ChangeOld
import Derived.Below
import Derived.Lib.SmallJoins
import Derived.Test.YtbhdipljhelddaaMFS1
import Derived.Test.YtbhdipljhelddaaMFS2
import Derived.Test.YtbhdipljhelddaaMFS3
import Derived.Test.YtbhdipljhelddaaMFS4
/-! The search for a shelling, the program's. -/
namespace Go.Proofs.Ytbhdipljhelddaa
open Go.RowKit Go.Shelf Go.ChangeMaps

/-- How many sets fail at most. -/
def cntF : Nat → Nat
  | 0 => 0
  | d + 1 => 12 * cntF d + 1
theorem srch_len {ns : List Nat} {gd : List Nat → Nat → Bool} (hn : ns.length ≤ 12) : ∀ (d : Nat) (L : List Nat) (set : Nat) (dd : List Nat), (srch ns gd d L set dd).2.length ≤ dd.length + cntF d ∧ ∀ k, (loopTo (roundF ns gd d L set) k dd).2.length ≤ dd.length + k * cntF d := by
  intro d
  induction d with
  | zero =>
    intro L set dd
    refine ⟨by simp [srch_zero], fun k => ?_⟩
    induction k with
    | zero => simp [loopTo]
    | succ k ih =>
      cases hl : loopTo (roundF ns gd 0 L set) k dd with
      | mk o d2 =>
        rw [hl] at ih
        cases o with
        | some x => rw [loopTo_some (Nat.le_succ k) hl]; simp [cntF] at ih ⊢; omega
        | none =>
          rw [loopTo_none hl]
          unfold roundF
          split
          · simp [cntF] at ih ⊢; omega
          · rw [srch_zero]; simp [cntF] at ih ⊢; omega
  | succ d ih =>
    have loop : ∀ (L : List Nat) (set : Nat) (dd : List Nat) (k : Nat), (loopTo (roundF ns gd (d + 1) L set) k dd).2.length ≤ dd.length + k * cntF (d + 1) := by
      have one : ∀ (L : List Nat) (set : Nat) (dd : List Nat), (srch ns gd (d + 1) L set dd).2.length ≤ dd.length + cntF (d + 1) := by
        intro L set dd
        by_cases hm : set ∈ dd
        · rw [srch_dead hm]; simp
        · have h2 := (ih L set dd).2 ns.length
          have h3 : ns.length * cntF d ≤ 12 * cntF d := Nat.mul_le_mul_right _ hn
          cases hl : loopTo (roundF ns gd d L set) ns.length dd with
          | mk o d2 =>
            rw [hl] at h2
            cases o with
            | some x => rw [srch_some hm (Nat.le_refl _) hl]; simp [cntF] at h2 ⊢; omega
            | none => rw [srch_none hm hl]; simp [cntF] at h2 ⊢; omega
      intro L set dd k
      induction k with
      | zero => simp [loopTo]
      | succ k ihk =>
        have e : (k + 1) * cntF (d + 1) = k * cntF (d + 1) + cntF (d + 1) := Nat.succ_mul _ _
        cases hl : loopTo (roundF ns gd (d + 1) L set) k dd with
        | mk o d2 =>
          rw [hl] at ihk
          cases o with
          | some x => rw [loopTo_some (Nat.le_succ k) hl]; simp only at ihk ⊢; omega
          | none =>
            rw [loopTo_none hl]
            unfold roundF
            split
            · simp only at ihk ⊢; omega
            · have := one (L ++ [ns[k]?.getD 0]) (set ||| 2 ^ k) d2
              simp only at ihk ⊢
              omega
    intro L set dd
    refine ⟨?_, loop L set dd⟩
    by_cases hm : set ∈ dd
    · rw [srch_dead hm]; simp
    · have h2 := (ih L set dd).2 ns.length
      have h3 : ns.length * cntF d ≤ 12 * cntF d := Nat.mul_le_mul_right _ hn
      cases hl : loopTo (roundF ns gd d L set) ns.length dd with
      | mk o d2 =>
        rw [hl] at h2
        cases o with
        | some x => rw [srch_some hm (Nat.le_refl _) hl]; simp [cntF] at h2 ⊢; omega
        | none => rw [srch_none hm hl]; simp [cntF] at h2 ⊢; omega

/-- The sets given up, as the program keeps them. -/
def FutAt (W : World) (m : Nat) (dd : List Nat) : Prop := W.ownsMap Try.prog 2 (plainElem (H := Unit) Try.prog 4) m dd.length (knownD (intsN dd.reverse))
theorem FutAt.block {W : World} {m : Nat} {dd : List Nat} (h : FutAt W m dd) : ∃ es c, W.heap[m]? = some (.map es c) := by
  obtain ⟨es, c, h1, _⟩ := h
  exact ⟨es, c, h1⟩
theorem FutAt.kept {W W' : World} {m : Nat} {dd : List Nat} (h : FutAt W m dd) (hb : Below W.heap.size W W') : FutAt W' m dd :=
  World.ownsMap.kept h (row := none) (grown_of hb _) (by simp)
theorem FutAt.look {W : World} {m : Nat} {dd : List Nat} (h : FutAt W m dd) {s : Nat} (hs : s < 4096) : (Instr.lookup 82 (.map (some m)) (.int .i64 (s : Int)) false).run Try.prog W = .ok (.bool (decide (s ∈ dd))) W := by
  have := lookup_known h (p := (s : Int)) (WalkArith.wf_i64 (by omega))
  rw [this]
  have e : decide ((s : Int) ∈ intsN dd.reverse) = decide (s ∈ dd) := by
    rw [Bool.eq_iff_iff]
    simp only [intsN, List.mem_map, List.mem_reverse, decide_eq_true_eq]
    exact ⟨fun ⟨q, h1, h2⟩ => by have : q = s := by omega
                                 subst this
                                 exact h1, fun h => ⟨s, h, rfl⟩⟩
  rw [e]
theorem FutAt.put {W : World} {m : Nat} {dd : List Nat} (h : FutAt W m dd) {s : Nat} (hs : s < 4096) (hl : dd.length < 1152921504606846976) : ∃ W', (Instr.mapUpdate 82 (.map (some m)) (.int .i64 (s : Int)) (.bool true)).run Try.prog W = .ok () W' ∧ FutAt W' m (s :: dd) ∧ W.grownBy W' (some m) := by
  obtain ⟨W', hrun, ho, ht⟩ := World.ownsMap.store h (Maps.int_keyed Try.underlying2) Try.underlying82 (show dd.length < maxLen by unfold maxLen; omega) (Maps.keyOf_int_mk Try.underlying2 (show (Lit.int .i64 (s : Int)).wf = true from WalkArith.wf_i64 (by omega))) (plainElem_bool Try.underlying4 true)
  refine ⟨W', hrun, ?_, ?_⟩
  · unfold FutAt
    have e : intsN (s :: dd).reverse = intsN dd.reverse ++ [(s : Int)] := by simp [intsN]
    rw [e, knownD_snoc, List.length_cons]
    exact ho
  · obtain ⟨es, c, es', c', hb, rfl⟩ := ht
    exact ⟨rfl, rfl, rfl, by simp [setBlock], fun i _ hi => heap_setBlock_other hb _ (fun e => hi (by rw [e]))⟩
theorem ChainAt.keptM {W W' : World} {m : Nat} (hm : ∃ es c, W.heap[m]? = some (.map es c)) (hg : W.grownBy W' (some m)) : ∀ (L : List (Nat × Nat)) (p : Option Addr), ChainAt W p L → ChainAt W' p L
  | [], _, h => h
  | (_, _) :: L, _, ⟨b, p', h1, h2, h3, h4, h5⟩ => ⟨b, p', h1, (hg.block b (lt_of_get h2) (fun e => by
      injection e with e
      subst e
      obtain ⟨es, c, hm⟩ := hm
      rw [hm] at h2
      injection h2 with h2
      cases h2)).trans h2, h3, h4, ChainAt.keptM hm hg L p' h5⟩

structure FindI (ns : List Nat) (d : Nat) (L : List Nat) (set : Nat) (dd : List Nat) (m : Nat) (w : World) (q : Option Addr) (b : Bool) (w' : World) : Prop where
  ok : b = (srch ns gdS d L set dd).1.isSome
  dead : FutAt w' m (srch ns gdS d L set dd).2
  grown : w.grownBy w' (some m)
  row : ∀ x, (srch ns gdS d L set dd).1 = some x → ∃ ch, ChainAt w' q ch ∧ ch.map Prod.fst = x.reverse

theorem findI_no {ns : List Nat} {d : Nat} {L L2 : List Nat} {set s2 k : Nat} {dd d2 : List Nat} {m : Nat} {w wr x3 w' : World} {q : Option Addr} (HE : loopTo (roundF ns gdS d L set) (k + 1) dd = srch ns gdS d L2 s2 d2) (hG : w.grownBy wr (some m)) (hB : Below wr.heap.size wr x3) (hR : FindI ns d L2 s2 d2 m x3 q false w') :
    loopTo (roundF ns gdS d L set) (k + 1) dd = (none, (srch ns gdS d L2 s2 d2).2) ∧ FutAt w' m (srch ns gdS d L2 s2 d2).2 ∧ w.grownBy w' (some m) := by
  refine ⟨?_, hR.dead, (hG.trans (grown_of hB _)).trans hR.grown⟩
  rw [HE]
  have := hR.ok
  cases h : srch ns gdS d L2 s2 d2 with
  | mk o dd' =>
    rw [h] at this
    cases o with
    | none => rfl
    | some x => cases this
theorem findI_up {ns : List Nat} {d : Nat} {L L2 : List Nat} {set s2 k : Nat} {dd d2 : List Nat} {m : Nat} {w0 w wr x3 w' : World} {q : Option Addr} (hdd : set ∉ dd) (hk : k < ns.length) (HE : loopTo (roundF ns gdS d L set) (k + 1) dd = srch ns gdS d L2 s2 d2) (hG : w.grownBy wr (some m)) (hB : Below wr.heap.size wr x3) (h0 : Below w0.heap.size w0 w) (hR : FindI ns d L2 s2 d2 m x3 q true w') : FindI ns (d + 1) L set dd m w0 q true w' := by
  have ho := hR.ok
  have hd := hR.dead
  have hrow := hR.row
  cases h : srch ns gdS d L2 s2 d2 with
  | mk o dd' =>
    rw [h] at ho hd hrow HE
    cases o with
    | none => cases ho
    | some x =>
      have e := srch_some hdd (k := k + 1) hk HE
      exact ⟨by rw [e]; rfl, by rw [e]; exact hd, (((grown_of h0 (some m)).trans hG).trans (grown_of hB _)).trans hR.grown, fun y hy => by rw [e] at hy; exact hrow y hy⟩

set_option maxRecDepth 1000000 in
set_option maxHeartbeats 8000000 in
theorem findI_any (ns : List Nat) (hn12 : ns.length ≤ 12) (h64 : ∀ x ∈ ns, x < 64) (hmax : ∀ x ∈ ns, ∀ y ∈ ns, x &&& y = y → x = y) : ∀ (d : Nat) (L : List Nat) (set : Nat) (dd : List Nat) (w : World) (af p : Option Addr) (cf m : Nat) (ch : List (Nat × Nat)), SSt ns d L set → SlX w m af (intsN ns) → ChainAt w p ch → ch.map Prod.fst = L.reverse → FutAt w m dd → dd.length + cntF d < 1152921504606846976 →
    Calls Try.prog 67 #[.agg #[.slice af ns.length cf, .map (some m)], .pointer p, .int .i64 (set : Int)] w fun e w' => ∃ q b, e = .returned (.tuple #[.pointer q, .bool b]) ∧ FindI ns d L set dd m w q b w' := by
  intro d
  induction d with
  | zero =>
    intro L set dd w af p cf m ch hS hf hch hcl hD hln
    obtain ⟨N2, hN2⟩ : ∃ N2, N2 = 2 ^ ns.length := ⟨_, rfl⟩
    have h4096 : 2 ^ ns.length ≤ 4096 := Nat.pow_le_pow_right (n := 2) (by decide) hn12
    have hpos : 1 ≤ 2 ^ ns.length := Nat.two_pow_pos _
    have hset := hS.full.2 rfl
    rw [← hN2] at h4096 hset hpos
    have hp1 : IntKind.i64.wrap (2 ^ ns.length) = (N2 : Int) := by
      have : ((2 : Int) ^ ns.length) = (N2 : Int) := by rw [hN2]; simp
      rw [this, IntKind.wrap_i64]
      omega
    have hp2 : wrap64 (2 ^ ns.length) = (N2 : Int) := by
      have : ((2 : Int) ^ ns.length) = (N2 : Int) := by rw [hN2]; simp
      rw [this]
      exact IntWalk.wrap64_in _ ⟨by omega, by omega⟩
    have hp3 : wrap64 ((N2 : Int) - 1) = (set : Int) := by
      rw [IntWalk.wrap64_in _ ⟨by omega, by omega⟩]
      omega
    have hp4 : IntKind.i64.wrap ((N2 : Int) - 1) = (set : Int) := by
      rw [IntKind.wrap_i64]
      omega
    have HR := KeptQ.mk (fun (w' : World) (hb : Below w.heap.size w w') => show FindI ns 0 L set dd m w p true w' from ⟨rfl, hD.kept hb, grown_of hb _, fun x hx => by
      rw [srch_zero] at hx
      injection hx with hx
      subst hx
      exact ⟨ch, ChainAt.later hb ch p hch, hcl⟩⟩)
    have HB := KeptQ.mk (show Below w.heap.size w (w.alloc (.cells #[.slice af ns.length cf, .map (some m)] 84)) from (Below.refl _ w).alloc (Nat.le_refl _) _)
    clear hf hch hcl hD hln hS hN2 hset
    go_enter Try.func67, Try.ntmps67
    go_wp2_with fail
    go_ret2
    exact ⟨_, _, rfl, HR.out _ HB.out⟩
  | succ d ih =>
    intro L set dd w af p cf m ch hS hf hch hcl hD hln
    obtain ⟨N2, hN2⟩ : ∃ N2, N2 = 2 ^ ns.length := ⟨_, rfl⟩
    have h4096 : 2 ^ ns.length ≤ 4096 := Nat.pow_le_pow_right (n := 2) (by decide) hn12
    have hpos : 1 ≤ 2 ^ ns.length := Nat.two_pow_pos _
    have hsetn : set ≠ 2 ^ ns.length - 1 := fun e => by have := hS.full.1 e; omega
    have hset := hS.lt
    rw [← hN2] at h4096 hset hpos hsetn
    have hp1 : IntKind.i64.wrap (2 ^ ns.length) = (N2 : Int) := by
      have : ((2 : Int) ^ ns.length) = (N2 : Int) := by rw [hN2]; simp
      rw [this, IntKind.wrap_i64]
      omega
    have hp2 : wrap64 (2 ^ ns.length) = (N2 : Int) := by
      have : ((2 : Int) ^ ns.length) = (N2 : Int) := by rw [hN2]; simp
      rw [this]
      exact IntWalk.wrap64_in _ ⟨by omega, by omega⟩
    obtain ⟨M, hM⟩ : ∃ M : Int, M = (N2 : Int) - 1 := ⟨_, rfl⟩
    have hp3 : wrap64 ((N2 : Int) - 1) = M := by
      rw [IntWalk.wrap64_in _ ⟨by omega, by omega⟩]
      omega
    have hp4 : IntKind.i64.wrap ((N2 : Int) - 1) = M := by
      rw [IntKind.wrap_i64]
      omega
    have hlen : ((set : Int) == M) = false := by simp; omega
    obtain ⟨W, hW⟩ : ∃ W, W = w.alloc (.cells #[.slice af ns.length cf, .map (some m)] 84) := ⟨_, rfl⟩
    have hB : Below w.heap.size w W := by rw [hW]; exact (Below.refl _ w).alloc (Nat.le_refl _) _
    have hbx : W.heap[w.heap.size]? = some (.cells #[.slice af ns.length cf, .map (some m)] 84 (0, 0)) := by rw [hW]; exact heap_alloc_new _ _
    have hmw : m < w.heap.size := by
      obtain ⟨es, c, h⟩ := hD.block
      exact lt_of_get h
    obtain ⟨k0, k1, _, _⟩ := two_of hbx
    have hlk := (hD.kept hB).look (s := set) (by omega)
    have HS := KeptQ.mk hS
    have HF := KeptQ.mk (hf.kept (grown_of hB (some m)))
    have HC := KeptQ.mk (ChainAt.later hB ch p hch)
    have HCl := KeptQ.mk hcl
    have HD := KeptQ.mk (hD.kept hB)
    have HB := KeptQ.mk hB
    have Hbx := KeptQ.mk hbx
    have Hln := KeptQ.mk hln
    have Hih := KeptQ.mk ih
    have Hmw := KeptQ.mk hmw
    clear hS hf hch hcl hD hln hN2 hB hbx ih hM hsetn hmw
    by_cases hdd : set ∈ dd
    · have HR := KeptQ.mk (show FindI ns (d + 1) L set dd m w none false W from by
        have e := srch_dead (ns := ns) (gd := gdS) (d := d) (L := L) hdd
        exact ⟨by rw [e]; rfl, by rw [e]; exact HD.out, grown_of HB.out _, fun x hx => by rw [e] at hx; cases hx⟩)
      rw [decide_eq_true hdd] at hlk
      rw [hW] at hlk k0 k1
      clear hdd
      go_enter Try.func67, Try.ntmps67
      go_wp2_with fail
      rw [← hW]
      go_ret2
      exact ⟨_, _, rfl, HR.out⟩
    · rw [decide_eq_false hdd] at hlk
      rw [hW] at hlk k0 k1
      have Hdd := KeptQ.mk hdd
      clear hdd
      go_enter Try.func67, Try.ntmps67
      go_wp2_with fail
      rw [← hW]
      clear hlk k0 k1 hW
      go_loopw [29] (fun iv wx => ∃ (k : Nat) (d2 : List Nat), k ≤ ns.length ∧ iv = .int .i64 (k : Int) ∧ KeptQ (loopTo (roundF ns gdS d L set) k dd = (none, d2)) ∧ KeptQ (FutAt wx m d2) ∧ KeptQ (W.grownBy wx (some m))) (fun iv _ => ns.length - (intOf iv).toNat)
      case atStart => exact ⟨0, dd, Nat.zero_le _, rfl, KeptQ.mk rfl, HD, KeptQ.mk (grown_of (Below.refl _ _) _)⟩
      case round =>
        obtain ⟨k, d2, hk, rfl, HLp, HDx, HG⟩ := hrel
        have Hbr := KeptQ.mk ((HG.out.block w.heap.size (lt_of_get Hbx.out) (fun e => by have := Hmw.out; injection e with e; omega)).trans Hbx.out)
        obtain ⟨k0, k1, _, _⟩ := two_of Hbr.out
        by_cases hlt : k < ns.length
        · have hbit := bit12 (s := set) (k := k) (by omega)
          have hk0 : (0 : Int) ≤ (k : Int) := by omega
          have hk1 : (k : Int) < (ns.length : Int) := by omega
          have hk12 : (ns.length : Int) ≤ 12 := by omega
          obtain ⟨f, hf⟩ : ∃ f, f = ns[k]?.getD 0 := ⟨_, rfl⟩
          obtain ⟨b, off, hbg, hbw, rfl, hcl⟩ : ∃ b off, b ≠ m ∧ b < W.heap.size ∧ af = some ⟨b, off, none⟩ ∧ ∀ i, i < (intsN ns).length → W.cell? ⟨b, off + i, none⟩ = some (.int .i64 ((intsN ns)[i]?.getD 0)) := by
            rcases HF.out with h | h
            · have := intsN_len ns
              rw [h] at this
              simp at this
              omega
            · exact h
          have hfc : wr.cell? ⟨b, off + k, none⟩ = some (.int .i64 (f : Int)) := by
            rw [World.cell?_of_block (HG.out.block b hbw (fun e => hbg (by injection e))), hcl k (by rw [intsN_len]; exact hlt), intsN_at hlt, hf]
          clear hcl
          have Hf := KeptQ.mk hf
          clear hf
          by_cases hb : set.testBit k = true
          · rw [if_pos hb] at hbit
            have HE := KeptQ.mk ((loopTo_none HLp.out).trans (round_skip (by rw [hb]; rfl)))
            clear hb
            go_wp2_with fail
            go_roundw
            all_goals first
              | exact ⟨⟨k + 1, d2, by omega, by go_num, HE, HDx, HG⟩, by simp [intOf]; omega⟩
              | (case rel => exact ⟨k + 1, d2, by omega, by go_num, HE, HDx, HG⟩)
              | (simp [intOf]; omega)
          · rw [if_neg hb] at hbit
            have hbf : set.testBit k = false := by simpa using hb
            have Hbf := KeptQ.mk hbf
            clear hb hbf
            have hfm : f ∈ ns := by rw [Hf.out]; exact getD_memN hlt
            have hnL : f ∉ L := fun hm => by
              have := (HS.out.mem k hlt).2 (by rw [← Hf.out]; exact hm)
              rw [Hbf.out] at this
              cases this
            have Hgd := KeptQ.mk (show gdS L f = fG f ch from good_nat (h64 f hfm) (fun o => by
              have h1 : o ∈ ch.map Prod.fst ↔ o ∈ L := by rw [HCl.out, List.mem_reverse]
              rw [← h1]
              simp) (fun o ho => ⟨h64 o (HS.out.sub o ho), fun e => hnL (by
                have := hmax o (HS.out.sub o ho) f hfm e
                rw [← this]
                exact ho)⟩))
            have HCr := KeptQ.mk (ChainAt.keptM HD.out.block HG.out ch p HC.out)
            have HGo := KeptQ.mk (followed_any p ch f wr HCr.out (h64 f hfm))
            go_wp2_with fail
            refine HGo.out.mono ?_
            rintro e w5 ⟨q5, rfl, hq5, hB5⟩
            obtain ⟨c, hc⟩ : ∃ c, c = fG f ch := ⟨_, rfl⟩
            rw [← hc] at hq5 ⊢
            have Hc := KeptQ.mk (show gdS L (ns[k]?.getD 0) = c by rw [← Hf.out, Hgd.out, hc])
            have HB5 := KeptQ.mk hB5
            have HD5 := KeptQ.mk (HDx.out.kept hB5)
            have HG5 := KeptQ.mk (HG.out.trans (grown_of hB5 (some m)))
            have Hq5 := KeptQ.mk hq5
            have Hb5 := KeptQ.mk ((hB5.block _ (lt_of_get Hbr.out)).trans Hbr.out)
            clear hc HGo hq5 hB5 hfc
            cases c
            · have HE := KeptQ.mk ((loopTo_none HLp.out).trans (round_skip (by rw [Hc.out]; simp)))
              go_wp2_with fail
              go_roundw
              all_goals first
                | exact ⟨⟨k + 1, d2, by omega, by go_num, HE, HD5, HG5⟩, by simp [intOf]; omega⟩
                | (case rel => exact ⟨k + 1, d2, by omega, by go_num, HE, HD5, HG5⟩)
                | (simp [intOf]; omega)
            · have HE := KeptQ.mk ((loopTo_none HLp.out).trans (round_go (by rw [Hc.out, Hbf.out]; rfl)))
              have HSt := KeptQ.mk (HS.out.step hlt Hbf.out)
              rw [← Hf.out] at HE HSt
              have hln2 : d2.length + cntF d < 1152921504606846976 := by
                have h1 := (srch_len (gd := gdS) hn12 d L set dd).2 k
                rw [HLp.out] at h1
                have h2 := Hln.out
                have h3 : (k + 1) * cntF d ≤ 12 * cntF d := Nat.mul_le_mul_right _ (by omega)
                have h4 : (k + 1) * cntF d = k * cntF d + cntF d := Nat.succ_mul _ _
                simp only [cntF] at h2 h1
                omega
              have Hln2 := KeptQ.mk hln2
              obtain ⟨Q, hQ⟩ : ∃ Q : Nat, Q = 2 ^ k := ⟨_, rfl⟩
              have hsh := pow12 (k := k) (by omega)
              have hor := or12 (s := set) (k := k) (by omega) (by omega)
              rw [← hQ] at hsh hor HE HSt
              obtain ⟨s2, hs2⟩ : ∃ s2, s2 = set ||| Q := ⟨_, rfl⟩
              rw [← hs2] at hor HE HSt
              have hsh2 : IntKind.i64.wrap (2 ^ k) = (Q : Int) := by first | exact hsh | (rw [IntKind.wrap_i64]; rw [wrap64] at hsh; exact hsh)
              obtain ⟨x0, hx0⟩ : ∃ x0, x0 = w5.drew := ⟨_, rfl⟩
              have HB0 := KeptQ.mk (show Below w5.heap.size w5 x0 by rw [hx0]; exact (Below.refl _ _).drew)
              have Hx0 := hid (show x0.heap[w.heap.size]? = some (.cells #[.slice (some ⟨b, off, none⟩) ns.length cf, .map (some m)] 84 (0, 0)) by rw [hx0]; exact Hb5.out)
              have HB35 := KeptQ.mk (HB5.out.trans (HB0.out.mono HB5.out.size))
              have HRec := KeptQ.mk (Hih.out (L ++ [f]) s2 d2 x0 (some ⟨b, off, none⟩) q5 cf m ((f, fR f ch) :: ch) HSt.out (((HF.out.kept HG5.out)).kept (grown_of HB0.out _)) (ChainAt.later HB0.out _ _ (Hq5.out rfl)) (by rw [List.map_cons, HCl.out, List.reverse_append]; rfl) (HD5.out.kept HB0.out) Hln2.out)
              clear hQ hs2 hbit hln2 k0 k1
              go_wp2_with fail
              refine region_M 11 (fun W : World => W.heap[w.heap.size]? = some (.cells #[.slice (some ⟨b, off, none⟩) ns.length cf, .map (some m)] 84 (0, 0))) (by kernel_rfl) ?_
              rw [← hx0]
              clear hx0
              refine anyM_take (i := 0) (v := .agg #[.slice (some ⟨b, off, none⟩) ns.length cf, .map (some m)]) [6, 7, 8, 10, 11] rfl (by kernel_rfl) (fun _ _ _ h => h) (Or.inl ⟨by rfl, fun W hW => by (obtain ⟨z0, z1, _, _⟩ := two_of hW; clear hW; go_simp)⟩) Hx0.out ?_
              refine anyM_take (i := 1) (v := .pointer q5) [6, 7, 8, 10, 11] rfl (by kernel_rfl) (fun _ _ _ h => h) (Or.inl ⟨by rfl, fun W hW => by (clear hW; go_simp)⟩) Hx0.out ?_
              refine anyM_take (i := 2) (v := .int .i64 (set : Int)) [5, 6, 7, 8, 10, 11] rfl (by kernel_rfl) (fun _ _ _ h => h) (Or.inl ⟨by rfl, fun W hW => by (clear hW; go_simp)⟩) Hx0.out ?_
              refine anyM_take (i := 3) (v := .int .i64 (k : Int)) [4, 5, 6, 7, 8, 10, 11] rfl (by kernel_rfl) (fun _ _ _ h => h) (Or.inl ⟨by rfl, fun W hW => by (clear hW; go_simp)⟩) Hx0.out ?_
              refine anyM_take (i := 4) (v := .int .i64 (Q : Int)) [5, 6, 7, 8, 10, 11] rfl (by kernel_rfl) (fun _ _ _ h => h) (Or.inl ⟨by rfl, fun W hW => by (clear hW; go_simp)⟩) Hx0.out ?_
              refine anyM_take (i := 5) (v := .int .i64 (s2 : Int)) [6, 7, 8, 10, 11] rfl (by kernel_rfl) (fun _ _ _ h => h) (Or.inl ⟨by rfl, fun W hW => by (clear hW; go_simp)⟩) Hx0.out ?_
              refine anyM_ready (rs := [6]) (by kernel_rfl) (by simp) ?_
              refine AllM.cons rfl (fun K hK => ?_) AllM.nil
              go_simp
              go_at_call 67
              refine HRec.out.mono ?_
              rintro e x4 ⟨q4, b4, rfl, hR4⟩
              have HR4 := KeptQ.mk hR4
              have Hx4 := hid ((hR4.grown.block w.heap.size (lt_of_get Hx0.out) (fun e => by have := Hmw.out; injection e with e; omega)).trans Hx0.out)
              clear hR4 HRec
              refine hK.out _ _ (fun _ => Hx4.out) ?_
              clear hK K
              refine anyM_take (i := 7) (v := .tuple #[.pointer q4, .bool b4]) [8, 10, 11] rfl (by kernel_rfl) (fun _ _ _ h => h) (Or.inl ⟨by rfl, fun W hW => by (clear hW; go_simp)⟩) Hx4.out ?_
              refine anyM_take (i := 8) (v := .pointer q4) [10, 11] rfl (by kernel_rfl) (fun _ _ _ h => h) (Or.inl ⟨by rfl, fun W hW => by (clear hW; go_simp)⟩) Hx4.out ?_
              refine anyM_take (i := 9) (v := .bool b4) [11] rfl (by kernel_rfl) (fun _ _ _ h => h) (Or.inl ⟨by rfl, fun W hW => by (clear hW; go_simp)⟩) Hx4.out ?_
              refine anyM_take (i := 10) (v := .pointer q4) [11] rfl (by kernel_rfl) (fun _ _ _ h => h) (Or.inl ⟨by rfl, fun W hW => by (clear hW; go_simp)⟩) Hx4.out ?_
              refine anyM_ready (rs := [11]) (by kernel_rfl) (by simp) ?_
              refine AllM.cons rfl (fun K hK => ?_) AllM.nil
              go_simp
              refine hK.out _ _ (fun h => absurd rfl h) ?_
              clear hK K
              refine anyM_done (by kernel_rfl) ?_ _
              cases b4
              · obtain ⟨e1, e2, e3⟩ := findI_no HE.out HG.out HB35.out HR4.out
                have E1 := KeptQ.mk e1
                have E2 := KeptQ.mk e2
                have E3 := KeptQ.mk e3
                obtain ⟨d3, hd3⟩ : ∃ d3, d3 = (srch ns gdS d (L ++ [f]) s2 d2).2 := ⟨_, rfl⟩
                rw [← hd3] at E1 E2
                clear e1 e2 e3 hd3 HR4
                go_wp2_with fail
                go_roundw
                all_goals first
                  | exact ⟨⟨k + 1, d3, by omega, by go_num, E1, E2, E3⟩, by simp [intOf]; omega⟩
                  | (case rel => exact ⟨k + 1, d3, by omega, by go_num, E1, E2, E3⟩)
                  | (simp [intOf]; omega)
              · have HFin := KeptQ.mk (findI_up Hdd.out hlt HE.out HG.out HB35.out HB.out HR4.out)
                clear HR4
                go_wp2_with fail
                go_ret2
                exact ⟨_, _, rfl, HFin.out⟩
        · obtain rfl : k = ns.length := by omega
          have e := srch_none Hdd.out HLp.out
          have hln2 : d2.length < 1152921504606846976 := by
            have h1 := (srch_len (gd := gdS) hn12 d L set dd).2 ns.length
            rw [HLp.out] at h1
            have h2 := Hln.out
            have h3 : ns.length * cntF d ≤ 12 * cntF d := Nat.mul_le_mul_right _ (by omega)
            simp only [cntF] at h2 h1
            omega
          obtain ⟨W9, hrun, hput, hgr⟩ := HDx.out.put (s := set) (by omega) hln2
          have HR := KeptQ.mk (show FindI ns (d + 1) L set dd m w none false W9 from ⟨by rw [e]; rfl, by rw [e]; exact hput, ((grown_of HB.out (some m)).trans HG.out).trans hgr, fun x hx => by rw [e] at hx; cases hx⟩)
          clear e hput hgr hln2
          go_wp2_with fail
          go_ret2
          exact ⟨_, _, rfl, HR.out⟩

end Go.Proofs.Ytbhdipljhelddaa

/-! 'append', and where the row lies afterwards. -/
namespace Go.Proofs.Ytbhdipljhelddaa
open Go.RowKit

/-- 'append' of a number; where the row lies afterwards. -/
theorem app_at {w : World} {ops : Array Oper} {rest : List Oper} {o : Oper} {a : Act} {Q : Exit → Act → World → Prop} (hgd : o.guard = none) {s y : Operand}
    (ho : o.op = .call { callee := .builtin .append, args := #[s, y], argTypes := #[22, 22] })
    {base : Nat} {v : Value} {xs : List Int} {x : Int} (hown : w.ownsRow base 2 1 v xs.length (xs.map (Value.int .i64))) (hbase : base ≤ w.heap.size) (hl : xs.length ≤ 1099511627776)
    (hs : a.eval s = v) (hy : a.eval y = .slice (some ⟨w.heap.size, 0, none⟩) 1 1)
    (hK : ∀ v' w', w'.ownsRow base 2 1 v' (xs ++ [x]).length ((xs ++ [x]).map (Value.int .i64)) → w.grownBy w' v.ownBlock → (v'.ownBlock = v.ownBlock ∨ v'.ownBlock = some (w.heap.size + 1)) → Below base w w' → wpList Try.prog ops Q rest (a.put o.dst v') w') :
    wpList Try.prog ops Q (o :: rest) a (w.alloc (.cells #[.int .i64 x] 2)) := by
  obtain ⟨i0, hi, hz0, hz1, hz2⟩ := info_parts info_i64
  refine wpList_append_own_at _ hgd s y 22 ho base 2 i0 (.int .i64 0) 1 8 Try.underlying22 hi hz0 hz1 hz2 rfl (by decide) v _ _ hs (hown.alloc _) ⟨w.heap.size, 0, none⟩ 1 1 [.int .i64 x] hy rfl (cell_one_new _ _ _) (by simp [Value.oneCell']) (by unfold maxLen; omega) (by omega) (by simp; omega) ?_
  intro v' w1 hown1 hgrow1 _ hat
  have hg : w.grownBy w1 v.ownBlock := (World.grownBy_alloc w _ _).trans hgrow1
  exact hK v' w1 (by simpa using hown1) hg (by simpa using hat) ((Below.refl base w).grown hg hbase (fun k hk => (hown.lt k hk).1))

end Go.Proofs.Ytbhdipljhelddaa

/-! slices.Reverse at []int64. -/
namespace Go.Proofs.Ytbhdipljhelddaa
open Go.RowKit Go.Lib Go.Sort

set_option maxHeartbeats 1600000 in
set_option maxRecDepth 1000000 in
theorem rev_arr (blk off cap : Nat) (d : Array Int) (w : World) (hH : Holds encI w blk off d) (hsz : d.size ≤ 9223372036854775807) :
    Calls Try.prog 134 #[.slice (some ⟨blk, off, none⟩) d.size cap] w fun e w' => (∃ v, e = .returned v) ∧ ∃ n, w' = putRow encI (Sort.ahead w n) blk off d.reverse := by
  go_enter Try.func134, Try.ntmps134
  go_wp2
  go_loopg [2, 3] d.size (fun k s2 s3 wr => ∃ (i jn : Nat) (jz : Int) (dk : Array Int) (n : Nat), s2 = .int .i64 i ∧ s3 = .int .i64 jz ∧ ((i : Int) < jz → jz = jn ∧ jn < d.size) ∧ (¬ (i : Int) < jz → ¬ i < jn) ∧ jn - i ≤ k ∧
    dk.size = d.size ∧ wr = putRow encI (Sort.ahead w n) blk off dk ∧ reverseLoop i jn dk = reverseLoop 0 (d.size - 1) d)
  case atStart => exact ⟨0, d.size - 1, (d.size : Int) - 1, d, 0, rfl, rfl, fun h => ⟨by omega, by omega⟩, fun h => by omega, by omega, rfl, (putRow_self encI w blk off d hH).symm, rfl⟩
  case round =>
    obtain ⟨i, jn, jz, dk, n, rfl, rfl, h1, h2, hk, hds, hwr, heq⟩ := hrel
    by_cases hlt : (i : Int) < jz
    · obtain ⟨rfl, hjn⟩ := h1 hlt
      have hij : i < jn := by omega
      have hHk : Holds encI wr blk off dk := by rw [hwr]; exact holds_putRow encI _ blk off d dk (holds_ahead encI w n blk off d hH) hds
      obtain ⟨ci, fi⟩ := hHk i (by omega)
      obtain ⟨cj, fj⟩ := hHk jn (by omega)
      have A : Aside (wr = putRow encI (Sort.ahead w n) blk off dk) := hwr
      clear hwr hHk hH h1 h2
      go_wp2_with fail
      go_region
      go_wp2
      go_roundg (jn - 1 - (i + 1))
      case measure => omega
      case rel =>
        rw [reverseLoop, if_pos hij] at heq
        exact ⟨i + 1, jn - 1, (jn : Int) - 1, swp dk i jn, n + 1, by simp, rfl, fun h => ⟨by omega, by omega⟩, fun h => by omega, Nat.le_refl _, by rw [size_swp]; exact hds,
          swap_world encI (by omega) (by omega) A.out (by first | rfl | simp [encI, getElem!_pos, show jn < dk.size by omega]) (by first | rfl | simp [encI, getElem!_pos, show i < dk.size by omega]), heq⟩
    · have hnot := h2 hlt
      go_wp2
      go_end0
      refine ⟨⟨_, rfl⟩, n, ?_⟩
      rw [reverseLoop, if_neg hnot] at heq
      rw [← Lib.reverseLoop_reverse, ← heq]

theorem rev_empty (a : Option Addr) (cap : Nat) (w : World) :
    Calls Try.prog 134 #[.slice a 0 cap] w fun e w' => (∃ v, e = .returned v) ∧ w' = w := by
  go_enter Try.func134, Try.ntmps134
  go_wp2
  refine wp_loop_rounds 1 ?_; rw [rounds_succ]
  go_wp2
  go_end0
  exact ⟨⟨_, rfl⟩, rfl⟩

end Go.Proofs.Ytbhdipljhelddaa

/-! listed; RestrictionsOf. -/
namespace Go.Proofs.Ytbhdipljhelddaa
open Go.RowKit Go.Shelf Go.Sort

theorem grow_nilL (w : World) : grow w #[] = w := by cases w; simp [grow]

/-- slices.Reverse on a slice of the call's own. -/
theorem rev_ownL (base : Nat) (v : Value) (xs : List Int) (w : World) (hown : w.ownsRow base 2 1 v xs.length (xs.map (Value.int .i64))) (hl : xs.length ≤ 1048576) :
    Calls Try.prog 134 #[v] w fun e w' => (∃ u, e = .returned u) ∧ w'.ownsRow base 2 1 v xs.reverse.length (xs.reverse.map (Value.int .i64)) ∧ w.grownBy w' v.ownBlock := by
  rcases hown.2 with ⟨rfl, h0⟩ | ⟨g, cap, cur, rfl, hg, hh, h1, h2, h3, h4⟩
  · obtain rfl : xs = [] := List.eq_nil_of_length_eq_zero h0
    exact (rev_empty none 0 w).mono fun e w' ⟨hv, hw⟩ => ⟨hv, by rw [hw]; exact World.ownsRow_nil _ _ _ _, by rw [hw]; exact ⟨rfl, rfl, rfl, Nat.le_refl _, fun _ _ _ => rfl⟩⟩
  · have hH := holds_of_blockI hh (by simpa using h4)
    have := rev_arr g 0 cap xs.toArray w hH (by simp; omega)
    simp only [List.size_toArray] at this
    refine this.mono fun e w' ⟨hv, m, hw⟩ => ⟨hv, ?_, ?_⟩
    · have e1 : (xs.toArray.reverse) = xs.reverse.toArray := by simp
      have h := ownsRow_sortedI (n := m) (os := #[]) (ss := xs) (ts := xs.reverse) (by simp) hg hh h1 h2 h3
      rw [grow_nilL] at h
      rw [hw, e1, List.length_reverse]
      exact h
    · have h := grownBy_sortedI (w := w) (g := g) (n := m) (os := #[]) xs.toArray.reverse
      rw [grow_nilL] at h
      rw [hw]
      exact h

/-- Two rows lie apart. -/
def Apt (u v : Value) : Prop := ∀ g, u.ownBlock = some g → v.ownBlock ≠ some g
def fsL (L : List (Nat × Nat)) : List Int := L.map fun o => (o.1 : Int)
def rsL (L : List (Nat × Nat)) : List Int := L.map fun o => (o.2 : Int)
theorem kept_apt {W W' : World} {base : Nat} {u v : Value} {xs : List Int} (h : W.ownsRow base 2 1 u xs.length (xs.map (Value.int .i64))) (hg : W.grownBy W' v.ownBlock) (ha : Apt u v) : W'.ownsRow base 2 1 u xs.length (xs.map (Value.int .i64)) := by
  cases hu : u.ownBlock with
  | none => exact h.kept hg (.inl hu)
  | some g => exact h.kept hg (.inr (fun e => ha g hu (by rw [← e, hu])))
theorem Apt.symm {u v : Value} (h : Apt u v) : Apt v u := fun g hv hu => h g hu hv
theorem Apt.new {W : World} {base : Nat} {u v v' : Value} {xs : List Int} (h : Apt u v) (hu : W.ownsRow base 2 1 u xs.length (xs.map (Value.int .i64))) (hat : v'.ownBlock = v.ownBlock ∨ v'.ownBlock = some (W.heap.size + 1)) : Apt u v' := by
  intro g hg e
  rcases hat with h1 | h1
  · exact h g hg (by rw [← h1, e])
  · rw [h1] at e
    injection e with e
    have := (hu.lt g hg).2
    omega

set_option maxRecDepth 1000000 in
set_option maxHeartbeats 4000000 in
theorem listed_any (p : Option Addr) (L : List (Nat × Nat)) (w : World) (hc : ChainAt w p L) (hL : L.length ≤ 1048576) :
    Calls Try.prog 68 #[.pointer p] w fun e w' => ∃ v2 v3, e = .returned (.tuple #[v2, v3]) ∧ Res w w' v3 (rsL L).reverse := by
  have Hc := hid hc
  clear hc
  go_enter Try.func68, Try.ntmps68
  go_wp2_with fail
  go_loopg [2, 3, 4] L.length (fun n s2 s3 s4 wr => ∃ (pre rest : List (Nat × Nat)) (q : Option Addr), s4 = .pointer q ∧ Hid (L = pre ++ rest) ∧ rest.length ≤ n ∧ Hid (ChainAt w q rest) ∧ Hid (wr.ownsRow w.heap.size 2 1 s2 (fsL pre).length ((fsL pre).map (Value.int .i64))) ∧ Hid (wr.ownsRow w.heap.size 2 1 s3 (rsL pre).length ((rsL pre).map (Value.int .i64))) ∧ Hid (Apt s2 s3) ∧ Hid (Below w.heap.size w wr))
  case atStart => exact ⟨[], L, p, rfl, hid rfl, Nat.le_refl _, Hc, hid (World.ownsRow_nil _ _ _ _), hid (World.ownsRow_nil _ _ _ _), hid (fun g h => by simp [Value.ownBlock] at h), hid (Below.refl _ _)⟩
  case round =>
    obtain ⟨pre, rest, q, rfl, Hl, hn, Hq, H2, H3, Ha, HB⟩ := hrel
    have hf2 : (fsL pre).length ≤ 1048576 := by have := congrArg List.length Hl.out; simp [fsL] at this ⊢; omega
    have hf3 : (rsL pre).length ≤ 1048576 := by have := congrArg List.length Hl.out; simp [rsL] at this ⊢; omega
    have Hf2 := hid hf2
    have Hf3 := hid hf3
    cases rest with
    | nil =>
      obtain rfl : q = none := Hq.out
      have Hp : Hid (pre = L) := hid (by rw [Hl.out, List.append_nil])
      have HR2 := hid (rev_ownL w.heap.size _ (fsL pre) wr H2.out hf2)
      clear hf2 hf3 hn
      go_wp2_with fail
      refine HR2.out.mono ?_
      rintro e w3 ⟨⟨u2, rfl⟩, _, hg3⟩
      have HR3 := hid (rev_ownL w.heap.size _ (rsL pre) w3 (kept_apt H3.out hg3 Ha.out.symm) Hf3.out)
      have HB3 := hid (HB.out.grown hg3 HB.out.size (fun k hk => (H2.out.lt k hk).1))
      clear hg3
      go_wp2_with fail
      refine HR3.out.mono ?_
      rintro e w4 ⟨⟨u3, rfl⟩, hown4, hg4⟩
      have HB4 := hid (HB3.out.grown hg4 HB3.out.size (fun k hk => (H3.out.lt k hk).1))
      have Hown4 := hid hown4
      clear hg4 hown4
      go_wp2_with fail
      go_ret2
      exact ⟨_, _, rfl, by rw [← Hp.out]; exact Hown4.out, HB4.out⟩
    | cons o rest =>
      obtain ⟨o, ro⟩ := o
      obtain ⟨b, q', rfl, hbk, ho, hro, hch⟩ := Hq.out
      have Hbk := hid hbk
      obtain ⟨c0, c1, c2, _⟩ := three_of ((HB.out.block b (lt_of_get hbk)).trans hbk)
      have Hch := hid hch
      have hn0 := hid hn
      have hbz := HB.out.size
      have Hl2 : Hid (L = (pre ++ [(o, ro)]) ++ rest) := hid (by rw [Hl.out]; simp)
      have e2 : fsL (pre ++ [(o, ro)]) = fsL pre ++ [(o : Int)] := by simp [fsL]
      have e3 : rsL (pre ++ [(o, ro)]) = rsL pre ++ [(ro : Int)] := by simp [rsL]
      have E2 := hid e2
      have E3 := hid e3
      clear hbk hch hn e2 e3
      have hf3' := Hf3.out
      go_wp2_with (first
        | (at_builtin; refine app_at rfl rfl H2.out hbz (by omega) rfl rfl ?_; intro v2 w2 hown2 hgrow2 hat2 hB2; have HK3 := hid (kept_apt H3.out hgrow2 Ha.out.symm); have HA2 := hid (Ha.out.symm.new H3.out hat2).symm; have hk2 := (hB2.block b (lt_of_get Hbk.out)).trans ((HB.out.block b (lt_of_get Hbk.out)).trans Hbk.out); obtain ⟨_, c12, c22, _⟩ := three_of hk2; have Hk2 := hid hk2; have hbz2 := Nat.le_trans hbz hB2.size; have Hown2 := hid hown2; have HB2 := hid (HB.out.trans hB2); clear hown2 hgrow2 hat2 hB2 hk2)
        | (at_builtin; refine app_at rfl rfl HK3.out hbz2 (by omega) rfl rfl ?_; intro v3 w3 hown3 hgrow3 hat3 hB3; have HO2 := hid (kept_apt Hown2.out hgrow3 HA2.out); have HA3 := hid (HA2.out.new Hown2.out hat3); obtain ⟨_, _, c23, _⟩ := three_of ((hB3.block b (lt_of_get Hbk.out)).trans Hk2.out); have Hown3 := hid hown3; have HB3 := hid (HB2.out.trans hB3); clear hown3 hgrow3 hat3 hB3))
      go_roundg rest.length
      case measure => have h := hn0.out; simp at h; omega
      case rel => exact ⟨_, rest, q', rfl, Hl2, Nat.le_refl _, Hch, hid (by rw [E2.out]; exact HO2.out), hid (by rw [E3.out]; exact Hown3.out), HA3, HB3⟩

end Go.Proofs.Ytbhdipljhelddaa

/-! listed: the facets. -/
namespace Go.Proofs.Ytbhdipljhelddaa
open Go.RowKit Go.Shelf Go.Sort

set_option maxRecDepth 1000000 in
set_option maxHeartbeats 4000000 in
theorem listedF_any (p : Option Addr) (L : List (Nat × Nat)) (w : World) (hc : ChainAt w p L) (hL : L.length ≤ 1048576) :
    Calls Try.prog 68 #[.pointer p] w fun e w' => ∃ v2 v3, e = .returned (.tuple #[v2, v3]) ∧ Res w w' v2 (fsL L).reverse := by
  have Hc := hid hc
  clear hc
  go_enter Try.func68, Try.ntmps68
  go_wp2_with fail
  go_loopg [2, 3, 4] L.length (fun n s2 s3 s4 wr => ∃ (pre rest : List (Nat × Nat)) (q : Option Addr), s4 = .pointer q ∧ Hid (L = pre ++ rest) ∧ rest.length ≤ n ∧ Hid (ChainAt w q rest) ∧ Hid (wr.ownsRow w.heap.size 2 1 s2 (fsL pre).length ((fsL pre).map (Value.int .i64))) ∧ Hid (wr.ownsRow w.heap.size 2 1 s3 (rsL pre).length ((rsL pre).map (Value.int .i64))) ∧ Hid (Apt s2 s3) ∧ Hid (Below w.heap.size w wr))
  case atStart => exact ⟨[], L, p, rfl, hid rfl, Nat.le_refl _, Hc, hid (World.ownsRow_nil _ _ _ _), hid (World.ownsRow_nil _ _ _ _), hid (fun g h => by simp [Value.ownBlock] at h), hid (Below.refl _ _)⟩
  case round =>
    obtain ⟨pre, rest, q, rfl, Hl, hn, Hq, H2, H3, Ha, HB⟩ := hrel
    have hf2 : (fsL pre).length ≤ 1048576 := by have := congrArg List.length Hl.out; simp [fsL] at this ⊢; omega
    have hf3 : (rsL pre).length ≤ 1048576 := by have := congrArg List.length Hl.out; simp [rsL] at this ⊢; omega
    have Hf2 := hid hf2
    have Hf3 := hid hf3
    cases rest with
    | nil =>
      obtain rfl : q = none := Hq.out
      have Hp : Hid (pre = L) := hid (by rw [Hl.out, List.append_nil])
      have HR2 := hid (rev_ownL w.heap.size _ (fsL pre) wr H2.out hf2)
      clear hf2 hf3 hn
      go_wp2_with fail
      refine HR2.out.mono ?_
      rintro e w3 ⟨⟨u2, rfl⟩, hown3, hg3⟩
      have Hown3F := hid hown3
      clear hown3
      have HR3 := hid (rev_ownL w.heap.size _ (rsL pre) w3 (kept_apt H3.out hg3 Ha.out.symm) Hf3.out)
      have HB3 := hid (HB.out.grown hg3 HB.out.size (fun k hk => (H2.out.lt k hk).1))
      clear hg3
      go_wp2_with fail
      refine HR3.out.mono ?_
      rintro e w4 ⟨⟨u3, rfl⟩, hown4, hg4⟩
      have HB4 := hid (HB3.out.grown hg4 HB3.out.size (fun k hk => (H3.out.lt k hk).1))
      have Hown4 := hid hown4
      have HownF := hid (kept_apt Hown3F.out hg4 Ha.out)
      clear hg4 hown4
      go_wp2_with fail
      go_ret2
      exact ⟨_, _, rfl, by rw [← Hp.out]; exact HownF.out, HB4.out⟩
    | cons o rest =>
      obtain ⟨o, ro⟩ := o
      obtain ⟨b, q', rfl, hbk, ho, hro, hch⟩ := Hq.out
      have Hbk := hid hbk
      obtain ⟨c0, c1, c2, _⟩ := three_of ((HB.out.block b (lt_of_get hbk)).trans hbk)
      have Hch := hid hch
      have hn0 := hid hn
      have hbz := HB.out.size
      have Hl2 : Hid (L = (pre ++ [(o, ro)]) ++ rest) := hid (by rw [Hl.out]; simp)
      have e2 : fsL (pre ++ [(o, ro)]) = fsL pre ++ [(o : Int)] := by simp [fsL]
      have e3 : rsL (pre ++ [(o, ro)]) = rsL pre ++ [(ro : Int)] := by simp [rsL]
      have E2 := hid e2
      have E3 := hid e3
      clear hbk hch hn e2 e3
      have hf3' := Hf3.out
      go_wp2_with (first
        | (at_builtin; refine app_at rfl rfl H2.out hbz (by omega) rfl rfl ?_; intro v2 w2 hown2 hgrow2 hat2 hB2; have HK3 := hid (kept_apt H3.out hgrow2 Ha.out.symm); have HA2 := hid (Ha.out.symm.new H3.out hat2).symm; have hk2 := (hB2.block b (lt_of_get Hbk.out)).trans ((HB.out.block b (lt_of_get Hbk.out)).trans Hbk.out); obtain ⟨_, c12, c22, _⟩ := three_of hk2; have Hk2 := hid hk2; have hbz2 := Nat.le_trans hbz hB2.size; have Hown2 := hid hown2; have HB2 := hid (HB.out.trans hB2); clear hown2 hgrow2 hat2 hB2 hk2)
        | (at_builtin; refine app_at rfl rfl HK3.out hbz2 (by omega) rfl rfl ?_; intro v3 w3 hown3 hgrow3 hat3 hB3; have HO2 := hid (kept_apt Hown2.out hgrow3 HA2.out); have HA3 := hid (HA2.out.new Hown2.out hat3); obtain ⟨_, _, c23, _⟩ := three_of ((hB3.block b (lt_of_get Hbk.out)).trans Hk2.out); have Hown3 := hid hown3; have HB3 := hid (HB2.out.trans hB3); clear hown3 hgrow3 hat3 hB3))
      go_roundg rest.length
      case measure => have h := hn0.out; simp at h; omega
      case rel => exact ⟨_, rest, q', rfl, Hl2, Nat.le_refl _, Hch, hid (by rw [E2.out]; exact HO2.out), hid (by rw [E3.out]; exact Hown3.out), HA3, HB3⟩

end Go.Proofs.Ytbhdipljhelddaa

/-! FirstShelling: the program's door. -/
namespace Go.Proofs.Ytbhdipljhelddaa
open Go.RowKit

theorem cntF_lt : ∀ k, k ≤ 12 → cntF k < 1152921504606846976 := by decide +kernel
theorem fut_new (w : World) : FutAt (w.alloc (.map #[] 0)) w.heap.size [] := World.ownsMap_made w _ _ _

set_option maxRecDepth 1000000 in
set_option maxHeartbeats 8000000 in
theorem implFirstShelling (V : Int) (a : Option Addr) (cap : Nat) (fs : List Int) (w : World) (hx : SlI w w.heap.size a fs) (hl : fs.length ≤ 1048576) :
    Calls Try.prog 28 #[.agg #[.int .i64 V, .slice a fs.length cap]] w fun e w' => ∃ v, e = .returned (.tuple #[v, .int .i64 (fshR V fs).2]) ∧ Res w w' v (fshR V fs).1 := by
  obtain ⟨W, hW⟩ : ∃ W, W = w.alloc (.cells #[.int .i64 V, .slice a fs.length cap] 28) := ⟨_, rfl⟩
  have hB0 : Below w.heap.size w W := by rw [hW]; exact (Below.refl _ w).alloc (Nat.le_refl _) _
  have HP := KeptQ.mk (pureFacets_any V a cap fs W (hx.later hB0 hB0.size) hl)
  have HB0 := KeptQ.mk hB0
  rw [hW] at HP
  clear hx hB0
  by_cases h0 : (pureFacetsR V fs).2 = 0
  · have hC : IsC V fs := Classical.byContradiction fun hn => by
      unfold pureFacetsR at h0
      rw [isCB_false hn, if_neg (by simp)] at h0
      simp at h0
    have hp : pureB (facetsL fs) = true := by
      cases hb : pureB (facetsL fs)
      · unfold pureFacetsR at h0
        rw [isCB_true hC, if_pos rfl, hb, if_neg (by simp)] at h0
        simp at h0
      · rfl
    have hR : pureFacetsR V fs = (facetsL fs, 0) := by unfold pureFacetsR; rw [isCB_true hC, if_pos rfl, hp, if_pos rfl]
    rw [hR] at HP
    have hnl := nsOf_len fs
    by_cases h12 : (facetsL fs).length ≤ 12
    · obtain ⟨o, ho⟩ : ∃ o, o = (srch (nsOf fs) gdS (nsOf fs).length [] 0 []).1 := ⟨_, rfl⟩
      refine list_monoF (show fshR V fs = ((ansF o).1, (ansF o).2) by rw [fshR, isCB_true hC, if_pos rfl, hp, if_pos rfl, if_pos h12, ← ho]) ?_
      have hni := nsOf_ints hC
      have hS := SSt.start (nsOf_nodup hC)
      have h64 := fun x (h : x ∈ nsOf fs) => nsOf_lt hC h
      have hmx := nsOf_max hC
      have hxl : ∀ x, o = some x → x.length ≤ 12 := fun x e => by
        cases h : srch (nsOf fs) gdS (nsOf fs).length [] 0 [] with
        | mk o2 dd =>
          rw [h] at ho
          simp only at ho
          rw [e] at ho
          subst ho
          have := (srch_found _ _ _ _ _ _ hS h).1
          omega
      obtain ⟨ns, hns⟩ : ∃ ns, ns = nsOf fs := ⟨_, rfl⟩
      obtain ⟨F, hF⟩ : ∃ F, F = facetsL fs := ⟨_, rfl⟩
      rw [← hns] at ho hni hnl hS h64 hmx
      rw [← hF] at hni hnl h12 HP
      obtain ⟨n, hn⟩ : ∃ n, n = F.length := ⟨_, rfl⟩
      have hgt : ¬ (12 : Int) < (n : Int) := by omega
      have Hn := KeptQ.mk hn
      have Hnl := KeptQ.mk (hnl.trans hn.symm)
      have Hni := KeptQ.mk hni
      have HSS := KeptQ.mk hS
      have Ho := KeptQ.mk ho
      have H12 := KeptQ.mk h12
      have H64 := KeptQ.mk h64
      have Hmx := KeptQ.mk hmx
      have Hxl := KeptQ.mk hxl
      have hmm := @run_makeMap Try.prog
      clear h0 hC hp hR hnl hn h12 hni hS ho hns hF h64 hmx hxl
      go_enter Try.func28, Try.ntmps28
      go_wp2_with fail
      refine HP.out.mono ?_
      rintro e w1 ⟨v1, rfl, hr1⟩
      rw [← hW] at hr1
      have HB1 := KeptQ.mk (HB0.out.trans (Below.mono (w := W) hr1.2 HB0.out.size))
      obtain ⟨_, a1, c1, rfl, hs1⟩ := ownsRow_slI hr1.1
      rw [← Hn.out]
      obtain ⟨W4, hW4⟩ : ∃ W4, W4 = w1.alloc (.map #[] 0) := ⟨_, rfl⟩
      have hb4 : Below w1.heap.size w1 W4 := by rw [hW4]; exact (Below.refl _ _).alloc (Nat.le_refl _) _
      have hfut : FutAt W4 w1.heap.size [] := by rw [hW4]; exact fut_new w1
      have hf4 : SlX W4 w1.heap.size a1 (intsN ns) := by
        rw [Hni.out]
        rcases hs1 with h | ⟨bb, oo, h1, h2, h3⟩
        · exact .inl h
        · exact .inr ⟨bb, oo, by omega, Nat.lt_of_lt_of_le h1 hb4.size, h2, fun i hi => (hb4.cell (p := ⟨bb, oo + i, none⟩) h1).trans (h3 i hi)⟩
      have HFi := findI_any ns (by rw [Hnl.out, Hn.out]; exact H12.out) H64.out Hmx.out ns.length [] 0 [] W4 a1 none c1 w1.heap.size [] HSS.out hf4 rfl rfl hfut (by have := cntF_lt ns.length (by rw [Hnl.out, Hn.out]; exact H12.out); simpa using this)
      rw [Hnl.out] at HFi
      simp only [show ((0 : Nat) : Int) = 0 from rfl] at HFi
      have HFiK := KeptQ.mk HFi
      have HB4 := KeptQ.mk (HB1.out.trans (hb4.mono HB1.out.size))
      have Hgw := KeptQ.mk HB1.out.size
      have Ho2 := KeptQ.mk (show o = (srch ns gdS n [] 0 []).1 by rw [Ho.out, Hnl.out])
      clear hr1 hs1 hb4 hfut hf4 HFi HP
      go_wp2_with fail
      try rw [← hW4]
      refine HFiK.out.mono ?_
      rintro e w6 ⟨q6, b6, rfl, hR⟩
      have HB6 := KeptQ.mk (HB4.out.grown hR.grown HB4.out.size (fun q e => by injection e with e; have := Hgw.out; omega))
      have hok := hR.ok
      have hrow := hR.row
      rw [← Ho2.out] at hok hrow
      cases o with
      | none =>
        obtain rfl : b6 = false := hok
        clear hR hrow HFiK hW4
        go_wp2_with fail
        go_ret2
        exact ⟨_, rfl, res_nilF HB6.out⟩
      | some x =>
        obtain rfl : b6 = true := hok
        obtain ⟨ch, hch, hcf⟩ := hrow x rfl
        have hx12 := Hxl.out x rfl
        have hcl : ch.length ≤ 1048576 := by
          have := congrArg List.length hcf
          simp at this
          omega
        have hfl : (fsL ch).reverse = intsN x := by
          have : fsL ch = intsN (ch.map Prod.fst) := by unfold fsL intsN; rw [List.map_map]; rfl
          rw [this, hcf]
          unfold intsN
          rw [← List.map_reverse, List.reverse_reverse]
        have HLi := KeptQ.mk (listedF_any q6 ch w6 hch hcl)
        rw [hfl] at HLi
        clear hR hrow HFiK hW4 hch hcf hcl hfl hx12
        go_wp2_with fail
        refine HLi.out.mono ?_
        rintro e w7 ⟨v7, v8, rfl, hr7⟩
        have HR7 := KeptQ.mk (show Res w w7 v7 (intsN x) from ⟨ownsRow_base hr7.1 HB6.out.size, HB6.out.trans (hr7.2.mono HB6.out.size)⟩)
        clear hr7 HLi
        go_wp2_with fail
        go_ret2
        exact ⟨_, rfl, HR7.out⟩
    · refine list_monoF (show fshR V fs = ([], 3) by rw [fshR, isCB_true hC, if_pos rfl, hp, if_pos rfl, if_neg h12]) ?_
      obtain ⟨n, hn⟩ : ∃ n, n = (facetsL fs).length := ⟨_, rfl⟩
      have hgt : (12 : Int) < (n : Int) := by omega
      have Hn := KeptQ.mk hn
      clear h0 hC hp hR hnl h12 hn
      go_enter Try.func28, Try.ntmps28
      go_wp2_with fail
      refine HP.out.mono ?_
      rintro e w1 ⟨v1, rfl, hr1⟩
      rw [← hW] at hr1
      have HB1 := KeptQ.mk (HB0.out.trans (Below.mono (w := W) hr1.2 HB0.out.size))
      obtain ⟨_, a1, c1, rfl, _⟩ := ownsRow_slI hr1.1
      rw [← Hn.out]
      clear hr1 HP
      go_wp2_with fail
      go_ret2
      exact ⟨_, rfl, res_nilF HB1.out⟩
  · have hR : fshR V fs = ([], (pureFacetsR V fs).2) := by
      unfold fshR pureFacetsR at *
      by_cases hC : IsC V fs
      · rw [isCB_true hC, if_pos rfl] at h0 ⊢
        cases hb : pureB (facetsL fs)
        · simp
        · rw [hb] at h0
          simp at h0
      · rw [isCB_false hC]
        simp
    refine list_monoF hR ?_
    obtain ⟨R, hRR⟩ : ∃ R, R = pureFacetsR V fs := ⟨_, rfl⟩
    rw [← hRR] at HP h0 ⊢
    have hc1 : (R.2 == 0) = false := by simpa using h0
    clear hRR hR h0
    obtain ⟨xs, c⟩ := R
    simp only at HP hc1 ⊢
    go_enter Try.func28, Try.ntmps28
    go_wp2_with fail
    refine HP.out.mono ?_
    rintro e w1 ⟨v1, rfl, hr1⟩
    rw [← hW] at hr1
    have HB1 := KeptQ.mk (HB0.out.trans (Below.mono (w := W) hr1.2 HB0.out.size))
    clear hr1 HP
    go_wp2_with fail
    go_ret2
    exact ⟨_, rfl, res_nilF HB1.out⟩

end Go.Proofs.Ytbhdipljhelddaa

/-! What a complex that comes in is told as, for the rows of all laws. -/
namespace Go.Proofs.Ytbhdipljhelddaa
open Go.ChangeShapes Go.WideShapes Go.ChangeAt Go.RowKit Go.Joins

theorem own : ownKnob Try.prog.godebug = none := by kernel_rfl
theorem laidOut : laidOutB Try.prog = true := by kernel_rfl

variable {H : Type} {enc : TypeId × Value → H}

/-- A slice of int64 that came in. -/
theorem slI_of_trod {W : World} {n : Nat} {v : Value} {y : DataW H × List MemPlace} (hf : DataW.trod enc Try.prog W 0 (fun _ => true) true n 22 [v] = some y) :
    ∃ a len cap xs, v = .slice a len cap ∧ xs.length = len ∧ len ≤ 9223372036854775807 ∧ SlI W W.heap.size a xs ∧ ∀ x ∈ xs, (Lit.int .i64 x).wf = true := by
  rcases open_ints Try.underlying22 Try.underlying2 (by kernel_rfl) hf with ⟨hcs, _⟩ | ⟨x, l, c, zs, hcs, _, hl, hm, hz, _, hcell, hwf⟩
  · simp at hcs
    subst hcs
    exact ⟨none, 0, 0, [], rfl, rfl, by omega, .inl rfl, by simp⟩
  · simp at hcs
    subst hcs
    simp at hz
    have hlen : (zs.take l).length = l := by simp; omega
    unfold maxLen at hm
    refine ⟨some x, l, c, zs.take l, rfl, hlen, by omega, ?_, fun y hy => hwf y (List.mem_of_mem_take hy)⟩
    by_cases h0 : l = 0
    · subst h0; exact .inl (by simp)
    · right
      obtain ⟨b, off, spot⟩ := x
      have hc0 := hcell 0 (by omega)
      have hspot : spot = none := by simpa [Addr.add] using World.cell?_spot hc0
      subst hspot
      refine ⟨b, off, ?_, rfl, fun i hi => ?_⟩
      · have := World.block_lt_of_cell? W _ hc0
        simpa [Addr.add] using this
      · rw [hlen] at hi
        have := hcell i (by omega)
        have hadd : (⟨b, off, none⟩ : Addr).add i = ⟨b, off + i, none⟩ := by unfold Addr.add; split <;> simp_all
        rw [hadd] at this
        rw [List.getElem?_take, if_pos hi]
        simpa using this

end Go.Proofs.Ytbhdipljhelddaa

/-! Contracts of the laws' small helpers: sizes, copies, comparisons. -/
namespace Go.Proofs.Ytbhdipljhelddaa
open Go.RowKit

theorem fill_step {xs : List Int} {k : Nat} (h : k < xs.length) :
    ((xs.take k ++ List.replicate (xs.length - k) (0 : Int)).map (Value.int .i64)).set k (.int .i64 (xs[k]?.getD 0)) = (xs.take (k + 1) ++ List.replicate (xs.length - (k + 1)) (0 : Int)).map (Value.int .i64) := by
  rw [take_snoc h, ← List.map_set]
  congr 1
  have e : xs.length - k = (xs.length - (k + 1)) + 1 := by omega
  rw [e, List.replicate_succ, List.set_append_right _ _ (by simp <;> omega)]
  simp [Nat.min_eq_left (Nat.le_of_lt h)]

set_option maxHeartbeats 400000 in
theorem toInts (a : Option Addr) (cap : Nat) (xs : List Int) (w : World) (hx : SlI w w.heap.size a xs) (hl : xs.length ≤ 1048576) :
    Calls Try.prog 30 #[.slice a xs.length cap] w fun e w' =>
      e = .returned (.slice (some ⟨w.heap.size, 0, none⟩) xs.length xs.length) ∧ w'.ownsRow w.heap.size 2 1 (.slice (some ⟨w.heap.size, 0, none⟩) xs.length xs.length) xs.length (xs.map (Value.int .i64)) ∧ Below w.heap.size w w' := by
  go_enter Try.func30, Try.ntmps30
  go_wp2_with (at_make; refine make_int rfl rfl rfl rfl (by omega) ?_; intro w1 hown hg hB)
  rcases hx with rfl | ⟨b, off, hb, rfl, hc⟩
  · refine wp_loop_rounds 1 ?_; rw [rounds_succ]
    go_wp2
    go_ret
    exact ⟨rfl, hown, hB⟩
  · go_loopw [4] (fun i wr => ∃ k : Nat, k ≤ xs.length ∧ i = .int .i64 k ∧ wr.ownsRow w.heap.size 2 1 (.slice (some ⟨w.heap.size, 0, none⟩) xs.length xs.length) xs.length ((xs.take k ++ List.replicate (xs.length - k) (0 : Int)).map (Value.int .i64)) ∧ Below w.heap.size w wr) (fun i _ => xs.length - (intOf i).toNat)
    case atStart => exact ⟨0, Nat.zero_le _, rfl, by simpa using hown, hB⟩
    case round =>
      obtain ⟨k, hk, rfl, hown, hB⟩ := hrel
      by_cases hlt : k < xs.length
      · obtain ⟨x, hx⟩ : ∃ x, x = xs[k]?.getD 0 := ⟨_, rfl⟩
        have hck : wr.cell? ⟨b, off + k, none⟩ = some (.int .i64 x) := by rw [hx]; exact (hB.cell (p := ⟨b, off + k, none⟩) hb).trans (hc k hlt)
        have hcg : wr.cell? ⟨w.heap.size, k, none⟩ = some (.int .i64 0) := by
          rw [hown.cellAt k (by omega)]
          rw [List.getElem?_map, List.getElem?_append_right (by simp <;> omega)]
          simp [List.getElem?_replicate, Nat.min_eq_left hk]
          omega
        have hfg := hown.frozenAt k
        have Hx := hid hx
        have Hc := hid hc
        clear hx hc
        have hst := hown.stored k (.int .i64 x)
        have Hst := hid hst.1
        clear hst
        go_wp2
        go_roundw
        case rel =>
          refine ⟨k + 1, by omega, by go_num, ?_, hB.setCell (p := ⟨w.heap.size, k, none⟩) (Nat.le_refl _) _⟩
          have h := Hst.out
          rw [Hx.out, fill_step hlt, ← Hx.out] at h
          exact h
        case measure => simp [intOf]; omega
      · go_wp2
        go_ret
        obtain rfl : k = xs.length := by omega
        exact ⟨rfl, by simpa using hown, hB⟩

/-- What is left of a size. -/
def szR (left : Int) (n : Nat) : Int := if left < n then -1 else left - n
theorem szR_big {left : Int} {n : Nat} (h : left < n) : szR left n = -1 := by unfold szR; rw [if_pos h]
theorem szR_fit {left : Int} {n : Nat} (h : ¬ left < n) : szR left n = left - n := by unfold szR; rw [if_neg h]

set_option maxHeartbeats 400000 in
theorem szInts (a : Option Addr) (n cap : Nat) (left : Int) (w : World) (h1 : 0 ≤ left) (h2 : left ≤ 1048576) (hn : n ≤ 9223372036854775807) :
    Calls Try.prog 41 #[.slice a n cap, .int .i64 left] w fun e w' => e = .returned (.int .i64 (szR left n)) ∧ w = w' := by
  by_cases h : left < n
  · have H := hid (szR_big h)
    go_enter Try.func41, Try.ntmps41
    go_wp2
    go_ret
    exact ⟨ret_int (by rw [H.out]), rfl⟩
  · have H := hid (szR_fit h)
    go_enter Try.func41, Try.ntmps41
    go_wp2
    go_ret
    exact ⟨ret_int (by rw [H.out]), rfl⟩

set_option maxHeartbeats 400000 in
theorem szCx (V : Int) (a : Option Addr) (n cap : Nat) (left : Int) (w : World) (h1 : 0 ≤ left) (h2 : left ≤ 1048576) (hn : n ≤ 9223372036854775807) :
    Calls Try.prog 11 #[.agg #[.int .i64 V, .slice a n cap], .int .i64 left] w fun e w' => e = .returned (.int .i64 (szR left n)) ∧ Below w.heap.size w w' := by
  have hr : szR left n = -1 ∨ 0 ≤ szR left n := by
    by_cases h : left < n
    · exact .inl (szR_big h)
    · rw [szR_fit h]; right; omega
  have hr' : szR left n < 0 ∨ 0 ≤ szR left n := by omega
  have hm : szR left n < 0 → szR left n = -1 := by omega
  have Hm := hid hm
  clear hr hm
  obtain ⟨r, hr0⟩ : ∃ r, r = szR left n := ⟨_, rfl⟩
  rw [← hr0] at hr'
  have hr := hr'
  have H := hid hr0
  clear hr0 hr'
  go_enter Try.func11, Try.ntmps11
  go_wp2_with fail
  refine (szInts a n cap left _ h1 h2 hn).mono ?_
  rintro e w' ⟨rfl, rfl⟩
  rw [← H.out]
  rcases hr with hr | hr
  · go_wp2
    go_ret
    exact ⟨ret_int (Hm.out (by rw [← H.out]; exact hr)).symm, (Below.refl _ w).alloc (Nat.le_refl _) _⟩
  · go_wp2
    go_ret
    exact ⟨ret_int H.out, (Below.refl _ w).alloc (Nat.le_refl _) _⟩

set_option maxHeartbeats 400000 in
theorem toCx (V : Int) (a : Option Addr) (cap : Nat) (xs : List Int) (w : World) (hx : SlI w w.heap.size a xs) (hl : xs.length ≤ 1048576) :
    Calls Try.prog 13 #[.agg #[.int .i64 V, .slice a xs.length cap]] w fun e w' =>
      ∃ g, e = .returned (.agg #[.int .i64 V, .slice (some ⟨g, 0, none⟩) xs.length xs.length]) ∧ w'.ownsRow w.heap.size 2 1 (.slice (some ⟨g, 0, none⟩) xs.length xs.length) xs.length (xs.map (Value.int .i64)) ∧ Below w.heap.size w w' := by
  go_enter Try.func13, Try.ntmps13
  go_wp2_with fail
  refine (toInts a cap xs _ (SlI.later hx (?hb : Below w.heap.size w _) ?hs) hl).mono ?_
  case hb => repeat (first | exact Below.refl _ _ | refine Below.alloc ?_ (by simp <;> omega) _ | refine Below.setCell ?_ (by simp <;> omega) _)
  case hs => simp <;> omega
  rintro e w1 ⟨rfl, hown, hB⟩
  have hB1 : Below w.heap.size w w1 := Below.trans (by repeat (first | exact Below.refl _ _ | refine Below.alloc ?_ (by simp <;> omega) _ | refine Below.setCell ?_ (by simp <;> omega) _)) (hB.mono (by simp <;> omega))
  have e0 : w1.cell? ⟨w.heap.size + 1 + 1, 0, none⟩ = some (.int .i64 V) := (hB.cell (p := ⟨w.heap.size + 1 + 1, 0, none⟩) (by simp)).trans (by simp [go_sem])
  have e1 : w1.cell? ⟨w.heap.size + 1 + 1, 1, none⟩ = some (.slice none 0 0) := (hB.cell (p := ⟨w.heap.size + 1 + 1, 1, none⟩) (by simp)).trans (by simp [go_sem])
  have e2 : w1.cell? ⟨w.heap.size + 1, 0, none⟩ = some (.int .i64 0) := (hB.cell (p := ⟨w.heap.size + 1, 0, none⟩) (by simp)).trans (by simp [go_sem])
  have e3 : w1.cell? ⟨w.heap.size + 1, 1, none⟩ = some (.slice none 0 0) := (hB.cell (p := ⟨w.heap.size + 1, 1, none⟩) (by simp)).trans (by simp [go_sem])
  have g1 : w1.frozen? ⟨w.heap.size + 1 + 1, 1, none⟩ = false := (hB.frozen (p := ⟨w.heap.size + 1 + 1, 1, none⟩) (by simp)).trans (by simp [go_sem])
  have g2 : w1.frozen? ⟨w.heap.size + 1, 0, none⟩ = false := (hB.frozen (p := ⟨w.heap.size + 1, 0, none⟩) (by simp)).trans (by simp [go_sem])
  have g3 : w1.frozen? ⟨w.heap.size + 1, 1, none⟩ = false := (hB.frozen (p := ⟨w.heap.size + 1, 1, none⟩) (by simp)).trans (by simp [go_sem])
  have hs1 := hB.size
  simp at hs1
  have Hown := hid (hown)
  clear hown
  go_wp2_with fail
  refine bodyPost_ret (v := .agg #[.int .i64 V, .slice (some ⟨w.heap.size + 1 + 1 + 1, 0, none⟩) xs.length xs.length]) (by simp [results, Try.results13, go_sem, e2, e3]) rfl ⟨w.heap.size + 1 + 1 + 1, rfl, ?_, ?_⟩
  · have h := Hown.out
    simp only [World.size_alloc] at h
    refine ownsRow_set (ownsRow_set (ownsRow_set (ownsRow_base h (by omega)) ?_ _) ?_ _) ?_ _ <;> (simp [Value.ownBlock] <;> omega)
  · exact ((hB1.setCell (by simp; omega) _).setCell (by simp) _).setCell (by simp) _

set_option maxHeartbeats 400000 in
theorem eqInts_any (a1 a2 : Option Addr) (c1 c2 : Nat) (xs ys : List Int) (w : World) (hx : SlI w w.heap.size a1 xs) (hy : SlI w w.heap.size a2 ys) (hl : xs.length ≤ 1048576) (hl2 : ys.length ≤ 1048576) :
    Calls Try.prog 15 #[.slice a1 xs.length c1, .slice a2 ys.length c2] w fun e w' => e = .returned (.bool (decide (xs = ys))) ∧ Below w.heap.size w w' := by
  by_cases hlen : xs.length = ys.length
  · rcases hx with rfl | ⟨b, off, hb, rfl, hc⟩
    · obtain rfl : ys = [] := List.eq_nil_of_length_eq_zero hlen.symm
      go_enter Try.func15, Try.ntmps15
      go_wp2
      refine wp_loop_rounds 1 ?_; rw [rounds_succ]
      go_wp2
      go_ret
      exact ⟨ret_bool (by simp), Below.refl _ _⟩
    · rcases hy with rfl | ⟨b2, off2, hb2, rfl, hc2⟩
      · obtain rfl : xs = [] := List.eq_nil_of_length_eq_zero hlen
        go_enter Try.func15, Try.ntmps15
        go_wp2
        refine wp_loop_rounds 1 ?_; rw [rounds_succ]
        go_wp2
        go_ret
        exact ⟨ret_bool (by simp), Below.refl _ _⟩
      · have Hc := hid hc
        have Hc2 := hid hc2
        have hne : ((xs.length : Int) != (ys.length : Int)) = false := by simp [hlen]
        have Hlen := hid hlen
        have hle : xs.length ≤ ys.length := by omega
        clear hc hc2 hlen
        go_enter Try.func15, Try.ntmps15
        go_wp2
        go_loopw [5] (fun i wr => ∃ k : Nat, k ≤ xs.length ∧ i = .int .i64 k ∧ Hid (∀ j, j < k → xs[j]?.getD 0 = ys[j]?.getD 0) ∧ Below w.heap.size w wr) (fun i _ => xs.length - (intOf i).toNat)
        case atStart => exact ⟨0, Nat.zero_le _, rfl, hid (by omega), Below.refl _ _⟩
        case round =>
          obtain ⟨k, hk, rfl, Hk, hB⟩ := hrel
          by_cases hlt : k < xs.length
          · obtain ⟨x, hx⟩ : ∃ x, x = xs[k]?.getD 0 := ⟨_, rfl⟩
            obtain ⟨y, hy⟩ : ∃ y, y = ys[k]?.getD 0 := ⟨_, rfl⟩
            have hck : wr.cell? ⟨b, off + k, none⟩ = some (.int .i64 x) := by rw [hx]; exact (hB.cell (p := ⟨b, off + k, none⟩) hb).trans (Hc.out k hlt)
            have hck2 : wr.cell? ⟨b2, off2 + k, none⟩ = some (.int .i64 y) := by rw [hy]; exact (hB.cell (p := ⟨b2, off2 + k, none⟩) hb2).trans (Hc2.out k (by omega))
            have Hx := hid hx
            have Hy := hid hy
            clear hx hy
            have hi0 : (0 : Int) ≤ (k : Int) := by omega
            have hi1 : (k : Int) < (xs.length : Int) := by omega
            have hi2 : (k : Int) < (ys.length : Int) := by omega
            by_cases hxy : x = y
            · have hd : (x != y) = false := by simp [hxy]
              have Hxy := hid hxy
              clear hxy
              go_wp2_with fail
              go_quiet (fail)
              go_wp2_with fail
              go_roundw
              case rel =>
                refine ⟨k + 1, by omega, by go_num, hid (fun j hj => ?_), hB.trans ⟨rfl, rfl, rfl, Nat.le_refl _, fun _ _ => rfl⟩⟩
                by_cases hjk : j < k
                · exact Hk.out j hjk
                · obtain rfl : j = k := by omega
                  rw [← Hx.out, ← Hy.out, Hxy.out]
              case measure => simp [intOf]; omega
            · have hd : (x != y) = true := by simp [hxy]
              go_wp2_with fail
              go_quiet (fail)
              go_wp2_with fail
              go_ret
              refine ⟨ret_bool ?_, hB.trans ⟨rfl, rfl, rfl, Nat.le_refl _, fun _ _ => rfl⟩⟩
              symm
              refine decide_eq_false (fun h => hxy ?_)
              rw [Hx.out, Hy.out, h]
          · obtain rfl : k = xs.length := by omega
            go_wp2
            go_ret
            refine ⟨ret_bool ?_, hB⟩
            symm
            refine decide_eq_true (List.ext_getElem Hlen.out (fun j h1 h2 => ?_))
            have := Hk.out j h1
            rw [List.getElem?_eq_getElem h1, List.getElem?_eq_getElem h2] at this
            simpa using this
  · have hne : ((xs.length : Int) != (ys.length : Int)) = true := by simp; omega
    have Hlen := hid hlen
    clear hlen
    go_enter Try.func15, Try.ntmps15
    go_wp2
    go_ret
    refine ⟨ret_bool ?_, Below.refl _ _⟩
    symm
    exact decide_eq_false (fun h => Hlen.out (by rw [h]))

theorem eqInts_yes (a1 a2 : Option Addr) (c1 c2 : Nat) (xs ys : List Int) (w : World) (hx : SlI w w.heap.size a1 xs) (hy : SlI w w.heap.size a2 ys) (hl : xs.length ≤ 1048576) (hl2 : ys.length ≤ 1048576) (h : xs = ys) :
    Calls Try.prog 15 #[.slice a1 xs.length c1, .slice a2 ys.length c2] w fun e w' => e = .returned (.bool true) ∧ Below w.heap.size w w' :=
  (eqInts_any a1 a2 c1 c2 xs ys w hx hy hl hl2).mono fun _ _ ⟨he, hw⟩ => ⟨by rw [he, decide_eq_true h], hw⟩

theorem eqInts_no (a1 a2 : Option Addr) (c1 c2 : Nat) (xs ys : List Int) (w : World) (hx : SlI w w.heap.size a1 xs) (hy : SlI w w.heap.size a2 ys) (hl : xs.length ≤ 1048576) (hl2 : ys.length ≤ 1048576) (h : ¬ xs = ys) :
    Calls Try.prog 15 #[.slice a1 xs.length c1, .slice a2 ys.length c2] w fun e w' => e = .returned (.bool false) ∧ Below w.heap.size w w' :=
  (eqInts_any a1 a2 c1 c2 xs ys w hx hy hl hl2).mono fun _ _ ⟨he, hw⟩ => ⟨by rw [he, decide_eq_false h], hw⟩

set_option maxHeartbeats 400000 in
theorem eqCx_yes (V : Int) (a1 a2 : Option Addr) (c1 c2 : Nat) (xs ys : List Int) (w : World) (hx : SlI w w.heap.size a1 xs) (hy : SlI w w.heap.size a2 ys) (hl : xs.length ≤ 1048576) (hl2 : ys.length ≤ 1048576) (h : xs = ys) :
    Calls Try.prog 16 #[.agg #[.int .i64 V, .slice a1 xs.length c1], .agg #[.int .i64 V, .slice a2 ys.length c2]] w fun e w' => e = .returned (.bool true) ∧ Below w.heap.size w w' := by
  have H := hid h
  clear h
  have hne : (V != V) = false := by simp
  go_enter Try.func16, Try.ntmps16
  go_wp2_with fail
  have hB : Below w.heap.size w ((w.alloc (.cells #[.int .i64 V, .slice a1 xs.length c1] 28)).alloc (.cells #[.int .i64 V, .slice a2 ys.length c2] 28)) := ((Below.refl _ w).alloc (Nat.le_refl _) _).alloc (by simp) _
  refine (eqInts_yes a1 a2 c1 c2 xs ys _ (SlI.later hx hB (by simp <;> omega)) (SlI.later hy hB (by simp <;> omega)) hl hl2 H.out).mono ?_
  rintro e w' ⟨rfl, hb⟩
  go_wp2_with fail
  go_ret
  exact ⟨rfl, hB.trans (hb.mono (by simp <;> omega))⟩

end Go.Proofs.Ytbhdipljhelddaa

/-! Marks: what the laws write into results, and find again. -/
namespace Go.Proofs.Ytbhdipljhelddaa
open Go.RowKit

/-- k, k + 1, .. -/
def count (k : Int) : Nat → List Int
  | 0 => []
  | n + 1 => count k n ++ [k + n]

theorem count_len (k : Int) : ∀ n, (count k n).length = n
  | 0 => rfl
  | n + 1 => by simp [count, count_len k n]

theorem count_get (k : Int) : ∀ n i, i < n → (count k n)[i]?.getD 0 = k + i
  | 0, i, h => by omega
  | n + 1, i, h => by
    unfold count
    by_cases hi : i < n
    · rw [List.getElem?_append_left (by rw [count_len]; exact hi)]
      exact count_get k n i hi
    · obtain rfl : i = n := by omega
      rw [List.getElem?_append_right (by rw [count_len]; omega), count_len]
      simp

theorem mark_step {k : Int} {xs : List Int} {j : Nat} (h : j < xs.length) :
    ((count k j ++ xs.drop j).map (Value.int .i64)).set j (.int .i64 (k + j)) = (count k (j + 1) ++ xs.drop (j + 1)).map (Value.int .i64) := by
  rw [← List.map_set]
  congr 1
  rw [List.set_append_right _ _ (by rw [count_len]; exact Nat.le_refl _), count_len, Nat.sub_self]
  rw [List.drop_eq_getElem_cons h, List.set_cons_zero]
  simp [count]

set_option maxHeartbeats 400000 in
theorem markInts (base : Nat) (a : Option Addr) (cap : Nat) (xs : List Int) (k : Int) (w : World) (hown : w.ownsRow base 2 1 (.slice a xs.length cap) xs.length (xs.map (Value.int .i64))) (hl : xs.length ≤ 1048576) (h0 : 0 ≤ k) (h1 : k ≤ 1099511627776) :
    Calls Try.prog 18 #[.slice a xs.length cap, .int .i64 k] w fun e w' => e = .returned (.int .i64 (k + xs.length)) ∧
      w'.ownsRow base 2 1 (.slice a xs.length cap) xs.length ((count k xs.length).map (Value.int .i64)) ∧ w.grownBy w' (Value.ownBlock (.slice a xs.length cap)) := by
  rcases hown.2 with ⟨hv, hn⟩ | ⟨g, cap', cur, hv, hb, hg, rest⟩
  · obtain rfl : xs = [] := List.eq_nil_of_length_eq_zero hn
    have Hown := hid hown
    clear hown hv hn
    go_enter Try.func18, Try.ntmps18
    go_wp2
    refine wp_loop_rounds 1 ?_; rw [rounds_succ]
    go_wp2
    go_ret
    exact ⟨ret_int (by simp), Hown.out, ⟨rfl, rfl, rfl, Nat.le_refl _, fun _ _ _ => rfl⟩⟩
  · cases hv
    have Hg := hid (And.intro hb hg)
    clear hb hg rest
    go_enter Try.func18, Try.ntmps18
    go_wp2
    go_loopw [1, 5] (fun m i wr => ∃ j : Nat, j ≤ xs.length ∧ i = .int .i64 j ∧ m = .int .i64 (k + j) ∧ wr.ownsRow base 2 1 (.slice (some ⟨g, 0, none⟩) xs.length cap) xs.length ((count k j ++ xs.drop j).map (Value.int .i64)) ∧ w.grownBy wr (some g)) (fun _ i _ => xs.length - (intOf i).toNat)
    case atStart => exact ⟨0, Nat.zero_le _, rfl, by simp, by simpa [count] using hown, ⟨rfl, rfl, rfl, Nat.le_refl _, fun _ _ _ => rfl⟩⟩
    case round =>
      obtain ⟨j, hj, rfl, rfl, hown, hgr⟩ := hrel
      by_cases hlt : j < xs.length
      · have hcg : ∃ u, wr.cell? ⟨g, j, none⟩ = some (.int .i64 u) := by
          rw [hown.cellAt j (by omega)]
          refine ⟨xs[j]?.getD 0, ?_⟩
          rw [List.getElem?_map, List.getElem?_append_right (by rw [count_len]; exact Nat.le_refl _), count_len, Nat.sub_self]
          simp [hlt]
        obtain ⟨u, hcu⟩ := hcg
        have hfg := hown.frozenAt j
        have hst := hown.stored j (.int .i64 (k + j))
        rw [mark_step hlt] at hst
        have Hst := hid hst
        have Hgr := hid hgr
        clear hst hown hgr
        go_wp2
        go_roundw
        case rel =>
          exact ⟨j + 1, by omega, by go_num, by go_num, Hst.out.1, Hgr.out.trans Hst.out.2⟩
        case measure => simp [intOf]; omega
      · go_wp2
        go_ret
        obtain rfl : j = xs.length := by omega
        exact ⟨rfl, by simpa using hown, hgr⟩

set_option maxHeartbeats 400000 in
theorem heldInts (a : Option Addr) (cap : Nat) (n : Nat) (xs : List Int) (k : Int) (w : World) (hxs : xs = count k n) (hx : SlI w w.heap.size a xs) (hl : n ≤ 1048576) (h0 : 0 ≤ k) (h1 : k ≤ 1099511627776) :
    Calls Try.prog 19 #[.slice a n cap, .int .i64 k] w fun e w' => e = .returned (.int .i64 (k + n)) ∧ Below w.heap.size w w' := by
  have hlen : xs.length = n := by rw [hxs, count_len]
  rcases hx with rfl | ⟨b, off, hb, rfl, hc⟩
  · obtain rfl : n = 0 := by simpa using hlen.symm
    clear hxs hlen
    go_enter Try.func19, Try.ntmps19
    go_wp2
    refine wp_loop_rounds 1 ?_; rw [rounds_succ]
    go_wp2
    go_ret
    exact ⟨ret_int (by simp), Below.refl _ _⟩
  · have Hc := hid hc
    have Hxs := hid hxs
    have Hlen := hid hlen
    clear hc hxs hlen
    go_enter Try.func19, Try.ntmps19
    go_wp2
    go_loop [1, 5] (fun m i => ∃ j : Nat, j ≤ n ∧ i = .int .i64 j ∧ m = .int .i64 (k + j)) (fun _ i => n - (intOf i).toNat)
    case atStart => exact ⟨0, Nat.zero_le _, rfl, by simp⟩
    case round =>
      obtain ⟨j, hj, rfl, rfl⟩ := hrel
      by_cases hlt : j < n
      · have hck : w.cell? ⟨b, off + j, none⟩ = some (.int .i64 (k + j)) := by
          have := Hc.out j (by rw [Hlen.out]; exact hlt)
          rw [Hxs.out, count_get _ _ _ hlt] at this
          exact this
        go_wp2
        go_round
        case rel => exact ⟨j + 1, by omega, by go_num, by go_num⟩
        case measure => simp [intOf]; omega
      · go_wp2
        go_ret
        obtain rfl : j = n := by omega
        exact ⟨rfl, Below.refl _ _⟩

/-! ### What a law keeps of the world: slices of its own, in the order in which they were made, and blocks -/

/-- A slice of int64 that lies in blocks from lo to hi. -/
structure Sl where
  lo : Nat
  hi : Nat
  v : Value
  xs : List Int

structure OwnI (w : World) (p : Sl) : Prop where
  own : w.ownsRow p.lo 2 1 p.v p.xs.length (p.xs.map (Value.int .i64))
  lt : ∀ g, p.v.ownBlock = some g → g < p.hi
  le : p.hi ≤ w.heap.size

structure Facts (w0 : World) (w : World) (A : List (Option Addr × List Int)) (bs : List (Nat × Obj)) (L : List Sl) : Prop where
  from0 : Below w0.heap.size w0 w
  args : ∀ q ∈ A, SlI w w0.heap.size q.1 q.2
  blocks : ∀ b ∈ bs, w.heap[b.1]? = some b.2
  slices : ∀ p ∈ L, OwnI w p

section
variable {w0 w w' : World} {A : List (Option Addr × List Int)} {bs : List (Nat × Obj)} {L : List Sl}

theorem Facts.ge (h : Facts w0 w A bs L) : w0.heap.size ≤ w.heap.size := h.from0.size

theorem Facts.below (h : Facts w0 w A bs L) (hb : Below w.heap.size w w') : Facts w0 w' A bs L where
  from0 := h.from0.trans (hb.mono h.ge)
  args := fun q hq => (h.args q hq).below (hb.mono h.ge)
  blocks := fun b hbm => (hb.block b.1 (Array.getElem?_eq_some_iff.1 (h.blocks b hbm)).1).trans (h.blocks b hbm)
  slices := fun p hp => ⟨ownsRow_below (h.slices p hp).own hb (fun g hg => Nat.lt_of_lt_of_le ((h.slices p hp).lt g hg) (h.slices p hp).le), (h.slices p hp).lt, Nat.le_trans (h.slices p hp).le hb.size⟩

theorem Facts.drew (h : Facts w0 w A bs L) : Facts w0 w.drew A bs L := h.below (Below.refl _ _).drew

theorem Facts.arg (h : Facts w0 w A bs L) {q : Option Addr × List Int} (hq : q ∈ A) : SlI w w.heap.size q.1 q.2 := (h.args q hq).mono h.ge

/-- A new block. -/
theorem Facts.alloc (h : Facts w0 w A bs L) (o : Obj) : Facts w0 (w.alloc o) A ((w.heap.size, o) :: bs) L where
  from0 := h.from0.alloc h.ge o
  args := fun q hq => (h.args q hq).below ((Below.refl _ w).alloc h.ge _)
  blocks := fun b hb => by
    rcases List.mem_cons.1 hb with rfl | hb
    · exact heap_alloc_new w o
    · exact (Below.heap_alloc w o _ (Array.getElem?_eq_some_iff.1 (h.blocks b hb)).1).trans (h.blocks b hb)
  slices := fun p hp => ⟨(h.slices p hp).own.alloc o, (h.slices p hp).lt, by have := (h.slices p hp).le; simp; omega⟩

/-- A new slice, out of a call. -/
theorem Facts.slice (h : Facts w0 w A bs L) {v : Value} {xs : List Int}
    (hown : w'.ownsRow w.heap.size 2 1 v xs.length (xs.map (Value.int .i64))) (hb : Below w.heap.size w w') : Facts w0 w' A bs (⟨w.heap.size, w'.heap.size, v, xs⟩ :: L) :=
  { h.below hb with
    slices := fun p hp => by
      rcases List.mem_cons.1 hp with rfl | hp
      · exact ⟨hown, fun g hg => (hown.lt g hg).2, Nat.le_refl _⟩
      · exact (h.below hb).slices p hp }

/-- A slice is marked: the others stay. -/
theorem Facts.mark {L' : List Sl} (h : Facts w0 w A bs L) {p : Sl} {ys : List Int} (hp : p ∈ L)
    (hown : w'.ownsRow p.lo 2 1 p.v ys.length (ys.map (Value.int .i64))) (hg : w.grownBy w' p.v.ownBlock)
    (hB : w0.heap.size ≤ p.lo) (hbs : ∀ b ∈ bs, b.1 < p.lo ∨ p.hi ≤ b.1) (hL : ∀ q ∈ L', q = { p with xs := ys } ∨ (q ∈ L ∧ (q.hi ≤ p.lo ∨ p.hi ≤ q.lo))) : Facts w0 w' A bs L' where
  from0 := h.from0.grown hg h.ge (fun k e => Nat.le_trans hB ((h.slices p hp).own.lt k e).1)
  args := fun q hq => (h.args q hq).below ((Below.refl _ w).grown hg h.ge (fun k e => Nat.le_trans hB ((h.slices p hp).own.lt k e).1))
  blocks := fun b hb => (hg.block b.1 (Array.getElem?_eq_some_iff.1 (h.blocks b hb)).1 (fun e => by
    have h1 := ((h.slices p hp).own.lt _ e.symm).1
    have h2 := (h.slices p hp).lt _ e.symm
    rcases hbs b hb with h3 | h3 <;> omega)).trans (h.blocks b hb)
  slices := fun q hq => by
    rcases hL q hq with rfl | ⟨hqm, hap⟩
    · exact ⟨hown, (h.slices p hp).lt, Nat.le_trans (h.slices p hp).le hg.size⟩
    · refine ⟨(h.slices q hqm).own.kept hg ?_, (h.slices q hqm).lt, Nat.le_trans (h.slices q hqm).le hg.size⟩
      cases hv : q.v.ownBlock with
      | none => exact .inl rfl
      | some g =>
        refine .inr (fun e => ?_)
        have h1 := ((h.slices p hp).own.lt _ e.symm).1
        have h2 := (h.slices p hp).lt _ e.symm
        have h3 := ((h.slices q hqm).own.lt _ hv).1
        have h4 := (h.slices q hqm).lt _ hv
        rcases hap with h5 | h5 <;> omega

theorem Facts.slI (h : Facts w0 w A bs L) {lo hi : Nat} {a : Option Addr} {m cap : Nat} {xs : List Int} (hp : (⟨lo, hi, .slice a m cap, xs⟩ : Sl) ∈ L) : SlI w w.heap.size a xs :=
  owned_slI (h.slices _ hp).own

theorem Facts.own (h : Facts w0 w A bs L) {lo hi : Nat} {v : Value} {xs : List Int} (hp : (⟨lo, hi, v, xs⟩ : Sl) ∈ L) : w.ownsRow lo 2 1 v xs.length (xs.map (Value.int .i64)) := (h.slices _ hp).own

theorem Facts.two (h : Facts w0 w A bs L) {b t : Nat} {u v : Value} (hb : (b, Obj.cells #[u, v] t (0, 0)) ∈ bs) : w.cell? ⟨b, 0, none⟩ = some u ∧ w.cell? ⟨b, 1, none⟩ = some v := by
  have := h.blocks _ hb
  constructor <;> simp [World.cell?, this]
end

set_option maxHeartbeats 400000 in
theorem markCx (V : Int) (base : Nat) (a : Option Addr) (cap : Nat) (xs : List Int) (k : Int) (w : World) (hown : w.ownsRow base 2 1 (.slice a xs.length cap) xs.length (xs.map (Value.int .i64))) (hl : xs.length ≤ 1048576) (h0 : 0 ≤ k) (h1 : k ≤ 1099511627776) :
    Calls Try.prog 17 #[.agg #[.int .i64 V, .slice a xs.length cap], .int .i64 k] w fun e w' => e = .returned (.int .i64 (k + xs.length)) ∧
      w'.ownsRow base 2 1 (.slice a xs.length cap) xs.length ((count k xs.length).map (Value.int .i64)) ∧ w.grownBy w' (Value.ownBlock (.slice a xs.length cap)) := by
  have Hown := hid (hown.alloc (.cells #[.int .i64 V, .slice a xs.length cap] 28))
  clear hown
  go_enter Try.func17, Try.ntmps17
  go_wp2_with fail
  refine (markInts base a cap xs k _ Hown.out hl h0 h1).mono ?_
  rintro e w1 ⟨rfl, hown1, hgr⟩
  go_wp2_with fail
  go_ret
  exact ⟨rfl, hown1, (World.grownBy_alloc w _ _).trans hgr⟩

set_option maxHeartbeats 400000 in
theorem heldCx (V : Int) (a : Option Addr) (cap n : Nat) (xs : List Int) (k : Int) (w : World) (hxs : xs = count k n) (hx : SlI w w.heap.size a xs) (hl : n ≤ 1048576) (h0 : 0 ≤ k) (h1 : k ≤ 1099511627776) :
    Calls Try.prog 32 #[.agg #[.int .i64 V, .slice a n cap], .int .i64 k] w fun e w' => e = .returned (.int .i64 (k + n)) ∧ Below w.heap.size w w' := by
  have hB : Below w.heap.size w (w.alloc (.cells #[.int .i64 V, .slice a n cap] 28)) := (Below.refl _ w).alloc (Nat.le_refl _) _
  have Hxs := hid hxs
  have Hx := hid (hx.later hB (by simp))
  clear hxs hx
  go_enter Try.func32, Try.ntmps32
  go_wp2_with fail
  refine (heldInts a cap n xs k _ Hxs.out Hx.out hl h0 h1).mono ?_
  rintro e w1 ⟨rfl, hB1⟩
  go_wp2_with fail
  go_ret
  exact ⟨rfl, hB.trans (hB1.mono (by simp))⟩

end Go.Proofs.Ytbhdipljhelddaa

/-! What a law keeps of the world, for rows of any type that are read as integers (a list of n pairs: 2 * n integers). -/
namespace Go.Proofs.Ytbhdipljhelddaa
open Go.RowKit

/-- A row that lies in blocks from lo to hi: n elements of a type and size, read as integers. -/
structure Bk where
  lo : Nat
  hi : Nat
  ty : TypeId
  sz : Nat
  n : Nat
  v : Value
  xs : List Int

structure OwnB (w : World) (p : Bk) : Prop where
  own : w.ownsRow p.lo p.ty p.sz p.v p.n (p.xs.map (Value.int .i64))
  lt : ∀ g, p.v.ownBlock = some g → g < p.hi
  le : p.hi ≤ w.heap.size

/-- What is owned reads as integers. -/
theorem flat_slI {w : World} {base e sz : Nat} {a : Option Addr} {n m cap : Nat} {xs : List Int} (h : w.ownsRow base e sz (.slice a m cap) n (xs.map (Value.int .i64))) : SlI w w.heap.size a xs := by
  have hl := h.1
  rcases h.2 with ⟨hv, hn⟩ | ⟨g, cap', cur, hv, _, hg, _⟩
  · subst hn
    exact .inl (List.eq_nil_of_length_eq_zero (by simpa using hl))
  · cases hv
    refine .inr ⟨g, 0, (Array.getElem?_eq_some_iff.1 hg).1, rfl, fun i hi => ?_⟩
    have := h.cells (g := g) rfl i (.int .i64 (xs[i]?.getD 0)) (by simp [hi])
    have hadd : (⟨g, 0, none⟩ : Addr).add i = ⟨g, i, none⟩ := by unfold Addr.add; split <;> simp_all
    rw [hadd] at this
    simpa using this

structure Book (w0 : World) (w : World) (A : List (Option Addr × List Int)) (bs : List (Nat × Obj)) (L : List Bk) : Prop where
  from0 : Below w0.heap.size w0 w
  args : ∀ q ∈ A, SlI w w0.heap.size q.1 q.2
  blocks : ∀ b ∈ bs, w.heap[b.1]? = some b.2
  rows : ∀ p ∈ L, OwnB w p

section
variable {w0 w w' : World} {A : List (Option Addr × List Int)} {bs : List (Nat × Obj)} {L : List Bk}

theorem Book.ge (h : Book w0 w A bs L) : w0.heap.size ≤ w.heap.size := h.from0.size

theorem Book.below (h : Book w0 w A bs L) (hb : Below w.heap.size w w') : Book w0 w' A bs L where
  from0 := h.from0.trans (hb.mono h.ge)
  args := fun q hq => (h.args q hq).below (hb.mono h.ge)
  blocks := fun b hbm => (hb.block b.1 (Array.getElem?_eq_some_iff.1 (h.blocks b hbm)).1).trans (h.blocks b hbm)
  rows := fun p hp => ⟨ownsRow_below (h.rows p hp).own hb (fun g hg => Nat.lt_of_lt_of_le ((h.rows p hp).lt g hg) (h.rows p hp).le), (h.rows p hp).lt, Nat.le_trans (h.rows p hp).le hb.size⟩

theorem Book.drew (h : Book w0 w A bs L) : Book w0 w.drew A bs L := h.below (Below.refl _ _).drew
theorem Book.drewN (h : Book w0 w A bs L) (n : Nat) : Book w0 (w.drewN n) A bs L := h.below ⟨rfl, rfl, rfl, Nat.le_refl _, fun _ _ => rfl⟩

theorem Book.arg (h : Book w0 w A bs L) {q : Option Addr × List Int} (hq : q ∈ A) : SlI w w.heap.size q.1 q.2 := (h.args q hq).mono h.ge

theorem Book.alloc (h : Book w0 w A bs L) (o : Obj) : Book w0 (w.alloc o) A ((w.heap.size, o) :: bs) L where
  from0 := h.from0.alloc h.ge o
  args := fun q hq => (h.args q hq).below ((Below.refl _ w).alloc h.ge _)
  blocks := fun b hb => by
    rcases List.mem_cons.1 hb with rfl | hb
    · exact heap_alloc_new w o
    · exact (Below.heap_alloc w o _ (Array.getElem?_eq_some_iff.1 (h.blocks b hb)).1).trans (h.blocks b hb)
  rows := fun p hp => ⟨(h.rows p hp).own.alloc o, (h.rows p hp).lt, by have := (h.rows p hp).le; simp; omega⟩

/-- A new row, out of a call. -/
theorem Book.row (h : Book w0 w A bs L) {ty : TypeId} {sz n : Nat} {v : Value} {xs : List Int}
    (hown : w'.ownsRow w.heap.size ty sz v n (xs.map (Value.int .i64))) (hb : Below w.heap.size w w') : Book w0 w' A bs (⟨w.heap.size, w'.heap.size, ty, sz, n, v, xs⟩ :: L) :=
  { h.below hb with
    rows := fun p hp => by
      rcases List.mem_cons.1 hp with rfl | hp
      · exact ⟨hown, fun g hg => (hown.lt g hg).2, Nat.le_refl _⟩
      · exact (h.below hb).rows p hp }

/-- A row is marked: the others stay. -/
theorem Book.mark {L' : List Bk} (h : Book w0 w A bs L) {p : Bk} {ys : List Int} (hp : p ∈ L)
    (hown : w'.ownsRow p.lo p.ty p.sz p.v p.n (ys.map (Value.int .i64))) (hg : w.grownBy w' p.v.ownBlock)
    (hB : w0.heap.size ≤ p.lo) (hbs : ∀ b ∈ bs, b.1 < p.lo ∨ p.hi ≤ b.1) (hL : ∀ q ∈ L', q = { p with xs := ys } ∨ (q ∈ L ∧ (q.hi ≤ p.lo ∨ p.hi ≤ q.lo))) : Book w0 w' A bs L' where
  from0 := h.from0.grown hg h.ge (fun k e => Nat.le_trans hB ((h.rows p hp).own.lt k e).1)
  args := fun q hq => (h.args q hq).below ((Below.refl _ w).grown hg h.ge (fun k e => Nat.le_trans hB ((h.rows p hp).own.lt k e).1))
  blocks := fun b hb => (hg.block b.1 (Array.getElem?_eq_some_iff.1 (h.blocks b hb)).1 (fun e => by
    have h1 := ((h.rows p hp).own.lt _ e.symm).1
    have h2 := (h.rows p hp).lt _ e.symm
    rcases hbs b hb with h3 | h3 <;> omega)).trans (h.blocks b hb)
  rows := fun q hq => by
    rcases hL q hq with rfl | ⟨hqm, hap⟩
    · exact ⟨hown, (h.rows p hp).lt, Nat.le_trans (h.rows p hp).le hg.size⟩
    · refine ⟨(h.rows q hqm).own.kept hg ?_, (h.rows q hqm).lt, Nat.le_trans (h.rows q hqm).le hg.size⟩
      cases hv : q.v.ownBlock with
      | none => exact .inl rfl
      | some g =>
        refine .inr (fun e => ?_)
        have h1 := ((h.rows p hp).own.lt _ e.symm).1
        have h2 := (h.rows p hp).lt _ e.symm
        have h3 := ((h.rows q hqm).own.lt _ hv).1
        have h4 := (h.rows q hqm).lt _ hv
        rcases hap with h5 | h5 <;> omega

/-- Some of it. -/
theorem Book.only {bs' : List (Nat × Obj)} {L' : List Bk} (h : Book w0 w A bs L) (hb : ∀ b ∈ bs', b ∈ bs) (hL : ∀ p ∈ L', p ∈ L) : Book w0 w A bs' L' :=
  ⟨h.from0, h.args, fun b hbm => h.blocks b (hb b hbm), fun p hp => h.rows p (hL p hp)⟩

/-- A block of another type is written. -/
theorem Book.set2 {b t : Nat} {x y u v : Value} (h : Book w0 w A ((b, .cells #[x, y] t (0, 0)) :: bs) L) (hw : w0.heap.size ≤ b) (hb : ∀ q ∈ bs, q.1 ≠ b) (hty : ∀ p ∈ L, p.ty ≠ t) :
    Book w0 ((w.setCell ⟨b, 0, none⟩ u).setCell ⟨b, 1, none⟩ v) A ((b, .cells #[u, v] t (0, 0)) :: bs) L where
  from0 := (h.from0.setCell (p := ⟨b, 0, none⟩) hw _).setCell (p := ⟨b, 1, none⟩) hw _
  args := fun q hq => (h.args q hq).below (((Below.refl _ w).setCell (p := ⟨b, 0, none⟩) hw _).setCell (p := ⟨b, 1, none⟩) hw _)
  blocks := fun q hq => by
    rcases List.mem_cons.1 hq with rfl | hq
    · have hbk := h.blocks _ (List.mem_cons_self ..)
      simp only at hbk
      simp only [World.setCell, Array.getElem?_modify, hbk]
      simp
    · exact (Below.heap_setCell _ _ _ _ (hb q hq)).trans ((Below.heap_setCell _ _ _ _ (hb q hq)).trans (h.blocks q (List.mem_cons_of_mem _ hq)))
  rows := fun p hp => by
    have hbk := h.blocks _ (List.mem_cons_self ..)
    have hn : p.v.ownBlock ≠ some b := by
      intro e
      have ho := (h.rows p hp).own
      rcases ho.2 with ⟨hv, _⟩ | ⟨g, cap, cur, hv, _, hg, _⟩
      · rw [hv] at e; simp [Value.ownBlock] at e
      · rw [hv] at e
        simp [Value.ownBlock] at e
        subst e
        rw [hg] at hbk
        simp at hbk
        exact hty p hp hbk.2
    exact ⟨ownsRow_set (ownsRow_set (h.rows p hp).own hn _) hn _, (h.rows p hp).lt, by have := (h.rows p hp).le; simpa [World.setCell] using this⟩

theorem Book.slI (h : Book w0 w A bs L) {lo hi : Nat} {ty : TypeId} {sz n : Nat} {a : Option Addr} {m cap : Nat} {xs : List Int} (hp : (⟨lo, hi, ty, sz, n, .slice a m cap, xs⟩ : Bk) ∈ L) : SlI w w.heap.size a xs :=
  flat_slI (h.rows _ hp).own

theorem Book.own (h : Book w0 w A bs L) {lo hi : Nat} {ty : TypeId} {sz n : Nat} {v : Value} {xs : List Int} (hp : (⟨lo, hi, ty, sz, n, v, xs⟩ : Bk) ∈ L) : w.ownsRow lo ty sz v n (xs.map (Value.int .i64)) := (h.rows _ hp).own

theorem Book.two (h : Book w0 w A bs L) {b t : Nat} {u v : Value} (hb : (b, Obj.cells #[u, v] t (0, 0)) ∈ bs) : w.cell? ⟨b, 0, none⟩ = some u ∧ w.cell? ⟨b, 1, none⟩ = some v := by
  have := h.blocks _ hb
  constructor <;> simp [World.cell?, this]

end

end Go.Proofs.Ytbhdipljhelddaa
