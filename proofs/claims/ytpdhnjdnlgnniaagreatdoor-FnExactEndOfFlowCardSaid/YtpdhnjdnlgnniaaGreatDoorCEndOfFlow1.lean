import Derived.Deep.LoopGhost
import Derived.ScopeJumps
import Derived.Test.YtpdhnjdnlgnniaaGreatDoorMZ4
import Derived.Test.YtpdhnjdnlgnniaaGreatDoorMZ2
import Derived.Test.YtpdhnjdnlgnniaaGreatDoorMZ3
import Derived.Test.YtpdhnjdnlgnniaaGreatDoorMZ5
import Derived.Test.YtpdhnjdnlgnniaaGreatDoorMZ6
import Derived.Test.YtpdhnjdnlgnniaaGreatDoorMZ7
import Derived.Test.YtpdhnjdnlgnniaaGreatDoorMZ8
/-! slices.Equal at integers; l06Same. -/
namespace Go.Proofs.YtpdhnjdnlgnniaaGreatDoor
open Go.RowKit

attribute [local go_sem] Oper.semAt_some

theorem ext_takeJ {L M : List Int} (hl : L.length = M.length) (h : ∀ k, k < L.length → L[k]?.getD 0 = M[k]?.getD 0) : L = M := by
  apply List.ext_getElem hl
  intro i h1 h2
  have := h i h1
  rw [List.getElem?_eq_getElem h1, List.getElem?_eq_getElem h2] at this
  simpa using this

set_option maxRecDepth 100000 in
set_option maxHeartbeats 2000000 in
theorem eqIn_any (a : Option Addr) (c : Nat) (L : List Int) (b : Option Addr) (d : Nat) (M : List Int) (w : World) (ha : SlI w w.heap.size a L) (hb : SlI w w.heap.size b M) (hl : L.length ≤ 1048576) :
    Calls Tryz.prog 47 #[.slice a L.length c, .slice b M.length d] w fun e w' => e = .returned (.bool (decide (L = M))) ∧ Below w.heap.size w w' := by
  have Ha := hid ha
  have Hb := hid hb
  obtain ⟨R, hR⟩ : ∃ R, R = decide (L = M) := ⟨_, rfl⟩
  have HR := hid hR
  rw [← hR]
  clear ha hb hR
  by_cases hlm : L.length = M.length
  · have hd : ((L.length : Int) != (M.length : Int)) = false := by simp; omega
    have Hlm := hid hlm
    clear hlm
    go_enter Tryz.func47, Tryz.ntmps47
    go_wp2_with fail
    go_loopw [13] (fun i wr => ∃ k : Nat, k ≤ L.length ∧ i = .int .i64 k ∧ Hid (∀ j, j < k → L[j]?.getD 0 = M[j]?.getD 0) ∧ Hid (Below w.heap.size w wr)) (fun i _ => L.length - (intOf i).toNat)
    case atStart => exact ⟨0, Nat.zero_le _, rfl, hid (by intro j h; omega), hid (Below.refl _ _)⟩
    case round =>
      obtain ⟨k, hk, rfl, Hk, HB⟩ := hrel
      by_cases hlt : k < L.length
      · have hlt2 : k < M.length := by have := Hlm.out; omega
        obtain ⟨ba, oa, hba, rfl, hca⟩ : ∃ b off, b < wr.heap.size ∧ a = some ⟨b, off, none⟩ ∧ ∀ i, i < L.length → wr.cell? ⟨b, off + i, none⟩ = some (.int .i64 (L[i]?.getD 0)) := by
          rcases Ha.out.later HB.out HB.out.size with h | h
          · rw [h] at hlt; simp at hlt
          · exact h
        obtain ⟨bb, ob, hbb, rfl, hcb⟩ : ∃ b' off, b' < wr.heap.size ∧ b = some ⟨b', off, none⟩ ∧ ∀ i, i < M.length → wr.cell? ⟨b', off + i, none⟩ = some (.int .i64 (M[i]?.getD 0)) := by
          rcases Hb.out.later HB.out HB.out.size with h | h
          · rw [h] at hlt2; simp at hlt2
          · exact h
        have c1 := hca k hlt
        have c2 := hcb k hlt2
        obtain ⟨p, hp⟩ : ∃ p, p = L[k]?.getD 0 := ⟨_, rfl⟩
        obtain ⟨q, hq⟩ : ∃ q, q = M[k]?.getD 0 := ⟨_, rfl⟩
        rw [← hp] at c1
        rw [← hq] at c2
        have hi0 : (0 : Int) ≤ (k : Int) := by omega
        have hi1 : (k : Int) < (L.length : Int) := by omega
        have hi2 : (k : Int) < (M.length : Int) := by omega
        have Hp := hid hp
        have Hq := hid hq
        clear hp hq hca hcb
        by_cases he : p = q
        · have hd2 : (p != q) = false := by simp [he]
          have Hn : Hid (∀ j, j < k + 1 → L[j]?.getD 0 = M[j]?.getD 0) := hid (by
            intro j hj
            by_cases e : j < k
            · exact Hk.out j e
            · obtain rfl : j = k := by omega
              rw [← Hp.out, ← Hq.out, he])
          clear he
          go_wp2_with fail
          go_quiet (fail)
          go_wp2_with fail
          go_roundw
          case rel => exact ⟨k + 1, by omega, by go_num, Hn, hid ⟨HB.out.os, HB.out.tape, HB.out.output, HB.out.size, HB.out.block⟩⟩
          case measure => simp [intOf]; omega
        · have hd2 : (p != q) = true := by simpa using he
          have Hn : Hid (R = false) := hid (by
            rw [HR.out]
            exact decide_eq_false fun h => he (by rw [Hp.out, Hq.out, h]))
          clear he
          go_wp2_with fail
          go_quiet (fail)
          go_wp2_with fail
          go_ret
          exact ⟨ret_bool (by rw [Hn.out]), HB.out.os, HB.out.tape, HB.out.output, HB.out.size, HB.out.block⟩
      · have Hn : Hid (R = true) := hid (by
          rw [HR.out]
          exact decide_eq_true (ext_takeJ Hlm.out (fun j hj => Hk.out j (by omega))))
        go_wp2_with fail
        go_ret
        exact ⟨ret_bool (by rw [Hn.out]), HB.out⟩
  · have hd : ((L.length : Int) != (M.length : Int)) = true := by simp; omega
    have Hn : Hid (R = false) := hid (by
      rw [HR.out]
      exact decide_eq_false (fun h => hlm (by rw [h])))
    clear hlm
    go_enter Tryz.func47, Tryz.ntmps47
    go_wp2_with fail
    go_ret
    exact ⟨ret_bool (by rw [Hn.out]), Below.refl _ _⟩

set_option maxRecDepth 100000 in
set_option maxHeartbeats 2000000 in
theorem same_any (a : Option Addr) (c : Nat) (L : List Int) (b : Option Addr) (d : Nat) (M : List Int) (w : World) (ha : SlI w w.heap.size a L) (hb : SlI w w.heap.size b M) (hl : L.length ≤ 1048576) :
    Calls Tryz.prog 46 #[.slice a L.length c, .slice b M.length d] w fun e w' => e = .returned (.bool (decide (L = M))) ∧ Below w.heap.size w w' := by
  have Ha := hid ha
  have Hb := hid hb
  obtain ⟨R, hR⟩ : ∃ R, R = decide (L = M) := ⟨_, rfl⟩
  have HR := hid hR
  rw [← hR]
  clear ha hb hR
  by_cases hlm : L.length = M.length
  · have hd : ((L.length : Int) != (M.length : Int)) = false := by simp; omega
    have Hlm := hid hlm
    clear hlm
    go_enter Tryz.func46, Tryz.ntmps46
    go_wp2_with fail
    go_loopw [5] (fun i wr => ∃ k : Nat, k ≤ L.length ∧ i = .int .i64 k ∧ Hid (∀ j, j < k → L[j]?.getD 0 = M[j]?.getD 0) ∧ Hid (Below w.heap.size w wr)) (fun i _ => L.length - (intOf i).toNat)
    case atStart => exact ⟨0, Nat.zero_le _, rfl, hid (by intro j h; omega), hid (Below.refl _ _)⟩
    case round =>
      obtain ⟨k, hk, rfl, Hk, HB⟩ := hrel
      by_cases hlt : k < L.length
      · have hlt2 : k < M.length := by have := Hlm.out; omega
        obtain ⟨ba, oa, hba, rfl, hca⟩ : ∃ b off, b < wr.heap.size ∧ a = some ⟨b, off, none⟩ ∧ ∀ i, i < L.length → wr.cell? ⟨b, off + i, none⟩ = some (.int .i64 (L[i]?.getD 0)) := by
          rcases Ha.out.later HB.out HB.out.size with h | h
          · rw [h] at hlt; simp at hlt
          · exact h
        obtain ⟨bb, ob, hbb, rfl, hcb⟩ : ∃ b' off, b' < wr.heap.size ∧ b = some ⟨b', off, none⟩ ∧ ∀ i, i < M.length → wr.cell? ⟨b', off + i, none⟩ = some (.int .i64 (M[i]?.getD 0)) := by
          rcases Hb.out.later HB.out HB.out.size with h | h
          · rw [h] at hlt2; simp at hlt2
          · exact h
        have c1 := hca k hlt
        have c2 := hcb k hlt2
        obtain ⟨p, hp⟩ : ∃ p, p = L[k]?.getD 0 := ⟨_, rfl⟩
        obtain ⟨q, hq⟩ : ∃ q, q = M[k]?.getD 0 := ⟨_, rfl⟩
        rw [← hp] at c1
        rw [← hq] at c2
        have hi0 : (0 : Int) ≤ (k : Int) := by omega
        have hi1 : (k : Int) < (L.length : Int) := by omega
        have hi2 : (k : Int) < (M.length : Int) := by omega
        have Hp := hid hp
        have Hq := hid hq
        clear hp hq hca hcb
        by_cases he : p = q
        · have hd2 : (p != q) = false := by simp [he]
          have Hn : Hid (∀ j, j < k + 1 → L[j]?.getD 0 = M[j]?.getD 0) := hid (by
            intro j hj
            by_cases e : j < k
            · exact Hk.out j e
            · obtain rfl : j = k := by omega
              rw [← Hp.out, ← Hq.out, he])
          clear he
          go_wp2_with fail
          go_quiet (fail)
          go_wp2_with fail
          go_roundw
          case rel => exact ⟨k + 1, by omega, by go_num, Hn, hid ⟨HB.out.os, HB.out.tape, HB.out.output, HB.out.size, HB.out.block⟩⟩
          case measure => simp [intOf]; omega
        · have hd2 : (p != q) = true := by simpa using he
          have Hn : Hid (R = false) := hid (by
            rw [HR.out]
            exact decide_eq_false fun h => he (by rw [Hp.out, Hq.out, h]))
          clear he
          go_wp2_with fail
          go_quiet (fail)
          go_wp2_with fail
          go_ret
          exact ⟨ret_bool (by rw [Hn.out]), HB.out.os, HB.out.tape, HB.out.output, HB.out.size, HB.out.block⟩
      · have Hn : Hid (R = true) := hid (by
          rw [HR.out]
          exact decide_eq_true (ext_takeJ Hlm.out (fun j hj => Hk.out j (by omega))))
        go_wp2_with fail
        go_ret
        exact ⟨ret_bool (by rw [Hn.out]), HB.out⟩
  · have hd : ((L.length : Int) != (M.length : Int)) = true := by simp; omega
    have Hn : Hid (R = false) := hid (by
      rw [HR.out]
      exact decide_eq_false (fun h => hlm (by rw [h])))
    clear hlm
    go_enter Tryz.func46, Tryz.ntmps46
    go_wp2_with fail
    go_ret
    exact ⟨ret_bool (by rw [Hn.out]), Below.refl _ _⟩

end Go.Proofs.YtpdhnjdnlgnniaaGreatDoor

/-! l06End and endOfFlow. -/
namespace Go.Proofs.YtpdhnjdnlgnniaaGreatDoor
open Go.RowKit

theorem wp_scope_one {P : Program} {Q : Exit → Act → World → Prop} {a : Act} {w : World} {c X : Code} (l : Nat) (R : Nat → Act → World → Prop) (hc : c = (Code.label l).seq X) (h0 : findLabel c l = some (Code.skip.seq X))
    (first : ∃ k, R k a w)
    (pass : ∀ k a w, R k a w → X.wp P (Exit.jump l (fun a' w' => ∃ k', k' < k ∧ R k' a' w') Q) a w) : (Code.scope c).wp P Q a w := by
  refine wp_scope_jumps l (fun a w => ∃ k, R k a w) (fun a w => Go.leastOf (fun k => R k a w)) h0 ?_ ?_
  · rw [hc]
    obtain ⟨k, hR⟩ := first
    refine wp_seq (wp_label (wp_mono (pass k a w hR) ?_))
    intro e a' w' h
    cases e with
    | goto l' => obtain ⟨rfl, k', _, hR'⟩ := h; exact ⟨rfl, k', hR'⟩
    | normal => exact h
    | exit id => exact h
    | ret => exact h
    | panic ch => exact h
    | outgrown => exact h
  · rintro a w ⟨k0, h0⟩
    obtain ⟨h1, _⟩ := Go.leastOf_spec (p := fun k => R k a w) ⟨k0, h0⟩
    refine wp_seq (wp_skip (wp_mono (pass _ a w h1) ?_))
    intro e a' w' h
    cases e with
    | goto l' => obtain ⟨rfl, k', hk, hR'⟩ := h; exact ⟨rfl, ⟨k', hR'⟩, Nat.lt_of_le_of_lt ((Go.leastOf_spec (p := fun k => R k a' w') ⟨k', hR'⟩).2 k' hR') hk⟩
    | normal => exact h
    | exit id => exact h
    | ret => exact h
    | panic ch => exact h
    | outgrown => exact h

/-- A chain of the complex. -/
structure ChnF (fs ch : List Int) : Prop where
  asc : ch.Pairwise (· < ·)
  sub : ∀ x ∈ ch, x ∈ fs
theorem ChnF.flow {V : Int} {fs ps : List Int} (hC : IsC V fs) (n : Nat) (ch : List Int) : ChnF fs (flowL fs ps n ch) := ⟨flowL_asc hC ps n ch, fun _ hx => flowL_fs hx⟩
theorem ChnF.len {V : Int} {fs ch : List Int} (h : ChnF fs ch) (hC : IsC V fs) : ch.length ≤ 63 := by
  have := sub_lenI _ _ (asc_nodup h.asc) h.sub
  have := hC.len63
  omega

set_option maxRecDepth 100000 in
set_option maxHeartbeats 4000000 in
theorem end6_any {V : Int} (fs : List Int) (a1 : Option Addr) (n c1 : Nat) (ps : List Int) (a2 : Option Addr) (c2 : Nat) (ch : List Int) (w : World) (hx : SlI w w.heap.size a1 ps) (hy : SlI w w.heap.size a2 ch) (hp : ps.length = 2 * n) (hn : n ≤ 1048576)
    (hC : IsC V fs) (hO : OkTo fs ps n) (hc : NoCycle ps n) (hch : ChnF fs ch) :
    Calls Tryz.prog 29 #[.slice a1 n c1, .slice a2 ch.length c2] w fun e w' => ∃ v, e = .returned v ∧ Res w w' v (endL fs ps n ch) := by
  have HF := hid (fun (cur : List Int) (h : ChnF fs cur) W (hb : Below w.heap.size w W) a c (hs : SlI W W.heap.size a cur) => flow6_any fs a1 n c1 ps a c cur W (hx.later hb hb.size) hs hp hn hC hO h.asc h.sub)
  have HSt := hid (fun (cur : List Int) (h : ChnF fs cur) (hne : flowL fs ps n cur ≠ cur) => And.intro (endL_step hC hO hc h.asc h.sub hne) (flow_falls hC hO hc h.asc h.sub hne))
  have HFl := hid (fun cur => ChnF.flow (ps := ps) hC n cur)
  have HLn := hid (fun (cur : List Int) (h : ChnF fs cur) => h.len hC)
  obtain ⟨E, hE⟩ : ∃ E, E = endL fs ps n ch := ⟨_, rfl⟩
  have HE := hid hE.symm
  rw [← hE]
  have Hy := hid hy
  have Hch := hid hch
  clear hx hy hp hn hC hO hc hch hE
  go_enter Tryz.func29, Tryz.ntmps29
  go_wp2_with fail
  go_loopg [1] (muF fs ps n ch + 1) (fun g s1 wr => ∃ (cur : List Int) (a : Option Addr) (c : Nat), s1 = .slice a cur.length c ∧ Hid (SlI wr wr.heap.size a cur) ∧ Hid (ChnF fs cur) ∧ Hid (endL fs ps n cur = E) ∧ Hid (muF fs ps n cur < g) ∧ Hid (Below w.heap.size w wr))
  case atStart => exact ⟨ch, a2, c2, rfl, Hy, Hch, HE, hid (Nat.lt_succ_self _), hid (Below.refl _ _)⟩
  case round =>
    clear Hy Hch HE
    obtain ⟨cur, a, c, rfl, Hs, Hc, HE, Hg, HB⟩ := hrel
    have HFc := hid (HF.out cur Hc.out wr HB.out a c Hs.out)
    have HFn := hid (HFl.out cur)
    have HS := hid (HSt.out cur Hc.out)
    have HD : Hid (flowL fs ps n cur = cur → E = flowL fs ps n cur) := hid (fun h => by rw [← HE.out, endL_done h, h])
    have HL2 := hid (HLn.out _ HFn.out)
    obtain ⟨F, hF⟩ : ∃ F, F = flowL fs ps n cur := ⟨_, rfl⟩
    rw [← hF] at HFc HFn HS HD HL2
    clear hF HF HFl HLn
    go_wp2_with (go_at_call 23; refine HFc.out.mono ?_; rintro e w1 ⟨v1, rfl, hr1⟩; obtain ⟨_, aF, cF, rfl, hsF⟩ := ownsRow_slI hr1.1; have HR1 := hid hr1; have HsF := hid hsF; have HSm := hid (same_any aF cF F a c cur w1 hsF (Hs.out.later hr1.2 hr1.2.size) (by have := HL2.out; omega)); clear hr1 hsF)
    have HB1 := hid (HB.out.trans (HR1.out.2.mono HB.out.size))
    by_cases heq : F = cur
    · have hd : decide (F = cur) = true := decide_eq_true heq
      rw [hd] at HSm
      have HEq := hid (HD.out heq)
      clear hd heq
      go_wp2_with (go_at_call 46; refine HSm.out.mono ?_; rintro e w2 ⟨rfl, hb2⟩; have HB2 := hid hb2; clear hb2)
      go_ret
      have hr : Res wr w2 (.slice aF F.length cF) F := HR1.out.after HB2.out
      exact ⟨_, rfl, by rw [HEq.out]; exact hr.later HB.out⟩
    · have hd : decide (F = cur) = false := decide_eq_false heq
      rw [hd] at HSm
      have HSn := hid (HS.out heq)
      clear hd heq
      go_wp2_with (go_at_call 46; refine HSm.out.mono ?_; rintro e w2 ⟨rfl, hb2⟩; have HB2 := hid hb2; clear hb2)
      go_roundg (muF fs ps n F + 1)
      case rel => exact ⟨F, aF, cF, rfl, hid (HsF.out.later HB2.out HB2.out.size), HFn, hid (by rw [← HSn.out.1]; exact HE.out), hid (Nat.lt_succ_self _), hid (HB1.out.trans (HB2.out.mono HB1.out.size))⟩
      case measure => have h1 := HSn.out.2; have h2 := Hg.out; omega

/-- What holds at the label. -/
def EofI (_w W0 : World) (_V : Int) (_a0 : Option Addr) (_cap : Nat) (fs : List Int) (_a1 : Option Addr) (n _c1 : Nat) (ps E : List Int) (k : Nat) (wr : World) (a : Option Addr) (_c : Nat) (cur : List Int) : Prop :=
  SlI wr wr.heap.size a cur ∧ ChnF fs cur ∧ endL fs ps n cur = E ∧ muF fs ps n cur < k ∧ Below W0.heap.size W0 wr
def AtEof (w W0 : World) (V : Int) (a0 : Option Addr) (cap : Nat) (fs : List Int) (a1 : Option Addr) (n c1 : Nat) (ps E : List Int) (k : Nat) (a' : Act) (w' : World) : Prop :=
  ∃ (a : Option Addr) (c : Nat) (cur : List Int) (s0 : Value) (us : Nat → Value), a' = { tmps := #[s0, .slice a1 n c1, .slice a cur.length c, .pointer (some ⟨w.heap.size, 0, none⟩), undef, undef, .slice none 0 0, us 7, us 8, us 9, us 10, us 11, us 12, us 13, us 14, us 15, us 16, us 17], defers := [] } ∧ Hid (EofI w W0 V a0 cap fs a1 n c1 ps E k w' a c cur)
theorem atEof_of {w W0 : World} {V : Int} {a0 : Option Addr} {cap : Nat} {fs : List Int} {a1 : Option Addr} {n c1 : Nat} {ps E : List Int} {k : Nat} {w' : World} (a : Option Addr) (c : Nat) (cur : List Int) (tm : Array Value) (h : tm = #[tm.getD 0 undef, .slice a1 n c1, .slice a cur.length c, .pointer (some ⟨w.heap.size, 0, none⟩), undef, undef, .slice none 0 0, tm.getD 7 undef, tm.getD 8 undef, tm.getD 9 undef, tm.getD 10 undef, tm.getD 11 undef, tm.getD 12 undef, tm.getD 13 undef, tm.getD 14 undef, tm.getD 15 undef, tm.getD 16 undef, tm.getD 17 undef]) (H : Hid (EofI w W0 V a0 cap fs a1 n c1 ps E k w' a c cur)) : AtEof w W0 V a0 cap fs a1 n c1 ps E k { tmps := tm, defers := [] } w' :=
  ⟨a, c, cur, _, fun i => tm.getD i undef, congrArg (fun t => ({ tmps := t, defers := [] } : Act)) h, H⟩

section
variable {R : Act → World → Prop} {Q : Exit → Act → World → Prop} {l : Nat} {a : Act} {w : World}
@[go_sem] theorem jumpE_normal : Exit.jump l R Q .normal a w = Q .normal a w := rfl
@[go_sem] theorem jumpE_exit (id : Nat) : Exit.jump l R Q (.exit id) a w = Q (.exit id) a w := rfl
@[go_sem] theorem jumpE_ret : Exit.jump l R Q .ret a w = Q .ret a w := rfl
end

set_option maxRecDepth 100000 in
set_option maxHeartbeats 4000000 in
theorem eof_any (V : Int) (a0 : Option Addr) (cap : Nat) (fs : List Int) (a1 : Option Addr) (n c1 : Nat) (ps : List Int) (a2 : Option Addr) (c2 : Nat) (ch : List Int) (w : World) (hx : SlI w w.heap.size a0 fs) (hx1 : SlI w w.heap.size a1 ps) (hy : SlI w w.heap.size a2 ch) (hl : fs.length ≤ 1048576) (hp : ps.length = 2 * n) (hn : n ≤ 1048576)
    (hC : IsC V fs) (hO : OkTo fs ps n) (hc : NoCycle ps n) (hch : ChnF fs ch) (hn63 : n ≤ 63) :
    Calls Tryz.prog 30 #[.agg #[.int .i64 V, .slice a0 fs.length cap], .slice a1 n c1, .slice a2 ch.length c2] w fun e w' => ∃ v, e = .returned v ∧ Res w w' v (endL fs ps n ch) := by
  obtain ⟨W0, hW0⟩ : ∃ W0, W0 = w.alloc (.cells #[.int .i64 V, .slice a0 fs.length cap] 30) := ⟨_, rfl⟩
  have hB0 : Below w.heap.size w W0 := by rw [hW0]; exact (Below.refl _ w).alloc (Nat.le_refl _) _
  have hk0 : W0.heap[w.heap.size]? = some (.cells #[.int .i64 V, .slice a0 fs.length cap] 30 (0, 0)) := by rw [hW0]; exact heap_alloc_new _ _
  have HF := hid (fun (cur : List Int) (h : ChnF fs cur) W (hb : Below w.heap.size w W) a c (hs : SlI W W.heap.size a cur) => flow_any V a0 cap fs a1 n c1 ps a c cur W (hx.later hb hb.size) (hx1.later hb hb.size) hs hl hp hn (by have := h.len hC; omega) (by
      rcases hs with e | ⟨b, off, hb, e, hc⟩
      · exact .inl e
      · exact .inr ⟨b, off, hb, e, hc⟩) hC hO h.asc h.sub hn63)
  have HSt := hid (fun (cur : List Int) (h : ChnF fs cur) (hne : flowL fs ps n cur ≠ cur) => And.intro (endL_step hC hO hc h.asc h.sub hne) (flow_falls hC hO hc h.asc h.sub hne))
  have HFl := hid (fun cur => ChnF.flow (ps := ps) hC n cur)
  have HLn := hid (fun (cur : List Int) (h : ChnF fs cur) => h.len hC)
  obtain ⟨E, hE⟩ : ∃ E, E = endL fs ps n ch := ⟨_, rfl⟩
  rw [← hE]
  have HI0 : Hid (EofI w W0 V a0 cap fs a1 n c1 ps E (muF fs ps n ch + 1) W0 a2 c2 ch) := hid ⟨hy.later hB0 hB0.size, hch, hE.symm, Nat.lt_succ_self _, Below.refl _ _⟩
  have HB0 := hid hB0
  have Hk0 := hid hk0
  clear hx hx1 hy hp hn hC hO hc hch hE hB0 hk0 hl
  go_enter Tryz.func30, Tryz.ntmps30
  go_wp2
  rw [← hW0]
  refine wp_scope_one 0 (AtEof w W0 V a0 cap fs a1 n c1 ps E) rfl (by kernel_rfl) ?_ ?_
  · exact ⟨_, atEof_of a2 c2 ch _ rfl HI0⟩
  · rintro k a' wr ⟨a, c, cur, s0, us, rfl, HK⟩
    clear HI0
    obtain ⟨hs, hcur, hE, hg, hB⟩ := HK.out
    have HB := hid (HB0.out.trans (hB.mono HB0.out.size))
    have HBW := hid hB
    have HFc := hid (HF.out cur hcur wr HB.out a c hs)
    obtain ⟨k0, k1, _, _⟩ := two_of ((hB.block _ (lt_get Hk0.out)).trans Hk0.out)
    have HFn := hid (HFl.out cur)
    have HS := hid (HSt.out cur hcur)
    have HD : Hid (flowL fs ps n cur = cur → E = flowL fs ps n cur) := hid (fun h => by rw [← hE, endL_done h, h])
    have HL2 := hid (HLn.out _ HFn.out)
    have Hs := hid hs
    have HE := hid hE
    have Hg := hid hg
    obtain ⟨F, hF⟩ : ∃ F, F = flowL fs ps n cur := ⟨_, rfl⟩
    rw [← hF] at HFc HFn HS HD HL2
    clear hF HF HFl HLn hs hcur hE hg hB HK
    go_wp2_with fail
    refine HFc.out.mono ?_
    rintro e w1 ⟨v1, rfl, hr1⟩
    obtain ⟨_, aF, cF, rfl, hsF⟩ := ownsRow_slI hr1.1
    have HR1 := hid hr1
    have HsF := hid hsF
    have HSm := hid (eqIn_any aF cF F a c cur w1 hsF (Hs.out.later hr1.2 hr1.2.size) (by have := HL2.out; omega))
    have HB1 := hid (HBW.out.trans (hr1.2.mono HBW.out.size))
    clear hr1 hsF HFc
    by_cases heq : F = cur
    · have hd : decide (F = cur) = true := decide_eq_true heq
      rw [hd] at HSm
      have HEq := hid (HD.out heq)
      clear hd heq
      go_wp2_with fail
      refine HSm.out.mono ?_
      rintro e w2 ⟨rfl, hb2⟩
      have HB2 := hid hb2
      clear hb2
      go_wp2_with fail
      rw [jumpE_ret]
      go_ret
      have hr : Res wr w2 (.slice aF F.length cF) F := HR1.out.after HB2.out
      exact ⟨_, rfl, by rw [HEq.out]; exact hr.later HB.out⟩
    · have hd : decide (F = cur) = false := decide_eq_false heq
      rw [hd] at HSm
      have HSn := hid (HS.out heq)
      clear hd heq
      go_wp2_with fail
      refine HSm.out.mono ?_
      rintro e w2 ⟨rfl, hb2⟩
      have HB2 := hid hb2
      clear hb2
      go_wp2_with fail
      refine wp_goto ?_
      exact ⟨rfl, muF fs ps n F + 1, by have h1 := HSn.out.2; have h2 := Hg.out; omega, atEof_of aF cF F _ rfl (hid ⟨HsF.out.later HB2.out HB2.out.size, HFn.out, by rw [← HSn.out.1]; exact HE.out, Nat.lt_succ_self _, HB1.out.trans (HB2.out.mono HB1.out.size)⟩)⟩

end Go.Proofs.YtpdhnjdnlgnniaaGreatDoor

/-! EndOfFlow, both doors. -/
namespace Go.Proofs.YtpdhnjdnlgnniaaGreatDoor
open Go.RowKit

theorem acyB_no {ps : List Int} {n : Nat} (h : acyB ps n = true) : NoCycle ps n := Classical.byContradiction fun hc => by rw [acyB_false hc] at h; cases h
theorem endL_len (fs ps : List Int) (n : Nat) : ∀ (N : Nat) (ch : List Int), muF fs ps n ch = N → (endL fs ps n ch).length ≤ max ch.length fs.length := by
  intro N
  induction N using Nat.strongRecOn with
  | _ N ih =>
    intro ch hN
    rw [endL]
    split
    · omega
    · split
      · rename_i h
        have h1 := ih _ (by omega) (flowL fs ps n ch) rfl
        have h2 := flowL_len fs ps n ch
        omega
      · simp
noncomputable def endR (V : Int) (fs : List Int) (n : Nat) (ps ch : List Int) : List Int × Int := if fcodeR V fs n ps ch = 0 then (endL fs ps n ch, 0) else ([], fcodeR V fs n ps ch)
theorem endR_len (V : Int) (fs : List Int) (n : Nat) (ps ch : List Int) (h : fs.length ≤ 1048576) (_hp : ps.length = 2 * n) (_hn : n ≤ 1048576) (hg : ch.length ≤ 1048576) : (endR V fs n ps ch).1.length ≤ 1048576 := by
  unfold endR
  split
  · have := endL_len fs ps n _ ch rfl
    simp only
    omega
  · simp

set_option maxRecDepth 100000 in
set_option maxHeartbeats 2000000 in
theorem specEndOfFlow (V : Int) (a0 : Option Addr) (cap : Nat) (fs : List Int) (a1 : Option Addr) (n cap1 : Nat) (ps : List Int) (a2 : Option Addr) (cap2 : Nat) (ch : List Int) (w : World) (hx : SlI w w.heap.size a0 fs) (hx1 : SlI w w.heap.size a1 ps) (hx2 : SlI w w.heap.size a2 ch) (hl : fs.length ≤ 1048576) (hp : ps.length = 2 * n) (hn : n ≤ 1048576) (_hw : ∀ x ∈ ps, (Lit.int .i64 x).wf = true) (hg : ch.length ≤ 1048576) :
    Calls Tryz.prog 19 #[.agg #[.int .i64 V, .slice a0 fs.length cap], .slice a1 n cap1, .slice a2 ch.length cap2] w fun e w' => ∃ v, e = .returned (.tuple #[v, .int .i64 (endR V fs n ps ch).2]) ∧ Res w w' v (endR V fs n ps ch).1 := by
  obtain ⟨W0, hW0⟩ : ∃ W0, W0 = w.alloc (.cells #[.int .i64 V, .slice a0 fs.length cap] 30) := ⟨_, rfl⟩
  have hB0 : Below w.heap.size w W0 := by rw [hW0]; exact (Below.refl _ w).alloc (Nat.le_refl _) _
  have HI := hid (code6_any V a0 cap fs a1 n cap1 ps a2 cap2 ch W0 (hx.later hB0 hB0.size) (hx1.later hB0 hB0.size) (hx2.later hB0 hB0.size) hl hp hn hg)
  rw [hW0] at HI
  have HB0 := hid hB0
  by_cases h0 : fcodeR V fs n ps ch = 0
  · obtain ⟨hC, hO, hch, hac⟩ := fcode_zero h0
    have HR : Hid (endR V fs n ps ch = (endL fs ps n ch, 0)) := hid (by unfold endR; rw [if_pos h0])
    have HD := hid (fun W (h : Below w.heap.size w W) => end6_any fs a1 n cap1 ps a2 cap2 ch W (hx1.later h h.size) (hx2.later h h.size) hp hn hC hO (acyB_no hac) ⟨chain_ascF hch, links_mem hch⟩)
    rw [h0] at HI
    clear h0 hch hC hO hac hx hx1 hx2 hB0
    go_enter Tryz.func19, Tryz.ntmps19
    go_wp2_with fail
    refine HI.out.mono ?_
    rintro e w1 ⟨rfl, hB1⟩
    rw [← hW0] at hB1
    have HB1 := hid (HB0.out.trans (hB1.mono HB0.out.size))
    clear hB1
    go_wp2_with fail
    refine (HD.out w1 HB1.out).mono ?_
    rintro e w2 ⟨v, rfl, hr⟩
    have Hr := hid (hr.later HB1.out)
    clear hr
    go_wp2_with fail
    go_ret2
    rw [HR.out]
    exact ⟨_, rfl, Hr.out⟩
  · obtain ⟨c, hcc⟩ : ∃ c, c = fcodeR V fs n ps ch := ⟨_, rfl⟩
    have HR : Hid (endR V fs n ps ch = ([], c)) := hid (by unfold endR; rw [if_neg h0, hcc])
    rw [← hcc] at h0 HI
    clear hcc hx hx1 hx2 hB0
    have hn : (c != 0) = true := by simpa using h0
    go_enter Tryz.func19, Tryz.ntmps19
    go_wp2_with fail
    refine HI.out.mono ?_
    rintro e w1 ⟨rfl, hB1⟩
    rw [← hW0] at hB1
    have HB1 := hid (HB0.out.trans (hB1.mono HB0.out.size))
    clear hB1 h0
    go_wp2_with fail
    go_ret2
    rw [HR.out]
    exact ⟨_, rfl, res_nil _ _ HB1.out⟩

set_option maxRecDepth 100000 in
set_option maxHeartbeats 4000000 in
theorem implEndOfFlow (V : Int) (a0 : Option Addr) (cap : Nat) (fs : List Int) (a1 : Option Addr) (n cap1 : Nat) (ps : List Int) (a2 : Option Addr) (cap2 : Nat) (ch : List Int) (w : World) (hx : SlI w w.heap.size a0 fs) (hx1 : SlI w w.heap.size a1 ps) (hx2 : SlI w w.heap.size a2 ch) (hl : fs.length ≤ 1048576) (hp : ps.length = 2 * n) (hn : n ≤ 1048576) (hw : ∀ x ∈ ps, (Lit.int .i64 x).wf = true) (hg : ch.length ≤ 1048576)
    (pv : Value) (hG : w.cell? ⟨0, 0, none⟩ = some (.iface 129 pv)) :
    Calls Tryz.prog 20 #[.agg #[.int .i64 V, .slice a0 fs.length cap], .slice a1 n cap1, .slice a2 ch.length cap2] w fun e w' => ∃ v, e = .returned (.tuple #[v, .int .i64 (endR V fs n ps ch).2]) ∧ Res w w' v (endR V fs n ps ch).1 := by
  obtain ⟨W0, hW0⟩ : ∃ W0, W0 = w.alloc (.cells #[.int .i64 V, .slice a0 fs.length cap] 30) := ⟨_, rfl⟩
  have hB0 : Below w.heap.size w W0 := by rw [hW0]; exact (Below.refl _ w).alloc (Nat.le_refl _) _
  have hk0 : W0.heap[w.heap.size]? = some (.cells #[.int .i64 V, .slice a0 fs.length cap] 30 (0, 0)) := by rw [hW0]; exact heap_alloc_new _ _
  have hwl : w.heap.size < W0.heap.size := lt_get hk0
  have hkc := two_of hk0
  have HGl := hid (World.block_lt_of_cell? w _ hG)
  have HCo := hid (fun W (h : Below w.heap.size w W) bl (hb : bl < W.heap.size) (hc : W.cell? ⟨bl, 0, none⟩ = some (.slice a2 ch.length cap2)) => by
    have := code_any V a0 cap fs bl 1 [(a2, cap2, ch)] W pv (hx.later h h.size) hl hb (by
      intro i a c xs hi
      match i, hi with
      | 0, hi =>
        simp at hi
        obtain ⟨rfl, rfl, rfl⟩ := hi
        exact ⟨hc, hx2.later h h.size, hg⟩) (by simp) ((h.cell (p := ⟨0, 0, none⟩) HGl.out).trans hG)
    rw [chns_one] at this
    exact this)
  have HAc := hid (fun s W (h : Below w.heap.size w W) => acode_any V a0 cap fs a1 n cap1 ps s W (hx.later h h.size) (hx1.later h h.size) hl hp hn hw)
  have HDf : Hid (fcodeR V fs n ps ch = 0 → ∀ W, Below w.heap.size w W → Calls Tryz.prog 30 #[.agg #[.int .i64 V, .slice a0 fs.length cap], .slice a1 n cap1, .slice a2 ch.length cap2] W fun e w' => ∃ v, e = .returned v ∧ Res W w' v (endL fs ps n ch)) := hid (fun h0 W h => by
    obtain ⟨hC, hO, hch, hac⟩ := fcode_zero h0
    exact eof_any V a0 cap fs a1 n cap1 ps a2 cap2 ch W (hx.later h h.size) (hx1.later h h.size) (hx2.later h h.size) hl hp hn hC hO (acyB_no hac) ⟨chain_ascF hch, links_mem hch⟩ (okTo_63 hC hO))
  obtain ⟨c1, hc1⟩ : ∃ c, c = chnR V fs ch := ⟨_, rfl⟩
  obtain ⟨s, hs⟩ : ∃ s, s = decide (chnR V fs ch = 0) := ⟨_, rfl⟩
  have hsd : (c1 == 0) = s := by rw [hs, hc1, Bool.eq_iff_iff]; simp
  obtain ⟨c, hcc⟩ : ∃ c, c = fcodeR V fs n ps ch := ⟨_, rfl⟩
  have HAs := hid (fun W (h : Below w.heap.size w W) => HAc.out s W h)
  rw [show acodeR V fs n ps s = c by rw [hcc, hs]; rfl] at HAs
  rw [← hc1] at HCo
  rw [← hcc] at HDf
  have HR1 : Hid (c = 0 → endR V fs n ps ch = (endL fs ps n ch, 0)) := hid (fun h => by unfold endR; rw [← hcc, if_pos h])
  have HR2 : Hid (¬ c = 0 → endR V fs n ps ch = ([], c)) := hid (fun h => by unfold endR; rw [← hcc, if_neg h])
  have HB0 := hid hB0
  have Hwl := hid hwl
  have Hkc := hid (show W0.cell? ⟨w.heap.size, 0, none⟩ = some (.int .i64 V) ∧ W0.cell? ⟨w.heap.size, 1, none⟩ = some (.slice a0 fs.length cap) from ⟨hkc.1, hkc.2.1⟩)
  clear hx hx1 hx2 hB0 hk0 hkc hwl hG hc1 hs hcc HAc hp hw
  go_enter Tryz.func20, Tryz.ntmps20
  go_wp2_with fail
  rw [← hW0]
  clear hW0
  refine region_M 8 (fun W : World => W.cell? ⟨w.heap.size, 0, none⟩ = some (.int .i64 V) ∧ W.cell? ⟨w.heap.size, 1, none⟩ = some (.slice a0 fs.length cap)) (by kernel_rfl) ?_
  obtain ⟨x0, hx0⟩ : ∃ x, x = W0.drew := ⟨_, rfl⟩
  have hb0 : Below W0.heap.size W0 x0 := by rw [hx0]; exact ⟨rfl, rfl, rfl, Nat.le_refl _, fun _ _ => rfl⟩
  rw [← hx0]
  have HX0 : Hid (x0.cell? ⟨w.heap.size, 0, none⟩ = some (.int .i64 V) ∧ x0.cell? ⟨w.heap.size, 1, none⟩ = some (.slice a0 fs.length cap)) := hid ⟨(hb0.cell (p := ⟨w.heap.size, 0, none⟩) Hwl.out).trans Hkc.out.1, (hb0.cell (p := ⟨w.heap.size, 1, none⟩) Hwl.out).trans Hkc.out.2⟩
  have HBx := hid (HB0.out.trans (hb0.mono HB0.out.size))
  have Hwx := hid (Nat.lt_of_lt_of_le Hwl.out hb0.size)
  clear hx0 hb0 HB0 Hkc Hwl
  refine anyM_take (i := 0) (v := .agg #[.int .i64 V, .slice a0 fs.length cap]) [7, 8] rfl (by kernel_rfl) (fun _ _ _ h => h) (Or.inl ⟨by rfl, fun W hW => by (obtain ⟨z0, z1⟩ := hW; go_simp)⟩) HX0.out ?_
  refine anyM_take (i := 1) (v := .slice a1 n cap1) [7, 8] rfl (by kernel_rfl) (fun _ _ _ h => h) (Or.inl ⟨by rfl, fun W hW => by go_simp⟩) HX0.out ?_
  refine anyM_take (i := 2) (v := .agg #[.int .i64 V, .slice a0 fs.length cap]) [5, 6, 7, 8] rfl (by kernel_rfl) (fun _ _ _ h => h) (Or.inl ⟨by rfl, fun W hW => by (obtain ⟨z0, z1⟩ := hW; go_simp)⟩) HX0.out ?_
  refine anyM_take (i := 3) (v := .slice a2 ch.length cap2) [4, 5, 6, 7, 8] rfl (by kernel_rfl) (fun _ _ _ h => h) (Or.inl ⟨by rfl, fun W hW => by go_simp⟩) HX0.out ?_
  refine anyM_ready (rs := [4]) (by kernel_rfl) (by simp) ?_
  refine AllM.cons rfl (fun K hK => ?_) AllM.nil
  go_simp
  obtain ⟨x1, hx1⟩ : ∃ x, x = x0.alloc (.cells #[.slice a2 ch.length cap2] 22) := ⟨_, rfl⟩
  have hb1 : Below x0.heap.size x0 x1 := by rw [hx1]; exact (Below.refl _ x0).alloc (Nat.le_refl _) _
  have hlt1 : x0.heap.size < x1.heap.size := by rw [hx1]; simp
  have hq0 : x1.cell? ⟨x0.heap.size, 0, none⟩ = some (.slice a2 ch.length cap2) := by rw [hx1]; simp [go_sem]
  have HX1 : Hid (x1.cell? ⟨w.heap.size, 0, none⟩ = some (.int .i64 V) ∧ x1.cell? ⟨w.heap.size, 1, none⟩ = some (.slice a0 fs.length cap)) := hid ⟨(hb1.cell (p := ⟨w.heap.size, 0, none⟩) Hwx.out).trans HX0.out.1, (hb1.cell (p := ⟨w.heap.size, 1, none⟩) Hwx.out).trans HX0.out.2⟩
  have HB1 := hid (HBx.out.trans (hb1.mono HBx.out.size))
  have HC1 := hid (HCo.out x1 HB1.out x0.heap.size hlt1 hq0)
  have Hw1 := hid (Nat.lt_of_lt_of_le Hwx.out hb1.size)
  rw [← hx1]
  clear hx1 hb1 hlt1 hq0
  refine hK.out _ _ (fun _ => HX1.out) ?_
  clear hK K
  refine anyM_ready (rs := [5]) (by kernel_rfl) (by simp) ?_
  refine AllM.cons rfl (fun K hK => ?_) AllM.nil
  go_simp
  go_at_call 26
  refine HC1.out.mono ?_
  rintro e x2 ⟨rfl, hb2⟩
  have HX2 : Hid (x2.cell? ⟨w.heap.size, 0, none⟩ = some (.int .i64 V) ∧ x2.cell? ⟨w.heap.size, 1, none⟩ = some (.slice a0 fs.length cap)) := hid ⟨(hb2.cell (p := ⟨w.heap.size, 0, none⟩) Hw1.out).trans HX1.out.1, (hb2.cell (p := ⟨w.heap.size, 1, none⟩) Hw1.out).trans HX1.out.2⟩
  have HB2 := hid (HB1.out.trans (hb2.mono HB1.out.size))
  have Hw2 := hid (Nat.lt_of_lt_of_le Hw1.out hb2.size)
  clear hb2
  refine hK.out _ _ (fun _ => HX2.out) ?_
  clear hK K
  refine anyM_take (i := 6) (v := .bool s) [7, 8] rfl (by kernel_rfl) (fun _ _ _ h => h) (Or.inl ⟨by rfl, fun W hW => by go_simp⟩) HX2.out ?_
  refine anyM_ready (rs := [7]) (by kernel_rfl) (by simp) ?_
  refine AllM.cons rfl (fun K hK => ?_) AllM.nil
  go_simp
  go_at_call 25
  refine (HAs.out x2 HB2.out).mono ?_
  rintro e x3 ⟨rfl, hb3⟩
  have HX3 : Hid (x3.cell? ⟨w.heap.size, 0, none⟩ = some (.int .i64 V) ∧ x3.cell? ⟨w.heap.size, 1, none⟩ = some (.slice a0 fs.length cap)) := hid ⟨(hb3.cell (p := ⟨w.heap.size, 0, none⟩) Hw2.out).trans HX2.out.1, (hb3.cell (p := ⟨w.heap.size, 1, none⟩) Hw2.out).trans HX2.out.2⟩
  have HB3 := hid (HB2.out.trans (hb3.mono HB2.out.size))
  clear hb3
  refine hK.out _ _ (fun _ => HX3.out) ?_
  clear hK K
  refine anyM_ready (rs := [8]) (by kernel_rfl) (by simp) ?_
  refine AllM.cons rfl (fun K hK => ?_) AllM.nil
  go_simp
  refine hK.out _ _ (fun h => absurd rfl h) ?_
  clear hK K
  refine anyM_done (by kernel_rfl) ?_ _
  by_cases h0 : c = 0
  · have HR := hid (HR1.out h0)
    have HD := hid (HDf.out h0 x3 HB3.out)
    obtain ⟨n0, n1⟩ := HX3.out
    clear hsd
    subst h0
    go_wp2_with fail
    refine HD.out.mono ?_
    rintro e x4 ⟨v, rfl, hr⟩
    have Hr := hid (hr.later HB3.out)
    clear hr
    go_wp2_with fail
    go_ret2
    rw [HR.out]
    exact ⟨_, rfl, Hr.out⟩
  · have HR := hid (HR2.out h0)
    have hn : (c != 0) = true := by simpa using h0
    clear h0 hsd
    go_wp2_with fail
    go_ret2
    rw [HR.out]
    exact ⟨_, rfl, res_nil _ _ HB3.out⟩

end Go.Proofs.YtpdhnjdnlgnniaaGreatDoor

/-! The law on EndOfFlow, walked. -/
namespace Go.Proofs.YtpdhnjdnlgnniaaGreatDoor
open Go.RowKit

set_option maxRecDepth 100000 in
set_option maxHeartbeats 8000000 in
theorem law_EndOfFlow (V0 : Int) (a0 : Option Addr) (cap0 : Nat) (xs0 : List Int) (a1 : Option Addr) (n1 cap1 : Nat) (ps1 : List Int) (a2 : Option Addr) (cap2 : Nat) (gs2 : List Int) (w : World) (hx0 : SlI w w.heap.size a0 xs0) (hx1 : SlI w w.heap.size a1 ps1) (hx2 : SlI w w.heap.size a2 gs2) (hp1 : ps1.length = 2 * n1) (wp1 : ∀ x ∈ ps1, (Lit.int .i64 x).wf = true) (hn0 : xs0.length ≤ 9223372036854775807) (hn1 : n1 ≤ 9223372036854775807)  (pv : Value) (hG : w.cell? ⟨0, 0, none⟩ = some (.iface 129 pv)) :
    Calls Tryz.prog 4 #[.agg #[.int .i64 V0, .slice a0 xs0.length cap0], .slice a1 n1 cap1, .slice a2 gs2.length cap2] w fun e w' => e = .returned (.bool true) ∧ Below w.heap.size w w' := by
  have HG := hid hG
  have HGl := hid (World.block_lt_of_cell? w _ hG)
  clear hG
  have F0 : Book w w [(a0, xs0), (a1, ps1), (a2, gs2)] [] [] := ⟨Below.refl _ _, by simp; exact ⟨hx0, hx1, hx2⟩, by simp, by simp⟩
  have F0 := F0.alloc (.cells #[.int .i64 V0, .slice a0 xs0.length cap0] 24)
  (try simp only [World.size_alloc] at F0)
  have B0 := hid F0
  clear F0 hx0 hx1 hx2
  have Hp1 := hid hp1
  have Wp1 := hid wp1
  clear hp1 wp1
  obtain ⟨r0, hr0⟩ : ∃ r, r = szR 1048576 xs0.length := ⟨_, rfl⟩
  have Hr0 := hid hr0
  obtain ⟨r1, hr1⟩ : ∃ r, r = szR r0 n1 := ⟨_, rfl⟩
  have Hr1 := hid hr1
  by_cases hbL2 : 1048576 < gs2.length
  · clear hr0 hr1
    have hbi2 : (gs2.length : Int) > 1048576 := by omega
    go_enter Tryz.func4, Tryz.ntmps4
    go_wp2_with fail
    go_ret
    exact ⟨rfl, B0.out.from0⟩
  have hl2 : gs2.length ≤ 1048576 := by omega
  have hbi2 : ¬ (gs2.length : Int) > 1048576 := by omega
  by_cases hb0 : 1048576 < xs0.length
  · have hm0 : r0 = -1 := by rw [hr0]; exact szR_big (by omega)
    clear hb0
    clear hr0 hr1
    go_enter Tryz.func4, Tryz.ntmps4
    go_wp2_with fail
    refine (szCx V0 a0 xs0.length cap0 1048576 _ (by omega) (by omega) hn0).mono ?_
    rintro e s0 ⟨rfl, hB⟩
    have zs0 := hB.size
    (try simp only [World.size_alloc] at zs0)
    have B0 := hid (B0.out.below hB)
    clear hB
    rw [← Hr0.out]
    go_wp2_with fail
    go_ret
    exact ⟨rfl, B0.out.from0⟩
  · have hv0 : r0 = 1048576 - xs0.length := by rw [hr0, szR_fit (by omega)]
    have hg0 : 0 ≤ r0 := by omega
    have hu0 : r0 ≤ 1048576 := by omega
    have hl0 : xs0.length ≤ 1048576 := by omega
    clear hr0 hb0
    have Hv0 := hid hv0
    clear hv0
    by_cases hb1 : r0 < n1
    · have hm1 : r1 = -1 := by rw [hr1]; exact szR_big (by omega)
      clear hb1
      clear hr1
      go_enter Tryz.func4, Tryz.ntmps4
      go_wp2_with fail
      refine (szCx V0 a0 xs0.length cap0 1048576 _ (by omega) (by omega) hn0).mono ?_
      rintro e s0 ⟨rfl, hB⟩
      have zs0 := hB.size
      (try simp only [World.size_alloc] at zs0)
      have B0 := hid (B0.out.below hB)
      clear hB
      rw [← Hr0.out]
      go_wp2_with fail
      refine (szPairs a1 n1 cap1 r0 _ hg0 hu0 hn1).mono ?_
      rintro e s1 ⟨rfl, hs1⟩
      subst hs1
      rw [← Hr1.out]
      go_wp2_with fail
      go_ret
      exact ⟨rfl, B0.out.from0⟩
    · have hv1 : r1 = r0 - n1 := by rw [hr1, szR_fit (by omega)]
      have hg1 : 0 ≤ r1 := by omega
      have hu1 : r1 ≤ 1048576 := by omega
      have hl1 : n1 ≤ 1048576 := by omega
      clear hr1 hb1
      have Hv1 := hid hv1
      clear hv1
      obtain ⟨R, hR⟩ : ∃ R, R = endR V0 xs0 n1 ps1 gs2 := ⟨_, rfl⟩
      have hRl : R.1.length ≤ 1048576 := by rw [hR]; exact endR_len V0 xs0 n1 ps1 gs2 hl0 Hp1.out hl1 hl2
      obtain ⟨ys, c⟩ := R
      simp only at hRl
      have HS : Hid (∀ a0 cap0 a1 cap1 a2 cap2 w', SlI w' w'.heap.size a0 xs0 → SlI w' w'.heap.size a1 ps1 → SlI w' w'.heap.size a2 gs2 → Calls Tryz.prog 19 #[.agg #[.int .i64 V0, .slice a0 xs0.length cap0], .slice a1 n1 cap1, .slice a2 gs2.length cap2] w' fun e w'' => ∃ v, e = .returned (.tuple #[v, .int .i64 c]) ∧ Res w' w'' v ys) :=
        hid (fun a0 cap0 a1 cap1 a2 cap2 w' hs0 hs1 hs2 => by have := specEndOfFlow V0 a0 cap0 xs0 a1 n1 cap1 ps1 a2 cap2 gs2 w' hs0 hs1 hs2 hl0 Hp1.out hl1 Wp1.out hl2; rwa [← hR] at this)
      have HI : Hid (∀ a0 cap0 a1 cap1 a2 cap2 w', SlI w' w'.heap.size a0 xs0 → SlI w' w'.heap.size a1 ps1 → SlI w' w'.heap.size a2 gs2 → w'.cell? ⟨0, 0, none⟩ = some (.iface 129 pv) → Calls Tryz.prog 20 #[.agg #[.int .i64 V0, .slice a0 xs0.length cap0], .slice a1 n1 cap1, .slice a2 gs2.length cap2] w' fun e w'' => ∃ v, e = .returned (.tuple #[v, .int .i64 c]) ∧ Res w' w'' v ys) :=
        hid (fun a0 cap0 a1 cap1 a2 cap2 w' hs0 hs1 hs2 hG' => by have := implEndOfFlow V0 a0 cap0 xs0 a1 n1 cap1 ps1 a2 cap2 gs2 w' hs0 hs1 hs2 hl0 Hp1.out hl1 Wp1.out hl2 pv hG'; rwa [← hR] at this)
      have hcc : (c != c) = false := by simp
      clear hR
      go_enter Tryz.func4, Tryz.ntmps4
      go_wp2_with fail
      refine (szCx V0 a0 xs0.length cap0 1048576 _ (by omega) (by omega) hn0).mono ?_
      rintro e s0 ⟨rfl, hB⟩
      have zs0 := hB.size
      (try simp only [World.size_alloc] at zs0)
      have B0 := hid (B0.out.below hB)
      clear hB
      rw [← Hr0.out]
      go_wp2_with fail
      refine (szPairs a1 n1 cap1 r0 _ hg0 hu0 hn1).mono ?_
      rintro e s1 ⟨rfl, hs1⟩
      subst hs1
      rw [← Hr1.out]
      obtain ⟨q0, q1⟩ := B0.out.two (.head _)
      go_wp2_with fail
      clear q0 q1
      refine (toCx V0 a0 cap0 xs0 _ (B0.out.arg (.head _)) hl0).mono ?_
      rintro e u0 ⟨gu0, rfl, hown, hB⟩
      have zu0 := hB.size
      (try simp only [World.size_alloc] at zu0)
      have B0 := hid (B0.out.row hown hB)
      clear hown hB
      (try simp only [World.size_alloc] at B0)
      go_wp2_with fail
      refine (toPairs a1 n1 cap1 ps1 _ (B0.out.arg (.tail _ (.head _))) Hp1.out hl1).mono ?_
      rintro e u1 ⟨rfl, hown, hB⟩
      have zu1 := hB.size
      (try simp only [World.size_alloc] at zu1)
      have B0 := hid (B0.out.row hown hB)
      clear hown hB
      (try simp only [World.size_alloc] at B0)
      go_wp2_with fail
      refine (toInts a2 cap2 gs2 _ (B0.out.arg (.tail _ (.tail _ (.head _)))) hl2).mono ?_
      rintro e u2 ⟨rfl, hown, hB⟩
      have zu2 := hB.size
      (try simp only [World.size_alloc] at zu2)
      have B0 := hid (B0.out.row hown hB)
      clear hown hB
      (try simp only [World.size_alloc] at B0)
      go_wp2_with fail
      refine (HS.out _ _ _ _ _ _ _ (B0.out.slI (.tail _ (.tail _ (.head _)))) (B0.out.slI (.tail _ (.head _))) (B0.out.slI (.head _))).mono ?_
      rintro e u9 ⟨vw, rfl, hres⟩
      have zu9 := hres.2.size
      (try simp only [World.size_alloc] at zu9)
      obtain ⟨_, aw, cw, rfl, _⟩ := ownsRow_slI hres.1
      have B0 := hid (B0.out.row hres.1 hres.2)
      clear hres
      (try simp only [World.size_alloc] at B0)
      obtain ⟨q0, q1⟩ := B0.out.two (.head _)
      go_wp2_with fail
      clear q0 q1
      refine (toCx V0 a0 cap0 xs0 _ (B0.out.arg (.head _)) hl0).mono ?_
      rintro e x0 ⟨gx0, rfl, hown, hB⟩
      have zx0 := hB.size
      (try simp only [World.size_alloc] at zx0)
      have B0 := hid (B0.out.row hown hB)
      clear hown hB
      (try simp only [World.size_alloc] at B0)
      have B0 := hid (B0.out.alloc (.cells #[.int .i64 V0, .slice (some ⟨gx0, 0, none⟩) xs0.length xs0.length] 30))
      go_wp2_with fail
      refine (toPairs a1 n1 cap1 ps1 _ (B0.out.arg (.tail _ (.head _))) Hp1.out hl1).mono ?_
      rintro e x1 ⟨rfl, hown, hB⟩
      have zx1 := hB.size
      (try simp only [World.size_alloc] at zx1)
      have B0 := hid (B0.out.row hown hB)
      clear hown hB
      (try simp only [World.size_alloc] at B0)
      go_wp2_with fail
      refine (toInts a2 cap2 gs2 _ (B0.out.arg (.tail _ (.tail _ (.head _)))) hl2).mono ?_
      rintro e x2 ⟨rfl, hown, hB⟩
      have zx2 := hB.size
      (try simp only [World.size_alloc] at zx2)
      have B0 := hid (B0.out.row hown hB)
      clear hown hB
      (try simp only [World.size_alloc] at B0)
      obtain ⟨p00, p01⟩ := B0.out.two (.head _)
      go_wp2_with fail
      clear p00 p01
      refine (HI.out _ _ _ _ _ _ _ (B0.out.slI (.tail _ (.tail _ (.head _)))) (B0.out.slI (.tail _ (.head _))) (B0.out.slI (.head _)) ((B0.out.from0.cell (p := ⟨0, 0, none⟩) HGl.out).trans HG.out)).mono ?_
      rintro e v9 ⟨vg, rfl, hres⟩
      have zv9 := hres.2.size
      (try simp only [World.size_alloc] at zv9)
      obtain ⟨_, ag, cg, rfl, _⟩ := ownsRow_slI hres.1
      have B0 := hid (B0.out.row hres.1 hres.2)
      clear hres
      (try simp only [World.size_alloc] at B0)
      go_wp2_with fail
      refine (eqInts_yes _ _ _ _ ys ys _ (B0.out.slI (.head _)) (B0.out.slI (.tail _ (.tail _ (.tail _ (.tail _ (.head _)))))) hRl hRl rfl).mono ?_
      rintro e e1 ⟨rfl, hB⟩
      have ze1 := hB.size
      (try simp only [World.size_alloc] at ze1)
      have B0 := hid (B0.out.below hB)
      clear hB
      obtain ⟨lxb00, lxb01⟩ := B0.out.two (.head _)
      obtain ⟨lk00, lk01⟩ := B0.out.two (.tail _ (.head _))
      go_wp2_with fail
      go_region_with (first
        | (go_at_call 8; refine (toCx V0 a0 cap0 xs0 _ (B0.out.drew.arg (.head _)) hl0).mono ?_; rintro e f0 ⟨gf0, rfl, hown, hB⟩; have zf0 := hB.size; have C0 := hid (B0.out.drew.row hown hB); clear hown hB; obtain ⟨m00, m01⟩ := C0.out.two (.head _))
        | (go_at_call 13; refine (eqCx_yes V0 _ _ _ _ xs0 xs0 _ (C0.out.slI (.tail _ (.tail _ (.tail _ (.tail _ (.head _)))))) (C0.out.slI (.head _)) hl0 hl0 rfl).mono ?_; rintro e h0 ⟨rfl, hB⟩))
      all_goals
        have zh0 := hB.size
        have D0 := hid (C0.out.below hB)
        clear hB C0 B0 m00 m01
        clear lxb00 lxb01
        clear lk00 lk01
        have B0 := D0
        clear D0
        skip
        go_wp2_with fail
        refine (toPairs a1 n1 cap1 ps1 _ (B0.out.arg (.tail _ (.head _))) Hp1.out hl1).mono ?_
        rintro e f1 ⟨rfl, hown, hB⟩
        have zf1 := hB.size
        (try simp only [World.size_alloc] at zf1)
        have B0 := hid (B0.out.row hown hB)
        clear hown hB
        (try simp only [World.size_alloc] at B0)
        go_wp2_with fail
        refine (eqPairs_yes _ _ n1 _ _ ps1 _ (B0.out.slI (.tail _ (.tail _ (.tail _ (.tail _ (.head _)))))) (B0.out.slI (.head _)) Hp1.out hl1).mono ?_
        rintro e h1 ⟨rfl, hB⟩
        have zh1 := hB.size
        (try simp only [World.size_alloc] at zh1)
        have B0 := hid (B0.out.below hB)
        clear hB
        go_wp2_with fail
        refine (toInts a2 cap2 gs2 _ (B0.out.arg (.tail _ (.tail _ (.head _)))) hl2).mono ?_
        rintro e f2 ⟨rfl, hown, hB⟩
        have zf2 := hB.size
        (try simp only [World.size_alloc] at zf2)
        have B0 := hid (B0.out.row hown hB)
        clear hown hB
        (try simp only [World.size_alloc] at B0)
        go_wp2_with fail
        refine (eqInts_yes _ _ _ _ gs2 gs2 _ (B0.out.slI (.tail _ (.tail _ (.tail _ (.tail _ (.head _)))))) (B0.out.slI (.head _)) hl2 hl2 rfl).mono ?_
        rintro e h2 ⟨rfl, hB⟩
        have zh2 := hB.size
        (try simp only [World.size_alloc] at zh2)
        have B0 := hid (B0.out.below hB)
        clear hB
        (try simp only [World.size_alloc] at B0)
        have B0 := hid (B0.out.only (bs' := _) (L' := [⟨u9.heap.size, x0.heap.size, 2, 1, xs0.length, .slice (some ⟨gx0, 0, none⟩) xs0.length xs0.length, xs0⟩, ⟨x0.heap.size + 1, x1.heap.size, 45, 2, n1, .slice (some ⟨x0.heap.size + 1, 0, none⟩) n1 n1, ps1⟩, ⟨x1.heap.size, x2.heap.size, 2, 1, gs2.length, .slice (some ⟨x1.heap.size, 0, none⟩) gs2.length gs2.length, gs2⟩, ⟨x2.heap.size, v9.heap.size, 2, 1, ys.length, .slice ag ys.length cg, ys⟩, ⟨u2.heap.size, u9.heap.size, 2, 1, ys.length, .slice aw ys.length cw, ys⟩]) (fun _ h => h) (by simp))
        obtain ⟨lxb00, lxb01⟩ := B0.out.two (.head _)
        go_wp2_with fail
        clear lxb00 lxb01
        refine (markCx V0 _ _ _ xs0 (1) _ (B0.out.own (.head _)) hl0 (by omega) (by omega)).mono ?_
        rintro e m0 ⟨rfl, hown, hg⟩
        have zm0 := hg.size
        (try simp only [World.size_alloc] at zm0)
        have B0 := hid (B0.out.mark (ys := count (1) xs0.length) (L' := [⟨x0.heap.size + 1, x1.heap.size, 45, 2, n1, .slice (some ⟨x0.heap.size + 1, 0, none⟩) n1 n1, ps1⟩, ⟨x1.heap.size, x2.heap.size, 2, 1, gs2.length, .slice (some ⟨x1.heap.size, 0, none⟩) gs2.length gs2.length, gs2⟩, ⟨x2.heap.size, v9.heap.size, 2, 1, ys.length, .slice ag ys.length cg, ys⟩, ⟨u2.heap.size, u9.heap.size, 2, 1, ys.length, .slice aw ys.length cw, ys⟩]) (.head _) hown hg (by simp only; omega) (by simp; omega) (by simp <;> omega))
        clear hown hg
        go_wp2_with fail
        refine (markPairs _ _ _ _ ps1 (1 + xs0.length) _ (B0.out.own (.head _)) hl1 (by omega) (by omega)).mono ?_
        rintro e m1 ⟨rfl, hown, hg⟩
        have zm1 := hg.size
        (try simp only [World.size_alloc] at zm1)
        have B0 := hid (B0.out.mark (ys := count (1 + xs0.length) (n1 * 2)) (L' := [⟨x1.heap.size, x2.heap.size, 2, 1, gs2.length, .slice (some ⟨x1.heap.size, 0, none⟩) gs2.length gs2.length, gs2⟩, ⟨x2.heap.size, v9.heap.size, 2, 1, ys.length, .slice ag ys.length cg, ys⟩, ⟨u2.heap.size, u9.heap.size, 2, 1, ys.length, .slice aw ys.length cw, ys⟩]) (.head _) hown hg (by simp only; omega) (by simp; omega) (by simp <;> omega))
        clear hown hg
        go_wp2_with fail
        refine (markInts _ _ _ gs2 (1 + xs0.length + 2 * n1) _ (B0.out.own (.head _)) hl2 (by omega) (by omega)).mono ?_
        rintro e m2 ⟨rfl, hown, hg⟩
        have zm2 := hg.size
        (try simp only [World.size_alloc] at zm2)
        have B0 := hid (B0.out.mark (ys := count (1 + xs0.length + 2 * n1) gs2.length) (L' := [⟨x2.heap.size, v9.heap.size, 2, 1, ys.length, .slice ag ys.length cg, ys⟩, ⟨u2.heap.size, u9.heap.size, 2, 1, ys.length, .slice aw ys.length cw, ys⟩]) (.head _) hown hg (by simp only; omega) (by simp; omega) (by simp <;> omega))
        clear hown hg
        go_wp2_with fail
        refine (eqInts_yes _ _ _ _ ys ys _ (B0.out.slI (.head _)) (B0.out.slI (.tail _ (.head _))) hRl hRl rfl).mono ?_
        rintro e e2 ⟨rfl, hB⟩
        have ze2 := hB.size
        (try simp only [World.size_alloc] at ze2)
        have B0 := hid (B0.out.below hB)
        clear hB
        go_wp2_with fail
        refine (markInts _ _ _ ys 1 _ (B0.out.own (.head _)) hRl (by omega) (by omega)).mono ?_
        rintro e m8 ⟨rfl, hown, hg⟩
        have zm8 := hg.size
        (try simp only [World.size_alloc] at zm8)
        have B0 := hid (B0.out.mark (ys := count 1 ys.length) (L' := [⟨x2.heap.size, v9.heap.size, 2, 1, ys.length, .slice ag ys.length cg, count 1 ys.length⟩, ⟨u2.heap.size, u9.heap.size, 2, 1, ys.length, .slice aw ys.length cw, ys⟩]) (.head _) hown hg (by simp only; omega) (by simp; omega) (by simp <;> omega))
        clear hown hg
        go_wp2_with fail
        refine (heldInts _ _ ys.length _ 1 _ rfl (B0.out.slI (.head _)) hRl (by omega) (by omega)).mono ?_
        rintro e t1 ⟨rfl, hB⟩
        have zt1 := hB.size
        (try simp only [World.size_alloc] at zt1)
        have B0 := hid (B0.out.below hB)
        clear hB
        have hnn : ((1 : Int) + ys.length != 1 + ys.length) = false := by simp
        obtain ⟨q0, q1⟩ := B0.out.two (.tail _ (.head _))
        go_wp2_with fail
        clear q0 q1
        refine (toCx V0 a0 cap0 xs0 _ (B0.out.arg (.head _)) hl0).mono ?_
        rintro e y0 ⟨gy0, rfl, hown, hB⟩
        have zy0 := hB.size
        (try simp only [World.size_alloc] at zy0)
        have B0 := hid (B0.out.row hown hB)
        clear hown hB
        (try simp only [World.size_alloc] at B0)
        go_wp2_with fail
        refine (toPairs a1 n1 cap1 ps1 _ (B0.out.arg (.tail _ (.head _))) Hp1.out hl1).mono ?_
        rintro e y1 ⟨rfl, hown, hB⟩
        have zy1 := hB.size
        (try simp only [World.size_alloc] at zy1)
        have B0 := hid (B0.out.row hown hB)
        clear hown hB
        (try simp only [World.size_alloc] at B0)
        go_wp2_with fail
        refine (toInts a2 cap2 gs2 _ (B0.out.arg (.tail _ (.tail _ (.head _)))) hl2).mono ?_
        rintro e y2 ⟨rfl, hown, hB⟩
        have zy2 := hB.size
        (try simp only [World.size_alloc] at zy2)
        have B0 := hid (B0.out.row hown hB)
        clear hown hB
        (try simp only [World.size_alloc] at B0)
        go_wp2_with fail
        refine (HI.out _ _ _ _ _ _ _ (B0.out.slI (.tail _ (.tail _ (.head _)))) (B0.out.slI (.tail _ (.head _))) (B0.out.slI (.head _)) ((B0.out.from0.cell (p := ⟨0, 0, none⟩) HGl.out).trans HG.out)).mono ?_
        rintro e t2 ⟨vh, rfl, hres⟩
        have zt2 := hres.2.size
        (try simp only [World.size_alloc] at zt2)
        obtain ⟨_, ah, ch, rfl, _⟩ := ownsRow_slI hres.1
        have B0 := hid (B0.out.row hres.1 hres.2)
        clear hres
        (try simp only [World.size_alloc] at B0)
        go_wp2_with fail
        refine (eqInts_yes _ _ _ _ ys ys _ (B0.out.slI (.head _)) (B0.out.slI (.tail _ (.tail _ (.tail _ (.tail _ (.tail _ (.head _))))))) hRl hRl rfl).mono ?_
        rintro e t3 ⟨rfl, hB⟩
        have zt3 := hB.size
        (try simp only [World.size_alloc] at zt3)
        have B0 := hid (B0.out.below hB)
        clear hB
        go_wp2_with fail
        refine (heldInts _ _ ys.length _ 1 _ rfl (B0.out.slI (.tail _ (.tail _ (.tail _ (.tail _ (.head _)))))) hRl (by omega) (by omega)).mono ?_
        rintro e t4 ⟨rfl, hB⟩
        have zt4 := hB.size
        (try simp only [World.size_alloc] at zt4)
        have B0 := hid (B0.out.below hB)
        clear hB
        go_wp2_with fail
        go_ret
        exact ⟨rfl, B0.out.from0⟩

end Go.Proofs.YtpdhnjdnlgnniaaGreatDoor
