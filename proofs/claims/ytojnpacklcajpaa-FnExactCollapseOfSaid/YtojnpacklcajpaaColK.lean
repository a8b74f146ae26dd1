import Derived.Test.YtojnpacklcajpaaColS
import Derived.Test.YtojnpacklcajpaaPart
/-! CollapseKeeping, CollapseOf, IsCollapsible. -/
namespace Go.Proofs.Ytojnpacklcajpaa
open Go.RowKit

set_option maxRecDepth 100000 in
theorem done_cx3 {fn : Func} {R : Ending → World → Prop} {a : Act} {w : World} {p u t : Tmp} (hr : fn.results = #[.cell p 29, .tmp u, .tmp t]) (hd : a.defers = []) {b o : Nat} {x y c d : Value}
    (hp : a.tmps.getD p undef = .pointer (some ⟨b, o, none⟩)) (h0 : w.cell? ⟨b, o, none⟩ = some x) (h1 : w.cell? ⟨b, o + 1, none⟩ = some y) (hu : a.tmps.getD u undef = c) (ht : a.tmps.getD t undef = d) (hR : R (.returned (.tuple #[.agg #[x, y], c, d])) w) : bodyPost Try.prog fn R .ret a w := by
  refine bodyPost_ret (v := .tuple #[.agg #[x, y], c, d]) ?_ hd hR
  have hp' : a.tmps[p]?.getD undef = .pointer (some ⟨b, o, none⟩) := by simpa using hp
  have hu' : a.tmps[u]?.getD undef = c := by simpa using hu
  have ht' : a.tmps[t]?.getD undef = d := by simpa using ht
  simp [results, hr, hp', hu', ht', asAddr, load_cx h0 h1]

/-- A complex and a list of pairs, in new memory, in rows of their own. -/
def Res2 (w w' : World) (v : Value) (xs : List Int) (q : Value) (L : List (Int × Int)) : Prop := Res w w' v xs ∧ ResP w w' q L ∧ Apart v q

theorem Res2.later {w0 w w' : World} {v q : Value} {xs : List Int} {L : List (Int × Int)} (h : Res2 w w' v xs q L) (h0 : Below w0.heap.size w0 w) : Res2 w0 w' v xs q L := ⟨h.1.later h0, h.2.1.later h0, h.2.2⟩
theorem res2_nil (w w' : World) (h : Below w.heap.size w w') : Res2 w w' (.slice none 0 0) [] (.slice none 0 0) [] := ⟨res_nil _ _ h, resP_nil _ _ h, fun g hg => by simp [Value.ownBlock] at hg⟩
theorem Res2.alloc {w w' : World} {v q : Value} {xs : List Int} {L : List (Int × Int)} (h : Res2 w w' v xs q L) (o : Obj) : Res2 w (w'.alloc o) v xs q L :=
  ⟨⟨h.1.1.alloc o, h.1.2.alloc h.1.2.size o⟩, ⟨h.2.1.1.alloc o, h.1.2.alloc h.1.2.size o⟩, h.2.2⟩
theorem Res2.set2 {w W : World} {sv q : Value} {xs : List Int} {L : List (Int × Int)} (h : Res2 w W sv xs q L) {b : Nat} {cs : Array Value} {fz : Nat × Nat} (hb : W.heap[b]? = some (.cells cs 29 fz)) (hw : w.heap.size ≤ b) (u v : Value) :
    Res2 w ((W.setCell ⟨b, 0, none⟩ u).setCell ⟨b, 1, none⟩ v) sv xs q L := by
  have hy := row_ne_any h.2.1.1 hb (by decide)
  exact ⟨h.1.set2 hb (by decide) hw u v, ⟨ownsRow_set (ownsRow_set h.2.1.1 (fun e => hy e.symm) _) (fun e => hy e.symm) _, (h.1.2.setCell (p := ⟨b, 0, none⟩) hw _).setCell (p := ⟨b, 1, none⟩) hw _⟩, h.2.2⟩

/-- What CollapseKeeping hands back. -/
noncomputable def colKR (V : Int) (fs : List Int) (V1 : Int) (ls : List Int) : Int × List Int × List (Int × Int) × Int :=
  if isCB V fs && isCB V1 ls then (if partB V fs V1 ls then (V, (colE ls fs).1, (colE ls fs).2, 0) else (0, [], [], 5)) else (0, [], [], 1)
theorem colKR_len (V : Int) (fs : List Int) (V1 : Int) (ls : List Int) (h : fs.length ≤ 1048576) : (colKR V fs V1 ls).2.1.length ≤ 1048576 ∧ (colKR V fs V1 ls).2.2.1.length ≤ 1048576 := by
  have := colE_len ls fs
  unfold colKR
  split
  · split
    · exact ⟨by simp only; omega, by simp only; omega⟩
    · simp
  · simp

theorem ck_mono {P : Program} {f : FuncId} {args : Array Value} {w : World} {r : Int × List Int × List (Int × Int) × Int} {U : Int} {xs : List Int} {L : List (Int × Int)} {c : Int} (hr : r = (U, xs, L, c))
    (h : Calls P f args w fun e w' => ∃ v q, e = .returned (.tuple #[.agg #[.int .i64 U, v], q, .int .i64 c]) ∧ Res2 w w' v xs q L) : Calls P f args w fun e w' => ∃ v q, e = .returned (.tuple #[.agg #[.int .i64 r.1, v], q, .int .i64 r.2.2.2]) ∧ Res2 w w' v r.2.1 q r.2.2.1 := by
  subst hr; exact h

set_option maxRecDepth 100000 in
set_option maxHeartbeats 4000000 in
theorem ckI_any (V : Int) (a0 : Option Addr) (cap : Nat) (fs : List Int) (V1 : Int) (a1 : Option Addr) (cap1 : Nat) (ls : List Int) (w : World) (hx : SlI w w.heap.size a0 fs) (hx1 : SlI w w.heap.size a1 ls) (hl : fs.length ≤ 1048576) (hl1 : ls.length ≤ 1048576) :
    Calls Try.prog 32 #[.agg #[.int .i64 V, .slice a0 fs.length cap], .agg #[.int .i64 V1, .slice a1 ls.length cap1]] w fun e w' => ∃ v q, e = .returned (.tuple #[.agg #[.int .i64 (colKR V fs V1 ls).1, v], q, .int .i64 (colKR V fs V1 ls).2.2.2]) ∧ Res2 w w' v (colKR V fs V1 ls).2.1 q (colKR V fs V1 ls).2.2.1 := by
  have hB0 : Below w.heap.size w (((w.alloc (.cells #[.int .i64 V, .slice a0 fs.length cap] 29)).alloc (.cells #[.int .i64 V1, .slice a1 ls.length cap1] 29)).alloc (.cells #[.int .i64 0, .slice none 0 0] 29)) := (((Below.refl _ w).alloc (Nat.le_refl _) _).alloc (by simp) _).alloc (by simp <;> omega) _
  obtain ⟨W, hW⟩ : ∃ W, W = ((w.alloc (.cells #[.int .i64 V, .slice a0 fs.length cap] 29)).alloc (.cells #[.int .i64 V1, .slice a1 ls.length cap1] 29)).alloc (.cells #[.int .i64 0, .slice none 0 0] 29) := ⟨_, rfl⟩
  have Q0 := hid (show W.heap[w.heap.size]? = some (.cells #[.int .i64 V, .slice a0 fs.length cap] 29 (0, 0)) by rw [hW, Below.heap_alloc _ _ _ (by simp <;> omega), Below.heap_alloc _ _ _ (by simp)]; exact heap_alloc_new _ _)
  have Q1 := hid (show W.heap[w.heap.size + 1]? = some (.cells #[.int .i64 V1, .slice a1 ls.length cap1] 29 (0, 0)) by rw [hW, Below.heap_alloc _ _ _ (by simp)]; exact new2 _ _ _)
  have R1 := hid (show W.heap[w.heap.size + 1 + 1]? = some (.cells #[.int .i64 0, .slice none 0 0] 29 (0, 0)) by rw [hW]; exact new3 _ _ _ _)
  have HBW : Hid (Below w.heap.size w W) := hid (by rw [hW]; exact hB0)
  have HW := hid hW
  have Hx0 := hid hx
  have Hx1 := hid hx1
  have Hxw := hid (Hx0.out.later HBW.out HBW.out.size)
  have Hx1w := hid (Hx1.out.later HBW.out HBW.out.size)
  clear hx hx1 hB0 hW
  by_cases hC : IsC V fs
  · have HC := hid hC
    have Hf := hid hC.range63
    by_cases hC1 : IsC V1 ls
    · have HC1 := hid hC1
      have HIP := hid (fun w' (h : Below w.heap.size w w') => isPart_any V a0 cap fs V1 a1 cap1 ls w' (Hx0.out.later h h.size) (Hx1.out.later h h.size) hl hl1)
      by_cases hp : partB V fs V1 ls = true
      · refine ck_mono (show colKR V fs V1 ls = (V, (colE ls fs).1, (colE ls fs).2, 0) by unfold colKR; rw [isCB_true hC, isCB_true hC1, hp]; rfl) ?_
        have HCO := hid (fun w' (h : Below w.heap.size w w') => colI_any V a0 cap fs V1 a1 cap1 ls w' (Hx0.out.later h h.size) (Hx1.out.later h h.size) hl hl1 Hf.out)
        rw [hp] at HIP
        clear hC hC1 hp
        obtain ⟨k0, k1, _, _⟩ := two_of Q0.out
        go_enter Try.func32, Try.ntmps32
        go_wp2_with fail
        rw [← HW.out]
        refine (isc_yes V a0 cap fs _ Hxw.out hl HC.out).mono ?_
        rintro e w1 ⟨rfl, hB1⟩
        have HB1 := hid (HBW.out.trans (hB1.mono HBW.out.size))
        have Q01 := hid ((hB1.block _ (lt_get Q0.out)).trans Q0.out)
        have Q11 := hid ((hB1.block _ (lt_get Q1.out)).trans Q1.out)
        have R11 := hid ((hB1.block _ (lt_get R1.out)).trans R1.out)
        clear k0 k1 hB1
        obtain ⟨l0, l1, _, _⟩ := two_of Q11.out
        go_wp2_with fail
        refine (isc_yes V1 a1 cap1 ls _ (Hx1.out.later HB1.out HB1.out.size) hl1 HC1.out).mono ?_
        rintro e w2 ⟨rfl, hB2⟩
        have HB2 := hid (HB1.out.trans (hB2.mono HB1.out.size))
        have Q02 := hid ((hB2.block _ (lt_get Q01.out)).trans Q01.out)
        have Q12 := hid ((hB2.block _ (lt_get Q11.out)).trans Q11.out)
        have R12 := hid ((hB2.block _ (lt_get R11.out)).trans R11.out)
        clear l0 l1 hB2
        obtain ⟨k0, k1, _, _⟩ := two_of Q02.out
        obtain ⟨l0, l1, _, _⟩ := two_of Q12.out
        go_wp2_with fail
        refine (HIP.out _ HB2.out).mono ?_
        rintro e w3 ⟨rfl, hB3⟩
        have HB3 := hid (HB2.out.trans (hB3.mono HB2.out.size))
        have Q03 := hid ((hB3.block _ (lt_get Q02.out)).trans Q02.out)
        have Q13 := hid ((hB3.block _ (lt_get Q12.out)).trans Q12.out)
        have R13 := hid ((hB3.block _ (lt_get R12.out)).trans R12.out)
        clear k0 k1 l0 l1 hB3
        obtain ⟨k0, k1, _, _⟩ := two_of Q03.out
        obtain ⟨l0, l1, _, _⟩ := two_of Q13.out
        go_wp2_with fail
        refine (HCO.out _ HB3.out).mono ?_
        rintro e w4 ⟨v, q, rfl, hr⟩
        obtain ⟨ys, hys⟩ : ∃ ys, ys = (colE ls fs).1 := ⟨_, rfl⟩
        have Hys := hid hys
        rw [← hys] at hr
        have hr' : Res2 w3 w4 v ys q (colE ls fs).2 := hr
        have HR := hid ((hr'.later HB3.out).alloc (.cells #[.int .i64 V, v] 29))
        have R14 := hid ((Below.heap_alloc w4 (.cells #[.int .i64 V, v] 29) _ (Nat.lt_of_lt_of_le (lt_get R13.out) hr'.1.2.size)).trans ((hr'.1.2.block _ (lt_get R13.out)).trans R13.out))
        obtain ⟨_, av, cv, rfl, _⟩ := ownsRow_slI hr'.1.1
        obtain ⟨c0, c1, f0, f1⟩ := two_of R14.out
        clear k0 k1 l0 l1 hr hr' hys
        go_wp2_with fail
        (try simp only [Exit.inBlock, Exit.then])
        have R3 := two_of (two_set R14.out (.int .i64 V) (.slice av ys.length cv))
        refine done_cx3 (p := 4) (u := 5) (t := 6) (by kernel_rfl) rfl rfl R3.1 R3.2.1 rfl rfl ⟨_, _, rfl, ?_⟩
        rw [← Hys.out]
        exact HR.out.set2 R14.out (by omega) _ _
      · refine ck_mono (show colKR V fs V1 ls = (0, [], [], 5) by unfold colKR; rw [isCB_true hC, isCB_true hC1, Bool.and_true, if_pos rfl, if_neg hp]) ?_
        have hpf : partB V fs V1 ls = false := by simpa using hp
        rw [hpf] at HIP
        clear hC hC1 hp hpf
        obtain ⟨k0, k1, _, _⟩ := two_of Q0.out
        go_enter Try.func32, Try.ntmps32
        go_wp2_with fail
        rw [← HW.out]
        refine (isc_yes V a0 cap fs _ Hxw.out hl HC.out).mono ?_
        rintro e w1 ⟨rfl, hB1⟩
        have HB1 := hid (HBW.out.trans (hB1.mono HBW.out.size))
        have Q01 := hid ((hB1.block _ (lt_get Q0.out)).trans Q0.out)
        have Q11 := hid ((hB1.block _ (lt_get Q1.out)).trans Q1.out)
        have R11 := hid ((hB1.block _ (lt_get R1.out)).trans R1.out)
        clear k0 k1 hB1
        obtain ⟨l0, l1, _, _⟩ := two_of Q11.out
        go_wp2_with fail
        refine (isc_yes V1 a1 cap1 ls _ (Hx1.out.later HB1.out HB1.out.size) hl1 HC1.out).mono ?_
        rintro e w2 ⟨rfl, hB2⟩
        have HB2 := hid (HB1.out.trans (hB2.mono HB1.out.size))
        have Q02 := hid ((hB2.block _ (lt_get Q01.out)).trans Q01.out)
        have Q12 := hid ((hB2.block _ (lt_get Q11.out)).trans Q11.out)
        have R12 := hid ((hB2.block _ (lt_get R11.out)).trans R11.out)
        clear l0 l1 hB2
        obtain ⟨k0, k1, _, _⟩ := two_of Q02.out
        obtain ⟨l0, l1, _, _⟩ := two_of Q12.out
        go_wp2_with fail
        refine (HIP.out _ HB2.out).mono ?_
        rintro e w3 ⟨rfl, hB3⟩
        have HB3 := hid (HB2.out.trans (hB3.mono HB2.out.size))
        have R13 := hid ((hB3.block _ (lt_get R12.out)).trans R12.out)
        clear k0 k1 l0 l1 hB3
        obtain ⟨c0, c1, f0, f1⟩ := two_of R13.out
        go_wp2_with fail
        (try simp only [Exit.inBlock, Exit.then])
        have R3 := two_of (two_set R13.out (.int .i64 0) (.slice none 0 0))
        refine done_cx3 (p := 4) (u := 5) (t := 6) (by kernel_rfl) rfl rfl R3.1 R3.2.1 rfl rfl ⟨_, _, rfl, ?_⟩
        exact (res2_nil _ _ HB3.out).set2 R13.out (by omega) _ _
    · refine ck_mono (show colKR V fs V1 ls = (0, [], [], 1) by unfold colKR; rw [isCB_true hC, isCB_false hC1, Bool.and_false, if_neg (by simp)]) ?_
      clear hC
      obtain ⟨k0, k1, _, _⟩ := two_of Q0.out
      go_enter Try.func32, Try.ntmps32
      go_wp2_with fail
      rw [← HW.out]
      refine (isc_yes V a0 cap fs _ Hxw.out hl HC.out).mono ?_
      rintro e w1 ⟨rfl, hB1⟩
      have HB1 := hid (HBW.out.trans (hB1.mono HBW.out.size))
      have Q11 := hid ((hB1.block _ (lt_get Q1.out)).trans Q1.out)
      have R11 := hid ((hB1.block _ (lt_get R1.out)).trans R1.out)
      clear k0 k1 hB1
      obtain ⟨l0, l1, _, _⟩ := two_of Q11.out
      go_wp2_with fail
      refine (isc_no V1 a1 cap1 ls _ (Hx1.out.later HB1.out HB1.out.size) hl1 hC1).mono ?_
      rintro e w2 ⟨rfl, hB2⟩
      have HB2 := hid (HB1.out.trans (hB2.mono HB1.out.size))
      have R12 := hid ((hB2.block _ (lt_get R11.out)).trans R11.out)
      clear l0 l1 hB2
      obtain ⟨c0, c1, f0, f1⟩ := two_of R12.out
      go_wp2_with fail
      (try simp only [Exit.inBlock, Exit.then])
      have R3 := two_of (two_set R12.out (.int .i64 0) (.slice none 0 0))
      refine done_cx3 (p := 4) (u := 5) (t := 6) (by kernel_rfl) rfl rfl R3.1 R3.2.1 rfl rfl ⟨_, _, rfl, ?_⟩
      exact (res2_nil _ _ HB2.out).set2 R12.out (by omega) _ _
  · refine ck_mono (show colKR V fs V1 ls = (0, [], [], 1) by unfold colKR; rw [isCB_false hC, Bool.false_and, if_neg (by simp)]) ?_
    obtain ⟨k0, k1, _, _⟩ := two_of Q0.out
    go_enter Try.func32, Try.ntmps32
    go_wp2_with fail
    rw [← HW.out]
    refine (isc_no V a0 cap fs _ Hxw.out hl hC).mono ?_
    rintro e w1 ⟨rfl, hB1⟩
    have HB1 := hid (HBW.out.trans (hB1.mono HBW.out.size))
    have R11 := hid ((hB1.block _ (lt_get R1.out)).trans R1.out)
    clear k0 k1 hB1
    obtain ⟨c0, c1, f0, f1⟩ := two_of R11.out
    go_wp2_with fail
    (try simp only [Exit.inBlock, Exit.then])
    have R3 := two_of (two_set R11.out (.int .i64 0) (.slice none 0 0))
    refine done_cx3 (p := 4) (u := 5) (t := 6) (by kernel_rfl) rfl rfl R3.1 R3.2.1 rfl rfl ⟨_, _, rfl, ?_⟩
    exact (res2_nil _ _ HB1.out).set2 R11.out (by omega) _ _

/-- What CollapseOf hands back. -/
noncomputable def colOR (V : Int) (fs : List Int) : Int × List Int × List (Int × Int) × Int := if isCB V fs then (V, (colE [] fs).1, (colE [] fs).2, 0) else (0, [], [], 1)
theorem colOR_len (V : Int) (fs : List Int) (h : fs.length ≤ 1048576) : (colOR V fs).2.1.length ≤ 1048576 ∧ (colOR V fs).2.2.1.length ≤ 1048576 := by
  have := colE_len [] fs
  unfold colOR
  split
  · exact ⟨by simp only; omega, by simp only; omega⟩
  · simp
theorem colKR_nil (V : Int) (fs : List Int) : colKR V fs V [] = colOR V fs := by
  unfold colKR colOR partB
  by_cases hC : IsC V fs
  · rw [isCB_true hC, isCB_true (isC_nil hC.lo hC.hi)]
    simp
  · rw [isCB_false hC]
    simp

set_option maxRecDepth 100000 in
set_option maxHeartbeats 2000000 in
theorem implCO (V : Int) (a0 : Option Addr) (cap : Nat) (fs : List Int) (w : World) (hx : SlI w w.heap.size a0 fs) (hl : fs.length ≤ 1048576) :
    Calls Try.prog 28 #[.agg #[.int .i64 V, .slice a0 fs.length cap]] w fun e w' => ∃ v q, e = .returned (.tuple #[.agg #[.int .i64 (colOR V fs).1, v], q, .int .i64 (colOR V fs).2.2.2]) ∧ Res2 w w' v (colOR V fs).2.1 q (colOR V fs).2.2.1 := by
  have hB0 : Below w.heap.size w ((w.alloc (.cells #[.int .i64 V, .slice a0 fs.length cap] 29)).alloc (.cells #[.int .i64 0, .slice none 0 0] 29)) := ((Below.refl _ w).alloc (Nat.le_refl _) _).alloc (by simp) _
  have Hx := hid (hx.later hB0 hB0.size)
  have HC := hid (ckI_any V a0 cap fs V none 0 [] _ Hx.out (.inl rfl) hl (by simp))
  rw [colKR_nil] at HC
  obtain ⟨R, hR⟩ : ∃ R, R = colOR V fs := ⟨_, rfl⟩
  rw [← hR] at HC
  rw [← hR]
  obtain ⟨U, ys, L, c⟩ := R
  simp only at HC
  simp only
  clear hR
  go_enter Try.func28, Try.ntmps28
  go_wp2_with fail
  refine HC.out.mono ?_
  rintro e w1 ⟨v, q, rfl, hr⟩
  have r1 : w1.heap[w.heap.size + 1]? = some (.cells #[.int .i64 0, .slice none 0 0] 29 (0, 0)) := (hr.1.2.block _ (by simp <;> omega)).trans (new2 _ _ _)
  have HR := hid (hr.later hB0)
  obtain ⟨_, av, cv, rfl, _⟩ := ownsRow_slI hr.1.1
  obtain ⟨c0, c1, f0, f1⟩ := two_of r1
  have R1 := hid r1
  clear r1 hr
  go_wp2_with fail
  (try simp only [Exit.inBlock, Exit.then])
  have R3 := two_of (two_set R1.out (.int .i64 U) (.slice av ys.length cv))
  refine done_cx3 (p := 2) (u := 3) (t := 4) (by kernel_rfl) rfl rfl R3.1 R3.2.1 rfl rfl ⟨_, _, rfl, ?_⟩
  exact HR.out.set2 R1.out (by omega) _ _

/-- What IsCollapsible hands back. -/
noncomputable def isColR (V : Int) (fs : List Int) : Bool × Int := if isCB V fs then (decide ((colE [] fs).1.length = 1), 0) else (false, 1)
theorem isColR_of (V : Int) (fs : List Int) : isColR V fs = (decide ((colOR V fs).2.1.length = 1), (colOR V fs).2.2.2) := by
  unfold isColR colOR
  split <;> simp

theorem ic_mono {P : Program} {f : FuncId} {args : Array Value} {w : World} {r : Bool × Int} {b : Bool} {c : Int} (hr : r = (b, c))
    (h : Calls P f args w fun e w' => e = .returned (.tuple #[.bool b, .int .i64 c]) ∧ Below w.heap.size w w') : Calls P f args w fun e w' => e = .returned (.tuple #[.bool r.1, .int .i64 r.2]) ∧ Below w.heap.size w w' := by
  subst hr; exact h

set_option maxRecDepth 100000 in
set_option maxHeartbeats 2000000 in
theorem implIsCollapsible (V : Int) (a0 : Option Addr) (cap : Nat) (fs : List Int) (w : World) (hx : SlI w w.heap.size a0 fs) (hl : fs.length ≤ 1048576) :
    Calls Try.prog 30 #[.agg #[.int .i64 V, .slice a0 fs.length cap]] w fun e w' => e = .returned (.tuple #[.bool (isColR V fs).1, .int .i64 (isColR V fs).2]) ∧ Below w.heap.size w w' := by
  have hB0 : Below w.heap.size w (w.alloc (.cells #[.int .i64 V, .slice a0 fs.length cap] 29)) := (Below.refl _ w).alloc (Nat.le_refl _) _
  have Hx := hid (hx.later hB0 hB0.size)
  refine ic_mono (isColR_of V fs) ?_
  have HC := hid (implCO V a0 cap fs _ Hx.out hl)
  obtain ⟨R, hR⟩ : ∃ R, R = colOR V fs := ⟨_, rfl⟩
  rw [← hR] at HC
  rw [← hR]
  obtain ⟨U, ys, L, c⟩ := R
  simp only at HC
  simp only
  clear hR
  go_enter Try.func30, Try.ntmps30
  go_wp2_with fail
  refine HC.out.mono ?_
  rintro e w1 ⟨v, q, rfl, hr⟩
  have HB := hid (hB0.trans (hr.1.2.mono hB0.size))
  obtain ⟨_, av, cv, rfl, _⟩ := ownsRow_slI hr.1.1
  have He : Hid (((ys.length : Int) == 1) = decide (ys.length = 1)) := hid (by rw [Bool.eq_iff_iff]; simp; omega)
  clear hr
  go_wp2_with fail
  go_ret2
  exact ⟨by rw [← He.out]; rfl, HB.out.alloc HB.out.size _⟩

end Go.Proofs.Ytojnpacklcajpaa
