import Derived.Deep.RegionHeld3
import Derived.Deep.AppendLies
import Derived.Deep.RegionLaw
import Derived.Laws.ResultCell
import Derived.Deep.LoopGhost
import Derived.Lib.Walk
import Derived.Sort.WalkB12
import Derived.Lib.SlicesMore
import Derived.Sort.OwnSortedInts
import Derived.Test.YtbhdipljhelddaaMSC1
/-! The program's test whether something is a complex, at whatever comes in. -/
namespace Go.Proofs.Ytbhdipljhelddaa
open Go.RowKit Go.Shelf

attribute [local go_sem] Oper.semAt_some

set_option maxRecDepth 100000 in
set_option maxHeartbeats 400000 in
theorem isc_bad (V : Int) (a : Option Addr) (n cap : Nat) (w : World) (h : ¬ (1 ≤ V ∧ V ≤ 6)) :
    CallsIn Fence.wide 10 Try.prog 47 #[.agg #[.int .i64 V, .slice a n cap]] w fun e w' => e = .returned (.bool false) ∧ Below w.heap.size w w' := by
  refine callsIn_of_wp_marks Try.func47 rfl trivial ?_ rfl
  simp only [Try.ntmps47, List.size_toArray, List.length_cons, List.length_nil, Nat.reduceAdd, Nat.reduceSub, Array.replicate_succ, Array.replicate_zero, List.push_toArray, List.append_toArray, List.nil_append, List.cons_append]
  gi_wp2_with (first
    | (refine ⟨trivial, ?_⟩; gi_at_call 102; refine (callsIn_wide.2 (vc_no V _ h)).mono ?_; rintro e w' ⟨rfl, rfl⟩))
  refine ⟨.bool false, ?_, rfl, ?_⟩
  · simp [results, Try.results47, go_sem]
  · exact ((Below.refl _ w).alloc (Nat.le_refl _) _).alloc (by simp) _

set_option maxRecDepth 100000 in
set_option maxHeartbeats 400000 in
theorem isc_nil (V : Int) (a : Option Addr) (cap : Nat) (w : World) (h1 : 1 ≤ V) (h2 : V ≤ 6) :
    CallsIn Fence.wide 10 Try.prog 47 #[.agg #[.int .i64 V, .slice a 0 cap]] w fun e w' => e = .returned (.bool true) ∧ Below w.heap.size w w' := by
  have hmm := @run_makeMap Try.prog
  refine callsIn_of_wp_marks Try.func47 rfl trivial ?_ rfl
  simp only [Try.ntmps47, List.size_toArray, List.length_cons, List.length_nil, Nat.reduceAdd, Nat.reduceSub, Array.replicate_succ, Array.replicate_zero, List.push_toArray, List.append_toArray, List.nil_append, List.cons_append]
  gi_wp2_with (first
    | (refine ⟨trivial, ?_⟩; gi_at_call 102; refine (callsIn_wide.2 (vc_yes V _ h1 h2)).mono ?_; rintro e w' ⟨rfl, rfl⟩))
  refine wpIn_loop_rounds 1 ?_
  rw [roundsIn_succ]
  gi_wp2
  refine ⟨.bool true, ?_, rfl, ?_⟩
  · simp [results, Try.results47, go_sem]
  · repeat (first | exact Below.refl _ _ | refine Below.alloc ?_ (by simp <;> omega) _ | refine Below.setCell ?_ (by simp <;> omega) _)

/-- impl.IsComplex, whatever comes in. -/
theorem implIsComplex (V : Int) (a : Option Addr) (cap : Nat) (fs : List Int) (w : World) (hx : SlI w w.heap.size a fs) (hl : fs.length ≤ 1048576) :
    Calls Try.prog 47 #[.agg #[.int .i64 V, .slice a fs.length cap]] w fun e w' => e = .returned (.bool (isCB V fs)) ∧ Below w.heap.size w w' := by
  by_cases hV : 1 ≤ V ∧ V ≤ 6
  · rcases hx with rfl | ⟨b, off, hb, rfl, hc⟩
    · exact (callsIn_wide.1 (isc_nil V a cap w hV.1 hV.2)).mono fun _ _ ⟨he, hw⟩ => ⟨by rw [he, isCB_true (isC_nil hV.1 hV.2)], hw⟩
    · exact callsIn_wide.1 (isc_in V b off cap fs w hV.1 hV.2 hb hc hl)
  · exact (callsIn_wide.1 (isc_bad V a fs.length cap w hV)).mono fun _ _ ⟨he, hw⟩ => ⟨by rw [he, isCB_false (fun h => hV ⟨h.lo, h.hi⟩)], hw⟩

theorem isc_yes (V : Int) (a : Option Addr) (cap : Nat) (fs : List Int) (w : World) (hx : SlI w w.heap.size a fs) (hl : fs.length ≤ 1048576) (h : IsC V fs) :
    Calls Try.prog 47 #[.agg #[.int .i64 V, .slice a fs.length cap]] w fun e w' => e = .returned (.bool true) ∧ Below w.heap.size w w' :=
  (implIsComplex V a cap fs w hx hl).mono fun _ _ ⟨he, hw⟩ => ⟨by rw [he, isCB_true h], hw⟩

theorem isc_no (V : Int) (a : Option Addr) (cap : Nat) (fs : List Int) (w : World) (hx : SlI w w.heap.size a fs) (hl : fs.length ≤ 1048576) (h : ¬ IsC V fs) :
    Calls Try.prog 47 #[.agg #[.int .i64 V, .slice a fs.length cap]] w fun e w' => e = .returned (.bool false) ∧ Below w.heap.size w w' :=
  (implIsComplex V a cap fs w hx hl).mono fun _ _ ⟨he, hw⟩ => ⟨by rw [he, isCB_false h], hw⟩

end Go.Proofs.Ytbhdipljhelddaa

/-! Faces that are wanted: the program's loop over them, whatever it asks. -/
namespace Go.Proofs.Ytbhdipljhelddaa
open Go.RowKit

/-- A result: a slice of int64 in new memory. -/
def Res (w w' : World) (v : Value) (xs : List Int) : Prop := w'.ownsRow w.heap.size 2 1 v xs.length (xs.map (Value.int .i64)) ∧ Below w.heap.size w w'

theorem Res.later {w0 w w' : World} {v : Value} {xs : List Int} (h : Res w w' v xs) (h0 : Below w0.heap.size w0 w) : Res w0 w' v xs :=
  ⟨ownsRow_base h.1 h0.size, h0.trans (h.2.mono h0.size)⟩

theorem Res.after {w w' w2 : World} {v : Value} {xs : List Int} (h : Res w w' v xs) (h2 : Below w'.heap.size w' w2) : Res w w2 v xs :=
  ⟨ownsRow_below h.1 h2 (fun g hg => (h.1.lt g hg).2), h.2.trans (h2.mono h.2.size)⟩

theorem res_nil (w w' : World) (h : Below w.heap.size w w') : Res w w' (.slice none 0 0) [] := ⟨World.ownsRow_nil _ _ _ _, h⟩

set_option maxHeartbeats 1000000 in
theorem fw_any (V : Int) (a : Option Addr) (cap : Nat) (fs : List Int) (w : World) (fid : Nat) (c1 : Value) (p : Int → Bool) (hx : SlI w w.heap.size a fs) (hl : fs.length ≤ 1048576)
    (hent : ∀ args w, (callFunc fid args).run Try.prog w = .ok (.enter fid args) w)
    (hcl : ∀ W' x, Below w.heap.size w W' → x ∈ fs → Calls Try.prog fid #[.int .i64 x, c1] W' fun e w' => e = .returned (.bool (p x)) ∧ Below W'.heap.size W' w') :
    Calls Try.prog 105 #[.agg #[.int .i64 V, .slice a fs.length cap], .func (.func fid) #[] #[c1]] w fun e w' => ∃ v, e = .returned v ∧ Res w w' v (fs.filter p) := by
  have hB0 : Below w.heap.size w (w.alloc (.cells #[.int .i64 V, .slice a fs.length cap] 28)) := (Below.refl _ w).alloc (Nat.le_refl _) _
  rcases hx with rfl | ⟨b, off, hb, rfl, hc⟩
  · clear hcl
    go_enter Try.func105, Try.ntmps105
    go_wp2
    refine wp_loop_rounds 1 ?_; rw [rounds_succ]
    go_wp2
    go_ret
    exact ⟨_, rfl, res_nil _ _ hB0⟩
  · have Hcl := hid hcl
    have Hc := hid hc
    clear hcl hc
    go_enter Try.func105, Try.ntmps105
    go_wp2
    go_loopw [5, 11] (fun v i wr => ∃ k : Nat, k ≤ fs.length ∧ i = .int .i64 k ∧ wr.ownsRow w.heap.size 2 1 v ((fs.take k).filter p).length (((fs.take k).filter p).map (Value.int .i64)) ∧
        Below w.heap.size w wr) (fun _ i _ => fs.length - (intOf i).toNat)
    case atStart => exact ⟨0, Nat.zero_le _, rfl, World.ownsRow_nil _ _ _ _, hB0⟩
    case round =>
      obtain ⟨k, hk, rfl, hown, hB⟩ := hrel
      by_cases hlt : k < fs.length
      · obtain ⟨x, hx⟩ : ∃ x, x = fs[k]?.getD 0 := ⟨_, rfl⟩
        have hck : wr.cell? ⟨b, off + k, none⟩ = some (.int .i64 x) := by rw [hx]; exact (hB.cell (p := ⟨b, off + k, none⟩) hb).trans (Hc.out k hlt)
        have hxm : x ∈ fs := by rw [hx]; exact getD_mem hlt
        have Hx := hid hx
        have hi0 : (0 : Int) ≤ (k : Int) := by omega
        have hi1 : (k : Int) < (fs.length : Int) := by omega
        have hcall := Hcl.out wr x hB hxm
        have Hcall := hid hcall
        clear hx hcall hxm
        have hsz := hB.size
        have hfl : ((fs.take k).filter p).length ≤ 1048576 := Nat.le_trans (List.length_filter_le _ _) (by simp; omega)
        go_wp2_with fail
        refine Hcall.out.mono ?_
        rintro e w1 ⟨rfl, hB1⟩
        have hB1' : Below w.heap.size w w1 := hB.trans (hB1.mono hsz)
        have hsz1 := hB1'.size
        have hown1 := ownsRow_below hown hB1 (fun g hg => (hown.lt g hg).2)
        have Hp : Hid (∀ c, p x = c → (fs.take (k + 1)).filter p = (fs.take k).filter p ++ (if c then [x] else [])) := hid (fun c hc => by
          rw [take_snoc hlt, List.filter_append, ← Hx.out]
          cases c <;> simp [hc])
        clear hown hck
        by_cases hpx : p x = true
        · have HP := hid (Hp.out true hpx)
          go_wp2_with (at_builtin; refine append_int rfl rfl hown1 hsz1 (by omega) rfl rfl ?_; intro v' w2 hown2 hgrow2 hB2)
          go_roundw
          case rel => exact ⟨k + 1, by omega, by go_num, by rw [HP.out]; exact hown2, hB1'.trans hB2⟩
          case measure => simp [intOf]; omega
        · have hpf : p x = false := by simpa using hpx
          have HP := hid (Hp.out false hpf)
          go_wp2_with fail
          go_roundw
          case rel => exact ⟨k + 1, by omega, by go_num, by rw [HP.out]; simpa using hown1, hB1'⟩
          case measure => simp [intOf]; omega
      · go_wp2
        go_ret
        obtain rfl : k = fs.length := by omega
        exact ⟨_, rfl, by simpa using hown, hB⟩

set_option maxHeartbeats 1000000 in
theorem fw_any2 (V : Int) (a : Option Addr) (cap : Nat) (fs : List Int) (w : World) (fid : Nat) (c1 c2 : Value) (p : Int → Bool) (hx : SlI w w.heap.size a fs) (hl : fs.length ≤ 1048576)
    (hent : ∀ args w, (callFunc fid args).run Try.prog w = .ok (.enter fid args) w)
    (hcl : ∀ W' x, Below w.heap.size w W' → x ∈ fs → Calls Try.prog fid #[.int .i64 x, c1, c2] W' fun e w' => e = .returned (.bool (p x)) ∧ Below W'.heap.size W' w') :
    Calls Try.prog 105 #[.agg #[.int .i64 V, .slice a fs.length cap], .func (.func fid) #[] #[c1, c2]] w fun e w' => ∃ v, e = .returned v ∧ Res w w' v (fs.filter p) := by
  have hB0 : Below w.heap.size w (w.alloc (.cells #[.int .i64 V, .slice a fs.length cap] 28)) := (Below.refl _ w).alloc (Nat.le_refl _) _
  rcases hx with rfl | ⟨b, off, hb, rfl, hc⟩
  · clear hcl
    go_enter Try.func105, Try.ntmps105
    go_wp2
    refine wp_loop_rounds 1 ?_; rw [rounds_succ]
    go_wp2
    go_ret
    exact ⟨_, rfl, res_nil _ _ hB0⟩
  · have Hcl := hid hcl
    have Hc := hid hc
    clear hcl hc
    go_enter Try.func105, Try.ntmps105
    go_wp2
    go_loopw [5, 11] (fun v i wr => ∃ k : Nat, k ≤ fs.length ∧ i = .int .i64 k ∧ wr.ownsRow w.heap.size 2 1 v ((fs.take k).filter p).length (((fs.take k).filter p).map (Value.int .i64)) ∧
        Below w.heap.size w wr) (fun _ i _ => fs.length - (intOf i).toNat)
    case atStart => exact ⟨0, Nat.zero_le _, rfl, World.ownsRow_nil _ _ _ _, hB0⟩
    case round =>
      obtain ⟨k, hk, rfl, hown, hB⟩ := hrel
      by_cases hlt : k < fs.length
      · obtain ⟨x, hx⟩ : ∃ x, x = fs[k]?.getD 0 := ⟨_, rfl⟩
        have hck : wr.cell? ⟨b, off + k, none⟩ = some (.int .i64 x) := by rw [hx]; exact (hB.cell (p := ⟨b, off + k, none⟩) hb).trans (Hc.out k hlt)
        have hxm : x ∈ fs := by rw [hx]; exact getD_mem hlt
        have Hx := hid hx
        have hi0 : (0 : Int) ≤ (k : Int) := by omega
        have hi1 : (k : Int) < (fs.length : Int) := by omega
        have hcall := Hcl.out wr x hB hxm
        have Hcall := hid hcall
        clear hx hcall hxm
        have hsz := hB.size
        have hfl : ((fs.take k).filter p).length ≤ 1048576 := Nat.le_trans (List.length_filter_le _ _) (by simp; omega)
        go_wp2_with fail
        refine Hcall.out.mono ?_
        rintro e w1 ⟨rfl, hB1⟩
        have hB1' : Below w.heap.size w w1 := hB.trans (hB1.mono hsz)
        have hsz1 := hB1'.size
        have hown1 := ownsRow_below hown hB1 (fun g hg => (hown.lt g hg).2)
        have Hp : Hid (∀ c, p x = c → (fs.take (k + 1)).filter p = (fs.take k).filter p ++ (if c then [x] else [])) := hid (fun c hc => by
          rw [take_snoc hlt, List.filter_append, ← Hx.out]
          cases c <;> simp [hc])
        clear hown hck
        by_cases hpx : p x = true
        · have HP := hid (Hp.out true hpx)
          go_wp2_with (at_builtin; refine append_int rfl rfl hown1 hsz1 (by omega) rfl rfl ?_; intro v' w2 hown2 hgrow2 hB2)
          go_roundw
          case rel => exact ⟨k + 1, by omega, by go_num, by rw [HP.out]; exact hown2, hB1'.trans hB2⟩
          case measure => simp [intOf]; omega
        · have hpf : p x = false := by simpa using hpx
          have HP := hid (Hp.out false hpf)
          go_wp2_with fail
          go_roundw
          case rel => exact ⟨k + 1, by omega, by go_num, by rw [HP.out]; simpa using hown1, hB1'⟩
          case measure => simp [intOf]; omega
      · go_wp2
        go_ret
        obtain rfl : k = fs.length := by omega
        exact ⟨_, rfl, by simpa using hown, hB⟩

end Go.Proofs.Ytbhdipljhelddaa

/-! Numbers of vertices. -/
namespace Go.Proofs.Ytbhdipljhelddaa
open Go.RowKit

set_option maxHeartbeats 400000 in
theorem ones_any (f : Nat) (w : World) (hf : f < 64) :
    Calls Try.prog 95 #[.int .i64 (f : Int)] w fun e w' => e = .returned (.int .i64 (ones f : Int)) ∧ w = w' := by
  go_enter Try.func95, Try.ntmps95
  go_wp2
  go_loop [0, 3] (fun x c => ∃ r n : Nat, r ≤ 63 ∧ x = .int .i64 r ∧ c = .int .i64 n ∧ n ≤ 6 ∧ Hid (n + ones r = ones f)) (fun x _ => (intOf x).toNat)
  case atStart => exact ⟨f, 0, by omega, rfl, rfl, by omega, hid (by omega)⟩
  case round =>
    obtain ⟨r, n, hr, rfl, rfl, hn, Hn⟩ := hrel
    by_cases h0 : 0 < r
    · have h1 := ones_half (r := r) (by omega)
      have h2 := ones_le f
      have hn' : n + r % 2 ≤ 6 := by have := Hn.out; omega
      have Hn' : Hid (n + r % 2 + ones (r / 2) = ones f) := hid (by have := Hn.out; omega)
      clear h1 h2 Hn
      go_wp2
      go_round
      case rel => exact ⟨r / 2, n + r % 2, by omega, by go_num, by go_num, hn', Hn'⟩
      case measure => simp [intOf]; omega
    · obtain rfl : r = 0 := by omega
      have Hn' : Hid (n = ones f) := hid (by have := Hn.out; rw [ones_zero] at this; omega)
      go_wp2
      go_ret
      exact ⟨ret_int (by rw [← Hn'.out]), rfl⟩

set_option maxHeartbeats 400000 in
theorem oc_any (f : Nat) (w : World) (hf : f < 64) :
    Calls Try.prog 163 #[.int .u64 (f : Int)] w fun e w' => e = .returned (.int .i64 (ones f : Int)) ∧ w = w' := by
  go_enter Try.func163, Try.ntmps163
  go_wp2
  go_ret
  refine ⟨ret_int ?_, rfl⟩
  clear w
  revert hf
  revert f
  decide +kernel

set_option maxHeartbeats 400000 in
theorem dim_any (f : Nat) (w : World) (hf : f < 64) :
    Calls Try.prog 107 #[.int .i64 (f : Int)] w fun e w' => e = .returned (.int .i64 ((ones f : Int) - 1)) ∧ w = w' := by
  have ho := ones_le f
  go_enter Try.func107, Try.ntmps107
  go_wp2_with fail
  refine (oc_any f _ hf).mono ?_
  rintro e w' ⟨rfl, rfl⟩
  go_wp2_with fail
  go_ret
  exact ⟨rfl, rfl⟩

end Go.Proofs.Ytbhdipljhelddaa

/-! 'out.Faces = append(out.Faces, x)' in the model's loops. -/
namespace Go.Proofs.Ytbhdipljhelddaa
open Go.RowKit

theorem cell_alloc_drew {W : World} {p : Addr} {v : Value} (h : W.cell? p = some v) (n : Nat) (o : Obj) : ((W.drewN n).alloc o).cell? p = some v :=
  (World.cell?_alloc_some (W.drewN n) p o (show (W.cell? p).isSome = true by rw [h]; rfl)).trans h

theorem step_append_int {w : World} {ops : Array Oper} {o : Oper} {a : Act} {K : Act → World → Prop} {Q : Exit → Act → World → Prop} {E : Prop} (hgd : o.guard = none) {s y : Operand}
    (ho : o.op = .call { callee := .builtin .append, args := #[s, y], argTypes := #[22, 22] })
    {base : Nat} {v : Value} {xs : List Int} {x : Int} {ad : Addr} (hown : w.ownsRow base 2 1 v xs.length (xs.map (Value.int .i64))) (hbase : base ≤ w.heap.size) (hl : xs.length ≤ 1099511627776)
    (hs : a.eval s = v) (hy : a.eval y = .slice (some ad) 1 1) (hc : w.cell? (ad.add 0) = some (.int .i64 x))
    (hK : ∀ g cap w', w'.ownsRow base 2 1 (.slice (some ⟨g, 0, none⟩) (xs ++ [x]).length cap) (xs ++ [x]).length ((xs ++ [x]).map (Value.int .i64)) → w.grownBy w' v.ownBlock →
      K (a.put o.dst (.slice (some ⟨g, 0, none⟩) (xs ++ [x]).length cap)) w') :
    if Region.wanted o (yielded ops a.tmps) = true then Oper.wp Try.prog o a w K Q else E := by
  obtain ⟨i0, hi, hz0, hz1, hz2⟩ := info_parts info_i64
  refine step_append_lies w hgd s y 22 ho base 2 i0 (.int .i64 0) 1 8 Try.underlying22 hi hz0 hz1 hz2 rfl (by decide) v _ _ hs hown ad 1 1 [.int .i64 x] hy rfl ?_ (by simp [Value.oneCell']) (by decide) (by unfold maxLen; omega) (by omega) hbase _ rfl ?_
  · intro j u hu
    match j, hu with
    | 0, hu => simp at hu; subst hu; exact hc
  · intro g cap w1 hown1 hg _ _
    have e : (xs ++ [x]).length = xs.length + 1 := by simp
    have h := hK g cap w1 (by rw [e]; simpa using hown1) hg
    rw [e] at h
    exact h

/-- What the model's loops keep of the world while they build a complex in block Bo: B is the heap's size when the call began. -/
structure OutW (w W : World) (V : Int) (sl : Value) (Bo : Nat) (xs : List Int) (a : Option Addr) (c : Nat) : Prop where
  below : Below w.heap.size w W
  kbox : W.heap[w.heap.size]? = some (.cells #[.int .i64 V, sl] 28 (0, 0))
  res : W.heap[w.heap.size + 1]? = some (.cells #[.int .i64 0, .slice none 0 0] 28 (0, 0))
  out : W.heap[Bo]? = some (.cells #[.int .i64 V, .slice a xs.length c] 28 (0, 0))
  own : W.ownsRow w.heap.size 2 1 (.slice a xs.length c) xs.length (xs.map (Value.int .i64))
  bo : w.heap.size + 1 < Bo

/-- A block of another type is none of an owned row's. -/
theorem row_ne {W : World} {base e t : Nat} {v : Value} {n : Nat} {xs : List Value} {b : Nat} {cs : Array Value} {fz : Nat × Nat} (h : W.ownsRow base e 1 v n xs) (hb : W.heap[b]? = some (.cells cs t fz)) (hne : e ≠ t) : some b ≠ v.ownBlock := by
  intro he
  rcases h.2 with ⟨rfl, _⟩ | ⟨g, cap, cur, rfl, _, hg, _⟩
  · simp [Value.ownBlock] at he
  · simp [Value.ownBlock] at he
    subst he
    rw [hb] at hg
    simp at hg
    exact hne hg.2.1.symm

theorem lt_get {W : World} {b : Nat} {o : Obj} (h : W.heap[b]? = some o) : b < W.heap.size := (Array.getElem?_eq_some_iff.1 h).1

/-- Draws alone. -/
theorem OutW.drew {w W : World} {V : Int} {sl : Value} {Bo : Nat} {xs : List Int} {a : Option Addr} {c : Nat} (h : OutW w W V sl Bo xs a c) : OutW w W.drew V sl Bo xs a c :=
  ⟨⟨h.below.os, h.below.tape, h.below.output, h.below.size, h.below.block⟩, h.kbox, h.res, h.out, h.own, h.bo⟩

theorem OutW.drewN {w W : World} {V : Int} {sl : Value} {Bo : Nat} {xs : List Int} {a : Option Addr} {c : Nat} (h : OutW w W V sl Bo xs a c) (n : Nat) : OutW w (W.drewN n) V sl Bo xs a c :=
  ⟨⟨h.below.os, h.below.tape, h.below.output, h.below.size, h.below.block⟩, h.kbox, h.res, h.out, h.own, h.bo⟩

/-- Whatever keeps all that lay. -/
theorem OutW.later {w W W' : World} {V : Int} {sl : Value} {Bo : Nat} {xs : List Int} {a : Option Addr} {c : Nat} (h : OutW w W V sl Bo xs a c) (hb : Below W.heap.size W W') : OutW w W' V sl Bo xs a c where
  below := h.below.trans (hb.mono h.below.size)
  kbox := (hb.block _ (lt_get h.kbox)).trans h.kbox
  res := (hb.block _ (lt_get h.res)).trans h.res
  out := (hb.block _ (lt_get h.out)).trans h.out
  own := ownsRow_below h.own hb (fun g hg => (h.own.lt g hg).2)
  bo := h.bo

/-- A face more. -/
theorem OutW.step {w W w2 : World} {V : Int} {sl : Value} {Bo : Nat} {xs : List Int} {a : Option Addr} {c : Nat} (h : OutW w W V sl Bo xs a c) {x : Int} {g cap : Nat} {o : Obj}
    (hown : w2.ownsRow w.heap.size 2 1 (.slice (some ⟨g, 0, none⟩) (xs ++ [x]).length cap) (xs ++ [x]).length ((xs ++ [x]).map (Value.int .i64))) (hg : (W.alloc o).grownBy w2 (Value.ownBlock (.slice a xs.length c))) :
    OutW w (w2.setCell ⟨Bo, 1, none⟩ (.slice (some ⟨g, 0, none⟩) (xs ++ [x]).length cap)) V sl Bo (xs ++ [x]) (some ⟨g, 0, none⟩) cap := by
  have hgr : W.grownBy w2 (Value.ownBlock (.slice a xs.length c)) := (World.grownBy_alloc W o _).trans hg
  have hbo := h.bo
  have k2 := (hgr.block _ (lt_get h.kbox) (row_ne h.own h.kbox (by decide))).trans h.kbox
  have r2 := (hgr.block _ (lt_get h.res) (row_ne h.own h.res (by decide))).trans h.res
  have o2 := (hgr.block _ (lt_get h.out) (row_ne h.own h.out (by decide))).trans h.out
  refine ⟨?_, ?_, ?_, ?_, ?_, h.bo⟩
  · exact (h.below.grown hgr h.below.size (fun k hk => (h.own.lt k hk).1)).setCell (p := ⟨Bo, 1, none⟩) (by simp only; omega) _
  · exact (Below.heap_setCell _ _ _ _ (by simp only; omega)).trans k2
  · exact (Below.heap_setCell _ _ _ _ (by simp only; omega)).trans r2
  · simp only [World.setCell, Array.getElem?_modify, o2]
    simp
  · exact ownsRow_set hown (by
      have := row_ne hown o2 (by decide)
      exact fun e => this e.symm) _

theorem outW_start {w W : World} {V : Int} {sl : Value} (hB : Below w.heap.size w W) (hk : W.heap[w.heap.size]? = some (.cells #[.int .i64 V, sl] 28 (0, 0)))
    (hr : W.heap[w.heap.size + 1]? = some (.cells #[.int .i64 0, .slice none 0 0] 28 (0, 0))) :
    OutW w ((W.alloc (.cells #[] 2)).alloc (.cells #[.int .i64 V, .slice (some ⟨W.heap.size, 0, none⟩) 0 0] 28)) V sl (W.heap.size + 1) [] (some ⟨W.heap.size, 0, none⟩) 0 where
  below := (hB.alloc hB.size _).alloc (by have := hB.size; simp; omega) _
  kbox := (Below.heap_alloc _ _ _ (by have := lt_get hk; simp; omega)).trans ((Below.heap_alloc _ _ _ (lt_get hk)).trans hk)
  res := (Below.heap_alloc _ _ _ (by have := lt_get hr; simp; omega)).trans ((Below.heap_alloc _ _ _ (lt_get hr)).trans hr)
  out := by have := heap_alloc_new (W.alloc (.cells #[] 2)) (.cells #[.int .i64 V, .slice (some ⟨W.heap.size, 0, none⟩) 0 0] 28); rwa [World.size_alloc] at this
  own := by
    have h := World.ownsRow_made (base := w.heap.size) (e := 2) (size := 1) W #[] 0 hB.size (by simp [maxLen]) rfl
    exact h.alloc _
  bo := by have := lt_get hr; omega

/-- The model's loops hand back what they have built. -/
theorem OutW.done {w W : World} {V : Int} {sl : Value} {Bo : Nat} {xs : List Int} {a : Option Addr} {c : Nat} (h : OutW w W V sl Bo xs a c) (u v : Value) :
    Res w ((W.setCell ⟨w.heap.size + 1, 0, none⟩ u).setCell ⟨w.heap.size + 1, 1, none⟩ v) (.slice a xs.length c) xs := by
  have hn := row_ne h.own h.res (by decide)
  exact ⟨ownsRow_set (ownsRow_set h.own (fun e => hn e.symm) _) (fun e => hn e.symm) _, (h.below.setCell (p := ⟨w.heap.size + 1, 0, none⟩) (by simp) _).setCell (p := ⟨w.heap.size + 1, 1, none⟩) (by simp) _⟩

/-- .. where the new element has just been laid. -/
theorem step_append_new {W : World} {H : Nat} {ops : Array Oper} {o : Oper} {a : Act} {K : Act → World → Prop} {Q : Exit → Act → World → Prop} {E : Prop} (hgd : o.guard = none) {s y : Operand}
    (ho : o.op = .call { callee := .builtin .append, args := #[s, y], argTypes := #[22, 22] })
    {base : Nat} {v : Value} {xs : List Int} {x : Int} (hown : W.ownsRow base 2 1 v xs.length (xs.map (Value.int .i64))) (hH : W.heap.size = H) (hbase : base ≤ H) (hl : xs.length ≤ 1099511627776)
    (hs : a.eval s = v) (hy : a.eval y = .slice (some ⟨H, 0, none⟩) 1 1)
    (hK : ∀ g cap w', w'.ownsRow base 2 1 (.slice (some ⟨g, 0, none⟩) (xs ++ [x]).length cap) (xs ++ [x]).length ((xs ++ [x]).map (Value.int .i64)) → (W.alloc (.cells #[.int .i64 x] 2)).grownBy w' v.ownBlock →
      K (a.put o.dst (.slice (some ⟨g, 0, none⟩) (xs ++ [x]).length cap)) w') :
    if Region.wanted o (yielded ops a.tmps) = true then Oper.wp Try.prog o a (W.alloc (.cells #[.int .i64 x] 2)) K Q else E := by
  subst hH
  exact step_append_int hgd ho (hown.alloc _) (by simp; omega) hl hs hy (by simp [go_sem, Addr.add]) hK

theorem OutW.stepN {w W w2 : World} {V : Int} {sl : Value} {Bo : Nat} {xs : List Int} {a : Option Addr} {c : Nat} (h : OutW w W V sl Bo xs a c) {x : Int} {g cap : Nat} {o : Obj} {n : Nat}
    (hown : w2.ownsRow w.heap.size 2 1 (.slice (some ⟨g, 0, none⟩) (xs ++ [x]).length cap) (xs ++ [x]).length ((xs ++ [x]).map (Value.int .i64))) (hg : ((W.drewN n).alloc o).grownBy w2 (Value.ownBlock (.slice a xs.length c))) :
    OutW w (w2.setCell ⟨Bo, 1, none⟩ (.slice (some ⟨g, 0, none⟩) (xs ++ [x]).length cap)) V sl Bo (xs ++ [x]) (some ⟨g, 0, none⟩) cap := (h.drewN n).step hown hg

/-- The out block behind an append. -/
theorem OutW.mid {w W w2 : World} {V : Int} {sl : Value} {Bo : Nat} {xs : List Int} {a : Option Addr} {c : Nat} (h : OutW w W V sl Bo xs a c) {n : Nat} {o : Obj} (hg : ((W.drewN n).alloc o).grownBy w2 (Value.ownBlock (.slice a xs.length c))) :
    w2.cell? ⟨Bo, 1, none⟩ = some (.slice a xs.length c) ∧ w2.frozen? ⟨Bo, 1, none⟩ = false := by
  have hgr : (W.drewN n).grownBy w2 (Value.ownBlock (.slice a xs.length c)) := (World.grownBy_alloc _ o _).trans hg
  have o2 := (hgr.block _ (lt_get (h.drewN n).out) (row_ne (h.drewN n).own (h.drewN n).out (by decide))).trans (h.drewN n).out
  constructor <;> simp [World.cell?, World.frozen?, o2]

/-- The given complex's box behind an append. -/
theorem OutW.midK {w W w2 : World} {V : Int} {sl : Value} {Bo : Nat} {xs : List Int} {a : Option Addr} {c : Nat} (h : OutW w W V sl Bo xs a c) {n : Nat} {o : Obj} (hg : ((W.drewN n).alloc o).grownBy w2 (Value.ownBlock (.slice a xs.length c))) :
    w2.cell? ⟨w.heap.size, 1, none⟩ = some sl := by
  have hgr : (W.drewN n).grownBy w2 (Value.ownBlock (.slice a xs.length c)) := (World.grownBy_alloc _ o _).trans hg
  have o2 := (hgr.block _ (lt_get (h.drewN n).kbox) (row_ne (h.drewN n).own (h.drewN n).kbox (by decide))).trans (h.drewN n).kbox
  simp [World.cell?, o2]

/-- What lay before the call, behind an append. -/
theorem OutW.midX {w W w2 : World} {V : Int} {sl : Value} {Bo : Nat} {xs : List Int} {a : Option Addr} {c : Nat} (h : OutW w W V sl Bo xs a c) {n : Nat} {o : Obj} (hg : ((W.drewN n).alloc o).grownBy w2 (Value.ownBlock (.slice a xs.length c))) {p : Addr} (hp : p.block < w.heap.size) :
    w2.cell? p = W.cell? p := by
  have hgr : (W.drewN n).grownBy w2 (Value.ownBlock (.slice a xs.length c)) := (World.grownBy_alloc _ o _).trans hg
  have hlt : p.block < (W.drewN n).heap.size := Nat.lt_of_lt_of_le hp h.below.size
  have h2 : w2.heap[p.block]? = W.heap[p.block]? := hgr.block _ hlt (by
    intro he
    have := (h.own.lt _ he.symm).1
    omega)
  simp only [World.cell?, h2]

end Go.Proofs.Ytbhdipljhelddaa

/-! Complexes that are handed back: the ends of bodies with a result in a block, and the program's complexWith. -/
namespace Go.Proofs.Ytbhdipljhelddaa
open Go.RowKit

theorem cell_alloc_drew1 {W : World} {p : Addr} {v : Value} (h : W.cell? p = some v) (o : Obj) : (W.alloc o).cell? p = some v := cell_alloc_drew h 0 o

theorem two_of {W : World} {b : Nat} {x y : Value} {t : Nat} (h : W.heap[b]? = some (.cells #[x, y] t (0, 0))) : W.cell? ⟨b, 0, none⟩ = some x ∧ W.cell? ⟨b, 1, none⟩ = some y ∧ W.frozen? ⟨b, 0, none⟩ = false ∧ W.frozen? ⟨b, 1, none⟩ = false := by
  refine ⟨?_, ?_, ?_, ?_⟩ <;> simp [World.cell?, World.frozen?, h]

theorem two_set {W : World} {b : Nat} {x y : Value} {t : Nat} (h : W.heap[b]? = some (.cells #[x, y] t (0, 0))) (u v : Value) : ((W.setCell ⟨b, 0, none⟩ u).setCell ⟨b, 1, none⟩ v).heap[b]? = some (.cells #[u, v] t (0, 0)) := by
  simp only [World.setCell, Array.getElem?_modify, h]
  simp

/-- A result stays where a block of another type is written. -/
theorem Res.set2 {w W : World} {sv : Value} {xs : List Int} (h : Res w W sv xs) {b : Nat} {cs : Array Value} {t : Nat} {fz : Nat × Nat} (hb : W.heap[b]? = some (.cells cs t fz)) (hne : 2 ≠ t) (hw : w.heap.size ≤ b) (u v : Value) :
    Res w ((W.setCell ⟨b, 0, none⟩ u).setCell ⟨b, 1, none⟩ v) sv xs := by
  have hn := row_ne h.1 hb hne
  exact ⟨ownsRow_set (ownsRow_set h.1 (fun e => hn e.symm) _) (fun e => hn e.symm) _, (h.2.setCell (p := ⟨b, 0, none⟩) hw _).setCell (p := ⟨b, 1, none⟩) hw _⟩

theorem new2 (w : World) (A B : Obj) : ((w.alloc A).alloc B).heap[w.heap.size + 1]? = some B := by
  have := heap_alloc_new (w.alloc A) B
  rwa [World.size_alloc] at this

theorem new3 (w : World) (A B C : Obj) : (((w.alloc A).alloc B).alloc C).heap[w.heap.size + 1 + 1]? = some C := by
  have := new2 (w.alloc A) B C
  rwa [World.size_alloc] at this

set_option maxRecDepth 100000 in
theorem load_cx {w : World} {b o : Nat} {x y : Value} (h0 : w.cell? ⟨b, o, none⟩ = some x) (h1 : w.cell? ⟨b, o + 1, none⟩ = some y) :
    (loadVar 28 ⟨b, o, none⟩).run Try.prog w = .ok (.agg #[x, y]) w := by
  go_simp

set_option maxRecDepth 100000 in
theorem done_cx {fn : Func} {R : Ending → World → Prop} {a : Act} {w : World} {p u : Tmp} (hr : fn.results = #[.cell p 28, .tmp u]) (hd : a.defers = []) {b o : Nat} {x y c : Value}
    (hp : a.tmps.getD p undef = .pointer (some ⟨b, o, none⟩)) (h0 : w.cell? ⟨b, o, none⟩ = some x) (h1 : w.cell? ⟨b, o + 1, none⟩ = some y) (hu : a.tmps.getD u undef = c) (hR : R (.returned (.tuple #[.agg #[x, y], c])) w) : bodyPost Try.prog fn R .ret a w := by
  refine bodyPost_ret (v := .tuple #[.agg #[x, y], c]) ?_ hd hR
  rw [results_cell_tmp hr, hp, hu]
  show ((loadVar 28 ⟨b, o, none⟩).run Try.prog w).andThen _ = _
  rw [load_cx h0 h1]
  rfl

set_option maxRecDepth 100000 in
theorem done_cx1 {fn : Func} {R : Ending → World → Prop} {a : Act} {w : World} {p : Tmp} (hr : fn.results = #[.cell p 28]) (hd : a.defers = []) {b o : Nat} {x y : Value}
    (hp : a.tmps.getD p undef = .pointer (some ⟨b, o, none⟩)) (h0 : w.cell? ⟨b, o, none⟩ = some x) (h1 : w.cell? ⟨b, o + 1, none⟩ = some y) (hR : R (.returned (.agg #[x, y])) w) : bodyPost Try.prog fn R .ret a w := by
  refine bodyPost_ret (v := .agg #[x, y]) ?_ hd hR
  have hp' : a.tmps[p]?.getD undef = .pointer (some ⟨b, o, none⟩) := by simpa using hp
  simp [results, hr, hp', asAddr, load_cx h0 h1]

theorem cx_mono {P : Program} {f : FuncId} {args : Array Value} {w : World} {r : Int × List Int × Int} {U : Int} {xs : List Int} {c : Int} (hr : r = (U, xs, c))
    (h : Calls P f args w fun e w' => ∃ v, e = .returned (.tuple #[.agg #[.int .i64 U, v], .int .i64 c]) ∧ Res w w' v xs) : Calls P f args w fun e w' => ∃ v, e = .returned (.tuple #[.agg #[.int .i64 r.1, v], .int .i64 r.2.2]) ∧ Res w w' v r.2.1 := by
  subst hr; exact h


end Go.Proofs.Ytbhdipljhelddaa

/-! The faces as keys of a map: the program's facesHaving. -/
namespace Go.Proofs.Ytbhdipljhelddaa
open Go.RowKit

theorem wf_face {x : Int} (h0 : 1 ≤ x) (h1 : x ≤ 63) : (Lit.int .i64 x).wf = true := WalkArith.wf_i64 (by omega)

/-- The map of faces. -/
def MapW (w' : World) (b n : Nat) (fs : List Int) : Prop := w'.ownsMap Try.prog 2 (plainElem (H := Unit) Try.prog 4) b n (knownD fs)

theorem MapW.later {w w' : World} {b n : Nat} {fs : List Int} (h : MapW w b n fs) (hB : Below w.heap.size w w') : MapW w' b n fs :=
  World.ownsMap.kept h (row := none) ⟨hB.os, hB.tape, hB.output, hB.size, fun k hk _ => hB.block k hk⟩ (by simp)

theorem MapW.lt {w : World} {b n : Nat} {fs : List Int} (h : MapW w b n fs) : b < w.heap.size := World.ownsMap.lt h


/-! The model's test of a face. -/

end Go.Proofs.Ytbhdipljhelddaa

/-! The signs of the sides of a face, the model's. -/
namespace Go.Proofs.Ytbhdipljhelddaa
open Go.RowKit

/-- The first j signs of a face with n + 1 vertices. -/
def sgTo (n j : Nat) : List Int := (List.range j).map fun i => 1 - 2 * (((n - i) % 2 : Nat) : Int)
def signL (f : Nat) : List Int := if ones f = 1 then [] else sgTo (ones f - 1) (ones f)
theorem sgTo_succ (n j : Nat) : sgTo n (j + 1) = sgTo n j ++ [1 - 2 * (((n - j) % 2 : Nat) : Int)] := by simp [sgTo, List.range_succ]
theorem sgTo_len (n j : Nat) : (sgTo n j).length = j := by simp [sgTo]

set_option maxRecDepth 100000 in
set_option maxHeartbeats 1000000 in
theorem signs_any (f : Nat) (w : World) (hf : f < 64) (h0 : f ≠ 0) :
    Calls Try.prog 161 #[.int .i64 (f : Int)] w fun e w' => ∃ v, e = .returned v ∧ Res w w' v (signL f) := by
  have hown0 := World.ownsRow_made (base := w.heap.size) (e := 2) (size := 1) w #[] 0 (by simp) (by simp [maxLen]) rfl
  have Hown0 := hid hown0
  have hop := ones_pos ⟨f, hf⟩ h0
  have ho := ones_le f
  obtain ⟨n, hn⟩ : ∃ n, ones f = n + 1 := ⟨ones f - 1, by have : 0 < ones f := hop; omega⟩
  have HO : Hid (∀ w, Calls Try.prog 95 #[.int .i64 (f : Int)] w fun e w' => e = .returned (.int .i64 ((n : Int) + 1)) ∧ w = w') := hid (fun w => (ones_any f w hf).mono fun _ _ ⟨he, hw⟩ => ⟨by rw [he, hn]; rfl, hw⟩)
  have hn5 : n ≤ 5 := by omega
  have hsg : signL f = if n = 0 then [] else sgTo n (n + 1) := by unfold signL; rw [hn]; simp
  rw [hsg]
  clear hown0 hop ho hn hsg
  by_cases hz : n = 0
  · subst hz
    go_enter Try.func161, Try.ntmps161
    go_wp2_with (go_at_call 95; refine (HO.out _).mono ?_; rintro e w' ⟨rfl, rfl⟩)
    go_ret
    exact ⟨_, rfl, by simpa using Hown0.out, (Below.refl _ w).alloc (Nat.le_refl _) _⟩
  · rw [if_neg hz]
    have hd : ((n : Int) == 0) = false := beq_eq_false_iff_ne.2 (by omega)
    clear hz
    go_enter Try.func161, Try.ntmps161
    go_wp2_with (go_at_call 95; refine (HO.out _).mono ?_; rintro e w' ⟨rfl, rfl⟩)
    go_loopw [3, 4] (fun v p wr => ∃ j : Nat, j ≤ n + 1 ∧ p = .int .i64 ((n : Int) - j) ∧ wr.ownsRow w.heap.size 2 1 v (sgTo n j).length ((sgTo n j).map (Value.int .i64)) ∧ Below w.heap.size w wr) (fun _ p _ => (intOf p + 1).toNat)
    case atStart => exact ⟨0, Nat.zero_le _, by simp, by simpa [sgTo] using Hown0.out, (Below.refl _ w).alloc (Nat.le_refl _) _⟩
    case round =>
      obtain ⟨j, hj, rfl, hown, hB⟩ := hrel
      have HB := hid hB
      have Hown := hid hown
      have Hsz := hid hB.size
      have hle := sgTo_len n j
      by_cases hjn : j = n + 1
      · subst hjn
        have e : (n : Int) - ((n + 1 : Nat) : Int) = -1 := by omega
        rw [e]
        clear e hown hB
        go_wp2
        go_ret
        exact ⟨_, rfl, Hown.out, HB.out⟩
      · obtain ⟨q, hq⟩ : ∃ q : Nat, n = q + j := ⟨n - j, by omega⟩
        have e : (n : Int) - (j : Int) = (q : Int) := by omega
        have He : Hid (((n : Int) - ((j + 1 : Nat) : Int)) = (q : Int) - 1) := hid (by omega)
        have hs := sgTo_succ n j
        rw [show n - j = q by omega] at hs
        rw [e]
        have hq0 : (0 : Int) ≤ (q : Int) := by omega
        have hqw : IntKind.i64.wrap ((q : Int) - 1) = (q : Int) - 1 := by rw [IntKind.wrap_i64]; omega
        have hmod : (q : Int).tmod 2 = ((q % 2 : Nat) : Int) := by rw [Int.tmod_eq_emod_of_nonneg (by omega)]; omega
        rcases Nat.mod_two_eq_zero_or_one q with h2 | h2
        · rw [h2] at hmod hs
          have Hs := hid hs
          clear e hown hB hs h2 hq
          have hmod' : (q : Int).tmod 2 = 0 := hmod
          clear hmod
          · skip
            go_wp2_with (at_builtin; refine append_int rfl rfl Hown.out Hsz.out (by omega) rfl rfl ?_; intro v' w2 hown2 hgrow2 hB2)
            go_roundw
            case rel => exact ⟨j + 1, by omega, by rw [He.out], by rw [Hs.out]; exact hown2, HB.out.trans hB2⟩
            case measure => simp [intOf] <;> omega
        · rw [h2] at hmod hs
          have Hs := hid hs
          clear e hown hB hs h2 hq
          have hmod' : (q : Int).tmod 2 = 1 := hmod
          clear hmod
          · skip
            go_wp2_with (at_builtin; refine append_int rfl rfl Hown.out Hsz.out (by omega) rfl rfl ?_; intro v' w2 hown2 hgrow2 hB2)
            go_roundw
            case rel => exact ⟨j + 1, by omega, by rw [He.out], by rw [Hs.out]; exact hown2, HB.out.trans hB2⟩
            case measure => simp [intOf] <;> omega

/-- What SignsOf hands back. -/
noncomputable def signsOfR (V : Int) (fs : List Int) (f : Int) : List Int × Int := if isCB V fs then (if f ∈ fs then (signL f.toNat, 0) else ([], 2)) else ([], 1)

theorem signsOfR_len (V : Int) (fs : List Int) (f : Int) (_h : fs.length ≤ 1048576) : (signsOfR V fs f).1.length ≤ 1048576 := by
  unfold signsOfR
  have := ones_le f.toNat
  split
  · split
    · unfold signL
      split
      · simp
      · simp only [sgTo_len]; omega
    · simp
  · simp

theorem sign_mono {P : Program} {fn : FuncId} {args : Array Value} {w : World} {r : List Int × Int} {xs : List Int} {c : Int} (hr : r = (xs, c))
    (h : Calls P fn args w fun e w' => ∃ v, e = .returned (.tuple #[v, .int .i64 c]) ∧ Res w w' v xs) : Calls P fn args w fun e w' => ∃ v, e = .returned (.tuple #[v, .int .i64 r.2]) ∧ Res w w' v r.1 := by
  subst hr; exact h

end Go.Proofs.Ytbhdipljhelddaa

/-! The sides of a face with their signs: an iterator over an iterator. -/
namespace Go.Proofs.Ytbhdipljhelddaa
open Go.RowKit Go.Shelf

attribute [local go_sem] Oper.semAt_some

theorem sides_P (n : Nat) (hn : 1 ≤ n) (B0 f : Nat) (hf : f < 64) (w : World) (hB : B0 < w.heap.size)
    (hc : w.heap[B0]? = some (.cells #[.int .i64 (f : Int)] 2 (0, 0))) :
    SeqStopsP Fence.wide n Try.prog 207 #[.pointer (some ⟨B0, 0, none⟩)] (fun x : Fin 64 => #[Value.int .i64 (x.val : Int)]) [B0] 0 (sidesF f) w :=
  fun l J Jx W hW hJ _ hY h0 => (sides1_in n hn l B0 f hf (fun pre W1 => J pre W1 ∧ W.heap.size ≤ W1.heap.size) Jx
    (fun pre x W1 hj hp => YieldAt.mono (hY pre x W1 hp hj.2 hj.1) (fun e W' ⟨hk, h⟩ => by
      rcases h with ⟨he, hj'⟩ | ⟨he, hj'⟩
      · exact .inl ⟨he, ⟨hj', Nat.le_trans hj.2 hk.size⟩, hk.same B0 (.inl (by simp))⟩
      · exact .inr ⟨he, hj'⟩))
    (fun pre W m h => ⟨hJ.drewN m h.1, h.2⟩) W ((hW.block B0 hB).trans hc) ⟨h0, Nat.le_refl _⟩).mono (by
      rintro e W' ⟨hv, ⟨ys, rfl, hj⟩ | ⟨pre, hp, hj⟩⟩
      · exact ⟨hv, .inl hj.1⟩
      · exact ⟨hv, .inr ⟨pre, hp, hj⟩⟩)

/-- Sides with their signs. -/
def sgN (j : Nat) : Int := if j % 2 = 0 then 1 else -1
def signedL : Nat → List (Fin 64) → List (Fin 64 × Int)
  | _, [] => []
  | j, x :: l => (x, sgN j) :: signedL (j + 1) l
theorem signedL_append (l l' : List (Fin 64)) : ∀ j, signedL j (l ++ l') = signedL j l ++ signedL (j + l.length) l' := by
  induction l with
  | nil => intro j; simp [signedL]
  | cons x l ih => intro j; simp [signedL, ih, Nat.add_assoc, Nat.add_comm 1]
theorem signedL_snoc (l : List (Fin 64)) (x : Fin 64) : signedL 0 (l ++ [x]) = signedL 0 l ++ [(x, sgN l.length)] := by rw [signedL_append]; simp [signedL]
theorem signedL_len (l : List (Fin 64)) : ∀ j, (signedL j l).length = l.length := by
  induction l with
  | nil => intro j; rfl
  | cons x l ih => intro j; simp [signedL, ih]
theorem signedL_prefix {l l' : List (Fin 64)} (h : l <+: l') : signedL 0 l <+: signedL 0 l' := by
  obtain ⟨t, rfl⟩ := h
  rw [signedL_append]
  exact List.prefix_append _ _
theorem sgN_succ (j : Nat) : sgN (j + 1) = -sgN j := by
  unfold sgN
  rcases Nat.mod_two_eq_zero_or_one j with h | h <;> simp [h, Nat.add_mod]
theorem sgN_abs (j : Nat) : -1 ≤ sgN j ∧ sgN j ≤ 1 := by unfold sgN; split <;> omega
theorem sgN_neg (j : Nat) : wrap64 (-sgN j) = sgN (j + 1) := by
  rw [sgN_succ]
  have := sgN_abs j
  exact IntWalk.wrap64_in _ ⟨by omega, by omega⟩
def signedF (f : Nat) : List (Fin 64 × Int) := signedL 0 (sidesF f)

set_option maxHeartbeats 1000000 in
/-- signedSides: its argument is boxed; the function value captures the box. -/
theorem signedSides_in (n : Nat) (x : Int) (w : World) :
    CallsIn Fence.wide n Try.prog 203 #[.int .i64 x] w fun e w' => e = .returned (.func (.func 220) #[] #[.pointer (some ⟨w.heap.size, 0, none⟩)]) ∧ w' = w.alloc (.cells #[.int .i64 x] 2) := by
  refine callsIn_of_wp Try.func203 rfl trivial ?_ rfl
  simp only [Try.ntmps203, List.size_toArray, List.length_cons, List.length_nil, Nat.reduceAdd, Nat.reduceSub, Array.replicate_succ, Array.replicate_zero, List.push_toArray, List.append_toArray, List.nil_append, List.cons_append]
  gi_wp2
  go_ret
  exact ⟨rfl, rfl⟩

theorem yieldAny {m : Nat} (m' : Nat) {P : Program} {l : Nat} {args : Array Value} {W : World} {R : Ending → World → Prop} (h : YieldAt Fence.wide m P l args W R) : YieldAt Fence.wide m' P l args W R := by
  obtain ⟨fn, tmps, assign, body, hy, hR⟩ := h
  exact ⟨fn, tmps, assign, body, hy, ⟨hR.1, fun c cs _ => hR.2 c cs (fun d hd => by cases hd)⟩⟩
theorem yieldRound {m l0 : Nat} {P : Program} {l : Nat} {args : Array Value} {W : World} {R : Ending → World → Prop} (h : YieldAt Fence.wide m P l args W R) : YieldAt (Fence.wide.inRound l0) m P l args W R := h

theorem shut_grown {Ds : List Nat} {D : Nat} {w w' : World} (h : Shut Ds w w') (hD : ∀ E ∈ Ds, E = D) : w.grownBy w' (some D) :=
  ⟨h.os, h.tape, h.output, by rw [h.size]; exact Nat.le_refl _, fun k _ hk => h.block k (fun hm => hk (by rw [hD k hm]))⟩

set_option maxRecDepth 100000 in
set_option maxHeartbeats 2000000 in
/-- Its iterator. -/
theorem signed_P (n : Nat) (hn : 4 ≤ n) (B0 f : Nat) (hf : f < 64) (w : World) (hB : B0 < w.heap.size)
    (hc : w.heap[B0]? = some (.cells #[.int .i64 (f : Int)] 2 (0, 0))) :
    SeqStopsP Fence.wide n Try.prog 220 #[.pointer (some ⟨B0, 0, none⟩)] (fun x : Fin 64 × Int => #[Value.int .i64 (x.1.val : Int), .int .i64 x.2]) [B0] 5 (signedF f) w := by
  intro l J Jx W hW hJ hJx hY h0
  have hcW := (hW.block B0 hB).trans hc
  have c0 := (box_cell hcW).1
  have hBW : B0 < W.heap.size := lt_of_get hcW
  have HY := hid hY
  have Hc := hid hcW
  have h1 : 1 ≤ n := by omega
  clear hY hc hcW
  show CallsIn Fence.wide n Try.prog 220 #[.func (.yield l) #[] #[], .pointer (some ⟨B0, 0, none⟩)] W _
  refine callsIn_of_wp_marks Try.func220 rfl trivial ?_ rfl
  simp only [Try.ntmps220, List.size_toArray, List.length_cons, List.length_nil, Nat.reduceAdd, Nat.reduceSub, Array.replicate_succ, Array.replicate_zero, List.push_toArray, List.append_toArray, List.nil_append, List.cons_append]
  gi_wp2_with (first
    | (refine ⟨trivial, ?_⟩; gi_at_call 175; refine (sides_in _ _ _).mono ?_; rintro e w' ⟨rfl, rfl⟩))
  have hb1 := heap_alloc_new W (.cells #[.func (.yield l) #[] #[]] 215)
  have hb2 := heap_alloc_new (W.alloc (.cells #[.func (.yield l) #[] #[]] 215)) (.cells #[.int .i64 1] 2)
  have hb3 := heap_alloc_new ((W.alloc (.cells #[.func (.yield l) #[] #[]] 215)).alloc (.cells #[.int .i64 1] 2)) (.cells #[.int .i64 (f : Int)] 2)
  rw [World.size_alloc] at hb2
  rw [World.size_alloc, World.size_alloc] at hb3
  have hJ3 := hJ.alloc (.cells #[.int .i64 (f : Int)] 2) (hJ.alloc (.cells #[.int .i64 1] 2) (hJ.alloc (.cells #[.func (.yield l) #[] #[]] 215) h0))
  refine wpIn_rangeFunc_P rfl h1 (gf := 207) (lb := #[.pointer (some ⟨W.heap.size + 1 + 1, 0, none⟩)]) rfl trivial (enters_of Try.func207 (by kernel_rfl) rfl)
    (sides_P (n - 1) (by omega) (W.heap.size + 1 + 1) f hf _ (by simp) hb3) (by simp) (Below.refl _ _) (fun _ => rfl)
    (fun pre W' => J (signedL 0 pre) W' ∧ W'.heap[W.heap.size]? = some (.cells #[.func (.yield l) #[] #[]] 215 (0, 0)) ∧ W'.heap[W.heap.size + 1]? = some (.cells #[.int .i64 (sgN pre.length)] 2 (0, 0)))
    (fun c _ W' => c = .ret ∧ ∃ q, q <+: signedF f ∧ Jx q W')
    (OwnIn.and ((hJ.map (signedL 0)).less (by simp <;> omega) (by simp <;> omega)) (OwnIn.and (ownIn_block (β := List (Fin 64)) (fun _ => _) (by simp <;> omega)) (ownIn_block (β := List (Fin 64)) (fun s => .cells #[.int .i64 (sgN s.length)] 2 (0, 0)) (by simp <;> omega))))
    (fun c s A B row hs hg hr => ⟨hs.1, by obtain ⟨q, hq, hx⟩ := hs.2; exact ⟨q, hq, (hJx.less (by simp <;> omega) (by simp <;> omega)) q A B row hx hg hr⟩⟩)
    ⟨hJ3, ?_, ?_⟩
    (fun x => { tmps := #[.func (.yield l) #[] #[], .pointer (some ⟨B0, 0, none⟩), .pointer (some ⟨W.heap.size, 0, none⟩), .pointer (some ⟨W.heap.size + 1, 0, none⟩), .int .i64 (x.val : Int), .int .i64 (f : Int), .func (.func 207) #[] #[.pointer (some ⟨W.heap.size + 1 + 1, 0, none⟩)], .int .i64 (x.val : Int), undef, undef, undef, undef, undef, undef, undef], defers := [] }) ?assign ?body ?done ?stop
  · exact (Below.heap_alloc _ _ _ (by simp <;> omega)).trans ((Below.heap_alloc _ _ _ (by simp <;> omega)).trans hb1)
  · exact (Below.heap_alloc _ _ _ (by simp <;> omega)).trans hb2
  case assign =>
    intro l' x W3 K hK
    gi_wp2
    exact hK
  case body =>
    rintro l' pre x W3 hpre hsz ⟨hj, hyb, hsb⟩
    simp only [World.size_alloc] at hsz
    have cy := (box_cell hyb).1
    obtain ⟨cs, fs⟩ := box_cell hsb
    have e : signedL 0 pre ++ [(x, sgN pre.length)] = signedL 0 (pre ++ [x]) := (signedL_snoc pre x).symm
    have hys := HY.out (signedL 0 pre) (x, sgN pre.length) W3 (by rw [e]; exact signedL_prefix hpre) (by omega) hj
    rw [e] at hys
    have hab := sgN_abs pre.length
    have Hpre := hid (signedL_prefix hpre)
    obtain ⟨sg, hsg⟩ : ∃ sg, sg = sgN pre.length := ⟨_, rfl⟩
    have Hneg : Hid (wrap64 (-sg) = sgN (pre ++ [x]).length) := hid (by rw [hsg, sgN_neg]; simp)
    rw [← hsg] at cs hab hys
    obtain ⟨hab0, hab1⟩ := hab
    have Hsb := hid hsb
    have Hyb := hid hyb
    clear e hsb hyb hsg hj hpre
    obtain ⟨fn, tmps, assign, body, hy, hR⟩ := yieldRound (l0 := l') (yieldAny (n - 1 - 1 - 1) hys)
    dsimp only at hy
    gi_wp2
    refine ⟨fun _ => by omega, hR.mono ?_⟩
    rintro e W4 ⟨hk, (⟨rfl, hj4⟩ | ⟨rfl, hx4⟩)⟩
    · have hsb4 := (hk.same (W.heap.size + 1) (.inr ⟨by omega, by omega⟩)).trans Hsb.out
      have hyb4 := (hk.same W.heap.size (.inr ⟨by omega, by omega⟩)).trans Hyb.out
      obtain ⟨cs4, fs4⟩ := box_cell hsb4
      have Hsb4 := hid hsb4
      have Hyb4 := hid hyb4
      have Hk := hid hk
      clear hsb4 hyb4 hk
      gi_wp2
      refine ⟨?_, ?_⟩
      · exact (Hk.out.less (fun b hb => by simp at hb; subst hb; exact .inr ⟨by omega, by omega⟩) (by simp <;> omega) (by simp <;> omega)).trans (KeepP.setCell _ _ _ _ (by simp <;> omega))
      · refine ⟨hJ _ W4 _ (some (W.heap.size + 1)) hj4 (grownBy_set W4 ⟨W.heap.size + 1, 0, none⟩ _) (fun r e => by cases e; exact ⟨by omega, .inl (by omega)⟩), (Below.heap_setCell _ _ _ _ (by simp)).trans Hyb4.out, ?_⟩
        have e := Hsb4.out
        simp only [World.setCell, Array.getElem?_modify, e]
        rw [sgN_neg]
        simp
    · gi_wp2
      exact ⟨hk.less (fun b hb => by simp at hb; subst hb; exact .inr ⟨by omega, by omega⟩) (by simp <;> omega) (by simp <;> omega), rfl, _, Hpre.out, hx4⟩
  case done =>
    rintro W3 ⟨hj, _, _⟩ hD
    simp only [World.size_alloc] at hD
    gi_wp2
    refine leaves_marks (by simp) [_] _ (by simp) (fun D hD' => by simp only [List.mem_singleton] at hD'; subst hD'; simp only [World.size_alloc]; exact hD) (fun w' hw' => ?_)
    exact ⟨_, results_none rfl _ _ _, ⟨_, rfl⟩, .inl (hJ _ W3 w' (some (W.heap.size + 3)) hj (shut_grown hw' (by simp)) (fun r e => by cases e; exact ⟨by omega, .inl (by omega)⟩))⟩
  case stop =>
    rintro c pre W3 hpre ⟨rfl, q, hq, hx⟩ hD
    simp only [World.size_alloc] at hD
    gi_wp2
    refine leaves_marks (by simp) [_] _ (by simp) (fun D hD' => by simp only [List.mem_singleton] at hD'; subst hD'; simp only [World.size_alloc]; exact hD) (fun w' hw' => ?_)
    exact ⟨_, results_none rfl _ _ _, ⟨_, rfl⟩, .inr ⟨q, hq, hJx _ W3 w' (some (W.heap.size + 3)) hx (shut_grown hw' (by simp)) (fun r e => by cases e; exact ⟨by omega, .inl (by omega)⟩)⟩⟩

end Go.Proofs.Ytbhdipljhelddaa

/-! FacesOf, the model's and the program's. -/
namespace Go.Proofs.Ytbhdipljhelddaa
open Go.RowKit

/-- The faces of a dimension. -/
def ofDim (fs : List Int) (d : Int) : List Int := fs.filter fun x => decide ((ones x.toNat : Int) = d + 1)

set_option maxHeartbeats 1000000 in
theorem of_any (V : Int) (a : Option Addr) (cap : Nat) (fs : List Int) (d : Int) (w : World) (hx : SlI w w.heap.size a fs) (hl : fs.length ≤ 1048576) (hf : ∀ x ∈ fs, 1 ≤ x ∧ x ≤ 63) (hd0 : 0 ≤ d) (hd1 : d ≤ 5) :
    Calls Try.prog 43 #[.agg #[.int .i64 V, .slice a fs.length cap], .int .i64 d] w fun e w' => ∃ v, e = .returned v ∧ Res w w' v (ofDim fs d) := by
  have hB0 : Below w.heap.size w (w.alloc (.cells #[.int .i64 V, .slice a fs.length cap] 28)) := (Below.refl _ w).alloc (Nat.le_refl _) _
  have hB00 := (hB0.alloc (by simp) (.cells #[] 2))
  have hown0 := World.ownsRow_made (base := w.heap.size + 1) (e := 2) (size := 1) (w.alloc (.cells #[.int .i64 V, .slice a fs.length cap] 28)) #[] 0 (by simp) (by simp [maxLen]) rfl
  rw [World.size_alloc] at hown0
  rcases hx with rfl | ⟨b, off, hb, rfl, hc⟩
  · have Hown0 := hid hown0
    clear hown0
    go_enter Try.func43, Try.ntmps43
    go_wp2
    refine wp_loop_rounds 1 ?_; rw [rounds_succ]
    go_wp2
    go_ret
    exact ⟨_, rfl, ownsRow_base (by simpa [ofDim] using Hown0.out) (Nat.le_succ _), hB00⟩
  · have Hc := hid hc
    have Hf := hid hf
    have Hown0 := hid hown0
    clear hc hf hown0
    go_enter Try.func43, Try.ntmps43
    go_wp2
    go_loopw [5, 6] (fun v i wr => ∃ k : Nat, k ≤ fs.length ∧ i = .int .i64 k ∧ wr.ownsRow (w.heap.size + 1) 2 1 v (ofDim (fs.take k) d).length ((ofDim (fs.take k) d).map (Value.int .i64)) ∧
        Below (w.heap.size + 1) (w.alloc (.cells #[.int .i64 V, .slice (some ⟨b, off, none⟩) fs.length cap] 28)) wr) (fun _ i _ => fs.length - (intOf i).toNat)
    case atStart => exact ⟨0, Nat.zero_le _, rfl, Hown0.out, (Below.refl _ _).alloc (by simp) _⟩
    case round =>
      obtain ⟨k, hk, rfl, hown, hB⟩ := hrel
      have c0 : wr.cell? ⟨w.heap.size, 0, none⟩ = some (.int .i64 V) := (hB.cell (p := ⟨w.heap.size, 0, none⟩) (by simp)).trans (by simp [go_sem])
      have c1 : wr.cell? ⟨w.heap.size, 1, none⟩ = some (.slice (some ⟨b, off, none⟩) fs.length cap) := (hB.cell (p := ⟨w.heap.size, 1, none⟩) (by simp)).trans (by simp [go_sem])
      have hBW := hB0.trans (hB.mono (by simp))
      have hsz := hB.size
      simp only [World.size_alloc] at hsz
      by_cases hlt : k < fs.length
      · obtain ⟨x, hx⟩ : ∃ x : Nat, (x : Int) = fs[k]?.getD 0 := ⟨(fs[k]?.getD 0).toNat, by have := Hf.out _ (getD_mem hlt); omega⟩
        have hx64 : x < 64 := by have := Hf.out _ (getD_mem hlt); omega
        have hck : wr.cell? ⟨b, off + k, none⟩ = some (.int .i64 (x : Int)) := by rw [hx]; exact (hBW.cell (p := ⟨b, off + k, none⟩) hb).trans (Hc.out k hlt)
        have hi0 : (0 : Int) ≤ (k : Int) := by omega
        have hi1 : (k : Int) < (fs.length : Int) := by omega
        have hfl : (ofDim (fs.take k) d).length ≤ 1048576 := Nat.le_trans (List.length_filter_le _ _) (by simp; omega)
        have Hp : Hid (∀ c, decide ((ones x : Int) = d + 1) = c → ofDim (fs.take (k + 1)) d = ofDim (fs.take k) d ++ (if c then [(x : Int)] else [])) := hid (fun c hc => by
          unfold ofDim
          rw [take_snoc hlt, List.filter_append, ← hx]
          cases c <;> simp [hc])
        clear hx hB0 hB00
        have ho := ones_le x
        by_cases hpx : (ones x : Int) = d + 1
        · have hd : ((ones x : Int) == d + 1) = true := by simpa using hpx
          have HP := hid (Hp.out true (decide_eq_true hpx))
          clear hpx Hp
          go_wp2_with (first
            | (go_at_call 95; refine (ones_any x _ hx64).mono ?_; rintro e w' ⟨rfl, rfl⟩)
            | (at_builtin; refine append_int rfl rfl hown hsz (by omega) rfl rfl ?_; intro v' w2 hown2 hgrow2 hB2))
          go_roundw
          case rel => exact ⟨k + 1, by omega, by go_num, by rw [HP.out]; exact hown2, hB.trans hB2⟩
          case measure => simp [intOf]; omega
        · have hd : ((ones x : Int) == d + 1) = false := by simpa using hpx
          have HP := hid (Hp.out false (decide_eq_false hpx))
          clear hpx Hp
          go_wp2_with (first
            | (go_at_call 95; refine (ones_any x _ hx64).mono ?_; rintro e w' ⟨rfl, rfl⟩))
          go_roundw
          case rel => exact ⟨k + 1, by omega, by go_num, by rw [HP.out]; simpa using hown, hB⟩
          case measure => simp [intOf]; omega
      · go_wp2
        go_ret
        obtain rfl : k = fs.length := by omega
        rw [List.take_of_length_le (Nat.le_refl _)] at hown
        exact ⟨_, rfl, ownsRow_base hown (by omega), hBW⟩

/-- What FacesOf hands back. -/
noncomputable def facesOfR (V : Int) (fs : List Int) (d : Int) : List Int × Int := if isCB V fs then (if 0 ≤ d ∧ d ≤ 5 then (ofDim fs d, 0) else ([], 2)) else ([], 1)

theorem facesOfR_len (V : Int) (fs : List Int) (d : Int) (h : fs.length ≤ 1048576) : (facesOfR V fs d).1.length ≤ 1048576 := by
  unfold facesOfR
  split
  · split
    · exact Nat.le_trans (List.length_filter_le _ _) h
    · simp
  · simp

theorem pair_mono {P : Program} {f : FuncId} {args : Array Value} {w : World} {r : List Int × Int} {xs : List Int} {c : Int} (hr : r = (xs, c))
    (h : Calls P f args w fun e w' => ∃ v, e = .returned (.tuple #[v, .int .i64 c]) ∧ Res w w' v xs) : Calls P f args w fun e w' => ∃ v, e = .returned (.tuple #[v, .int .i64 r.2]) ∧ Res w w' v r.1 := by
  subst hr; exact h



end Go.Proofs.Ytbhdipljhelddaa

/-! Elimination modulo 2 or 3, the mathematics. -/
namespace Go.Proofs.Ytbhdipljhelddaa
open Go.RowKit

/-- The entry of a matrix. -/
def ent (M : List (List Int)) (i j : Nat) : Int := (M[i]?.getD [])[j]?.getD 0
/-- A step is taken off a row so often that the row has 0 in column c. -/
def clr (p : Int) (c : Nat) (row own : List Int) : List Int := List.zipWith (fun a b => (a + (p - (row[c]?.getD 0 * own[c]?.getD 0) % p) * b) % p) row own
/-- Rows r and i change places. -/
def swapR (M : List (List Int)) (r i : Nat) : List (List Int) := (M.set r (M[i]?.getD [])).set i (M[r]?.getD [])
/-- The rows behind row r, up to row k, are cleared. -/
def sweepTo (p : Int) (c r k : Nat) (M : List (List Int)) : List (List Int) := M.mapIdx fun i row => if r < i ∧ i < k then clr p c row (M[r]?.getD []) else row
/-- The first row from r on that has no 0 in column c. -/
def firstNZ (M : List (List Int)) (r c : Nat) : Option Nat := (List.range M.length).find? fun i => decide (r ≤ i ∧ ent M i c ≠ 0)
/-- The rank: k columns are left. -/
def elimR (p : Int) : Nat → Nat → Nat → List (List Int) → Nat
  | 0, r, _, _ => r
  | k + 1, r, c, M => match firstNZ M r c with
    | none => elimR p k r (c + 1) M
    | some i => elimR p k (r + 1) (c + 1) (sweepTo p c r M.length (swapR M r i))

/-- n rows of w numbers from 0 to p - 1. -/
structure MatG (p : Int) (n w : Nat) (M : List (List Int)) : Prop where
  len : M.length = n
  wid : ∀ row ∈ M, row.length = w
  rng : ∀ row ∈ M, ∀ x ∈ row, 0 ≤ x ∧ x < p

theorem MatG.row {p : Int} {n w : Nat} {M : List (List Int)} (h : MatG p n w M) {i : Nat} (hi : i < n) : M[i]?.getD [] ∈ M := by
  have : i < M.length := by rw [h.len]; exact hi
  rw [List.getElem?_eq_getElem this]; simp
theorem MatG.rowLen {p : Int} {n w : Nat} {M : List (List Int)} (h : MatG p n w M) {i : Nat} (hi : i < n) : (M[i]?.getD []).length = w := h.wid _ (h.row hi)
theorem getD_memL {α : Type} {xs : List α} {d : α} {k : Nat} (h : k < xs.length) : xs[k]?.getD d ∈ xs := by rw [List.getElem?_eq_getElem h]; simp
theorem MatG.ent {p : Int} {n w : Nat} {M : List (List Int)} (h : MatG p n w M) {i j : Nat} (hi : i < n) (hj : j < w) : 0 ≤ ent M i j ∧ ent M i j < p :=
  h.rng _ (h.row hi) _ (getD_memL (by rw [h.rowLen hi]; exact hj))

theorem clr_len {p : Int} {c w : Nat} {row own : List Int} (h1 : row.length = w) (h2 : own.length = w) : (clr p c row own).length = w := by simp [clr, h1, h2]
theorem clr_rng {p : Int} {c : Nat} {row own : List Int} (hp : 0 < p) : ∀ x ∈ clr p c row own, 0 ≤ x ∧ x < p := by
  intro x hx
  unfold clr at hx
  rw [List.zipWith_eq_zipWith_take_min] at hx
  obtain ⟨i, hi, rfl⟩ := List.getElem_of_mem hx
  rw [List.getElem_zipWith]
  exact ⟨Int.emod_nonneg _ (by omega), Int.emod_lt_of_pos _ hp⟩
theorem clr_get {p : Int} {c w : Nat} {row own : List Int} (h1 : row.length = w) (h2 : own.length = w) {j : Nat} (hj : j < w) :
    (clr p c row own)[j]?.getD 0 = (row[j]?.getD 0 + (p - (row[c]?.getD 0 * own[c]?.getD 0) % p) * own[j]?.getD 0) % p := by
  unfold clr
  rw [List.getElem?_zipWith, List.getElem?_eq_getElem (by omega : j < row.length), List.getElem?_eq_getElem (by omega : j < own.length)]
  simp

theorem swapR_len (M : List (List Int)) (r i : Nat) : (swapR M r i).length = M.length := by simp [swapR]
theorem swapR_good {p : Int} {n w : Nat} {M : List (List Int)} (h : MatG p n w M) {r i : Nat} (hr : r < n) (hi : i < n) : MatG p n w (swapR M r i) := by
  have hmem : ∀ row ∈ swapR M r i, row ∈ M := by
    intro row hrow
    unfold swapR at hrow
    rcases List.mem_or_eq_of_mem_set hrow with h1 | h1
    · rcases List.mem_or_eq_of_mem_set h1 with h2 | h2
      · exact h2
      · rw [h2]; exact h.row hi
    · rw [h1]; exact h.row hr
  exact ⟨by rw [swapR_len]; exact h.len, fun row hrow => h.wid _ (hmem row hrow), fun row hrow => h.rng _ (hmem row hrow)⟩

theorem sweepTo_len (p : Int) (c r k : Nat) (M : List (List Int)) : (sweepTo p c r k M).length = M.length := by simp [sweepTo]
theorem sweepTo_get {p : Int} {c r k : Nat} {M : List (List Int)} {i : Nat} (hi : i < M.length) :
    (sweepTo p c r k M)[i]?.getD [] = if r < i ∧ i < k then clr p c (M[i]?.getD []) (M[r]?.getD []) else M[i]?.getD [] := by
  unfold sweepTo
  rw [List.getElem?_mapIdx, List.getElem?_eq_getElem hi]
  simp
theorem sweepTo_good {p : Int} {n w : Nat} {M : List (List Int)} (h : MatG p n w M) (hp : 0 < p) {c r k : Nat} (hr : r < n) : MatG p n w (sweepTo p c r k M) := by
  have hmem : ∀ row ∈ sweepTo p c r k M, row ∈ M ∨ ∃ row' ∈ M, row = clr p c row' (M[r]?.getD []) := by
    intro row hrow
    obtain ⟨i, hi, rfl⟩ := List.getElem_of_mem hrow
    rw [sweepTo_len] at hi
    have e := sweepTo_get (p := p) (c := c) (r := r) (k := k) hi
    rw [List.getElem?_eq_getElem (by rw [sweepTo_len]; exact hi)] at e
    simp only [Option.getD_some] at e
    rw [e]
    split
    · exact .inr ⟨_, h.row (by rw [← h.len]; exact hi), rfl⟩
    · exact .inl (h.row (by rw [← h.len]; exact hi))
  refine ⟨by rw [sweepTo_len]; exact h.len, fun row hrow => ?_, fun row hrow => ?_⟩
  · rcases hmem row hrow with h1 | ⟨row', h1, rfl⟩
    · exact h.wid _ h1
    · exact clr_len (h.wid _ h1) (h.rowLen hr)
  · rcases hmem row hrow with h1 | ⟨row', h1, rfl⟩
    · exact h.rng _ h1
    · exact clr_rng hp
/-- One row more. -/
theorem sweepTo_succ {p : Int} {c r k : Nat} {M : List (List Int)} (hr : r < k) :
    sweepTo p c r (k + 1) M = (sweepTo p c r k M).set k (clr p c (M[k]?.getD []) (M[r]?.getD [])) := by
  apply List.ext_getElem?
  intro i
  by_cases hi : i < M.length
  · by_cases hik : k = i
    · subst hik
      rw [List.getElem?_set_self (by rw [sweepTo_len]; exact hi)]
      have e := sweepTo_get (p := p) (c := c) (r := r) (k := k + 1) hi
      rw [List.getElem?_eq_getElem (by rw [sweepTo_len]; exact hi)] at e ⊢
      simp only [Option.getD_some] at e
      rw [e, if_pos (by omega)]
    · rw [List.getElem?_set_ne hik]
      have e1 := sweepTo_get (p := p) (c := c) (r := r) (k := k + 1) hi
      have e2 := sweepTo_get (p := p) (c := c) (r := r) (k := k) hi
      rw [List.getElem?_eq_getElem (by rw [sweepTo_len]; exact hi)] at e1 e2 ⊢
      rw [List.getElem?_eq_getElem (by rw [sweepTo_len]; exact hi)]
      simp only [Option.getD_some] at e1 e2
      rw [e1, e2]
      congr 1
      by_cases h : r < i ∧ i < k
      · rw [if_pos h, if_pos (by omega)]
      · rw [if_neg h, if_neg (by omega)]
  · rw [List.getElem?_eq_none (by rw [sweepTo_len]; omega), List.getElem?_eq_none (by rw [List.length_set, sweepTo_len]; omega)]
theorem sweepTo_none {p : Int} {c r k : Nat} {M : List (List Int)} (hk : k ≤ r + 1) : sweepTo p c r k M = M := by
  apply List.ext_getElem?
  intro i
  by_cases hi : i < M.length
  · have e := sweepTo_get (p := p) (c := c) (r := r) (k := k) hi
    rw [List.getElem?_eq_getElem (by rw [sweepTo_len]; exact hi), List.getElem?_eq_getElem hi] at *
    simp only [Option.getD_some] at e
    rw [e, if_neg (by omega)]
  · rw [List.getElem?_eq_none (by rw [sweepTo_len]; omega), List.getElem?_eq_none (by omega)]
/-- The pivot's row is left as it is. -/
theorem sweepTo_pivot {p : Int} {c r k : Nat} {M : List (List Int)} (hr : r < M.length) : (sweepTo p c r k M)[r]?.getD [] = M[r]?.getD [] := by
  rw [sweepTo_get hr, if_neg (by omega)]
theorem sweepTo_later {p : Int} {c r k : Nat} {M : List (List Int)} (hk : k < M.length) : (sweepTo p c r k M)[k]?.getD [] = M[k]?.getD [] := by
  rw [sweepTo_get hk, if_neg (by omega)]

theorem firstNZ_none {M : List (List Int)} {r c : Nat} (h : ∀ i, r ≤ i → i < M.length → ent M i c = 0) : firstNZ M r c = none := by
  unfold firstNZ
  rw [List.find?_eq_none]
  intro i hi
  have := h i
  simp at hi ⊢
  intro hr
  exact this hr hi
theorem firstNZ_some {M : List (List Int)} {r c i : Nat} (hr : r ≤ i) (hi : i < M.length) (hne : ent M i c ≠ 0) (h : ∀ i', r ≤ i' → i' < i → ent M i' c = 0) : firstNZ M r c = some i := by
  unfold firstNZ
  rw [List.find?_range_eq_some]
  refine ⟨by simp [hr, hne], by simpa using hi, ?_⟩
  intro j hj
  have := h j
  simp
  by_cases hrj : r ≤ j
  · exact .inr (this hrj hj)
  · exact .inl (by omega)
theorem elim_none {p : Int} {k r c : Nat} {M : List (List Int)} (h : ∀ i, r ≤ i → i < M.length → ent M i c = 0) : elimR p (k + 1) r c M = elimR p k r (c + 1) M := by
  rw [elimR, firstNZ_none h]
theorem elim_some {p : Int} {k r c i : Nat} {M : List (List Int)} (hr : r ≤ i) (hi : i < M.length) (hne : ent M i c ≠ 0) (h : ∀ i', r ≤ i' → i' < i → ent M i' c = 0) :
    elimR p (k + 1) r c M = elimR p k (r + 1) (c + 1) (sweepTo p c r M.length (swapR M r i)) := by
  rw [elimR, firstNZ_some hr hi hne h]
/-- All rows have been used: the rank stays. -/
theorem elim_full {p : Int} : ∀ (k r c : Nat) (M : List (List Int)), M.length ≤ r → elimR p k r c M = r
  | 0, _, _, _, _ => rfl
  | k + 1, r, c, M, h => by rw [elim_none (fun i h1 h2 => by omega)]; exact elim_full k r (c + 1) M h
theorem elim_le {p : Int} : ∀ (k r c : Nat) (M : List (List Int)), elimR p k r c M ≤ r + k
  | 0, _, _, _ => Nat.le_refl _
  | k + 1, r, c, M => by
    rw [elimR]
    split
    · have := elim_le (p := p) k r (c + 1) M; omega
    · rename_i i _
      have := elim_le (p := p) k (r + 1) (c + 1) (sweepTo p c r M.length (swapR M r i)); omega

/-- Rows from r on have zeros ahead of column c. -/
def ZerosTo (M : List (List Int)) (r c : Nat) : Prop := ∀ i j, r ≤ i → i < M.length → j < c → ent M i j = 0

theorem clear_one {p a b : Int} (hp : p = 2 ∨ p = 3) (ha0 : 0 ≤ a) (ha : a < p) (hb0 : 0 ≤ b) (hb : b < p) (hne : b ≠ 0) : (a + (p - (a * b) % p) * b) % p = 0 := by
  rcases hp with rfl | rfl
  · have : a = 0 ∨ a = 1 := by omega
    have : b = 1 := by omega
    subst this
    rcases ‹a = 0 ∨ a = 1› with rfl | rfl <;> decide
  · have h1 : a = 0 ∨ a = 1 ∨ a = 2 := by omega
    have h2 : b = 1 ∨ b = 2 := by omega
    rcases h1 with rfl | rfl | rfl <;> rcases h2 with rfl | rfl <;> decide

end Go.Proofs.Ytbhdipljhelddaa

/-! The rows of the boundaries, the mathematics. -/
namespace Go.Proofs.Ytbhdipljhelddaa
open Go.RowKit

/-- The sign that a list has beside a side. -/
def coefAt (L : List (Fin 64 × Int)) (s : Nat) : Int := ((L.find? fun x => x.1.val == s).map Prod.snd).getD 0
/-- The row of some sides with their signs, with a column for each number of S. -/
def bndRow (S : List Int) (p : Int) (L : List (Fin 64 × Int)) : List Int := S.map fun s => (coefAt L s.toNat + p) % p
def bndM (fs : List Int) (d p : Int) : List (List Int) := (ofDim fs d).map fun f => bndRow (ofDim fs (d - 1)) p (signedF f.toNat)

theorem bndRow_len (S : List Int) (p : Int) (L : List (Fin 64 × Int)) : (bndRow S p L).length = S.length := by simp [bndRow]
theorem bndRow_nil (S : List Int) {p : Int} (hp : p = 2 ∨ p = 3) : bndRow S p [] = List.replicate S.length 0 := by
  unfold bndRow
  rw [List.map_congr_left (g := fun _ => (0 : Int)) (fun s _ => by rcases hp with rfl | rfl <;> simp [coefAt])]
  exact List.map_const' ..
theorem bndRow_rng (S : List Int) {p : Int} (hp : 0 < p) (L : List (Fin 64 × Int)) : ∀ x ∈ bndRow S p L, 0 ≤ x ∧ x < p := by
  intro x hx
  unfold bndRow at hx
  obtain ⟨s, _, rfl⟩ := List.mem_map.1 hx
  exact ⟨Int.emod_nonneg _ (by omega), Int.emod_lt_of_pos _ hp⟩

theorem coef_snoc {L : List (Fin 64 × Int)} {x : Fin 64 × Int} (hn : ∀ y ∈ L, y.1 ≠ x.1) (s : Nat) : coefAt (L ++ [x]) s = if x.1.val = s then x.2 else coefAt L s := by
  unfold coefAt
  rw [List.find?_append]
  by_cases h : x.1.val = s
  · have hN : L.find? (fun y => y.1.val == s) = none := by
      rw [List.find?_eq_none]
      intro y hy
      have := hn y hy
      simp
      intro e
      exact this (Fin.ext (by omega))
    rw [hN, if_pos h]
    simp [h]
  · rw [if_neg h]
    have : ([x].find? fun y => y.1.val == s) = none := by simp [h]
    rw [this]
    simp

theorem asc_inj {S : List Int} (hS : S.Pairwise (· < ·)) {i j : Nat} (hi : i < S.length) (hj : j < S.length) (h : S[i] = S[j]) : i = j := by
  rw [List.pairwise_iff_getElem] at hS
  rcases Nat.lt_trichotomy i j with h1 | h1 | h1
  · have := hS i j hi hj h1; omega
  · exact h1
  · have := hS j i hj hi h1; omega

/-- One side more. -/
theorem bndRow_snoc {S : List Int} {p : Int} {L : List (Fin 64 × Int)} {x : Fin 64 × Int} (hS : S.Pairwise (· < ·)) (h0 : ∀ s ∈ S, 0 ≤ s) (hn : ∀ y ∈ L, y.1 ≠ x.1) (hm : ((x.1.val : Nat) : Int) ∈ S) :
    bndRow S p (L ++ [x]) = (bndRow S p L).set (S.idxOf ((x.1.val : Nat) : Int)) ((x.2 + p) % p) := by
  have hk := List.idxOf_lt_length_of_mem hm
  have hat : S[S.idxOf ((x.1.val : Nat) : Int)] = ((x.1.val : Nat) : Int) := List.getElem_idxOf hk
  apply List.ext_getElem?
  intro i
  unfold bndRow
  by_cases hi : i < S.length
  · rw [List.getElem?_map, List.getElem?_eq_getElem hi]
    have hs0 := h0 _ (List.getElem_mem hi)
    simp only [Option.map_some]
    rw [coef_snoc hn]
    by_cases e : S.idxOf ((x.1.val : Nat) : Int) = i
    · subst e
      rw [List.getElem?_set_self (by simpa using hi), hat]
      simp
    · rw [List.getElem?_set_ne e, List.getElem?_map, List.getElem?_eq_getElem hi]
      simp only [Option.map_some]
      rw [if_neg (fun h => e ?_)]
      have he : S[i] = ((x.1.val : Nat) : Int) := by omega
      exact asc_inj hS hk hi (hat.trans he.symm)
  · rw [List.getElem?_eq_none (by simp; omega), List.getElem?_eq_none (by simp; omega)]

theorem signed_nodup : ∀ f : Fin 64, ((signedF f.val).map fun x => x.1).Nodup := by decide +kernel
theorem signed_sub : ∀ f : Fin 64, ∀ x ∈ signedF f.val, x.1.val ≠ 0 ∧ x.1.val &&& f.val = x.1.val ∧ ones x.1.val + 1 = ones f.val ∧ (x.2 = 1 ∨ x.2 = -1) := by decide +kernel
theorem signed_below : ∀ f : Fin 64, f.val ≠ 0 → (signedF f.val).reverse.map (fun x => ((x.1.val : Nat) : Int)) = belowR f.val 63 ∧ (signedF f.val).reverse.map Prod.snd = signL f.val := by decide +kernel
theorem coef_rev : ∀ f : Fin 64, ∀ s : Fin 64, coefAt (signedF f.val).reverse s.val = coefAt (signedF f.val) s.val := by decide +kernel

/-- A prefix with one more: the one more is new. -/
theorem nodup_snoc {α β : Type} {l pre : List α} {g : α → β} {x : α} (hn : (l.map g).Nodup) (hp : pre ++ [x] <+: l) : ∀ y ∈ pre, g y ≠ g x := by
  obtain ⟨t, rfl⟩ := hp
  simp only [List.map_append, List.map_cons, List.map_nil, List.append_assoc] at hn
  intro y hy e
  rw [List.nodup_append] at hn
  exact hn.2.2 (g y) (List.mem_map_of_mem hy) (g x) (by simp) e

theorem ofDim_mem {fs : List Int} {d x : Int} : x ∈ ofDim fs d ↔ x ∈ fs ∧ (ones x.toNat : Int) = d + 1 := by unfold ofDim; rw [List.mem_filter]; simp
theorem ofDim_asc {fs : List Int} (h : fs.Pairwise (· < ·)) (d : Int) : (ofDim fs d).Pairwise (· < ·) := h.filter _
theorem ofDim_len (fs : List Int) (d : Int) : (ofDim fs d).length ≤ fs.length := List.length_filter_le _ _

/-- The sides of a face of dimension d are faces of dimension d - 1. -/
theorem side_in {V : Int} {fs : List Int} (hC : IsC V fs) {d f : Int} (hf : f ∈ ofDim fs d) {x : Fin 64 × Int} (hx : x ∈ signedF f.toNat) : ((x.1.val : Nat) : Int) ∈ ofDim fs (d - 1) := by
  obtain ⟨hm, ho⟩ := ofDim_mem.1 hf
  have hr := hC.range63 f hm
  have hs := signed_sub ⟨f.toNat, by omega⟩ x hx
  simp only at hs
  rw [ofDim_mem]
  refine ⟨hC.closed f hm _ hs.1 hs.2.1, ?_⟩
  rw [Int.toNat_natCast]
  omega

theorem bndRow_rev {V : Int} {fs : List Int} (hC : IsC V fs) {f : Int} (hf : f ∈ fs) (d p : Int) : bndRow (ofDim fs d) p (signedF f.toNat).reverse = bndRow (ofDim fs d) p (signedF f.toNat) := by
  unfold bndRow
  refine List.map_congr_left (fun s hs => ?_)
  have h1 := hC.range63 f hf
  have h2 := hC.range63 s (ofDim_mem.1 hs).1
  have := coef_rev ⟨f.toNat, by omega⟩ ⟨s.toNat, by omega⟩
  simp only at this
  rw [this]

theorem bndM_good {fs : List Int} (d : Int) {p : Int} (hp : p = 2 ∨ p = 3) : MatG p (ofDim fs d).length (ofDim fs (d - 1)).length (bndM fs d p) := by
  refine ⟨by simp [bndM], fun row hrow => ?_, fun row hrow => ?_⟩
  · unfold bndM at hrow
    obtain ⟨f, _, rfl⟩ := List.mem_map.1 hrow
    exact bndRow_len _ _ _
  · unfold bndM at hrow
    obtain ⟨f, _, rfl⟩ := List.mem_map.1 hrow
    exact bndRow_rng _ (by rcases hp with h | h <;> omega) _

/-- The rank of dimension d. -/
def rankN (fs : List Int) (d p : Int) : Nat := elimR p (ofDim fs (d - 1)).length 0 0 (bndM fs d p)

theorem elim_nil (p : Int) (k r c : Nat) : elimR p k r c [] = r := elim_full k r c [] (by simp)
theorem rankN_none {fs : List Int} {d p : Int} (h : ofDim fs d = []) : rankN fs d p = 0 := by unfold rankN bndM; rw [h]; exact elim_nil _ _ _ _
theorem rankN_low {fs : List Int} {d p : Int} (h : ofDim fs (d - 1) = []) : rankN fs d p = 0 := by unfold rankN; rw [h]; rfl

end Go.Proofs.Ytbhdipljhelddaa

/-! The place of a number in a list, the model's and the program's. -/
namespace Go.Proofs.Ytbhdipljhelddaa
open Go.RowKit

theorem idx_at {x : Int} {xs : List Int} (hm : x ∈ xs) : xs[xs.idxOf x]?.getD 0 = x := by
  have hk := List.idxOf_lt_length_of_mem hm
  rw [List.getElem?_eq_getElem hk]
  simp [List.getElem_idxOf hk]
theorem idx_ne {x : Int} {xs : List Int} {k : Nat} (hk : k < xs.idxOf x) : xs[k]?.getD 0 ≠ x := by
  have hl := List.idxOf_le_length (a := x) (l := xs)
  rw [List.getElem?_eq_getElem (by omega : k < xs.length)]
  simp only [Option.getD_some]
  unfold List.idxOf at hk
  have := List.not_of_lt_findIdx hk
  simpa using this

set_option maxRecDepth 100000 in
set_option maxHeartbeats 1000000 in
theorem index_at (a : Option Addr) (cap : Nat) (xs : List Int) (x : Int) (w : World) (hx : SlI w w.heap.size a xs) (hl : xs.length ≤ 1048576) (hm : x ∈ xs) :
    Calls Try.prog 166 #[.slice a xs.length cap, .int .i64 x] w fun e w' => e = .returned (.int .i64 (xs.idxOf x : Int)) ∧ w = w' := by
  rcases hx with rfl | ⟨b, off, hb, rfl, hc⟩
  · simp at hm
  · have Hc := hid hc
    have hil := List.idxOf_lt_length_of_mem hm
    have Hat := hid (idx_at hm)
    obtain ⟨q, hq⟩ : ∃ q, q = xs.idxOf x := ⟨_, rfl⟩
    rw [← hq] at hil Hat ⊢
    have Hlt := hid (fun k (hk : k < q) => idx_ne (x := x) (xs := xs) (by rw [← hq]; exact hk))
    clear hc hm hq
    go_enter Try.func166, Try.ntmps166
    go_wp2
    go_loop [8] (fun i => ∃ k : Nat, k ≤ q ∧ i = .int .i64 k) (fun i => xs.length - (intOf i).toNat)
    case atStart => exact ⟨0, Nat.zero_le _, rfl⟩
    case round =>
      obtain ⟨k, hk, rfl⟩ := hrel
      obtain ⟨y, hy⟩ : ∃ y, y = xs[k]?.getD 0 := ⟨_, rfl⟩
      have hck : w.cell? ⟨b, off + k, none⟩ = some (.int .i64 y) := by rw [hy]; exact Hc.out k (by omega)
      have hi0 : (0 : Int) ≤ (k : Int) := by omega
      have hi1 : (k : Int) < (xs.length : Int) := by omega
      by_cases hlt : k < q
      · have hd : (x == y) = false := by have := Hlt.out k hlt; rw [← hy] at this; simp; omega
        clear hy
        go_wp2
        go_round
        case rel => exact ⟨k + 1, by omega, by go_num⟩
        case measure => simp [intOf]; omega
      · obtain rfl : k = q := by omega
        have hd : (x == y) = true := by have := Hat.out; rw [← hy] at this; simp [this]
        clear hy
        go_wp2
        go_ret
        exact ⟨rfl, rfl⟩

set_option maxRecDepth 100000 in
set_option maxHeartbeats 1000000 in
theorem place_at (a : Option Addr) (cap : Nat) (xs : List Int) (x : Int) (w : World) (hx : SlI w w.heap.size a xs) (hl : xs.length ≤ 1048576) (hm : x ∈ xs) :
    Calls Try.prog 97 #[.slice a xs.length cap, .int .i64 x] w fun e w' => e = .returned (.int .i64 (xs.idxOf x : Int)) ∧ w = w' := by
  rcases hx with rfl | ⟨b, off, hb, rfl, hc⟩
  · simp at hm
  · have Hc := hid hc
    have hil := List.idxOf_lt_length_of_mem hm
    have Hat := hid (idx_at hm)
    obtain ⟨q, hq⟩ : ∃ q, q = xs.idxOf x := ⟨_, rfl⟩
    rw [← hq] at hil Hat ⊢
    have Hlt := hid (fun k (hk : k < q) => idx_ne (x := x) (xs := xs) (by rw [← hq]; exact hk))
    clear hc hm hq
    go_enter Try.func97, Try.ntmps97
    go_wp2
    go_loop [5] (fun i => ∃ k : Nat, k ≤ q ∧ i = .int .i64 k) (fun i => xs.length - (intOf i).toNat)
    case atStart => exact ⟨0, Nat.zero_le _, rfl⟩
    case round =>
      obtain ⟨k, hk, rfl⟩ := hrel
      obtain ⟨y, hy⟩ : ∃ y, y = xs[k]?.getD 0 := ⟨_, rfl⟩
      have hck : w.cell? ⟨b, off + k, none⟩ = some (.int .i64 y) := by rw [hy]; exact Hc.out k (by omega)
      have hi0 : (0 : Int) ≤ (k : Int) := by omega
      have hi1 : (k : Int) < (xs.length : Int) := by omega
      by_cases hlt : k < q
      · have hd : (y == x) = false := by have := Hlt.out k hlt; rw [← hy] at this; simp; omega
        clear hy
        go_wp2
        go_round
        case rel => exact ⟨k + 1, by omega, by go_num⟩
        case measure => simp [intOf]; omega
      · obtain rfl : k = q := by omega
        have hd : (y == x) = true := by have := Hat.out; rw [← hy] at this; simp [this]
        clear hy
        go_wp2
        go_ret
        exact ⟨rfl, rfl⟩

end Go.Proofs.Ytbhdipljhelddaa

/-! slices.Reverse at []int64. -/
namespace Go.Proofs.Ytbhdipljhelddaa
open Go.RowKit Go.Lib Go.Sort

set_option maxHeartbeats 1600000 in
set_option maxRecDepth 1000000 in
theorem rev_arr (blk off cap : Nat) (d : Array Int) (w : World) (hH : Holds encI w blk off d) (hsz : d.size ≤ 9223372036854775807) :
    Calls Try.prog 134 #[.slice (some ⟨blk, off, none⟩) d.size cap] w fun e w' => (∃ v, e = .returned v) ∧ ∃ n, w' = putRow encI (Sort.ahead w n) blk off d.reverse := by
  go_enter Try.func134, Try.ntmps134
  go_wp2
  go_loopg [2, 3] d.size (fun k s2 s3 wr => ∃ (i jn : Nat) (jz : Int) (dk : Array Int) (n : Nat), s2 = .int .i64 i ∧ s3 = .int .i64 jz ∧ ((i : Int) < jz → jz = jn ∧ jn < d.size) ∧ (¬ (i : Int) < jz → ¬ i < jn) ∧ jn - i ≤ k ∧
    dk.size = d.size ∧ wr = putRow encI (Sort.ahead w n) blk off dk ∧ reverseLoop i jn dk = reverseLoop 0 (d.size - 1) d)
  case atStart => exact ⟨0, d.size - 1, (d.size : Int) - 1, d, 0, rfl, rfl, fun h => ⟨by omega, by omega⟩, fun h => by omega, by omega, rfl, (putRow_self encI w blk off d hH).symm, rfl⟩
  case round =>
    obtain ⟨i, jn, jz, dk, n, rfl, rfl, h1, h2, hk, hds, hwr, heq⟩ := hrel
    by_cases hlt : (i : Int) < jz
    · obtain ⟨rfl, hjn⟩ := h1 hlt
      have hij : i < jn := by omega
      have hHk : Holds encI wr blk off dk := by rw [hwr]; exact holds_putRow encI _ blk off d dk (holds_ahead encI w n blk off d hH) hds
      obtain ⟨ci, fi⟩ := hHk i (by omega)
      obtain ⟨cj, fj⟩ := hHk jn (by omega)
      have A : Aside (wr = putRow encI (Sort.ahead w n) blk off dk) := hwr
      clear hwr hHk hH h1 h2
      go_wp2_with fail
      go_region
      go_wp2
      go_roundg (jn - 1 - (i + 1))
      case measure => omega
      case rel =>
        rw [reverseLoop, if_pos hij] at heq
        exact ⟨i + 1, jn - 1, (jn : Int) - 1, swp dk i jn, n + 1, by simp, rfl, fun h => ⟨by omega, by omega⟩, fun h => by omega, Nat.le_refl _, by rw [size_swp]; exact hds,
          swap_world encI (by omega) (by omega) A.out (by first | rfl | simp [encI, getElem!_pos, show jn < dk.size by omega]) (by first | rfl | simp [encI, getElem!_pos, show i < dk.size by omega]), heq⟩
    · have hnot := h2 hlt
      go_wp2
      go_end0
      refine ⟨⟨_, rfl⟩, n, ?_⟩
      rw [reverseLoop, if_neg hnot] at heq
      rw [← Lib.reverseLoop_reverse, ← heq]

theorem rev_empty (a : Option Addr) (cap : Nat) (w : World) :
    Calls Try.prog 134 #[.slice a 0 cap] w fun e w' => (∃ v, e = .returned v) ∧ w' = w := by
  go_enter Try.func134, Try.ntmps134
  go_wp2
  refine wp_loop_rounds 1 ?_; rw [rounds_succ]
  go_wp2
  go_end0
  exact ⟨⟨_, rfl⟩, rfl⟩

end Go.Proofs.Ytbhdipljhelddaa

/-! (Rows of any capacity.) A matrix in memory: a slice of rows, each a slice of int64 of its own. -/
namespace Go.Proofs.Ytbhdipljhelddaa
open Go.RowKit Go.Lib Go.Sort

/-- Where row i lies. -/
abbrev Ads := List (Nat × Nat)
def adr (ad : Ads) (i : Nat) : Nat × Nat := ad[i]?.getD (0, 0)

/-- In block R lie the rows' slices, row i at ad i; B: what lay at the start. -/
structure MatW (W : World) (B R n w : Nat) (ad : Ads) (M : List (List Int)) : Prop where
  len : M.length = n
  adl : ad.length = n
  wid : ∀ i, i < n → (M[i]?.getD []).length = w
  hd : ∀ i, i < n → (∃ e, W.cell? ⟨R, i, none⟩ = some (.slice (some ⟨(adr ad i).1, (adr ad i).2, none⟩) w e)) ∧ W.frozen? ⟨R, i, none⟩ = false
  row : ∀ i, i < n → Holds encI W (adr ad i).1 (adr ad i).2 (M[i]?.getD []).toArray
  apart : ∀ i k, i < n → k < n → i ≠ k → (adr ad i).1 ≠ (adr ad k).1 ∨ (adr ad i).2 + w ≤ (adr ad k).2 ∨ (adr ad k).2 + w ≤ (adr ad i).2
  off : ∀ i, i < n → (adr ad i).1 ≠ R
  base : ∀ i, i < n → B ≤ (adr ad i).1 ∧ (adr ad i).1 < W.heap.size
  head : B ≤ R ∧ R < W.heap.size

theorem MatW.at {W : World} {B R n w : Nat} {ad : Ads} {M : List (List Int)} (h : MatW W B R n w ad M) {i j : Nat} (hi : i < n) (hj : j < w) :
    W.cell? ⟨(adr ad i).1, (adr ad i).2 + j, none⟩ = some (.int .i64 (ent M i j)) ∧ W.frozen? ⟨(adr ad i).1, (adr ad i).2 + j, none⟩ = false := by
  have hl := h.wid i hi
  have := h.row i hi j (by simp; omega)
  refine ⟨this.1.trans ?_, this.2⟩
  have hj' : j < (M[i]?.getD []).length := by omega
  simp only [encI, ent]
  rw [getElem!_pos (M[i]?.getD []).toArray j (by simpa using hj'), List.getElem?_eq_getElem hj']
  simp

/-- Draws alone. -/
theorem MatW.ahead {W : World} {B R n w : Nat} {ad : Ads} {M : List (List Int)} (h : MatW W B R n w ad M) (m : Nat) : MatW (Sort.ahead W m) B R n w ad M :=
  ⟨h.len, h.adl, h.wid, h.hd, h.row, h.apart, h.off, h.base, h.head⟩
theorem MatW.drewN {W : World} {B R n w : Nat} {ad : Ads} {M : List (List Int)} (h : MatW W B R n w ad M) (m : Nat) : MatW (W.drewN m) B R n w ad M :=
  ⟨h.len, h.adl, h.wid, h.hd, h.row, h.apart, h.off, h.base, h.head⟩

theorem holds_keep {w w' : World} {blk off : Nat} {d : Array Int} (h : Holds encI w blk off d) (hk : w'.heap[blk]? = w.heap[blk]?) : Holds encI w' blk off d := by
  intro j hj
  have := h j hj
  simp only [World.cell?, World.frozen?] at this ⊢
  rw [hk]
  exact this

/-- Whatever keeps the blocks. -/
theorem MatW.keep {W W' : World} {B R n w : Nat} {ad : Ads} {M : List (List Int)} (h : MatW W B R n w ad M) (hs : W.heap.size ≤ W'.heap.size) (hR : W'.heap[R]? = W.heap[R]?) (hr : ∀ i, i < n → W'.heap[(adr ad i).1]? = W.heap[(adr ad i).1]?) : MatW W' B R n w ad M where
  len := h.len
  adl := h.adl
  wid := h.wid
  hd := fun i hi => by have := h.hd i hi; simp only [World.cell?, World.frozen?] at this ⊢; rw [hR]; exact this
  row := fun i hi => holds_keep (h.row i hi) (hr i hi)
  apart := h.apart
  off := h.off
  base := fun i hi => ⟨(h.base i hi).1, Nat.lt_of_lt_of_le (h.base i hi).2 hs⟩
  head := ⟨h.head.1, Nat.lt_of_lt_of_le h.head.2 hs⟩

/-- Row k is written anew. -/
theorem MatW.put {W : World} {B R n w : Nat} {ad : Ads} {M : List (List Int)} (h : MatW W B R n w ad M) {k : Nat} (hk : k < n) (m : Nat) {row : List Int} (hl : row.length = w) :
    MatW (putRow encI (Sort.ahead W m) (adr ad k).1 (adr ad k).2 row.toArray) B R n w ad (M.set k row) where
  len := by simp [h.len]
  adl := h.adl
  wid := fun i hi => by
    by_cases e : k = i
    · subst e; rw [List.getElem?_set_self (by rw [h.len]; exact hi)]; simpa using hl
    · rw [List.getElem?_set_ne e]; exact h.wid i hi
  hd := fun i hi => by
    have := h.hd i hi
    refine ⟨?_, by rw [frozen?_putRow]; exact this.2⟩
    rw [cell?_putRow_other _ _ _ _ _ _ (.inl (fun e => h.off k hk e.symm))]
    exact this.1
  row := fun i hi => by
    by_cases e : k = i
    · subst e
      rw [List.getElem?_set_self (by rw [h.len]; exact hi)]
      exact holds_putRow encI _ _ _ _ _ (holds_ahead encI W m _ _ _ (h.row k hi)) (by simp [hl, h.wid k hi])
    · rw [List.getElem?_set_ne e]
      intro j hj
      have hj' : j < w := by have := h.wid i hi; simp at hj; omega
      have := h.row i hi j hj
      refine ⟨?_, by rw [frozen?_putRow]; exact this.2⟩
      rw [cell?_putRow_other _ _ _ _ _ _ (by
        have := h.apart i k hi hk (fun e' => e e'.symm)
        simp [hl]
        omega)]
      exact this.1
  apart := h.apart
  off := h.off
  base := fun i hi => by simpa using h.base i hi
  head := by simpa using h.head

/-- Two rows change places. -/
theorem MatW.swap {W : World} {B R n w : Nat} {ad : Ads} {M : List (List Int)} (h : MatW W B R n w ad M) {r i : Nat} (hr : r < n) (hi : i < n) {W' : World}
    (hs : W'.heap.size = W.heap.size) (hk : ∀ b, b ≠ R → W'.heap[b]? = W.heap[b]?)
    (hc : ∀ k, k < n → (∃ e, W'.cell? ⟨R, k, none⟩ = some (.slice (some ⟨(if k = i then adr ad r else if k = r then adr ad i else adr ad k).1, (if k = i then adr ad r else if k = r then adr ad i else adr ad k).2, none⟩) w e)) ∧ W'.frozen? ⟨R, k, none⟩ = false) :
    MatW W' B R n w ((ad.set r (adr ad i)).set i (adr ad r)) (swapR M r i) := by
  have ha : ∀ k, k < n → adr ((ad.set r (adr ad i)).set i (adr ad r)) k = if k = i then adr ad r else if k = r then adr ad i else adr ad k := by
    intro k hk
    unfold adr
    by_cases e1 : k = i
    · subst e1; rw [List.getElem?_set_self (by simp [h.adl]; omega), if_pos rfl]; simp
    · rw [if_neg e1, List.getElem?_set_ne (fun e => e1 e.symm)]
      by_cases e2 : k = r
      · subst e2; rw [List.getElem?_set_self (by simp [h.adl]; omega), if_pos rfl]; simp
      · rw [if_neg e2, List.getElem?_set_ne (fun e => e2 e.symm)]
  have hM : ∀ k, k < n → (swapR M r i)[k]?.getD [] = if k = i then M[r]?.getD [] else if k = r then M[i]?.getD [] else M[k]?.getD [] := by
    intro k hk
    unfold swapR
    by_cases e1 : k = i
    · subst e1; rw [List.getElem?_set_self (by simp [h.len]; omega), if_pos rfl]; simp
    · rw [if_neg e1, List.getElem?_set_ne (fun e => e1 e.symm)]
      by_cases e2 : k = r
      · subst e2; rw [List.getElem?_set_self (by simp [h.len]; omega), if_pos rfl]; simp
      · rw [if_neg e2, List.getElem?_set_ne (fun e => e2 e.symm)]
  refine ⟨by rw [swapR_len]; exact h.len, by simp [h.adl], ?_, ?_, ?_, ?_, ?_, ?_, ?_⟩
  · intro k hk'
    rw [hM k hk']
    split
    · exact h.wid r hr
    · split
      · exact h.wid i hi
      · exact h.wid k hk'
  · intro k hk'
    rw [ha k hk']
    exact hc k hk'
  · intro k hk'
    rw [ha k hk', hM k hk']
    split
    · exact holds_keep (h.row r hr) (hk _ (h.off r hr))
    · split
      · exact holds_keep (h.row i hi) (hk _ (h.off i hi))
      · exact holds_keep (h.row k hk') (hk _ (h.off k hk'))
  · intro a b ha' hb' hab
    have hp : ∀ k, k < n → ∃ k', k' < n ∧ adr ((ad.set r (adr ad i)).set i (adr ad r)) k = adr ad k' ∧ k' = (if k = i then r else if k = r then i else k) := by
      intro k hk'
      refine ⟨if k = i then r else if k = r then i else k, ?_, ?_, rfl⟩
      · split
        · exact hr
        · split
          · exact hi
          · exact hk'
      · rw [ha k hk']
        split
        · rfl
        · split <;> rfl
    obtain ⟨a', ha1, ha2, ha3⟩ := hp a ha'
    obtain ⟨b', hb1, hb2, hb3⟩ := hp b hb'
    rw [ha2, hb2]
    refine h.apart a' b' ha1 hb1 (fun e => ?_)
    rw [ha3, hb3] at e
    split at e <;> split at e <;> (try split at e) <;> (try split at e) <;> omega
  · intro k hk'
    rw [ha k hk']
    split
    · exact h.off r hr
    · split
      · exact h.off i hi
      · exact h.off k hk'
  · intro k hk'
    rw [ha k hk', hs]
    split
    · exact h.base r hr
    · split
      · exact h.base i hi
      · exact h.base k hk'
  · rw [hs]; exact h.head

/-- A matrix with rows X behind it. -/
structure MatX (W : World) (B R n w : Nat) (ad : Ads) (M X : List (List Int)) : Prop where
  it : MatW W B R (n + X.length) w ad (M ++ X)
  len : M.length = n

theorem app_row {M X : List (List Int)} {i : Nat} (hi : i < M.length) : (M ++ X)[i]?.getD [] = M[i]?.getD [] := by rw [List.getElem?_append_left hi]
theorem MatX.hd {W : World} {B R n w : Nat} {ad : Ads} {M X : List (List Int)} (h : MatX W B R n w ad M X) (i : Nat) (hi : i < n) :
    (∃ e, W.cell? ⟨R, i, none⟩ = some (.slice (some ⟨(adr ad i).1, (adr ad i).2, none⟩) w e)) ∧ W.frozen? ⟨R, i, none⟩ = false := h.it.hd i (by omega)
theorem MatX.wid {W : World} {B R n w : Nat} {ad : Ads} {M X : List (List Int)} (h : MatX W B R n w ad M X) (i : Nat) (hi : i < n) : (M[i]?.getD []).length = w := by
  have := h.it.wid i (by omega)
  rwa [app_row (by rw [h.len]; exact hi)] at this
theorem MatX.row {W : World} {B R n w : Nat} {ad : Ads} {M X : List (List Int)} (h : MatX W B R n w ad M X) (i : Nat) (hi : i < n) : Holds encI W (adr ad i).1 (adr ad i).2 (M[i]?.getD []).toArray := by
  have := h.it.row i (by omega)
  rwa [app_row (by rw [h.len]; exact hi)] at this
theorem MatX.at {W : World} {B R n w : Nat} {ad : Ads} {M X : List (List Int)} (h : MatX W B R n w ad M X) {i j : Nat} (hi : i < n) (hj : j < w) :
    W.cell? ⟨(adr ad i).1, (adr ad i).2 + j, none⟩ = some (.int .i64 (ent M i j)) ∧ W.frozen? ⟨(adr ad i).1, (adr ad i).2 + j, none⟩ = false := by
  have := h.it.at (i := i) (by omega) hj
  have e : ent (M ++ X) i j = ent M i j := by unfold ent; rw [app_row (by rw [h.len]; exact hi)]
  rwa [e] at this
theorem MatX.apart {W : World} {B R n w : Nat} {ad : Ads} {M X : List (List Int)} (h : MatX W B R n w ad M X) (i k : Nat) (hi : i < n) (hk : k < n) (hik : i ≠ k) :
    (adr ad i).1 ≠ (adr ad k).1 ∨ (adr ad i).2 + w ≤ (adr ad k).2 ∨ (adr ad k).2 + w ≤ (adr ad i).2 := h.it.apart i k (by omega) (by omega) hik
theorem MatX.base {W : World} {B R n w : Nat} {ad : Ads} {M X : List (List Int)} (h : MatX W B R n w ad M X) (i : Nat) (hi : i < n) : B ≤ (adr ad i).1 ∧ (adr ad i).1 < W.heap.size := h.it.base i (by omega)
theorem MatX.head {W : World} {B R n w : Nat} {ad : Ads} {M X : List (List Int)} (h : MatX W B R n w ad M X) : B ≤ R ∧ R < W.heap.size := h.it.head
theorem MatX.drewN {W : World} {B R n w : Nat} {ad : Ads} {M X : List (List Int)} (h : MatX W B R n w ad M X) (m : Nat) : MatX (W.drewN m) B R n w ad M X := ⟨h.it.drewN m, h.len⟩
theorem MatX.keep {W W' : World} {B R n w : Nat} {ad : Ads} {M X : List (List Int)} (h : MatX W B R n w ad M X) (hs : W.heap.size ≤ W'.heap.size) (hR : W'.heap[R]? = W.heap[R]?) (hr : ∀ i, i < n + X.length → W'.heap[(adr ad i).1]? = W.heap[(adr ad i).1]?) : MatX W' B R n w ad M X := ⟨h.it.keep hs hR hr, h.len⟩
theorem MatX.put {W : World} {B R n w : Nat} {ad : Ads} {M X : List (List Int)} (h : MatX W B R n w ad M X) {k : Nat} (hk : k < n) (m : Nat) {row : List Int} (hl : row.length = w) :
    MatX (putRow encI (Sort.ahead W m) (adr ad k).1 (adr ad k).2 row.toArray) B R n w ad (M.set k row) X := by
  refine ⟨?_, by simp [h.len]⟩
  have := h.it.put (k := k) (by omega) m hl
  rwa [List.set_append_left _ _ (by rw [h.len]; exact hk)] at this
theorem MatW.x {W : World} {B R n w : Nat} {ad : Ads} {M : List (List Int)} (h : MatW W B R n w ad M) : MatX W B R n w ad M [] := ⟨by simpa using h, h.len⟩
theorem MatX.w {W : World} {B R n w : Nat} {ad : Ads} {M : List (List Int)} (h : MatX W B R n w ad M []) : MatW W B R n w ad M := by simpa using h.it
theorem swapR_app {M X : List (List Int)} {r i : Nat} (hr : r < M.length) (hi : i < M.length) : swapR (M ++ X) r i = swapR M r i ++ X := by
  unfold swapR
  rw [app_row hr, app_row hi, List.set_append_left _ _ hr, List.set_append_left _ _ (by simpa using hi)]

end Go.Proofs.Ytbhdipljhelddaa

/-! clearColumn: a step is taken off a row. -/
namespace Go.Proofs.Ytbhdipljhelddaa
open Go.RowKit Go.Lib Go.Sort

/-- The first i numbers of a row are cleared. -/
def part (p : Int) (c : Nat) (row own : List Int) (i : Nat) : List Int := (clr p c row own).take i ++ row.drop i
theorem part_zero (p : Int) (c : Nat) (row own : List Int) : part p c row own 0 = row := by simp [part]
theorem part_len {p : Int} {c w : Nat} {row own : List Int} (h1 : row.length = w) (h2 : own.length = w) {i : Nat} (hi : i ≤ w) : (part p c row own i).length = w := by
  simp [part, clr_len h1 h2, h1]; omega
theorem part_all {p : Int} {c w : Nat} {row own : List Int} (h1 : row.length = w) (h2 : own.length = w) : part p c row own w = clr p c row own := by
  unfold part
  rw [List.take_of_length_le (by rw [clr_len h1 h2]; exact Nat.le_refl _), List.drop_of_length_le (by omega)]
  simp
theorem part_succ {p : Int} {c w : Nat} {row own : List Int} (h1 : row.length = w) (h2 : own.length = w) {i : Nat} (hi : i < w) :
    part p c row own (i + 1) = (part p c row own i).set i ((row[i]?.getD 0 + (p - (row[c]?.getD 0 * own[c]?.getD 0) % p) * own[i]?.getD 0) % p) := by
  have hl := clr_len (p := p) (c := c) h1 h2
  have e := clr_get (p := p) (c := c) h1 h2 hi
  rw [List.getElem?_eq_getElem (by omega)] at e
  simp only [Option.getD_some] at e
  unfold part
  rw [List.take_succ_eq_append_getElem (by omega), e, List.set_append_right _ _ (by simp; omega)]
  have : (List.take i (clr p c row own)).length = i := by simp; omega
  rw [this, Nat.sub_self, List.drop_eq_getElem_cons (by omega : i < row.length)]
  simp only [List.set_cons_zero, List.append_assoc, List.cons_append, List.nil_append]
theorem part_at {p : Int} {c w : Nat} {row own : List Int} (h1 : row.length = w) (h2 : own.length = w) {i : Nat} (hi : i < w) : (part p c row own i)[i]?.getD 0 = row[i]?.getD 0 := by
  have hl := clr_len (p := p) (c := c) h1 h2
  unfold part
  rw [List.getElem?_append_right (by simp; omega)]
  have : (List.take i (clr p c row own)).length = i := by simp; omega
  rw [this, Nat.sub_self]
  simp

theorem holds_at {w : World} {blk off : Nat} {l : List Int} (h : Holds encI w blk off l.toArray) {i : Nat} (hi : i < l.length) : w.cell? ⟨blk, off + i, none⟩ = some (.int .i64 (l[i]?.getD 0)) ∧ w.frozen? ⟨blk, off + i, none⟩ = false := by
  have := h i (by simpa using hi)
  refine ⟨this.1.trans ?_, this.2⟩
  simp only [encI]
  rw [getElem!_pos l.toArray i (by simpa using hi), List.getElem?_eq_getElem hi]
  simp
theorem putRow_at (W : World) (m blk off : Nat) (l : List Int) (i : Nat) (x : Int) (hi : i < l.length) :
    (putRow encI (Sort.ahead W m) blk off l.toArray).setCell ⟨blk, off + i, none⟩ (.int .i64 x) = putRow encI (Sort.ahead W m) blk off (l.set i x).toArray := by
  have := putRow_set encI (Sort.ahead W m) blk off l.toArray i x (by simpa using hi)
  simp only [encI] at this ⊢
  rw [this]
  simp

theorem small_mul {a b p : Int} (hp : p = 2 ∨ p = 3) (ha0 : 0 ≤ a) (ha : a < p) (hb0 : 0 ≤ b) (hb : b < p) : 0 ≤ a * b ∧ a * b ≤ 6 := by
  have h1 : a * b ≤ 2 * b := Int.mul_le_mul_of_nonneg_right (by omega) hb0
  exact ⟨Int.mul_nonneg ha0 hb0, by omega⟩
theorem small_mul' {t b p : Int} (hp : p = 2 ∨ p = 3) (ht : 0 ≤ t ∧ t < p) (hb : 0 ≤ b ∧ b < p) : 0 ≤ (p - t) * b ∧ (p - t) * b ≤ 9 := by
  have h1 : (p - t) * b ≤ 3 * b := Int.mul_le_mul_of_nonneg_right (by omega) hb.1
  exact ⟨Int.mul_nonneg (by omega) hb.1, by omega⟩
theorem mod_rng {a p : Int} (hp : p = 2 ∨ p = 3) : 0 ≤ a % p ∧ a % p < p := ⟨Int.emod_nonneg _ (by omega), Int.emod_lt_of_pos _ (by omega)⟩

set_option maxRecDepth 1000000 in
set_option maxHeartbeats 2000000 in
theorem clear_any (b1 o1 b2 o2 w c e1 e2 : Nat) (p : Int) (row own : List Int) (W : World) (h1 : Holds encI W b1 o1 row.toArray) (h2 : Holds encI W b2 o2 own.toArray) (l1 : row.length = w) (l2 : own.length = w) (hc : c < w) (hw : w ≤ 1048576)
    (hp : p = 2 ∨ p = 3) (r1 : ∀ x ∈ row, 0 ≤ x ∧ x < p) (r2 : ∀ x ∈ own, 0 ≤ x ∧ x < p) (hd : b1 ≠ b2 ∨ o1 + w ≤ o2 ∨ o2 + w ≤ o1) :
    Calls Try.prog 204 #[.slice (some ⟨b1, o1, none⟩) w e1, .slice (some ⟨b2, o2, none⟩) w e2, .int .i64 (c : Int), .int .i64 p] W fun e W' => (∃ v, e = .returned v) ∧ ∃ m, W' = putRow encI (Sort.ahead W m) b1 o1 (clr p c row own).toArray := by
  obtain ⟨cx, _⟩ := holds_at h1 (i := c) (by omega)
  obtain ⟨cy, _⟩ := holds_at h2 (i := c) (by omega)
  obtain ⟨x0, hx0⟩ : ∃ x, x = row[c]?.getD 0 := ⟨_, rfl⟩
  obtain ⟨y0, hy0⟩ : ∃ y, y = own[c]?.getD 0 := ⟨_, rfl⟩
  have rx := r1 _ (getD_memL (d := 0) (show c < row.length by omega))
  have ry := r2 _ (getD_memL (d := 0) (show c < own.length by omega))
  rw [← hx0] at cx rx
  rw [← hy0] at cy ry
  have hm := small_mul hp rx.1 rx.2 ry.1 ry.2
  obtain ⟨t, ht⟩ : ∃ t, t = (x0 * y0) % p := ⟨_, rfl⟩
  have hmul : IntKind.i64.wrap (x0 * y0) = x0 * y0 := IntWalk.i64_in _ (by omega)
  have hrem : (x0 * y0).tmod p = t := by rw [ht, Int.tmod_eq_emod_of_nonneg hm.1]
  have htr : 0 ≤ t ∧ t < p := by rw [ht]; exact mod_rng hp
  have hc0 : (0 : Int) ≤ (c : Int) := by omega
  have hc1 : (c : Int) < (w : Int) := by omega
  have hp0 : (p == 0) = false := by rcases hp with rfl | rfl <;> rfl
  have HX := hid hx0
  have HY := hid hy0
  have HT := hid ht
  have H1 := hid h1
  have H2 := hid h2
  have R1 := hid r1
  have R2 := hid r2
  clear hx0 hy0 ht h1 h2 r1 r2
  go_enter Try.func204, Try.ntmps204
  go_wp2
  go_quiet (fail)
  go_wp2
  clear hmul hrem hc0 hc1 cx cy hm rx ry
  go_loopg [23] w (fun k s23 wr => ∃ (i m : Nat), s23 = .int .i64 i ∧ i ≤ w ∧ w - i ≤ k ∧ wr = putRow encI (Sort.ahead W m) b1 o1 (part p c row own i).toArray)
  case atStart => exact ⟨0, nq, rfl, Nat.zero_le _, by omega, by rw [part_zero]; exact (putRow_self encI _ b1 o1 _ (holds_ahead encI W nq _ _ _ H1.out)).symm⟩
  case round =>
    obtain ⟨i, m, rfl, hi, hk, hwr⟩ := hrel
    by_cases hlt : i < w
    · have hHk : Holds encI wr b1 o1 (part p c row own i).toArray := by rw [hwr]; exact holds_putRow encI _ b1 o1 _ _ (holds_ahead encI W m b1 o1 _ H1.out) (by simp [part_len l1 l2 hi, l1])
      obtain ⟨ca, fa⟩ := holds_at hHk (i := i) (by rw [part_len l1 l2 hi]; exact hlt)
      rw [part_at l1 l2 hlt] at ca
      obtain ⟨cb0, _⟩ := holds_at H2.out (i := i) (by omega)
      have cb : wr.cell? ⟨b2, o2 + i, none⟩ = some (.int .i64 (own[i]?.getD 0)) := by
        rw [hwr, cell?_putRow_other _ _ _ _ _ _ (by simp [part_len l1 l2 hi]; omega)]
        exact cb0
      have ra := R1.out _ (getD_memL (d := 0) (show i < row.length by omega))
      have rb := R2.out _ (getD_memL (d := 0) (show i < own.length by omega))
      have Hps := hid (part_succ (p := p) (c := c) l1 l2 hlt)
      have hpl := part_len (p := p) (c := c) l1 l2 hi
      obtain ⟨a, ha⟩ : ∃ a, a = row[i]?.getD 0 := ⟨_, rfl⟩
      obtain ⟨b, hb⟩ : ∃ b, b = own[i]?.getD 0 := ⟨_, rfl⟩
      rw [← ha] at ca ra Hps
      rw [← hb] at cb rb Hps
      rw [← HX.out, ← HY.out, ← HT.out] at Hps
      have hm := small_mul' hp htr rb
      obtain ⟨v, hv⟩ : ∃ v, v = (a + (p - t) * b) % p := ⟨_, rfl⟩
      rw [← hv] at Hps
      have hrem : (a + (p - t) * b).tmod p = v := by rw [hv, Int.tmod_eq_emod_of_nonneg (by omega)]
      have hadd : IntKind.i64.wrap (a + (p - t) * b) = a + (p - t) * b := IntWalk.i64_in _ (by omega)
      have hmul : IntKind.i64.wrap ((p - t) * b) = (p - t) * b := IntWalk.i64_in _ (by omega)
      have hsub : IntKind.i64.wrap (p - t) = p - t := IntWalk.i64_in _ (by omega)
      have hi0 : (0 : Int) ≤ (i : Int) := by omega
      have hi1 : (i : Int) < (w : Int) := by omega
      have A : Aside (wr = putRow encI (Sort.ahead W m) b1 o1 (part p c row own i).toArray) := hwr
      clear hwr hHk ha hb hv cb0 hm
      go_wp2_with fail
      go_region
      go_wp2
      go_roundg (w - (i + 1))
      case measure => omega
      case rel => exact ⟨i + 1, m + 1, by go_num, by omega, Nat.le_refl _, by rw [Hps.out, ← putRow_at _ _ _ _ _ _ _ (by rw [hpl]; exact hlt), ← ahead_drew, ← putRow_drew, ← A.out]; rfl⟩
    · go_wp2
      go_end0
      obtain rfl : i = w := by omega
      exact ⟨⟨_, rfl⟩, m, by rw [part_all l1 l2]⟩

end Go.Proofs.Ytbhdipljhelddaa

/-! newRows: rows of zeros in one table. -/
namespace Go.Proofs.Ytbhdipljhelddaa
open Go.RowKit
open Go.Sort hiding Below

theorem info_rows : (Try.prog.info? 22).map (fun i => (i.zero, i.size, i.bytes)) = some (some (.slice none 0 0), 1, 24) := by kernel_rfl

/-- 'make([][]int64, n)'. -/
theorem make_rows {w : World} {ops : Array Oper} {rest : List Oper} {o : Oper} {a : Act} {Q : Exit → Act → World → Prop} (hgd : o.guard = none) {l c : Operand} (hop : o.op = Op.makeSlice 56 l c)
    {n : Nat} (hl : a.eval l = .int .i64 (n : Int)) (hc : a.eval c = .int .i64 (n : Int)) (hn : n ≤ 1048576)
    (hK : ∀ w', w'.ownsRow w.heap.size 22 1 (.slice (some ⟨w.heap.size, 0, none⟩) n n) n (List.replicate n (Value.slice none 0 0)) → w.grownBy w' none → Below w.heap.size w w' →
      wpList Try.prog ops Q rest (a.put o.dst (.slice (some ⟨w.heap.size, 0, none⟩) n n)) w') :
    wpList Try.prog ops Q (o :: rest) a w := by
  obtain ⟨i0, hi, hz0, hz1, hz2⟩ := info_parts info_rows
  refine wpList_make_full w hgd l c 56 hop w.heap.size 22 i0 (.slice none 0 0) 1 Try.underlying56 hi hz0 hz1 .i64 .i64 _ _ n hl hc rfl rfl (by rw [hz2]; omega) (by unfold maxLen; omega) (Nat.le_refl _) ?_
  intro w' hown hg
  have e : (madeCells (Value.slice none 0 0).cells (n * 1)).toList = List.replicate n (Value.slice none 0 0) := by
    rw [Nat.mul_one]
    exact toList_madeCells_one _ _
  rw [e] at hown
  exact hK w' hown hg ((Below.refl _ w).grown hg (Nat.le_refl _) (fun k hk => by cases hk))

theorem owned_block {w : World} {base e b n m cap : Nat} {xs : List Value} (h : w.ownsRow base e 1 (.slice (some ⟨b, 0, none⟩) m cap) n xs) : ∃ cur, w.heap[b]? = some (.cells cur e (0, 0)) ∧ cur.toList.take n = xs ∧ base ≤ b := by
  rcases h.2 with ⟨h0, _⟩ | ⟨g, cap', cur, hv, hg, hh, _, _, _, h4⟩
  · cases h0
  · cases hv
    exact ⟨cur, hh, by simpa using h4, hg⟩

/-- The rows' slices, the first i of them laid. -/
def prefV (T w n i : Nat) : List Value := (List.range n).map fun k => if k < i then .slice (some ⟨T, k * w, none⟩) w w else .slice none 0 0
theorem prefV_len (T w n i : Nat) : (prefV T w n i).length = n := by simp [prefV]
theorem prefV_zero (T w n : Nat) : prefV T w n 0 = List.replicate n (Value.slice none 0 0) := by unfold prefV; simp; exact (List.map_const' ..).trans (by simp)
theorem prefV_succ {T w n i : Nat} (hi : i < n) : prefV T w n (i + 1) = (prefV T w n i).set i (.slice (some ⟨T, i * w, none⟩) w w) := by
  apply List.ext_getElem?
  intro k
  by_cases hk : k < n
  · by_cases e : i = k
    · subst e
      rw [List.getElem?_set_self (by rw [prefV_len]; exact hi)]
      simp [prefV, hi]
    · rw [List.getElem?_set_ne e]
      simp only [prefV, List.getElem?_map, List.getElem?_range hk, Option.map_some]
      congr 1
      by_cases h : k < i
      · rw [if_pos h, if_pos (by omega)]
      · rw [if_neg h, if_neg (by omega)]
  · rw [List.getElem?_eq_none (by rw [prefV_len]; omega), List.getElem?_eq_none (by rw [List.length_set, prefV_len]; omega)]
theorem prefV_get {T w n i k : Nat} (hk : k < n) : (prefV T w n i)[k]?.getD undef = if k < i then .slice (some ⟨T, k * w, none⟩) w w else .slice none 0 0 := by
  simp [prefV, hk]

abbrev encV (v : Value) : Value := v

theorem holdsV_of_block {w : World} {g : Nat} {cur : Array Value} {e : TypeId} {ss : List Value} (hb : w.heap[g]? = some (.cells cur e (0, 0))) (ht : cur.toList.take ss.length = ss) : Holds encV w g 0 ss.toArray := by
  intro j hj
  have hj' : j < ss.length := by simpa using hj
  refine ⟨?_, by simp [World.frozen?, hb]⟩
  have h1 : (cur.toList.take ss.length)[j]? = ss[j]? := by rw [ht]
  rw [List.getElem?_take_of_lt hj'] at h1
  simp only [World.cell?, hb, Nat.zero_add]
  simp only [Option.isSome_none, Bool.false_eq_true, if_false]
  rw [← Array.getElem?_toList, h1]
  simp [hj', encV]

theorem holdsV_at {w : World} {blk : Nat} {l : List Value} (h : Holds encV w blk 0 l.toArray) {i : Nat} (hi : i < l.length) : w.cell? ⟨blk, i, none⟩ = some (l[i]?.getD undef) ∧ w.frozen? ⟨blk, i, none⟩ = false := by
  have := h i (by simpa using hi)
  rw [Nat.zero_add] at this
  refine ⟨this.1.trans ?_, this.2⟩
  simp only [encV]
  rw [getElem!_pos l.toArray i (by simpa using hi), List.getElem?_eq_getElem hi]
  simp

def tableA (T w n : Nat) : Ads := (List.range n).map fun k => (T, k * w)
theorem tableA_at {T w n k : Nat} (hk : k < n) : adr (tableA T w n) k = (T, k * w) := by simp [adr, tableA, hk]

theorem mul_fit1 {i w lo : Nat} (h : lo = i * w) (hb : lo ≤ 1000000) : wrap64 ((i : Int) * (w : Int)) = (lo : Int) := by
  rw [show ((i : Int) * (w : Int)) = (lo : Int) by rw [h]; simp]
  exact IntWalk.wrap64_in _ ⟨by omega, by omega⟩
theorem mul_fit2 {i w lo : Nat} (h : lo = i * w) (hb : lo + w ≤ 1000000) : wrap64 (((i : Int) + 1) * (w : Int)) = (lo : Int) + (w : Int) := by
  rw [show (((i : Int) + 1) * (w : Int)) = (lo : Int) + (w : Int) by rw [h, Int.add_mul]; simp]
  exact IntWalk.wrap64_in _ ⟨by omega, by omega⟩

set_option maxRecDepth 100000 in
set_option maxHeartbeats 2000000 in
theorem newRows_any (n w : Nat) (W : World) (hn : n ≤ 1000) (hw : w ≤ 1000) :
    Calls Try.prog 164 #[.int .i64 (n : Int), .int .i64 (w : Int)] W fun e W' => ∃ R ad, e = .returned (.slice (some ⟨R, 0, none⟩) n n) ∧ MatW W' W.heap.size R n w ad (List.replicate n (List.replicate w 0)) ∧ Below W.heap.size W W' := by
  have hnw : n * w ≤ 1000000 := Nat.le_trans (Nat.mul_le_mul hn hw) (by omega)
  have hmul : wrap64 ((n : Int) * (w : Int)) = ((n * w : Nat) : Int) := by
    rw [show ((n : Int) * (w : Int)) = ((n * w : Nat) : Int) by simp]
    exact IntWalk.wrap64_in _ ⟨by omega, by omega⟩
  obtain ⟨N, hN⟩ : ∃ N, N = n * w := ⟨_, rfl⟩
  rw [← hN] at hmul hnw
  have HN := hid hN
  clear hN
  go_enter Try.func164, Try.ntmps164
  go_wp2_with (first
    | (refine make_int rfl rfl (n := N) (by first | rfl | (simp only [hmul]; rfl)) (by first | rfl | (simp only [hmul]; rfl)) (by omega) ?_; intro w1 hown1 hg1 hB1)
    | (refine make_rows rfl rfl (n := n) rfl rfl (by omega) ?_; intro w2 hown2 hg2 hB2))
  obtain ⟨cT, hT, hT4, hTb⟩ := owned_block hown1
  obtain ⟨cR, hR, hR4, hRb⟩ := owned_block hown2
  have hTlt := lt_of_get hT
  have hT2 := (hB2.block _ hTlt).trans hT
  have HT := hid (holds_of_blockI hT2 (ss := List.replicate N 0) (by simpa using hT4))
  have HR := hid (holdsV_of_block hR (ss := List.replicate n (Value.slice none 0 0)) (by simpa using hR4))
  have HB := hid (hB1.trans (hB2.mono hB1.size))
  have hRlt := lt_of_get hR
  have hTR : W.heap.size < w1.heap.size := hTlt
  clear hown1 hown2 hg1 hg2 hB1 hB2 hT hR hT2 hT4 hR4 hmul
  go_loopw [16] (fun s16 wx => ∃ (i : Nat), s16 = .int .i64 i ∧ i ≤ n ∧ Aside (wx = putRow encV w2 w1.heap.size 0 (prefV W.heap.size w n i).toArray)) (fun s16 _ => n - (intOf s16).toNat)
  case atStart => exact ⟨0, rfl, Nat.zero_le _, by rw [prefV_zero]; exact (Sort.putRow_self encV w2 _ _ _ HR.out).symm⟩
  case round =>
    obtain ⟨i, rfl, hi, A⟩ := hrel
    by_cases hlt : i < n
    · have hi0 : (0 : Int) ≤ (i : Int) := by omega
      have hi1 : (i : Int) < (n : Int) := by omega
      have hH : Holds encV wr w1.heap.size 0 (prefV W.heap.size w n i).toArray := by rw [A.out]; exact Sort.holds_putRow encV _ _ _ _ _ HR.out (by simp [prefV_len])
      obtain ⟨ci, fi⟩ := holdsV_at hH (i := i) (by rw [prefV_len]; exact hlt)
      obtain ⟨lo, hlo⟩ : ∃ lo, lo = i * w := ⟨_, rfl⟩
      have hhi : lo + w ≤ N := by
        rw [HN.out, hlo, ← Nat.succ_mul]
        exact Nat.mul_le_mul_right _ hlt
      have Hlo := hid hlo
      have hlo0 : (0 : Int) ≤ (lo : Int) := by omega
      have hw0 : (0 : Int) ≤ (w : Int) := by omega
      have hlw : (lo : Int) ≤ (lo : Int) + (w : Int) := by omega
      have hhiI : (lo : Int) + (w : Int) ≤ (N : Int) := by omega
      have hlb : lo ≤ 1000000 := by omega
      have hlw2 : lo + w ≤ 1000000 := by omega
      have hm1 : wrap64 ((i : Int) * (w : Int)) = (lo : Int) := mul_fit1 hlo hlb
      have hm2 : wrap64 (((i : Int) + 1) * (w : Int)) = (lo : Int) + (w : Int) := mul_fit2 hlo hlw2
      have Hsucc := hid (prefV_succ (T := W.heap.size) (w := w) hlt)
      rw [← hlo] at Hsucc
      have Haddr : Hid ((if w = 0 then some (⟨W.heap.size, 0, none⟩ : Addr) else some ⟨W.heap.size, lo, none⟩) = some ⟨W.heap.size, lo, none⟩) := hid (by
        split
        · rename_i h; rw [hlo, h]; rfl
        · rfl)
      have Hni : Hid ((i : Int) < (n : Int)) := hid hi1
      clear hlo hH hlb hlw2
      go_wp2
      clear hm1 hm2
      go_roundw
      case rel =>
        refine ⟨i + 1, by go_num, by omega, ?_⟩
        rw [Haddr.out, Hsucc.out, A.out]
        have := putRow_set encV w2 w1.heap.size 0 (prefV W.heap.size w n i).toArray i (.slice (some ⟨W.heap.size, lo, none⟩) w w) (by simp [prefV_len]; exact hlt)
        rw [Nat.zero_add] at this
        simp only [encV] at this
        unfold Aside
        rw [this]
        simp
      case measure => simp [intOf]; omega
    · obtain rfl : i = n := by omega
      have hH : Holds encV wr w1.heap.size 0 (prefV W.heap.size w i i).toArray := by rw [A.out]; exact Sort.holds_putRow encV _ _ _ _ _ HR.out (by simp [prefV_len])
      have Hk : Hid (∀ b, b ≠ w1.heap.size → wr.heap[b]? = w2.heap[b]?) := hid (fun b hb => by
        have hb' : w1.heap.size ≠ b := fun e => hb e.symm
        rw [A.out]; simp [putRow, mapBlock, Array.getElem?_modify, hb'])
      have Hsz : Hid (wr.heap.size = w2.heap.size) := hid (by rw [A.out]; simp)
      have HM : Hid (MatW wr W.heap.size w1.heap.size i w (tableA W.heap.size w i) (List.replicate i (List.replicate w 0))) := hid {
        len := by simp
        adl := by simp [tableA]
        wid := fun k hk => by simp [hk]
        hd := fun k hk => by
          obtain ⟨h1, h2⟩ := holdsV_at hH (i := k) (by rw [prefV_len]; exact hk)
          rw [prefV_get hk, if_pos hk] at h1
          rw [tableA_at hk]
          exact ⟨⟨_, h1⟩, h2⟩
        row := fun k hk => by
          rw [tableA_at hk]
          have hkw : k * w + w ≤ N := by
            rw [HN.out, ← Nat.succ_mul]
            exact Nat.mul_le_mul_right _ hk
          intro j hj
          simp [hk] at hj
          have := HT.out (k * w + j) (by simp; omega)
          rw [Nat.zero_add] at this
          simp only [World.cell?, World.frozen?] at this ⊢
          rw [Hk.out _ (by omega)]
          refine ⟨this.1.trans ?_, this.2⟩
          simp [encI, hk, getElem!_pos, hj, show k * w + j < N by omega]
        apart := fun a b ha hb hab => by
          rw [tableA_at ha, tableA_at hb]
          refine .inr ?_
          simp only
          rcases Nat.lt_or_gt_of_ne hab with h | h
          · left; rw [← Nat.succ_mul]; exact Nat.mul_le_mul_right _ h
          · right; rw [← Nat.succ_mul]; exact Nat.mul_le_mul_right _ h
        off := fun k hk => by rw [tableA_at hk]; simp only; omega
        base := fun k hk => by rw [tableA_at hk, Hsz.out]; simp only; exact ⟨Nat.le_refl _, by omega⟩
        head := by rw [Hsz.out]; exact ⟨by omega, hRlt⟩ }
      have HB2 : Hid (Go.RowKit.Below W.heap.size W wr) := hid (HB.out.trans ⟨by rw [A.out]; rfl, by rw [A.out]; rfl, by rw [A.out]; rfl, by rw [Hsz.out]; exact Nat.le_refl _, fun k hk => Hk.out k (by omega)⟩)
      clear hH
      go_wp2
      go_ret
      exact ⟨_, _, rfl, HM.out, HB2.out⟩

end Go.Proofs.Ytbhdipljhelddaa

/-! How many faces a complex has at most. -/
namespace Go.Proofs.Ytbhdipljhelddaa

theorem asc_len : ∀ (fs : List Int) (lo : Int), fs.Pairwise (· < ·) → (∀ x ∈ fs, lo ≤ x ∧ x ≤ 63) → fs.length ≤ (64 - lo).toNat
  | [], lo, _, _ => by simp
  | x :: fs, lo, hp, hr => by
    have h1 := hr x (by simp)
    have h2 := asc_len fs (x + 1) (List.pairwise_cons.1 hp).2 (fun y hy => ⟨by have := (List.pairwise_cons.1 hp).1 y hy; omega, (hr y (by simp [hy])).2⟩)
    rw [List.length_cons]
    omega

theorem IsC.len63 {V : Int} {fs : List Int} (h : IsC V fs) : fs.length ≤ 63 := by
  have := asc_len fs 1 h.asc h.range63
  omega

end Go.Proofs.Ytbhdipljhelddaa
