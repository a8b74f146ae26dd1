/- THE STATEMENT on CollapseKeeping: for every argument that comes in (a complex-like value (any number, any slice of int64), a complex-like value (any number, any slice of int64)) the law returns true and leaves its arguments as they were. No conditions. -/
import Derived.Lib.SliceRun
import Derived.Lib.Walk
import Derived.Deep.RegionWith
import Derived.Deep.CutRange
import Derived.Test.YtojnpacklcajpaaMCK1
import Derived.Test.YtojnpacklcajpaaMCK2
/-! The model's l05First. -/
namespace Go.Proofs.Ytojnpacklcajpaa
open Go.RowKit

/-- The model's walk over the faces, told as the first of the free pairs. -/
theorem firstP_hit {fs ls : List Int} {k : Nat} {f : Int} (hlt : k < fs.length) (hf : fs[k]?.getD 0 = f) (hg : freeG fs f.toNat ≠ 0) (hl : f ∉ ls) (hpre : ∀ p ∈ freeP fs (fs.take k), p.1 ∈ ls) : firstP fs ls = some (f, freeG fs f.toNat) := by
  have e : freeP fs fs = freeP fs (fs.take k) ++ ((f, freeG fs f.toNat) :: freeP fs (fs.drop (k + 1))) := by
    have hs := split_at hlt
    rw [hf] at hs
    have h2 : ∀ a b : List Int, freeP fs (a ++ b) = freeP fs a ++ freeP fs b := fun a b => by simp [freeP]
    have h3 : freeP fs (f :: fs.drop (k + 1)) = (f, freeG fs f.toNat) :: freeP fs (fs.drop (k + 1)) := by simp [freeP, hg]
    have : freeP fs fs = freeP fs (fs.take k ++ f :: fs.drop (k + 1)) := congrArg (freeP fs) hs
    rw [this, h2, h3]
  rw [firstP_pre e hpre, List.find?_cons]
  simp [hl]
theorem firstP_end {fs ls : List Int} (hpre : ∀ p ∈ freeP fs fs, p.1 ∈ ls) : firstP fs ls = none := List.find?_eq_none.2 (fun p hp => by simpa using hpre p hp)

set_option maxRecDepth 100000 in
set_option maxHeartbeats 4000000 in
theorem firstS_any (V : Int) (a0 : Option Addr) (cap : Nat) (fs : List Int) (V1 : Int) (a1 : Option Addr) (cap1 : Nat) (ls : List Int) (w : World) (hx : SlI w w.heap.size a0 fs) (hx1 : SlI w w.heap.size a1 ls) (hl : fs.length ≤ 1048576) (hl1 : ls.length ≤ 1048576) (hf : ∀ x ∈ fs, 1 ≤ x ∧ x ≤ 63) (hL : LowIn fs ls) :
    Calls Try.prog 95 #[.agg #[.int .i64 V, .slice a0 fs.length cap], .agg #[.int .i64 V1, .slice a1 ls.length cap1]] w fun e w' => e = .returned (.tuple #[.agg #[.int .i64 (prO (firstP fs ls)).1, .int .i64 (prO (firstP fs ls)).2], .bool (firstP fs ls).isSome]) ∧ Below w.heap.size w w' := by
  have hB0 : Below w.heap.size w (((w.alloc (.cells #[.int .i64 V, .slice a0 fs.length cap] 29)).alloc (.cells #[.int .i64 V1, .slice a1 ls.length cap1] 29)).alloc (.cells #[.int .i64 0, .int .i64 0] 63)) := (((Below.refl _ w).alloc (Nat.le_refl _) _).alloc (by simp) _).alloc (by simp <;> omega) _
  obtain ⟨W, hW⟩ : ∃ W, W = ((w.alloc (.cells #[.int .i64 V, .slice a0 fs.length cap] 29)).alloc (.cells #[.int .i64 V1, .slice a1 ls.length cap1] 29)).alloc (.cells #[.int .i64 0, .int .i64 0] 63) := ⟨_, rfl⟩
  have Q0 := hid (show W.heap[w.heap.size]? = some (.cells #[.int .i64 V, .slice a0 fs.length cap] 29 (0, 0)) by rw [hW, Below.heap_alloc _ _ _ (by simp <;> omega), Below.heap_alloc _ _ _ (by simp)]; exact heap_alloc_new _ _)
  have Q1 := hid (show W.heap[w.heap.size + 1]? = some (.cells #[.int .i64 V1, .slice a1 ls.length cap1] 29 (0, 0)) by rw [hW, Below.heap_alloc _ _ _ (by simp)]; exact new2 _ _ _)
  have R1 := hid (show W.heap[w.heap.size + 1 + 1]? = some (.cells #[.int .i64 0, .int .i64 0] 63 (0, 0)) by rw [hW]; exact new3 _ _ _ _)
  have HBW : Hid (Below w.heap.size w W) := hid (by rw [hW]; exact hB0)
  have HWs : Hid (w.heap.size + 1 + 1 < W.heap.size) := hid (lt_get R1.out)
  have HW := hid hW
  have Hx0 := hid hx
  have Hx1 := hid hx1
  have Hf := hid hf
  have HL := hid hL
  obtain ⟨F, hF⟩ : ∃ F, F = firstP fs ls := ⟨_, rfl⟩
  rw [← hF]
  have HF := hid hF
  clear hf hx hx1 hB0 hW hL hF
  go_enter Try.func95, Try.ntmps95
  go_wp2_with fail
  rw [← HW.out]
  go_loopg [6] fs.length (fun g i wr => ∃ k : Nat, k + g = fs.length ∧ i = .int .i64 k ∧ Hid (∀ p ∈ freeP fs (fs.take k), p.1 ∈ ls) ∧ Below W.heap.size W wr)
  case atStart => exact ⟨0, by omega, rfl, hid (by simp [freeP]), Below.refl _ _⟩
  case round =>
    obtain ⟨k, hkg, rfl, Hpre, hB⟩ := hrel
    have hws := HWs.out
    obtain ⟨k0, k1, _, _⟩ := two_of ((hB.block _ (lt_get Q0.out)).trans Q0.out)
    have HR := hid ((hB.block _ (lt_get R1.out)).trans R1.out)
    have HQ := hid ((hB.block _ (lt_get Q1.out)).trans Q1.out)
    have HBw := hid (HBW.out.trans (hB.mono HBW.out.size))
    have hsz := hB.size
    cases gk with
    | zero =>
      obtain rfl : k = fs.length := by omega
      rw [List.take_of_length_le (Nat.le_refl _)] at Hpre
      have HE := hid (HF.out.trans (firstP_end Hpre.out))
      obtain ⟨c0, c1, f0, f1⟩ := two_of HR.out
      go_wp2_with fail
      (try simp only [Exit.inBlock, Exit.then])
      have R3 := two_of (two_set HR.out (.int .i64 0) (.int .i64 0))
      refine done_pr (p := 4) (u := 5) (c := .bool false) (by kernel_rfl) rfl rfl R3.1 R3.2.1 rfl ⟨by rw [HE.out]; rfl, ?_⟩
      exact (HBw.out.setCell (p := ⟨w.heap.size + 1 + 1, 0, none⟩) (by show w.heap.size ≤ w.heap.size + 1 + 1; omega) _).setCell (p := ⟨w.heap.size + 1 + 1, 1, none⟩) (by show w.heap.size ≤ w.heap.size + 1 + 1; omega) _
    | succ g =>
      have hlt : k < fs.length := by omega
      obtain ⟨b, off, hb, rfl, hc⟩ : ∃ b off, b < w.heap.size ∧ a0 = some ⟨b, off, none⟩ ∧ ∀ i, i < fs.length → w.cell? ⟨b, off + i, none⟩ = some (.int .i64 (fs[i]?.getD 0)) := by
        rcases Hx0.out with rfl | h
        · simp at hlt
        · exact h
      obtain ⟨f, hf⟩ : ∃ f : Nat, (f : Int) = fs[k]?.getD 0 := ⟨(fs[k]?.getD 0).toNat, by have := Hf.out _ (getD_mem hlt); omega⟩
      have hfr := Hf.out _ (getD_mem hlt)
      have hfm := getD_mem hlt
      rw [← hf] at hfr hfm
      have hf64 : f < 64 := by omega
      have hck : wr.cell? ⟨b, off + k, none⟩ = some (.int .i64 (f : Int)) := by rw [hf]; exact (HBw.out.cell (p := ⟨b, off + k, none⟩) hb).trans (hc k hlt)
      have hi0 : (0 : Int) ≤ (k : Int) := by omega
      have hi1 : (k : Int) < (fs.length : Int) := by omega
      have Hn : Hid (freeP fs (fs.take (k + 1)) = freeP fs (fs.take k) ++ (if freeG fs f = 0 then [] else [((f : Int), freeG fs f)])) := hid (by rw [take_snoc hlt, freeP_snoc, ← hf, Int.toNat_natCast])
      have hgr := freeG_rng (f := f) Hf.out
      have Hcf := hid (free_any V (some ⟨b, off, none⟩) cap fs f wr (Hx0.out.later HBw.out HBw.out.size) hl Hf.out hf64)
      have Hhit := hid (fun hg hl => firstP_hit (ls := ls) hlt hf.symm (by rw [Int.toNat_natCast]; exact hg) hl Hpre.out)
      have Hmem : Hid (freeG fs f ≠ 0 → ((f : Int), freeG fs f) ∈ freeP fs fs) := hid (fun hg => mem_freeP.2 ⟨hfm, by rw [Int.toNat_natCast]; exact hg, by simp⟩)
      rw [Int.toNat_natCast] at Hhit
      obtain ⟨G, hG⟩ : ∃ G, G = freeG fs f := ⟨_, rfl⟩
      rw [← hG] at Hn hgr Hcf Hhit Hmem
      clear hc hf hG hfm
      go_wp2_with fail
      refine Hcf.out.mono ?_
      rintro e w2 ⟨rfl, hB2⟩
      have hs2 := hB2.size
      have HB2 := hid (hB.trans (hB2.mono hsz))
      by_cases hG : G = 0
      · subst hG
        have HP : Hid (freeP fs (fs.take (k + 1)) = freeP fs (fs.take k)) := hid (Hn.out.trans (by simp))
        clear Hn k0 k1 hck hB hB2
        go_wp2_with fail
        go_roundg g
        case measure => omega
        case rel => exact ⟨k + 1, by omega, by go_num, by rw [HP.out]; exact Hpre, HB2.out⟩
      · have hG0 : 0 < G := by omega
        have HP : Hid (freeP fs (fs.take (k + 1)) = freeP fs (fs.take k) ++ [((f : Int), G)]) := hid (Hn.out.trans (by rw [if_neg hG]))
        have HQ2 := hid ((hB2.block _ (lt_get HQ.out)).trans HQ.out)
        have HR2 := hid ((hB2.block _ (lt_get HR.out)).trans HR.out)
        have HB02 := hid (HBw.out.trans (hB2.mono HBw.out.size))
        have Hmm := hid (Hmem.out hG)
        have HhG := hid (Hhit.out hG)
        obtain ⟨l0, l1, _, _⟩ := two_of HQ2.out
        clear Hn k0 k1 hck hB hB2 hG Hmem Hhit
        by_cases hfl : (f : Int) ∈ ls
        · have Hfl := hid hfl
          clear hfl
          go_wp2_with fail
          refine (has_yes V1 (f : Int) a1 cap1 ls _ (Hx1.out.later HB02.out HB02.out.size) hl1 Hfl.out).mono ?_
          rintro e w3 ⟨rfl, hB3⟩
          have HB3 := hid (HB2.out.trans (hB3.mono (by omega)))
          clear l0 l1 hB3
          go_wp2_with fail
          go_roundg g
          case measure => omega
          case rel =>
            refine ⟨k + 1, by omega, by go_num, hid ?_, HB3.out⟩
            intro p hp
            rw [HP.out] at hp
            rcases List.mem_append.1 hp with h | h
            · exact Hpre.out p h
            · simp at h; subst h; exact Hfl.out
        · have Hfl := hid hfl
          have HGl : Hid (G ∉ ls) := hid (fun e => hfl (HL.out _ Hmm.out e))
          have HE := hid (HF.out.trans (HhG.out hfl))
          clear hfl
          go_wp2_with fail
          refine (has_no V1 (f : Int) a1 cap1 ls _ (Hx1.out.later HB02.out HB02.out.size) hl1 Hfl.out).mono ?_
          rintro e w3 ⟨rfl, hB3⟩
          have hs3 := hB3.size
          have HB03 := hid (HB02.out.trans (hB3.mono HB02.out.size))
          have HQ3 := hid ((hB3.block _ (lt_get HQ2.out)).trans HQ2.out)
          have HR3 := hid ((hB3.block _ (lt_get HR2.out)).trans HR2.out)
          clear l0 l1 hB3
          obtain ⟨l0, l1, _, _⟩ := two_of HQ3.out
          go_wp2_with fail
          refine (has_no V1 G a1 cap1 ls _ (Hx1.out.later HB03.out HB03.out.size) hl1 HGl.out).mono ?_
          rintro e w4 ⟨rfl, hB4⟩
          have HB04 := hid (HB03.out.trans (hB4.mono HB03.out.size))
          have HR4 := hid ((hB4.block _ (lt_get HR3.out)).trans HR3.out)
          obtain ⟨c0, c1, f0, f1⟩ := two_of HR4.out
          clear l0 l1 hB4
          go_wp2_with fail
          (try simp only [Exit.inBlock, Exit.then])
          have R3 := two_of (two_set HR4.out (.int .i64 (f : Int)) (.int .i64 G))
          refine done_pr (p := 4) (u := 5) (c := .bool true) (by kernel_rfl) rfl rfl R3.1 R3.2.1 rfl ⟨by rw [HE.out]; rfl, ?_⟩
          exact (HB04.out.setCell (p := ⟨w.heap.size + 1 + 1, 0, none⟩) (by show w.heap.size ≤ w.heap.size + 1 + 1; omega) _).setCell (p := ⟨w.heap.size + 1 + 1, 1, none⟩) (by show w.heap.size ≤ w.heap.size + 1 + 1; omega) _

end Go.Proofs.Ytojnpacklcajpaa

/-! Joins: copies of lists. -/
namespace Go.Proofs.Ytojnpacklcajpaa
open Go.RowKit

/-- 'append([]int64{}, list...)' of a list that lies in memory. -/
theorem append_all {w : World} {ops : Array Oper} {rest : List Oper} {o : Oper} {a : Act} {Q : Exit → Act → World → Prop} (hgd : o.guard = none) {s y : Operand}
    (ho : o.op = .call { callee := .builtin .append, args := #[s, y], argTypes := #[22, 22] })
    {b off cap : Nat} {xs : List Int} (hl : xs.length ≤ 1048576) (hc : ∀ i, i < xs.length → w.cell? ⟨b, off + i, none⟩ = some (.int .i64 (xs[i]?.getD 0)))
    (hs : a.eval s = .slice (some ⟨w.heap.size, 0, none⟩) 0 0) (hy : a.eval y = .slice (some ⟨b, off, none⟩) xs.length cap)
    (hK : ∀ v' w', w'.ownsRow w.heap.size 2 1 v' xs.length (xs.map (Value.int .i64)) → Below w.heap.size w w' → (v' = .slice none 0 0 → False) → wpList Try.prog ops Q rest (a.put o.dst v') w') :
    wpList Try.prog ops Q (o :: rest) a (w.alloc (.cells #[] 2)) := by
  obtain ⟨i0, hi, hz0, hz1, hz2⟩ := info_parts info_i64
  refine wpList_append_own _ hgd s y 22 ho w.heap.size 2 i0 (.int .i64 0) 1 8 Try.underlying22 hi hz0 hz1 hz2 rfl (by decide) (.slice (some ⟨w.heap.size, 0, none⟩) 0 0) 0 [] hs (World.ownsRow_made w #[] 0 (Nat.le_refl _) (Nat.zero_le _) rfl) ⟨b, off, none⟩ xs.length cap (xs.map (Value.int .i64)) hy (by simp) ?_ (fun u hu => by obtain ⟨x, _, rfl⟩ := List.mem_map.1 hu; rfl) (by unfold maxLen; omega) (by omega) (by simp) ?_
  · intro j u hj
    have hjn : j < xs.length := by
      have := (List.getElem?_eq_some_iff.1 hj).1
      simpa using this
    rw [Addr.add_lit]
    refine (World.cell?_alloc_some w _ _ (show (w.cell? _).isSome = true by rw [hc j hjn]; rfl)).trans ?_
    rw [hc j hjn, ← hj]
    simp [List.getElem?_eq_getElem hjn]
  · intro v' w1 hown hgrow hnil
    refine hK v' w1 (by simpa using hown) (((Below.refl _ w).alloc (Nat.le_refl _) _).grown hgrow (by simp) (by intro k hk; simp [Value.ownBlock] at hk; omega)) (fun e => ?_)
    have := (hnil.1 e).1
    simp at this

theorem own_any (a0 : Option Addr) (cap : Nat) (xs : List Int) (w : World) (hx : SlI w w.heap.size a0 xs) (hl : xs.length ≤ 1048576) :
    Calls Try.prog 103 #[.slice a0 xs.length cap] w fun e w' => ∃ v, e = .returned v ∧ Res w w' v xs := by
  rcases hx with rfl | ⟨b, off, hb, rfl, hc⟩
  · have hr : Res w (w.alloc (.cells #[] 2)) (.slice (some ⟨w.heap.size, 0, none⟩) 0 0) [] := ⟨World.ownsRow_made w #[] 0 (Nat.le_refl _) (Nat.zero_le _) rfl, (Below.refl _ w).alloc (Nat.le_refl _) _⟩
    have Hr := hid hr
    clear hr
    cases a0 with
    | none =>
      go_enter Try.func103, Try.ntmps103
      go_wp2_with fail
      go_ret
      exact ⟨_, rfl, Hr.out⟩
    | some ad =>
      go_enter Try.func103, Try.ntmps103
      go_wp2_with fail
      go_ret
      exact ⟨_, rfl, Hr.out⟩
  · have Hc := hid hc
    clear hc
    go_enter Try.func103, Try.ntmps103
    go_wp2_with (at_builtin; refine append_all rfl rfl hl Hc.out rfl rfl ?_; intro v' w1 hown hB _)
    go_ret
    exact ⟨v', rfl, hown, hB⟩

/-- step_append_new in a plain region. -/
theorem plain_append_new {W : World} {H : Nat} {ops : Array Oper} {rest : List Oper} {o : Oper} {a : Act} {Q : Exit → Act → World → Prop} (hgd : o.guard = none) {s y : Operand}
    (ho : o.op = .call { callee := .builtin .append, args := #[s, y], argTypes := #[22, 22] })
    {base : Nat} {v : Value} {xs : List Int} {x : Int} (hown : W.ownsRow base 2 1 v xs.length (xs.map (Value.int .i64))) (hH : W.heap.size = H) (hbase : base ≤ H) (hl : xs.length ≤ 1099511627776)
    (hs : a.eval s = v) (hy : a.eval y = .slice (some ⟨H, 0, none⟩) 1 1)
    (hK : ∀ g cap w', w'.ownsRow base 2 1 (.slice (some ⟨g, 0, none⟩) (xs ++ [x]).length cap) (xs ++ [x]).length ((xs ++ [x]).map (Value.int .i64)) → (W.alloc (.cells #[.int .i64 x] 2)).grownBy w' v.ownBlock →
      wpList Try.prog ops Q rest (a.put o.dst (.slice (some ⟨g, 0, none⟩) (xs ++ [x]).length cap)) w') :
    wpList Try.prog ops Q (o :: rest) a (W.alloc (.cells #[.int .i64 x] 2)) := by
  subst hH
  obtain ⟨i0, hi, hz0, hz1, hz2⟩ := info_parts info_i64
  refine wpList_append_lies (W.alloc (.cells #[.int .i64 x] 2)) hgd s y 22 ho base 2 i0 (.int .i64 0) 1 8 Try.underlying22 hi hz0 hz1 hz2 rfl (by decide) v _ _ hs (hown.alloc _) ⟨W.heap.size, 0, none⟩ 1 1 [.int .i64 x] hy rfl (cell_one_new _ _ _) (by simp [Value.oneCell']) (by decide) (by unfold maxLen; omega) (by omega) (by simp; omega) _ rfl ?_
  intro g cap w1 hown1 hg _ _
  have e : (xs ++ [x]).length = xs.length + 1 := by simp
  have h := hK g cap w1 (by rw [e]; simpa using hown1) hg
  rw [e] at h
  exact h

end Go.Proofs.Ytojnpacklcajpaa

/-! l01Copy: the model's copy of a complex. -/
namespace Go.Proofs.Ytojnpacklcajpaa
open Go.RowKit

set_option maxRecDepth 100000 in
set_option maxHeartbeats 2000000 in
theorem copy_any (V : Int) (a0 : Option Addr) (cap : Nat) (fs : List Int) (w : World) (hx : SlI w w.heap.size a0 fs) (hl : fs.length ≤ 1048576) :
    Calls Try.prog 71 #[.agg #[.int .i64 V, .slice a0 fs.length cap]] w fun e w' => ∃ v, e = .returned (.agg #[.int .i64 V, v]) ∧ Res w w' v fs := by
  have hB0 : Below w.heap.size w ((w.alloc (.cells #[.int .i64 V, .slice a0 fs.length cap] 29)).alloc (.cells #[.int .i64 0, .slice none 0 0] 29)) := ((Below.refl _ w).alloc (Nat.le_refl _) _).alloc (by simp) _
  obtain ⟨W, hW⟩ : ∃ W, W = (w.alloc (.cells #[.int .i64 V, .slice a0 fs.length cap] 29)).alloc (.cells #[.int .i64 0, .slice none 0 0] 29) := ⟨_, rfl⟩
  have Q0 := hid (show W.heap[w.heap.size]? = some (.cells #[.int .i64 V, .slice a0 fs.length cap] 29 (0, 0)) by rw [hW, Below.heap_alloc _ _ _ (by simp)]; exact heap_alloc_new _ _)
  have R0 := hid (show W.heap[w.heap.size + 1]? = some (.cells #[.int .i64 0, .slice none 0 0] 29 (0, 0)) by rw [hW]; exact new2 _ _ _)
  have HBW : Hid (Below w.heap.size w W) := hid (by rw [hW]; exact hB0)
  have HxW := hid (hx.later HBW.out HBW.out.size)
  obtain ⟨k0, k1, _, _⟩ := two_of Q0.out
  have HW := hid hW
  clear hB0 hW hx
  go_enter Try.func71, Try.ntmps71
  go_wp2_with fail
  rw [← HW.out]
  go_region_with (go_at_call 103; refine (own_any a0 cap fs W.drew HxW.out hl).mono ?_; rintro e w1 ⟨v, rfl, hr⟩; obtain ⟨_, av, cv, rfl, _⟩ := ownsRow_slI hr.1; have hrb : Below W.heap.size W w1 := ⟨hr.2.os, hr.2.tape, hr.2.output, hr.2.size, hr.2.block⟩; have r1 := (hrb.block _ (lt_get R0.out)).trans R0.out; obtain ⟨c0, c1, f0, f1⟩ := two_of r1; have k01 := (hrb.cell (p := ⟨w.heap.size, 0, none⟩) (lt_get Q0.out)).trans k0; have k11 := (hrb.cell (p := ⟨w.heap.size, 1, none⟩) (lt_get Q0.out)).trans k1; have R1 := hid r1; clear r1 hrb)
  all_goals
    go_wp2_with fail
    (try simp only [Exit.inBlock, Exit.then])
    have R2 := two_of (two_set R1.out (.int .i64 V) (.slice av fs.length cv))
    refine done_cx1 (p := 2) (by kernel_rfl) rfl rfl R2.1 R2.2.1 ⟨_, rfl, ?_⟩
    exact (Res.later hr ⟨HBW.out.os, HBW.out.tape, HBW.out.output, HBW.out.size, HBW.out.block⟩).set2 R1.out (by decide) (by omega) _ _

end Go.Proofs.Ytojnpacklcajpaa

/-! The model's l05Collapse. -/
namespace Go.Proofs.Ytojnpacklcajpaa
open Go.RowKit

set_option maxRecDepth 100000 in
set_option maxHeartbeats 8000000 in
theorem colS_any (V : Int) (a0 : Option Addr) (cap : Nat) (fs : List Int) (V1 : Int) (a1 : Option Addr) (cap1 : Nat) (ls : List Int) (w : World) (hx : SlI w w.heap.size a0 fs) (hx1 : SlI w w.heap.size a1 ls) (hl : fs.length ≤ 1048576) (hl1 : ls.length ≤ 1048576) (hf : ∀ x ∈ fs, 1 ≤ x ∧ x ≤ 63) (hL : ∀ cur : List Int, cur.Sublist fs → LowIn cur ls) :
    Calls Try.prog 63 #[.agg #[.int .i64 V, .slice a0 fs.length cap], .agg #[.int .i64 V1, .slice a1 ls.length cap1]] w fun e w' => ∃ v q, e = .returned (.tuple #[.agg #[.int .i64 V, v], q]) ∧ Res w w' v (colE ls fs).1 ∧ ResP w w' q (colE ls fs).2 ∧ Apart v q := by
  have hB0 : Below w.heap.size w ((((w.alloc (.cells #[.int .i64 V, .slice a0 fs.length cap] 29)).alloc (.cells #[.int .i64 V1, .slice a1 ls.length cap1] 29)).alloc (.cells #[.int .i64 0, .slice none 0 0] 29)).alloc (.cells #[] 63)) := ((((Below.refl _ w).alloc (Nat.le_refl _) _).alloc (by simp) _).alloc (by simp <;> omega) _).alloc (by simp <;> omega) _
  obtain ⟨W, hW⟩ : ∃ W, W = (((w.alloc (.cells #[.int .i64 V, .slice a0 fs.length cap] 29)).alloc (.cells #[.int .i64 V1, .slice a1 ls.length cap1] 29)).alloc (.cells #[.int .i64 0, .slice none 0 0] 29)).alloc (.cells #[] 63) := ⟨_, rfl⟩
  have Q0 := hid (show W.heap[w.heap.size]? = some (.cells #[.int .i64 V, .slice a0 fs.length cap] 29 (0, 0)) by rw [hW, Below.heap_alloc _ _ _ (by simp <;> omega), Below.heap_alloc _ _ _ (by simp <;> omega), Below.heap_alloc _ _ _ (by simp)]; exact heap_alloc_new _ _)
  have Q1 := hid (show W.heap[w.heap.size + 1]? = some (.cells #[.int .i64 V1, .slice a1 ls.length cap1] 29 (0, 0)) by rw [hW, Below.heap_alloc _ _ _ (by simp <;> omega), Below.heap_alloc _ _ _ (by simp)]; exact new2 _ _ _)
  have R1 := hid (show W.heap[w.heap.size + 1 + 1]? = some (.cells #[.int .i64 0, .slice none 0 0] 29 (0, 0)) by rw [hW, Below.heap_alloc _ _ _ (by simp)]; exact new3 _ _ _ _)
  have hown0 := World.ownsRow_made (base := w.heap.size) (e := 63) (size := 2) (((w.alloc (.cells #[.int .i64 V, .slice a0 fs.length cap] 29)).alloc (.cells #[.int .i64 V1, .slice a1 ls.length cap1] 29)).alloc (.cells #[.int .i64 0, .slice none 0 0] 29)) #[] 0 (by simp <;> omega) (by simp [maxLen]) rfl
  rw [← hW] at hown0
  simp only [World.size_alloc] at hown0
  have Hown0 := hid hown0
  have HBW : Hid (Below w.heap.size w W) := hid (by rw [hW]; exact hB0)
  have HW := hid hW
  have Hx0 := hid hx
  have Hx1 := hid hx1
  have Hf := hid hf
  have HL := hid hL
  have HCP := hid (copy_any V a0 cap fs W (Hx0.out.later HBW.out HBW.out.size) hl)
  obtain ⟨k0, k1, z0, z1⟩ := two_of Q0.out
  clear hf hx hx1 hB0 hW hL hown0
  go_enter Try.func63, Try.ntmps63
  go_wp2_with fail
  rw [← HW.out]
  refine HCP.out.mono ?_
  rintro e w2 ⟨v2, rfl, hr2⟩
  obtain ⟨_, av2, cv2, rfl, _⟩ := ownsRow_slI hr2.1
  have Q02 := hid ((hr2.2.block _ (lt_get Q0.out)).trans Q0.out)
  obtain ⟨j0, j1, y0, y1⟩ := two_of Q02.out
  have H0 : Hid (ColW w ((w2.setCell ⟨w.heap.size, 0, none⟩ (.int .i64 V)).setCell ⟨w.heap.size, 1, none⟩ (.slice av2 fs.length cv2)) V1 (.slice a1 ls.length cap1) w.heap.size V fs av2 cv2 [] (.slice (some ⟨w.heap.size + 1 + 1 + 1, 0, none⟩) 0 0)) := hid (by
    have hB := HBW.out.trans (hr2.2.mono HBW.out.size)
    have e : ∀ k, k ≠ w.heap.size → ((w2.setCell ⟨w.heap.size, 0, none⟩ (.int .i64 V)).setCell ⟨w.heap.size, 1, none⟩ (.slice av2 fs.length cv2)).heap[k]? = w2.heap[k]? := fun k hk => (Below.heap_setCell _ _ _ _ hk).trans (Below.heap_setCell _ _ _ _ hk)
    have hp := ownsRow_below Hown0.out hr2.2 (fun g hg => (Hown0.out.lt g hg).2)
    have hx := row_ne_any hr2.1 Q02.out (by decide)
    have hy := row_ne_any hp Q02.out (by decide)
    refine ⟨(e _ (by omega)).trans ((hr2.2.block _ (lt_get Q1.out)).trans Q1.out), (e _ (by omega)).trans ((hr2.2.block _ (lt_get R1.out)).trans R1.out), two_set Q02.out _ _, ?_, ?_, ?_, by omega, by omega, by omega⟩
    · exact ownsRow_set (ownsRow_set (ownsRow_base hr2.1 HBW.out.size) (fun e => hx e.symm) _) (fun e => hx e.symm) _
    · exact ownsRow_set (ownsRow_set (by simpa [flatP] using hp) (fun e => hy e.symm) _) (fun e => hy e.symm) _
    · exact (hB.setCell (p := ⟨w.heap.size, 0, none⟩) (Nat.le_refl _) _).setCell (p := ⟨w.heap.size, 1, none⟩) (Nat.le_refl _) _)
  clear hr2 k0 k1 z0 z1 Q0 Q1 R1 HCP Hown0 Q02
  go_wp2_with fail
  clear j0 j1 y0 y1
  go_loopg [6] fs.length (fun g p wr => ∃ (n : Nat) (cur : List Int) (P : List (Int × Int)) (av : Option Addr) (cv : Nat), Hid (cur.length ≤ g) ∧ Hid (ColAt ls fs n cur P) ∧ Hid (ColW w wr V1 (.slice a1 ls.length cap1) w.heap.size V cur av cv P p))
  case atStart => exact ⟨0, fs, [], av2, cv2, hid (Nat.le_refl _), hid (ColAt.start ls fs), H0⟩
  case round =>
    clear H0
    obtain ⟨n, cur, P, av, cv, Hg, HA, HC⟩ := hrel
    obtain ⟨k0, k1, _, _⟩ := two_of HC.out.left
    obtain ⟨l0, l1, _, _⟩ := two_of HC.out.lbox
    have hcl : cur.length ≤ 1048576 := Nat.le_trans HA.out.sub.length_le hl
    have Hcf := hid (fun x hx => Hf.out x (HA.out.sub.subset hx))
    have HFI := hid (firstS_any V av cv cur V1 a1 cap1 ls wr (owned_slI HC.out.row) (Hx1.out.later HC.out.below HC.out.below.size) hcl hl1 Hcf.out (HL.out cur HA.out.sub))
    cases hfp : firstP cur ls with
    | none =>
      rw [hfp] at HFI
      simp only [prO, Option.getD_none, Option.isSome_none] at HFI
      have HE := hid (HA.out.stop hfp)
      clear hfp
      go_wp2_with fail
      refine HFI.out.mono ?_
      rintro e w3 ⟨rfl, hB3⟩
      have HC3 := hid (HC.out.keep (hB3.alloc hB3.size (.cells #[.int .i64 0, .int .i64 0] 63)))
      obtain ⟨c0, c1, f0, f1⟩ := two_of HC3.out.res
      obtain ⟨j0, j1, _, _⟩ := two_of HC3.out.left
      clear k0 k1 l0 l1 hB3
      go_wp2_with fail
      (try simp only [Exit.inBlock, Exit.then])
      have R3 := two_of (two_set HC3.out.res (.int .i64 V) (.slice av cur.length cv))
      refine done_cx (p := 4) (u := 5) (by kernel_rfl) rfl rfl R3.1 R3.2.1 rfl ?_
      have hx := row_ne_any HC3.out.row HC3.out.res (by decide)
      have hy := row_ne_any HC3.out.prs HC3.out.res (by decide)
      have hBf := (HC3.out.below.setCell (p := ⟨w.heap.size + 1 + 1, 0, none⟩) (by show w.heap.size ≤ w.heap.size + 1 + 1; omega) (.int .i64 V)).setCell (p := ⟨w.heap.size + 1 + 1, 1, none⟩) (by show w.heap.size ≤ w.heap.size + 1 + 1; omega) (.slice av cur.length cv)
      have hr3 := ownsRow_set (ownsRow_set HC3.out.row (a := ⟨w.heap.size + 1 + 1, 0, none⟩) (fun e => hx e.symm) (.int .i64 V)) (a := ⟨w.heap.size + 1 + 1, 1, none⟩) (fun e => hx e.symm) (.slice av cur.length cv)
      have hp3 := ownsRow_set (ownsRow_set HC3.out.prs (a := ⟨w.heap.size + 1 + 1, 0, none⟩) (fun e => hy e.symm) (.int .i64 V)) (a := ⟨w.heap.size + 1 + 1, 1, none⟩) (fun e => hy e.symm) (.slice av cur.length cv)
      rw [HE.out]
      exact ⟨_, _, rfl, ⟨hr3, hBf⟩, ⟨hp3, hBf⟩, apart_ty hr3 hp3 (by decide)⟩
    | some p =>
      rw [hfp] at HFI
      obtain ⟨x, y⟩ := p
      simp only [prO, Option.getD_some, Option.isSome_some] at HFI
      have hfs := firstP_some hfp
      have hxr := Hcf.out x hfs.1
      have HA2 := hid (HA.out.step hfp)
      have Hlt := hid (take_lt hfs.1)
      have hPl : P.length ≤ 1048576 := by have := HA.out.plen; have := HA.out.len; omega
      simp only at HA2 Hlt
      obtain ⟨xn, rfl⟩ : ∃ xn : Nat, x = xn := ⟨x.toNat, by omega⟩
      have hx64 : xn < 64 := by omega
      obtain ⟨ys, hys⟩ : ∃ ys, ys = takeL cur (xn : Int) := ⟨_, rfl⟩
      rw [← hys] at HA2 Hlt
      have Hys := hid hys
      clear hfp hfs hys
      go_wp2_with fail
      refine HFI.out.mono ?_
      rintro e w3 ⟨rfl, hB3⟩
      obtain ⟨w4, hw4⟩ : ∃ w4, w4 = w3.alloc (.cells #[.int .i64 (xn : Int), .int .i64 y] 63) := ⟨_, rfl⟩
      have HC4 := hid (show ColW w w4 V1 (.slice a1 ls.length cap1) w.heap.size V cur av cv P _ by rw [hw4]; exact HC.out.keep (hB3.alloc hB3.size (.cells #[.int .i64 (xn : Int), .int .i64 y] 63)))
      have P4 := hid (show w4.heap[w3.heap.size]? = some (.cells #[.int .i64 (xn : Int), .int .i64 y] 63 (0, 0)) by rw [hw4]; exact heap_alloc_new _ _)
      have HW4 := hid hw4
      obtain ⟨j0, j1, _, _⟩ := two_of HC4.out.left
      obtain ⟨p0, p1, _, _⟩ := two_of P4.out
      have hs3 := hB3.size
      rw [HW4.out] at j0 j1 p0 p1
      clear k0 k1 l0 l1 hB3 hw4
      go_wp2_with fail
      rw [← HW4.out]
      refine (take_any V av cv cur xn w4 (owned_slI HC4.out.row) hcl Hcf.out hx64).mono ?_
      rintro e w5 ⟨v, rfl, hr⟩
      rw [← Hys.out] at hr
      obtain ⟨_, a5, c5, rfl, _⟩ := ownsRow_slI hr.1
      have HC5 := hid (HC4.out.keep hr.2)
      obtain ⟨i0, i1, g0, g1⟩ := two_of HC5.out.left
      have P5 := hid ((hr.2.block _ (lt_get P4.out)).trans P4.out)
      obtain ⟨w6, hw6⟩ : ∃ w6, w6 = (w5.setCell ⟨w.heap.size, 0, none⟩ (.int .i64 V)).setCell ⟨w.heap.size, 1, none⟩ (.slice a5 ys.length c5) := ⟨_, rfl⟩
      have HC6 := hid (HC5.out.put (ownsRow_base hr.1 HC4.out.below.size))
      have hne : w3.heap.size ≠ w.heap.size := by
        intro e
        have h1 := P5.out
        rw [e, HC5.out.left] at h1
        simp at h1
      have P6 := hid (show w6.heap[w3.heap.size]? = some (.cells #[.int .i64 (xn : Int), .int .i64 y] 63 (0, 0)) by rw [hw6]; exact (Below.heap_setCell _ _ _ _ hne).trans ((Below.heap_setCell _ _ _ _ hne).trans P5.out))
      rw [← hw6] at HC6
      obtain ⟨b0, b1, _, _⟩ := two_of P6.out
      rw [hw6] at b0 b1
      have hown6 := HC6.out.prs
      rw [hw6] at hown6
      have hs6 := HC6.out.below.size
      rw [hw6] at hs6
      have hsz6 : ((w5.setCell ⟨w.heap.size, 0, none⟩ (.int .i64 V)).setCell ⟨w.heap.size, 1, none⟩ (.slice a5 ys.length c5)).heap.size = w5.heap.size := by simp [World.setCell]
      clear j0 j1 p0 p1 hr HC5 P5
      go_wp2_with (at_builtin; refine append_pair rfl rfl hown6 hs6 (by omega) rfl (by rw [hsz6]; rfl) ?_; intro v' w7 hown7 hgrow7 hB7)
      go_roundg ys.length
      case measure => have h1 := Hg.out; have h2 := Hlt.out; omega
      case rel => exact ⟨n + 1, ys, P ++ [((xn : Int), y)], a5, c5, hid (Nat.le_refl _), HA2, hid (HC6.out.push (by rw [hw6]; exact hgrow7) hown7)⟩

end Go.Proofs.Ytojnpacklcajpaa

/-! slices.ContainsFunc over a closure with one captured variable; the program's isPart. -/
namespace Go.Proofs.Ytojnpacklcajpaa
open Go.RowKit

set_option maxRecDepth 100000 in
set_option maxHeartbeats 2000000 in
theorem idxg_any (a : Option Addr) (cap : Nat) (xs : List Int) (w : World) (fid : Nat) (c1 : Value) (p : Int → Bool) (hx : SlI w w.heap.size a xs) (hl : xs.length ≤ 1048576)
    (hent : ∀ args w, (callFunc fid args).run Try.prog w = .ok (.enter fid args) w)
    (hcl : ∀ W' x, Below w.heap.size w W' → x ∈ xs → Calls Try.prog fid #[.int .i64 x, c1] W' fun e w' => e = .returned (.bool (p x)) ∧ Below W'.heap.size W' w') :
    Calls Try.prog 116 #[.slice a xs.length cap, .func (.func fid) #[] #[c1]] w fun e w' => ∃ i : Int, e = .returned (.int .i64 i) ∧ -1 ≤ i ∧ (0 ≤ i ↔ ∃ x ∈ xs, p x = true) ∧ Below w.heap.size w w' := by
  rcases hx with rfl | ⟨b, off, hb, rfl, hc⟩
  · clear hcl
    go_enter Try.func116, Try.ntmps116
    go_wp2
    refine wp_loop_rounds 1 ?_; rw [rounds_succ]
    go_wp2
    go_ret
    exact ⟨-1, rfl, by decide, by simp, Below.refl _ _⟩
  · have Hc := hid hc
    have Hcl := hid hcl
    clear hc hcl
    go_enter Try.func116, Try.ntmps116
    go_wp2
    go_loopw [8] (fun i wr => ∃ k : Nat, k ≤ xs.length ∧ i = .int .i64 k ∧ Hid (∀ x ∈ xs.take k, p x = false) ∧ Below w.heap.size w wr) (fun i _ => xs.length - (intOf i).toNat)
    case atStart => exact ⟨0, Nat.zero_le _, rfl, hid (by simp), Below.refl _ _⟩
    case round =>
      obtain ⟨k, hk, rfl, Hk, hB⟩ := hrel
      by_cases hlt : k < xs.length
      · obtain ⟨y, hy⟩ : ∃ y, y = xs[k]?.getD 0 := ⟨_, rfl⟩
        have hck : wr.cell? ⟨b, off + k, none⟩ = some (.int .i64 y) := by rw [hy]; exact (hB.cell (p := ⟨b, off + k, none⟩) hb).trans (Hc.out k hlt)
        have hym : y ∈ xs := by rw [hy]; exact getD_mem hlt
        have Hy := hid hy
        have hi0 : (0 : Int) ≤ (k : Int) := by omega
        have hi1 : (k : Int) < (xs.length : Int) := by omega
        have Hcall := hid (Hcl.out wr y hB hym)
        have hsz := hB.size
        clear hy
        go_wp2_with fail
        refine Hcall.out.mono ?_
        rintro e w1 ⟨rfl, hB1⟩
        have HB1 := hid (hB.trans (hB1.mono hsz))
        clear hck
        by_cases hpy : p y = true
        · have He : Hid (∃ x ∈ xs, p x = true) := hid ⟨y, hym, hpy⟩
          rw [hpy]
          go_wp2_with fail
          go_ret
          exact ⟨k, rfl, by omega, ⟨fun _ => He.out, fun _ => by omega⟩, HB1.out⟩
        · have hpf : p y = false := by simpa using hpy
          have He : Hid (∀ x ∈ xs.take (k + 1), p x = false) := hid (by
            rw [take_snoc hlt, ← Hy.out]
            intro x h
            rcases List.mem_append.1 h with h | h
            · exact Hk.out x h
            · simp at h; rw [h]; exact hpf)
          rw [hpf]
          clear hpy hpf
          go_wp2_with fail
          go_roundw
          case rel => exact ⟨k + 1, by omega, by go_num, He, HB1.out⟩
          case measure => simp [intOf]; omega
      · have He : Hid (¬ ∃ x ∈ xs, p x = true) := hid (by
          have := Hk.out
          rw [List.take_of_length_le (by omega)] at this
          rintro ⟨x, hx, hne⟩
          rw [this x hx] at hne
          cases hne)
        go_wp2
        go_ret
        exact ⟨-1, rfl, by decide, ⟨fun h => absurd h (by decide), fun h => absurd h He.out⟩, hB⟩

set_option maxRecDepth 100000 in
set_option maxHeartbeats 1000000 in
theorem containsg_any (a : Option Addr) (cap : Nat) (xs : List Int) (w : World) (fid : Nat) (c1 : Value) (p : Int → Bool) (hx : SlI w w.heap.size a xs) (hl : xs.length ≤ 1048576)
    (hent : ∀ args w, (callFunc fid args).run Try.prog w = .ok (.enter fid args) w)
    (hcl : ∀ W' x, Below w.heap.size w W' → x ∈ xs → Calls Try.prog fid #[.int .i64 x, c1] W' fun e w' => e = .returned (.bool (p x)) ∧ Below W'.heap.size W' w') :
    Calls Try.prog 96 #[.slice a xs.length cap, .func (.func fid) #[] #[c1]] w fun e w' => e = .returned (.bool (decide (∃ x ∈ xs, p x = true))) ∧ Below w.heap.size w w' := by
  have HI := hid (idxg_any a cap xs w fid c1 p hx hl hent hcl)
  obtain ⟨c, hc⟩ : ∃ c, c = decide (∃ x ∈ xs, p x = true) := ⟨_, rfl⟩
  have Hc := hid hc
  rw [← hc]
  clear hc hx hcl hent
  go_enter Try.func96, Try.ntmps96
  go_wp2_with fail
  refine HI.out.mono ?_
  rintro e w' ⟨i, rfl, h1, h2, hB⟩
  have Hi := hid h2
  have H1 := hid h1
  clear h1 h2
  by_cases h0 : 0 ≤ i
  · have He : Hid (c = true) := hid (by rw [Hc.out]; exact decide_eq_true (Hi.out.1 h0))
    go_wp2_with fail
    go_ret
    exact ⟨ret_bool (by rw [He.out]), hB⟩
  · have He : Hid (c = false) := hid (by rw [Hc.out]; exact decide_eq_false (fun h => h0 (Hi.out.2 h)))
    have hlt : i < 0 := by omega
    go_wp2_with fail
    go_ret
    exact ⟨ret_bool (by rw [He.out]; simp [hlt]), hB⟩

theorem partWanted (fs : List Int) (V : Int) (a0 : Option Addr) (cap : Nat) (bd : Nat) (x : Int) (w : World) (hd : w.heap[bd]? = some (.cells #[.int .i64 V, .slice a0 fs.length cap] 29 (0, 0))) (hx : SlI w w.heap.size a0 fs) (hl : fs.length ≤ 1048576) :
    Calls Try.prog 97 #[.int .i64 x, .pointer (some ⟨bd, 0, none⟩)] w fun e w' => e = .returned (.bool (decide (x ∉ fs))) ∧ Below w.heap.size w w' := by
  have Hc := hid (contains_any a0 cap fs x w hx hl)
  obtain ⟨k0, k1, _, _⟩ := two_of hd
  clear hx hd
  go_enter Try.func97, Try.ntmps97
  go_wp2_with fail
  refine Hc.out.mono ?_
  rintro e w1 ⟨rfl, rfl⟩
  go_wp2_with fail
  go_ret
  exact ⟨ret_bool (by simp), Below.refl _ _⟩

/-- Whether a complex is a part of another one. -/
def partB (V : Int) (fs : List Int) (V1 : Int) (ls : List Int) : Bool := decide (V = V1) && decide (∀ x ∈ ls, x ∈ fs)

set_option maxRecDepth 100000 in
set_option maxHeartbeats 1000000 in
theorem isPart_any (V : Int) (a0 : Option Addr) (cap : Nat) (fs : List Int) (V1 : Int) (a1 : Option Addr) (cap1 : Nat) (ls : List Int) (w : World) (hx : SlI w w.heap.size a0 fs) (hx1 : SlI w w.heap.size a1 ls) (hl : fs.length ≤ 1048576) (hl1 : ls.length ≤ 1048576) :
    Calls Try.prog 65 #[.agg #[.int .i64 V, .slice a0 fs.length cap], .agg #[.int .i64 V1, .slice a1 ls.length cap1]] w fun e w' => e = .returned (.bool (partB V fs V1 ls)) ∧ Below w.heap.size w w' := by
  have hB0 : Below w.heap.size w ((w.alloc (.cells #[.int .i64 V, .slice a0 fs.length cap] 29)).alloc (.cells #[.int .i64 V1, .slice a1 ls.length cap1] 29)) := ((Below.refl _ w).alloc (Nat.le_refl _) _).alloc (by simp) _
  obtain ⟨W, hW⟩ : ∃ W, W = (w.alloc (.cells #[.int .i64 V, .slice a0 fs.length cap] 29)).alloc (.cells #[.int .i64 V1, .slice a1 ls.length cap1] 29) := ⟨_, rfl⟩
  have Q0 := hid (show W.heap[w.heap.size]? = some (.cells #[.int .i64 V, .slice a0 fs.length cap] 29 (0, 0)) by rw [hW, Below.heap_alloc _ _ _ (by simp)]; exact heap_alloc_new _ _)
  have Q1 := hid (show W.heap[w.heap.size + 1]? = some (.cells #[.int .i64 V1, .slice a1 ls.length cap1] 29 (0, 0)) by rw [hW]; exact new2 _ _ _)
  have HBW : Hid (Below w.heap.size w W) := hid (by rw [hW]; exact hB0)
  have HxW := hid (hx.later HBW.out HBW.out.size)
  have Hx1W := hid (hx1.later HBW.out HBW.out.size)
  have HW := hid hW
  obtain ⟨P, hP⟩ : ∃ P, P = partB V fs V1 ls := ⟨_, rfl⟩
  rw [← hP]
  have HP := hid hP
  have HCF := hid (containsg_any a1 cap1 ls W 97 (.pointer (some ⟨w.heap.size, 0, none⟩)) (fun x => decide (x ∉ fs)) Hx1W.out hl1 (enters_of Try.func97 (by kernel_rfl) rfl) (fun W' x hW' _ => partWanted fs V a0 cap w.heap.size x W' ((hW'.block _ (lt_get Q0.out)).trans Q0.out) (HxW.out.later hW' hW'.size) hl))
  obtain ⟨k0, k1, _, _⟩ := two_of Q0.out
  obtain ⟨l0, l1, _, _⟩ := two_of Q1.out
  clear hB0 hW hx hx1 hP
  go_enter Try.func65, Try.ntmps65
  go_wp2_with fail
  rw [← HW.out]
  refine HCF.out.mono ?_
  rintro e w2 ⟨rfl, hB2⟩
  have k02 := (hB2.cell (p := ⟨w.heap.size, 0, none⟩) (lt_get Q0.out)).trans k0
  have l02 := (hB2.cell (p := ⟨w.heap.size + 1, 0, none⟩) (lt_get Q1.out)).trans l0
  have HB := hid (HBW.out.trans (hB2.mono HBW.out.size))
  clear k0 k1 l0 l1 hB2
  by_cases hV : V = V1
  · have hd : (V == V1) = true := by simp [hV]
    have He : Hid (P = !decide (∃ x ∈ ls, decide (x ∉ fs) = true)) := hid (by
      rw [HP.out]
      unfold partB
      rw [decide_eq_true hV, Bool.true_and]
      by_cases h : ∀ x ∈ ls, x ∈ fs
      · rw [decide_eq_true h, decide_eq_false (by rintro ⟨x, hx, hn⟩; simp at hn; exact hn (h x hx))]; rfl
      · rw [decide_eq_false h, decide_eq_true (by
          apply Classical.byContradiction
          intro hn
          apply h
          intro x hx
          apply Classical.byContradiction
          intro hxn
          exact hn ⟨x, hx, by simpa using hxn⟩)]; rfl)
    clear hV
    go_wp2_with fail
    go_ret
    exact ⟨ret_bool (by rw [He.out]; simp), HB.out⟩
  · have hd : (V == V1) = false := by simpa using hV
    have He : Hid (P = false) := hid (by rw [HP.out]; unfold partB; rw [decide_eq_false hV]; rfl)
    clear hV
    go_wp2_with fail
    go_ret
    exact ⟨ret_bool (by rw [He.out]), HB.out⟩

end Go.Proofs.Ytojnpacklcajpaa

/-! CollapseKeeping, CollapseOf, IsCollapsible. -/
namespace Go.Proofs.Ytojnpacklcajpaa
open Go.RowKit

set_option maxRecDepth 100000 in
theorem done_cx3 {fn : Func} {R : Ending → World → Prop} {a : Act} {w : World} {p u t : Tmp} (hr : fn.results = #[.cell p 29, .tmp u, .tmp t]) (hd : a.defers = []) {b o : Nat} {x y c d : Value}
    (hp : a.tmps.getD p undef = .pointer (some ⟨b, o, none⟩)) (h0 : w.cell? ⟨b, o, none⟩ = some x) (h1 : w.cell? ⟨b, o + 1, none⟩ = some y) (hu : a.tmps.getD u undef = c) (ht : a.tmps.getD t undef = d) (hR : R (.returned (.tuple #[.agg #[x, y], c, d])) w) : bodyPost Try.prog fn R .ret a w := by
  refine bodyPost_ret (v := .tuple #[.agg #[x, y], c, d]) ?_ hd hR
  have hp' : a.tmps[p]?.getD undef = .pointer (some ⟨b, o, none⟩) := by simpa using hp
  have hu' : a.tmps[u]?.getD undef = c := by simpa using hu
  have ht' : a.tmps[t]?.getD undef = d := by simpa using ht
  simp [results, hr, hp', hu', ht', asAddr, load_cx h0 h1]

/-- A complex and a list of pairs, in new memory, in rows of their own. -/
def Res2 (w w' : World) (v : Value) (xs : List Int) (q : Value) (L : List (Int × Int)) : Prop := Res w w' v xs ∧ ResP w w' q L ∧ Apart v q

theorem Res2.later {w0 w w' : World} {v q : Value} {xs : List Int} {L : List (Int × Int)} (h : Res2 w w' v xs q L) (h0 : Below w0.heap.size w0 w) : Res2 w0 w' v xs q L := ⟨h.1.later h0, h.2.1.later h0, h.2.2⟩
theorem res2_nil (w w' : World) (h : Below w.heap.size w w') : Res2 w w' (.slice none 0 0) [] (.slice none 0 0) [] := ⟨res_nil _ _ h, resP_nil _ _ h, fun g hg => by simp [Value.ownBlock] at hg⟩
theorem Res2.alloc {w w' : World} {v q : Value} {xs : List Int} {L : List (Int × Int)} (h : Res2 w w' v xs q L) (o : Obj) : Res2 w (w'.alloc o) v xs q L :=
  ⟨⟨h.1.1.alloc o, h.1.2.alloc h.1.2.size o⟩, ⟨h.2.1.1.alloc o, h.1.2.alloc h.1.2.size o⟩, h.2.2⟩
theorem Res2.set2 {w W : World} {sv q : Value} {xs : List Int} {L : List (Int × Int)} (h : Res2 w W sv xs q L) {b : Nat} {cs : Array Value} {fz : Nat × Nat} (hb : W.heap[b]? = some (.cells cs 29 fz)) (hw : w.heap.size ≤ b) (u v : Value) :
    Res2 w ((W.setCell ⟨b, 0, none⟩ u).setCell ⟨b, 1, none⟩ v) sv xs q L := by
  have hy := row_ne_any h.2.1.1 hb (by decide)
  exact ⟨h.1.set2 hb (by decide) hw u v, ⟨ownsRow_set (ownsRow_set h.2.1.1 (fun e => hy e.symm) _) (fun e => hy e.symm) _, (h.1.2.setCell (p := ⟨b, 0, none⟩) hw _).setCell (p := ⟨b, 1, none⟩) hw _⟩, h.2.2⟩

/-- What CollapseKeeping hands back. -/
noncomputable def colKR (V : Int) (fs : List Int) (V1 : Int) (ls : List Int) : Int × List Int × List (Int × Int) × Int :=
  if isCB V fs && isCB V1 ls then (if partB V fs V1 ls then (V, (colE ls fs).1, (colE ls fs).2, 0) else (0, [], [], 5)) else (0, [], [], 1)
theorem colKR_len (V : Int) (fs : List Int) (V1 : Int) (ls : List Int) (h : fs.length ≤ 1048576) : (colKR V fs V1 ls).2.1.length ≤ 1048576 ∧ (colKR V fs V1 ls).2.2.1.length ≤ 1048576 := by
  have := colE_len ls fs
  unfold colKR
  split
  · split
    · exact ⟨by simp only; omega, by simp only; omega⟩
    · simp
  · simp

theorem ck_mono {P : Program} {f : FuncId} {args : Array Value} {w : World} {r : Int × List Int × List (Int × Int) × Int} {U : Int} {xs : List Int} {L : List (Int × Int)} {c : Int} (hr : r = (U, xs, L, c))
    (h : Calls P f args w fun e w' => ∃ v q, e = .returned (.tuple #[.agg #[.int .i64 U, v], q, .int .i64 c]) ∧ Res2 w w' v xs q L) : Calls P f args w fun e w' => ∃ v q, e = .returned (.tuple #[.agg #[.int .i64 r.1, v], q, .int .i64 r.2.2.2]) ∧ Res2 w w' v r.2.1 q r.2.2.1 := by
  subst hr; exact h

set_option maxRecDepth 100000 in
set_option maxHeartbeats 4000000 in
theorem ckI_any (V : Int) (a0 : Option Addr) (cap : Nat) (fs : List Int) (V1 : Int) (a1 : Option Addr) (cap1 : Nat) (ls : List Int) (w : World) (hx : SlI w w.heap.size a0 fs) (hx1 : SlI w w.heap.size a1 ls) (hl : fs.length ≤ 1048576) (hl1 : ls.length ≤ 1048576) :
    Calls Try.prog 32 #[.agg #[.int .i64 V, .slice a0 fs.length cap], .agg #[.int .i64 V1, .slice a1 ls.length cap1]] w fun e w' => ∃ v q, e = .returned (.tuple #[.agg #[.int .i64 (colKR V fs V1 ls).1, v], q, .int .i64 (colKR V fs V1 ls).2.2.2]) ∧ Res2 w w' v (colKR V fs V1 ls).2.1 q (colKR V fs V1 ls).2.2.1 := by
  have hB0 : Below w.heap.size w (((w.alloc (.cells #[.int .i64 V, .slice a0 fs.length cap] 29)).alloc (.cells #[.int .i64 V1, .slice a1 ls.length cap1] 29)).alloc (.cells #[.int .i64 0, .slice none 0 0] 29)) := (((Below.refl _ w).alloc (Nat.le_refl _) _).alloc (by simp) _).alloc (by simp <;> omega) _
  obtain ⟨W, hW⟩ : ∃ W, W = ((w.alloc (.cells #[.int .i64 V, .slice a0 fs.length cap] 29)).alloc (.cells #[.int .i64 V1, .slice a1 ls.length cap1] 29)).alloc (.cells #[.int .i64 0, .slice none 0 0] 29) := ⟨_, rfl⟩
  have Q0 := hid (show W.heap[w.heap.size]? = some (.cells #[.int .i64 V, .slice a0 fs.length cap] 29 (0, 0)) by rw [hW, Below.heap_alloc _ _ _ (by simp <;> omega), Below.heap_alloc _ _ _ (by simp)]; exact heap_alloc_new _ _)
  have Q1 := hid (show W.heap[w.heap.size + 1]? = some (.cells #[.int .i64 V1, .slice a1 ls.length cap1] 29 (0, 0)) by rw [hW, Below.heap_alloc _ _ _ (by simp)]; exact new2 _ _ _)
  have R1 := hid (show W.heap[w.heap.size + 1 + 1]? = some (.cells #[.int .i64 0, .slice none 0 0] 29 (0, 0)) by rw [hW]; exact new3 _ _ _ _)
  have HBW : Hid (Below w.heap.size w W) := hid (by rw [hW]; exact hB0)
  have HW := hid hW
  have Hx0 := hid hx
  have Hx1 := hid hx1
  have Hxw := hid (Hx0.out.later HBW.out HBW.out.size)
  have Hx1w := hid (Hx1.out.later HBW.out HBW.out.size)
  clear hx hx1 hB0 hW
  by_cases hC : IsC V fs
  · have HC := hid hC
    have Hf := hid hC.range63
    by_cases hC1 : IsC V1 ls
    · have HC1 := hid hC1
      have HIP := hid (fun w' (h : Below w.heap.size w w') => isPart_any V a0 cap fs V1 a1 cap1 ls w' (Hx0.out.later h h.size) (Hx1.out.later h h.size) hl hl1)
      by_cases hp : partB V fs V1 ls = true
      · refine ck_mono (show colKR V fs V1 ls = (V, (colE ls fs).1, (colE ls fs).2, 0) by unfold colKR; rw [isCB_true hC, isCB_true hC1, hp]; rfl) ?_
        have HCO := hid (fun w' (h : Below w.heap.size w w') => colI_any V a0 cap fs V1 a1 cap1 ls w' (Hx0.out.later h h.size) (Hx1.out.later h h.size) hl hl1 Hf.out)
        rw [hp] at HIP
        clear hC hC1 hp
        obtain ⟨k0, k1, _, _⟩ := two_of Q0.out
        go_enter Try.func32, Try.ntmps32
        go_wp2_with fail
        rw [← HW.out]
        refine (isc_yes V a0 cap fs _ Hxw.out hl HC.out).mono ?_
        rintro e w1 ⟨rfl, hB1⟩
        have HB1 := hid (HBW.out.trans (hB1.mono HBW.out.size))
        have Q01 := hid ((hB1.block _ (lt_get Q0.out)).trans Q0.out)
        have Q11 := hid ((hB1.block _ (lt_get Q1.out)).trans Q1.out)
        have R11 := hid ((hB1.block _ (lt_get R1.out)).trans R1.out)
        clear k0 k1 hB1
        obtain ⟨l0, l1, _, _⟩ := two_of Q11.out
        go_wp2_with fail
        refine (isc_yes V1 a1 cap1 ls _ (Hx1.out.later HB1.out HB1.out.size) hl1 HC1.out).mono ?_
        rintro e w2 ⟨rfl, hB2⟩
        have HB2 := hid (HB1.out.trans (hB2.mono HB1.out.size))
        have Q02 := hid ((hB2.block _ (lt_get Q01.out)).trans Q01.out)
        have Q12 := hid ((hB2.block _ (lt_get Q11.out)).trans Q11.out)
        have R12 := hid ((hB2.block _ (lt_get R11.out)).trans R11.out)
        clear l0 l1 hB2
        obtain ⟨k0, k1, _, _⟩ := two_of Q02.out
        obtain ⟨l0, l1, _, _⟩ := two_of Q12.out
        go_wp2_with fail
        refine (HIP.out _ HB2.out).mono ?_
        rintro e w3 ⟨rfl, hB3⟩
        have HB3 := hid (HB2.out.trans (hB3.mono HB2.out.size))
        have Q03 := hid ((hB3.block _ (lt_get Q02.out)).trans Q02.out)
        have Q13 := hid ((hB3.block _ (lt_get Q12.out)).trans Q12.out)
        have R13 := hid ((hB3.block _ (lt_get R12.out)).trans R12.out)
        clear k0 k1 l0 l1 hB3
        obtain ⟨k0, k1, _, _⟩ := two_of Q03.out
        obtain ⟨l0, l1, _, _⟩ := two_of Q13.out
        go_wp2_with fail
        refine (HCO.out _ HB3.out).mono ?_
        rintro e w4 ⟨v, q, rfl, hr⟩
        obtain ⟨ys, hys⟩ : ∃ ys, ys = (colE ls fs).1 := ⟨_, rfl⟩
        have Hys := hid hys
        rw [← hys] at hr
        have hr' : Res2 w3 w4 v ys q (colE ls fs).2 := hr
        have HR := hid ((hr'.later HB3.out).alloc (.cells #[.int .i64 V, v] 29))
        have R14 := hid ((Below.heap_alloc w4 (.cells #[.int .i64 V, v] 29) _ (Nat.lt_of_lt_of_le (lt_get R13.out) hr'.1.2.size)).trans ((hr'.1.2.block _ (lt_get R13.out)).trans R13.out))
        obtain ⟨_, av, cv, rfl, _⟩ := ownsRow_slI hr'.1.1
        obtain ⟨c0, c1, f0, f1⟩ := two_of R14.out
        clear k0 k1 l0 l1 hr hr' hys
        go_wp2_with fail
        (try simp only [Exit.inBlock, Exit.then])
        have R3 := two_of (two_set R14.out (.int .i64 V) (.slice av ys.length cv))
        refine done_cx3 (p := 4) (u := 5) (t := 6) (by kernel_rfl) rfl rfl R3.1 R3.2.1 rfl rfl ⟨_, _, rfl, ?_⟩
        rw [← Hys.out]
        exact HR.out.set2 R14.out (by omega) _ _
      · refine ck_mono (show colKR V fs V1 ls = (0, [], [], 5) by unfold colKR; rw [isCB_true hC, isCB_true hC1, Bool.and_true, if_pos rfl, if_neg hp]) ?_
        have hpf : partB V fs V1 ls = false := by simpa using hp
        rw [hpf] at HIP
        clear hC hC1 hp hpf
        obtain ⟨k0, k1, _, _⟩ := two_of Q0.out
        go_enter Try.func32, Try.ntmps32
        go_wp2_with fail
        rw [← HW.out]
        refine (isc_yes V a0 cap fs _ Hxw.out hl HC.out).mono ?_
        rintro e w1 ⟨rfl, hB1⟩
        have HB1 := hid (HBW.out.trans (hB1.mono HBW.out.size))
        have Q01 := hid ((hB1.block _ (lt_get Q0.out)).trans Q0.out)
        have Q11 := hid ((hB1.block _ (lt_get Q1.out)).trans Q1.out)
        have R11 := hid ((hB1.block _ (lt_get R1.out)).trans R1.out)
        clear k0 k1 hB1
        obtain ⟨l0, l1, _, _⟩ := two_of Q11.out
        go_wp2_with fail
        refine (isc_yes V1 a1 cap1 ls _ (Hx1.out.later HB1.out HB1.out.size) hl1 HC1.out).mono ?_
        rintro e w2 ⟨rfl, hB2⟩
        have HB2 := hid (HB1.out.trans (hB2.mono HB1.out.size))
        have Q02 := hid ((hB2.block _ (lt_get Q01.out)).trans Q01.out)
        have Q12 := hid ((hB2.block _ (lt_get Q11.out)).trans Q11.out)
        have R12 := hid ((hB2.block _ (lt_get R11.out)).trans R11.out)
        clear l0 l1 hB2
        obtain ⟨k0, k1, _, _⟩ := two_of Q02.out
        obtain ⟨l0, l1, _, _⟩ := two_of Q12.out
        go_wp2_with fail
        refine (HIP.out _ HB2.out).mono ?_
        rintro e w3 ⟨rfl, hB3⟩
        have HB3 := hid (HB2.out.trans (hB3.mono HB2.out.size))
        have R13 := hid ((hB3.block _ (lt_get R12.out)).trans R12.out)
        clear k0 k1 l0 l1 hB3
        obtain ⟨c0, c1, f0, f1⟩ := two_of R13.out
        go_wp2_with fail
        (try simp only [Exit.inBlock, Exit.then])
        have R3 := two_of (two_set R13.out (.int .i64 0) (.slice none 0 0))
        refine done_cx3 (p := 4) (u := 5) (t := 6) (by kernel_rfl) rfl rfl R3.1 R3.2.1 rfl rfl ⟨_, _, rfl, ?_⟩
        exact (res2_nil _ _ HB3.out).set2 R13.out (by omega) _ _
    · refine ck_mono (show colKR V fs V1 ls = (0, [], [], 1) by unfold colKR; rw [isCB_true hC, isCB_false hC1, Bool.and_false, if_neg (by simp)]) ?_
      clear hC
      obtain ⟨k0, k1, _, _⟩ := two_of Q0.out
      go_enter Try.func32, Try.ntmps32
      go_wp2_with fail
      rw [← HW.out]
      refine (isc_yes V a0 cap fs _ Hxw.out hl HC.out).mono ?_
      rintro e w1 ⟨rfl, hB1⟩
      have HB1 := hid (HBW.out.trans (hB1.mono HBW.out.size))
      have Q11 := hid ((hB1.block _ (lt_get Q1.out)).trans Q1.out)
      have R11 := hid ((hB1.block _ (lt_get R1.out)).trans R1.out)
      clear k0 k1 hB1
      obtain ⟨l0, l1, _, _⟩ := two_of Q11.out
      go_wp2_with fail
      refine (isc_no V1 a1 cap1 ls _ (Hx1.out.later HB1.out HB1.out.size) hl1 hC1).mono ?_
      rintro e w2 ⟨rfl, hB2⟩
      have HB2 := hid (HB1.out.trans (hB2.mono HB1.out.size))
      have R12 := hid ((hB2.block _ (lt_get R11.out)).trans R11.out)
      clear l0 l1 hB2
      obtain ⟨c0, c1, f0, f1⟩ := two_of R12.out
      go_wp2_with fail
      (try simp only [Exit.inBlock, Exit.then])
      have R3 := two_of (two_set R12.out (.int .i64 0) (.slice none 0 0))
      refine done_cx3 (p := 4) (u := 5) (t := 6) (by kernel_rfl) rfl rfl R3.1 R3.2.1 rfl rfl ⟨_, _, rfl, ?_⟩
      exact (res2_nil _ _ HB2.out).set2 R12.out (by omega) _ _
  · refine ck_mono (show colKR V fs V1 ls = (0, [], [], 1) by unfold colKR; rw [isCB_false hC, Bool.false_and, if_neg (by simp)]) ?_
    obtain ⟨k0, k1, _, _⟩ := two_of Q0.out
    go_enter Try.func32, Try.ntmps32
    go_wp2_with fail
    rw [← HW.out]
    refine (isc_no V a0 cap fs _ Hxw.out hl hC).mono ?_
    rintro e w1 ⟨rfl, hB1⟩
    have HB1 := hid (HBW.out.trans (hB1.mono HBW.out.size))
    have R11 := hid ((hB1.block _ (lt_get R1.out)).trans R1.out)
    clear k0 k1 hB1
    obtain ⟨c0, c1, f0, f1⟩ := two_of R11.out
    go_wp2_with fail
    (try simp only [Exit.inBlock, Exit.then])
    have R3 := two_of (two_set R11.out (.int .i64 0) (.slice none 0 0))
    refine done_cx3 (p := 4) (u := 5) (t := 6) (by kernel_rfl) rfl rfl R3.1 R3.2.1 rfl rfl ⟨_, _, rfl, ?_⟩
    exact (res2_nil _ _ HB1.out).set2 R11.out (by omega) _ _

/-- What CollapseOf hands back. -/
noncomputable def colOR (V : Int) (fs : List Int) : Int × List Int × List (Int × Int) × Int := if isCB V fs then (V, (colE [] fs).1, (colE [] fs).2, 0) else (0, [], [], 1)
theorem colOR_len (V : Int) (fs : List Int) (h : fs.length ≤ 1048576) : (colOR V fs).2.1.length ≤ 1048576 ∧ (colOR V fs).2.2.1.length ≤ 1048576 := by
  have := colE_len [] fs
  unfold colOR
  split
  · exact ⟨by simp only; omega, by simp only; omega⟩
  · simp
theorem colKR_nil (V : Int) (fs : List Int) : colKR V fs V [] = colOR V fs := by
  unfold colKR colOR partB
  by_cases hC : IsC V fs
  · rw [isCB_true hC, isCB_true (isC_nil hC.lo hC.hi)]
    simp
  · rw [isCB_false hC]
    simp

set_option maxRecDepth 100000 in
set_option maxHeartbeats 2000000 in
theorem implCO (V : Int) (a0 : Option Addr) (cap : Nat) (fs : List Int) (w : World) (hx : SlI w w.heap.size a0 fs) (hl : fs.length ≤ 1048576) :
    Calls Try.prog 28 #[.agg #[.int .i64 V, .slice a0 fs.length cap]] w fun e w' => ∃ v q, e = .returned (.tuple #[.agg #[.int .i64 (colOR V fs).1, v], q, .int .i64 (colOR V fs).2.2.2]) ∧ Res2 w w' v (colOR V fs).2.1 q (colOR V fs).2.2.1 := by
  have hB0 : Below w.heap.size w ((w.alloc (.cells #[.int .i64 V, .slice a0 fs.length cap] 29)).alloc (.cells #[.int .i64 0, .slice none 0 0] 29)) := ((Below.refl _ w).alloc (Nat.le_refl _) _).alloc (by simp) _
  have Hx := hid (hx.later hB0 hB0.size)
  have HC := hid (ckI_any V a0 cap fs V none 0 [] _ Hx.out (.inl rfl) hl (by simp))
  rw [colKR_nil] at HC
  obtain ⟨R, hR⟩ : ∃ R, R = colOR V fs := ⟨_, rfl⟩
  rw [← hR] at HC
  rw [← hR]
  obtain ⟨U, ys, L, c⟩ := R
  simp only at HC
  simp only
  clear hR
  go_enter Try.func28, Try.ntmps28
  go_wp2_with fail
  refine HC.out.mono ?_
  rintro e w1 ⟨v, q, rfl, hr⟩
  have r1 : w1.heap[w.heap.size + 1]? = some (.cells #[.int .i64 0, .slice none 0 0] 29 (0, 0)) := (hr.1.2.block _ (by simp <;> omega)).trans (new2 _ _ _)
  have HR := hid (hr.later hB0)
  obtain ⟨_, av, cv, rfl, _⟩ := ownsRow_slI hr.1.1
  obtain ⟨c0, c1, f0, f1⟩ := two_of r1
  have R1 := hid r1
  clear r1 hr
  go_wp2_with fail
  (try simp only [Exit.inBlock, Exit.then])
  have R3 := two_of (two_set R1.out (.int .i64 U) (.slice av ys.length cv))
  refine done_cx3 (p := 2) (u := 3) (t := 4) (by kernel_rfl) rfl rfl R3.1 R3.2.1 rfl rfl ⟨_, _, rfl, ?_⟩
  exact HR.out.set2 R1.out (by omega) _ _

/-- What IsCollapsible hands back. -/
noncomputable def isColR (V : Int) (fs : List Int) : Bool × Int := if isCB V fs then (decide ((colE [] fs).1.length = 1), 0) else (false, 1)
theorem isColR_of (V : Int) (fs : List Int) : isColR V fs = (decide ((colOR V fs).2.1.length = 1), (colOR V fs).2.2.2) := by
  unfold isColR colOR
  split <;> simp

theorem ic_mono {P : Program} {f : FuncId} {args : Array Value} {w : World} {r : Bool × Int} {b : Bool} {c : Int} (hr : r = (b, c))
    (h : Calls P f args w fun e w' => e = .returned (.tuple #[.bool b, .int .i64 c]) ∧ Below w.heap.size w w') : Calls P f args w fun e w' => e = .returned (.tuple #[.bool r.1, .int .i64 r.2]) ∧ Below w.heap.size w w' := by
  subst hr; exact h

set_option maxRecDepth 100000 in
set_option maxHeartbeats 2000000 in
theorem implIsCollapsible (V : Int) (a0 : Option Addr) (cap : Nat) (fs : List Int) (w : World) (hx : SlI w w.heap.size a0 fs) (hl : fs.length ≤ 1048576) :
    Calls Try.prog 30 #[.agg #[.int .i64 V, .slice a0 fs.length cap]] w fun e w' => e = .returned (.tuple #[.bool (isColR V fs).1, .int .i64 (isColR V fs).2]) ∧ Below w.heap.size w w' := by
  have hB0 : Below w.heap.size w (w.alloc (.cells #[.int .i64 V, .slice a0 fs.length cap] 29)) := (Below.refl _ w).alloc (Nat.le_refl _) _
  have Hx := hid (hx.later hB0 hB0.size)
  refine ic_mono (isColR_of V fs) ?_
  have HC := hid (implCO V a0 cap fs _ Hx.out hl)
  obtain ⟨R, hR⟩ : ∃ R, R = colOR V fs := ⟨_, rfl⟩
  rw [← hR] at HC
  rw [← hR]
  obtain ⟨U, ys, L, c⟩ := R
  simp only at HC
  simp only
  clear hR
  go_enter Try.func30, Try.ntmps30
  go_wp2_with fail
  refine HC.out.mono ?_
  rintro e w1 ⟨v, q, rfl, hr⟩
  have HB := hid (hB0.trans (hr.1.2.mono hB0.size))
  obtain ⟨_, av, cv, rfl, _⟩ := ownsRow_slI hr.1.1
  have He : Hid (((ys.length : Int) == 1) = decide (ys.length = 1)) := hid (by rw [Bool.eq_iff_iff]; simp; omega)
  clear hr
  go_wp2_with fail
  go_ret2
  exact ⟨by rw [← He.out]; rfl, HB.out.alloc HB.out.size _⟩

end Go.Proofs.Ytojnpacklcajpaa

/-! CollapseKeeping, the model's. -/
namespace Go.Proofs.Ytojnpacklcajpaa
open Go.RowKit

theorem implCollapseKeeping (V : Int) (a0 : Option Addr) (cap : Nat) (fs : List Int) (V1 : Int) (a1 : Option Addr) (cap1 : Nat) (ls : List Int) (w : World) (hx : SlI w w.heap.size a0 fs) (hx1 : SlI w w.heap.size a1 ls) (hl : fs.length ≤ 1048576) (hl1 : ls.length ≤ 1048576) :
    Calls Try.prog 32 #[.agg #[.int .i64 V, .slice a0 fs.length cap], .agg #[.int .i64 V1, .slice a1 ls.length cap1]] w fun e w' => ∃ v q, e = .returned (.tuple #[.agg #[.int .i64 (colKR V fs V1 ls).1, v], q, .int .i64 (colKR V fs V1 ls).2.2.2]) ∧ Res w w' v (colKR V fs V1 ls).2.1 ∧ ResP w w' q (colKR V fs V1 ls).2.2.1 ∧ Apart v q := ckI_any V a0 cap fs V1 a1 cap1 ls w hx hx1 hl hl1

/-- The first k faces lie in the other list. -/
def goodB (V : Int) (fs : List Int) (V1 : Int) (ls : List Int) (k : Nat) : Bool := decide (V = V1) && decide (∀ x ∈ ls.take k, x ∈ fs)
theorem goodB_step (V : Int) (fs : List Int) (V1 : Int) (ls : List Int) (k : Nat) (h : k < ls.length) : goodB V fs V1 ls (k + 1) = (goodB V fs V1 ls k && decide (ls[k]?.getD 0 ∈ fs)) := by
  unfold goodB
  rw [take_snoc h, Bool.eq_iff_iff]
  simp only [Bool.and_eq_true, decide_eq_true_eq, List.mem_append, List.mem_singleton]
  constructor
  · intro ⟨h1, h2⟩
    exact ⟨⟨h1, fun x hx => h2 x (.inl hx)⟩, h2 _ (.inr rfl)⟩
  · intro ⟨⟨h1, h2⟩, h3⟩
    refine ⟨h1, fun x hx => ?_⟩
    rcases hx with hx | rfl
    · exact h2 x hx
    · exact h3
theorem goodB_end (V : Int) (fs : List Int) (V1 : Int) (ls : List Int) : goodB V fs V1 ls ls.length = partB V fs V1 ls := by
  unfold goodB partB; rw [List.take_of_length_le (Nat.le_refl _)]

/-- The worlds of the loop. -/
structure CkW (w wr : World) (V : Int) (s : Value) (V1 : Int) (s1 : Value) : Prop where
  below : Below w.heap.size w wr
  kb : wr.heap[w.heap.size]? = some (.cells #[.int .i64 V, s] 29 (0, 0))
  lb : wr.heap[w.heap.size + 1]? = some (.cells #[.int .i64 V1, s1] 29 (0, 0))
  res : wr.heap[w.heap.size + 1 + 1]? = some (.cells #[.int .i64 0, .slice none 0 0] 29 (0, 0))
theorem CkW.later {w wr w2 : World} {V : Int} {s : Value} {V1 : Int} {s1 : Value} (h : CkW w wr V s V1 s1) (h2 : Below wr.heap.size wr w2) : CkW w w2 V s V1 s1 :=
  ⟨h.below.trans (h2.mono h.below.size), (h2.block _ (lt_get h.kb)).trans h.kb, (h2.block _ (lt_get h.lb)).trans h.lb, (h2.block _ (lt_get h.res)).trans h.res⟩
theorem CkW.drewN {w wr : World} {V : Int} {s : Value} {V1 : Int} {s1 : Value} (h : CkW w wr V s V1 s1) (n : Nat) : CkW w (wr.drewN n) V s V1 s1 := ⟨h.below.trans ⟨rfl, rfl, rfl, Nat.le_refl _, fun _ _ => rfl⟩, h.kb, h.lb, h.res⟩

set_option maxRecDepth 100000 in
set_option maxHeartbeats 8000000 in
theorem specCollapseKeeping (V : Int) (a0 : Option Addr) (cap : Nat) (fs : List Int) (V1 : Int) (a1 : Option Addr) (cap1 : Nat) (ls : List Int) (w : World) (hx : SlI w w.heap.size a0 fs) (hx1 : SlI w w.heap.size a1 ls) (hl : fs.length ≤ 1048576) (hl1 : ls.length ≤ 1048576) :
    Calls Try.prog 31 #[.agg #[.int .i64 V, .slice a0 fs.length cap], .agg #[.int .i64 V1, .slice a1 ls.length cap1]] w fun e w' => ∃ v q, e = .returned (.tuple #[.agg #[.int .i64 (colKR V fs V1 ls).1, v], q, .int .i64 (colKR V fs V1 ls).2.2.2]) ∧ Res w w' v (colKR V fs V1 ls).2.1 ∧ ResP w w' q (colKR V fs V1 ls).2.2.1 ∧ Apart v q := by
  have hB0 : Below w.heap.size w (((w.alloc (.cells #[.int .i64 V, .slice a0 fs.length cap] 29)).alloc (.cells #[.int .i64 V1, .slice a1 ls.length cap1] 29)).alloc (.cells #[.int .i64 0, .slice none 0 0] 29)) := (((Below.refl _ w).alloc (Nat.le_refl _) _).alloc (by simp) _).alloc (by simp <;> omega) _
  obtain ⟨W, hW⟩ : ∃ W, W = ((w.alloc (.cells #[.int .i64 V, .slice a0 fs.length cap] 29)).alloc (.cells #[.int .i64 V1, .slice a1 ls.length cap1] 29)).alloc (.cells #[.int .i64 0, .slice none 0 0] 29) := ⟨_, rfl⟩
  have C0 : Hid (CkW w W V (.slice a0 fs.length cap) V1 (.slice a1 ls.length cap1)) := hid ⟨by rw [hW]; exact hB0,
    (by rw [hW, Below.heap_alloc _ _ _ (by simp <;> omega), Below.heap_alloc _ _ _ (by simp)]; exact heap_alloc_new _ _),
    (by rw [hW, Below.heap_alloc _ _ _ (by simp)]; exact new2 _ _ _), (by rw [hW]; exact new3 _ _ _ _)⟩
  have HW := hid hW
  have Hx0 := hid hx
  have Hx1 := hid hx1
  clear hx hx1 hB0 hW
  obtain ⟨k0, k1, _, _⟩ := two_of C0.out.kb
  by_cases hC : IsC V fs
  · have HC := hid hC
    have Hf := hid hC.range63
    by_cases hC1 : IsC V1 ls
    · have HC1 := hid hC1
      have HCO := hid (fun w' (h : Below w.heap.size w w') => colS_any V a0 cap fs V1 a1 cap1 ls w' (Hx0.out.later h h.size) (Hx1.out.later h h.size) hl hl1 Hf.out (fun cur hcur => lowIn_of (fun x hx => Hf.out x (hcur.subset hx)) HC1.out))
      have HR : Hid (∀ b, partB V fs V1 ls = b → colKR V fs V1 ls = if b then (V, (colE ls fs).1, (colE ls fs).2, 0) else (0, [], [], 5)) := hid (fun b h => by unfold colKR; rw [isCB_true HC.out, isCB_true HC1.out, h]; cases b <;> rfl)
      obtain ⟨R, hR⟩ : ∃ R, R = colKR V fs V1 ls := ⟨_, rfl⟩
      rw [← hR] at HR ⊢
      have hlf := colE_len ls fs
      clear hC hC1 hR
      go_enter Try.func31, Try.ntmps31
      go_wp2_with fail
      rw [← HW.out]
      refine (is_yes V a0 cap fs _ (Hx0.out.later C0.out.below C0.out.below.size) hl HC.out).mono ?_
      rintro e w1 ⟨rfl, hB1⟩
      have C1 := hid (C0.out.later (hB1.mono (Nat.le_refl _)))
      clear k0 k1 hB1
      obtain ⟨l0, l1, _, _⟩ := two_of C1.out.lb
      go_wp2_with fail
      refine (is_yes V1 a1 cap1 ls _ (Hx1.out.later C1.out.below C1.out.below.size) hl1 HC1.out).mono ?_
      rintro e w2 ⟨rfl, hB2⟩
      have C2 := hid (C1.out.later (hB2.mono (Nat.le_refl _)))
      clear l0 l1 hB2
      obtain ⟨k0, k1, _, _⟩ := two_of C2.out.kb
      obtain ⟨l0, l1, _, _⟩ := two_of C2.out.lb
      have HG0 := hid (show (V == V1) = goodB V fs V1 ls 0 by unfold goodB; rw [Bool.eq_iff_iff]; simp)
      go_wp2_with fail
      go_loopw [7, 8] (fun p i wr => ∃ k : Nat, k ≤ ls.length ∧ i = .int .i64 k ∧ p = .bool (goodB V fs V1 ls k) ∧ CkW w wr V (.slice a0 fs.length cap) V1 (.slice a1 ls.length cap1)) (fun _ i _ => ls.length - (intOf i).toNat)
      case atStart =>
        refine ⟨0, Nat.zero_le _, rfl, ?_, C2.out⟩
        rw [← HG0.out]
      case round =>
        obtain ⟨k, hk, rfl, rfl, hW⟩ := hrel
        obtain ⟨g, hg⟩ : ∃ g, g = goodB V fs V1 ls k := ⟨_, rfl⟩
        rw [← hg]
        have Hg := hid hg
        have Hw := hid hW
        clear hg hW k0 k1 l0 l1
        obtain ⟨k0, k1, _, _⟩ := two_of Hw.out.kb
        obtain ⟨l0, l1, _, _⟩ := two_of Hw.out.lb
        by_cases hlt : k < ls.length
        · have HGs := hid (goodB_step V fs V1 ls k hlt)
          rw [← Hg.out] at HGs
          obtain ⟨b, off, hb, rfl, hc⟩ : ∃ b off, b < w.heap.size ∧ a1 = some ⟨b, off, none⟩ ∧ ∀ i, i < ls.length → w.cell? ⟨b, off + i, none⟩ = some (.int .i64 (ls[i]?.getD 0)) := by
            rcases Hx1.out with rfl | h
            · simp at hlt
            · exact h
          have Hc := hid hc
          clear hc
          obtain ⟨x, hx⟩ : ∃ x : Int, x = ls[k]?.getD 0 := ⟨_, rfl⟩
          rw [← hx] at HGs
          have hck : wr.cell? ⟨b, off + k, none⟩ = some (.int .i64 x) := by rw [hx]; exact (Hw.out.below.cell (p := ⟨b, off + k, none⟩) hb).trans (Hc.out k hlt)
          have hi0 : (0 : Int) ≤ (k : Int) := by omega
          have hi1 : (k : Int) < (ls.length : Int) := by omega
          have hbs := Hw.out.below.size
          have Hxr := hid (Hx0.out.later Hw.out.below Hw.out.below.size)
          clear hx
          cases g with
          | false =>
            have HP := hid (show goodB V fs V1 ls (k + 1) = false by rw [HGs.out]; rfl)
            clear HGs
            go_wp2_with fail
            go_quiet (fail)
            go_wp2_with fail
            go_roundw
            case rel => exact ⟨k + 1, by omega, by go_num, by rw [HP.out], Hw.out.drewN nq⟩
            case measure => simp [intOf]; omega
          | true =>
            have HP := hid (show goodB V fs V1 ls (k + 1) = decide (x ∈ fs) by rw [HGs.out]; rfl)
            clear HGs
            go_wp2_with fail
            go_region_held3 (fun w' => w'.cell? ⟨w.heap.size, 0, none⟩ = some (.int .i64 V) ∧ w'.cell? ⟨w.heap.size, 1, none⟩ = some (.slice a0 fs.length cap) ∧ w'.cell? ⟨w.heap.size + 1, 1, none⟩ = some (.slice (some ⟨b, off, none⟩) ls.length cap1) ∧ w'.cell? ⟨b, off + k, none⟩ = some (.int .i64 x)) (go_keep)
              ((go_at_call 64; refine (has_any V x a0 cap fs wr.drew Hxr.out hl).mono ?_; rintro e w2 ⟨rfl, hB2⟩; have k02 := (hB2.cell (p := ⟨w.heap.size, 0, none⟩) (lt_get Hw.out.kb)).trans k0; have k12 := (hB2.cell (p := ⟨w.heap.size, 1, none⟩) (lt_get Hw.out.kb)).trans k1; have l12 := (hB2.cell (p := ⟨w.heap.size + 1, 1, none⟩) (lt_get Hw.out.lb)).trans l1; have c12 := (hB2.cell (p := ⟨b, off + k, none⟩) (Nat.lt_of_lt_of_le hb hbs)).trans hck))
            all_goals
              have HW2 := hid (Hw.out.later (show Below wr.heap.size wr w2 from ⟨hB2.os, hB2.tape, hB2.output, hB2.size, hB2.block⟩))
              clear k0 k1 l0 l1 hck hB2
              go_wp2_with fail
              go_roundw
              case rel => exact ⟨k + 1, by omega, by go_num, by rw [HP.out], HW2.out⟩
              case measure => simp [intOf]; omega
        · obtain rfl : k = ls.length := by omega
          have HE := hid (HR.out g (by rw [Hg.out, goodB_end]))
          obtain ⟨c0, c1, f0, f1⟩ := two_of Hw.out.res
          clear hlt
          cases g with
          | true =>
            rw [if_pos rfl] at HE
            go_wp2_with fail
            refine (HCO.out _ Hw.out.below).mono ?_
            rintro e w4 ⟨v, q, rfl, hr⟩
            obtain ⟨ys, hys⟩ : ∃ ys, ys = (colE ls fs).1 := ⟨_, rfl⟩
            have Hys := hid hys
            rw [← hys] at hr
            have hr' : Res2 wr w4 v ys q (colE ls fs).2 := hr
            have HRr := hid ((hr'.later Hw.out.below).alloc (.cells #[.int .i64 V, v] 29))
            have R14 := hid ((Below.heap_alloc w4 (.cells #[.int .i64 V, v] 29) _ (Nat.lt_of_lt_of_le (lt_get Hw.out.res) hr'.1.2.size)).trans ((hr'.1.2.block _ (lt_get Hw.out.res)).trans Hw.out.res))
            obtain ⟨_, av, cv, rfl, _⟩ := ownsRow_slI hr'.1.1
            clear k0 k1 l0 l1 hr hr' hys c0 c1 f0 f1
            obtain ⟨c0, c1, f0, f1⟩ := two_of R14.out
            go_wp2_with fail
            (try simp only [Exit.inBlock, Exit.then])
            have R3 := two_of (two_set R14.out (.int .i64 V) (.slice av ys.length cv))
            rw [HE.out]
            refine done_cx3 (p := 4) (u := 5) (t := 6) (by kernel_rfl) rfl rfl R3.1 R3.2.1 rfl rfl ⟨_, _, rfl, ?_⟩
            rw [← Hys.out]
            exact HRr.out.set2 R14.out (by omega) _ _
          | false =>
            rw [if_neg (by simp)] at HE
            go_wp2_with fail
            (try simp only [Exit.inBlock, Exit.then])
            have R3 := two_of (two_set Hw.out.res (.int .i64 0) (.slice none 0 0))
            rw [HE.out]
            refine done_cx3 (p := 4) (u := 5) (t := 6) (by kernel_rfl) rfl rfl R3.1 R3.2.1 rfl rfl ⟨_, _, rfl, ?_⟩
            exact (res2_nil _ _ Hw.out.below).set2 Hw.out.res (by omega) _ _
    · refine ck_mono (show colKR V fs V1 ls = (0, [], [], 1) by unfold colKR; rw [isCB_true hC, isCB_false hC1]; rfl) ?_
      go_enter Try.func31, Try.ntmps31
      go_wp2_with fail
      rw [← HW.out]
      refine (is_yes V a0 cap fs _ (Hx0.out.later C0.out.below C0.out.below.size) hl HC.out).mono ?_
      rintro e w1 ⟨rfl, hB1⟩
      have C1 := hid (C0.out.later (hB1.mono (Nat.le_refl _)))
      clear k0 k1 hB1
      obtain ⟨l0, l1, _, _⟩ := two_of C1.out.lb
      go_wp2_with fail
      refine (is_no V1 a1 cap1 ls _ (Hx1.out.later C1.out.below C1.out.below.size) hl1 hC1).mono ?_
      rintro e w2 ⟨rfl, hB2⟩
      have C2 := hid (C1.out.later (hB2.mono (Nat.le_refl _)))
      clear l0 l1 hB2
      obtain ⟨c0, c1, f0, f1⟩ := two_of C2.out.res
      go_wp2_with fail
      (try simp only [Exit.inBlock, Exit.then])
      have R3 := two_of (two_set C2.out.res (.int .i64 0) (.slice none 0 0))
      refine done_cx3 (p := 4) (u := 5) (t := 6) (by kernel_rfl) rfl rfl R3.1 R3.2.1 rfl rfl ⟨_, _, rfl, ?_⟩
      exact (res2_nil _ _ C2.out.below).set2 C2.out.res (by omega) _ _
  · refine ck_mono (show colKR V fs V1 ls = (0, [], [], 1) by unfold colKR; rw [isCB_false hC]; rfl) ?_
    go_enter Try.func31, Try.ntmps31
    go_wp2_with fail
    rw [← HW.out]
    refine (is_no V a0 cap fs _ (Hx0.out.later C0.out.below C0.out.below.size) hl hC).mono ?_
    rintro e w1 ⟨rfl, hB1⟩
    have C1 := hid (C0.out.later (hB1.mono (Nat.le_refl _)))
    clear k0 k1 hB1
    obtain ⟨c0, c1, f0, f1⟩ := two_of C1.out.res
    go_wp2_with fail
    (try simp only [Exit.inBlock, Exit.then])
    have R3 := two_of (two_set C1.out.res (.int .i64 0) (.slice none 0 0))
    refine done_cx3 (p := 4) (u := 5) (t := 6) (by kernel_rfl) rfl rfl R3.1 R3.2.1 rfl rfl ⟨_, _, rfl, ?_⟩
    exact (res2_nil _ _ C1.out.below).set2 C1.out.res (by omega) _ _

end Go.Proofs.Ytojnpacklcajpaa

/-! The law on CollapseKeeping, walked. -/
namespace Go.Proofs.Ytojnpacklcajpaa
open Go.RowKit

set_option maxRecDepth 100000 in
set_option maxHeartbeats 8000000 in
theorem law_CollapseKeeping (V0 : Int) (a0 : Option Addr) (cap0 : Nat) (xs0 : List Int) (V1 : Int) (a1 : Option Addr) (cap1 : Nat) (xs1 : List Int) (w : World) (hx0 : SlI w w.heap.size a0 xs0) (hx1 : SlI w w.heap.size a1 xs1)  (hn0 : xs0.length ≤ 9223372036854775807) (hn1 : xs1.length ≤ 9223372036854775807)  :
    Calls Try.prog 7 #[.agg #[.int .i64 V0, .slice a0 xs0.length cap0], .agg #[.int .i64 V1, .slice a1 xs1.length cap1]] w fun e w' => e = .returned (.bool true) ∧ Below w.heap.size w w' := by
  have F0 : Book w w [(a0, xs0), (a1, xs1)] [] [] := ⟨Below.refl _ _, by simp; exact ⟨hx0, hx1⟩, by simp, by simp⟩
  have F0 := F0.alloc (.cells #[.int .i64 V0, .slice a0 xs0.length cap0] 24)
  have F0 := F0.alloc (.cells #[.int .i64 V1, .slice a1 xs1.length cap1] 24)
  (try simp only [World.size_alloc] at F0)
  have B0 := hid F0
  clear F0 hx0 hx1
  obtain ⟨r0, hr0⟩ : ∃ r, r = szR 1048576 xs0.length := ⟨_, rfl⟩
  have Hr0 := hid hr0
  obtain ⟨r1, hr1⟩ : ∃ r, r = szR r0 xs1.length := ⟨_, rfl⟩
  have Hr1 := hid hr1
  by_cases hb0 : 1048576 < xs0.length
  · have hm0 : r0 = -1 := by rw [hr0]; exact szR_big (by omega)
    clear hb0
    clear hr0 hr1
    go_enter Try.func7, Try.ntmps7
    go_wp2_with fail
    refine (szCx V0 a0 xs0.length cap0 1048576 _ (by omega) (by omega) hn0).mono ?_
    rintro e s0 ⟨rfl, hB⟩
    have zs0 := hB.size
    (try simp only [World.size_alloc] at zs0)
    have B0 := hid (B0.out.below hB)
    clear hB
    rw [← Hr0.out]
    go_wp2_with fail
    go_ret
    exact ⟨rfl, B0.out.from0⟩
  · have hv0 : r0 = 1048576 - xs0.length := by rw [hr0, szR_fit (by omega)]
    have hg0 : 0 ≤ r0 := by omega
    have hu0 : r0 ≤ 1048576 := by omega
    have hl0 : xs0.length ≤ 1048576 := by omega
    clear hr0 hb0
    have Hv0 := hid hv0
    clear hv0
    by_cases hb1 : r0 < xs1.length
    · have hm1 : r1 = -1 := by rw [hr1]; exact szR_big (by omega)
      clear hb1
      clear hr1
      go_enter Try.func7, Try.ntmps7
      go_wp2_with fail
      refine (szCx V0 a0 xs0.length cap0 1048576 _ (by omega) (by omega) hn0).mono ?_
      rintro e s0 ⟨rfl, hB⟩
      have zs0 := hB.size
      (try simp only [World.size_alloc] at zs0)
      have B0 := hid (B0.out.below hB)
      clear hB
      rw [← Hr0.out]
      obtain ⟨q0, q1⟩ := B0.out.two (.head _)
      go_wp2_with fail
      clear q0 q1
      refine (szCx V1 a1 xs1.length cap1 r0 _ hg0 hu0 hn1).mono ?_
      rintro e s1 ⟨rfl, hB⟩
      have zs1 := hB.size
      (try simp only [World.size_alloc] at zs1)
      have B0 := hid (B0.out.below hB)
      clear hB
      rw [← Hr1.out]
      go_wp2_with fail
      go_ret
      exact ⟨rfl, B0.out.from0⟩
    · have hv1 : r1 = r0 - xs1.length := by rw [hr1, szR_fit (by omega)]
      have hg1 : 0 ≤ r1 := by omega
      have hu1 : r1 ≤ 1048576 := by omega
      have hl1 : xs1.length ≤ 1048576 := by omega
      clear hr1 hb1
      have Hv1 := hid hv1
      clear hv1
      obtain ⟨R, hR⟩ : ∃ R, R = colKR V0 xs0 V1 xs1 := ⟨_, rfl⟩
      have hRl : R.2.1.length ≤ 1048576 ∧ R.2.2.1.length ≤ 1048576 := by rw [hR]; exact colKR_len V0 xs0 V1 xs1 hl0
      obtain ⟨hRl0, hRl1⟩ := hRl
      obtain ⟨U, y0, y1, c⟩ := R
      simp only at hRl0 hRl1
      have HS : Hid (∀ a0 cap0 a1 cap1 w', SlI w' w'.heap.size a0 xs0 → SlI w' w'.heap.size a1 xs1 → Calls Try.prog 31 #[.agg #[.int .i64 V0, .slice a0 xs0.length cap0], .agg #[.int .i64 V1, .slice a1 xs1.length cap1]] w' fun e w'' => ∃ v0 l0 h0 v1 l1 h1, e = .returned (.tuple #[.agg #[.int .i64 U, v0], v1, .int .i64 c]) ∧ PartB w' w'' ⟨l0, h0, 2, 1, y0.length, v0, y0⟩ ∧ PartB w' w'' ⟨l1, h1, 63, 2, y1.length, v1, (flatP y1)⟩ ∧ (h0 ≤ l1 ∨ h1 ≤ l0) ∧ Below w'.heap.size w' w'') :=
        hid (fun a0 cap0 a1 cap1 w' hs0 hs1 => by have := specCollapseKeeping V0 a0 cap0 xs0 V1 a1 cap1 xs1 w' hs0 hs1 hl0 hl1; rw [← hR] at this; refine this.mono ?_; rintro e w'' ⟨v, q, rfl, h1, h2, h3⟩; obtain ⟨l1, r1, l2, r2, p1, p2, hd⟩ := two_parts h1.1 h2.1 h3 h1.2; exact ⟨v, l1, r1, q, l2, r2, rfl, p1, p2, hd, h1.2⟩)
      have HI : Hid (∀ a0 cap0 a1 cap1 w', SlI w' w'.heap.size a0 xs0 → SlI w' w'.heap.size a1 xs1 → Calls Try.prog 32 #[.agg #[.int .i64 V0, .slice a0 xs0.length cap0], .agg #[.int .i64 V1, .slice a1 xs1.length cap1]] w' fun e w'' => ∃ v0 l0 h0 v1 l1 h1, e = .returned (.tuple #[.agg #[.int .i64 U, v0], v1, .int .i64 c]) ∧ PartB w' w'' ⟨l0, h0, 2, 1, y0.length, v0, y0⟩ ∧ PartB w' w'' ⟨l1, h1, 63, 2, y1.length, v1, (flatP y1)⟩ ∧ (h0 ≤ l1 ∨ h1 ≤ l0) ∧ Below w'.heap.size w' w'') :=
        hid (fun a0 cap0 a1 cap1 w' hs0 hs1 => by have := implCollapseKeeping V0 a0 cap0 xs0 V1 a1 cap1 xs1 w' hs0 hs1 hl0 hl1; rw [← hR] at this; refine this.mono ?_; rintro e w'' ⟨v, q, rfl, h1, h2, h3⟩; obtain ⟨l1, r1, l2, r2, p1, p2, hd⟩ := two_parts h1.1 h2.1 h3 h1.2; exact ⟨v, l1, r1, q, l2, r2, rfl, p1, p2, hd, h1.2⟩)
      have hcc : (c != c) = false := by simp
      clear hR
      have Hq1 := hid (flatP_len y1)
      go_enter Try.func7, Try.ntmps7
      go_wp2_with fail
      refine (szCx V0 a0 xs0.length cap0 1048576 _ (by omega) (by omega) hn0).mono ?_
      rintro e s0 ⟨rfl, hB⟩
      have zs0 := hB.size
      (try simp only [World.size_alloc] at zs0)
      have B0 := hid (B0.out.below hB)
      clear hB
      rw [← Hr0.out]
      obtain ⟨q0, q1⟩ := B0.out.two (.head _)
      go_wp2_with fail
      clear q0 q1
      refine (szCx V1 a1 xs1.length cap1 r0 _ hg0 hu0 hn1).mono ?_
      rintro e s1 ⟨rfl, hB⟩
      have zs1 := hB.size
      (try simp only [World.size_alloc] at zs1)
      have B0 := hid (B0.out.below hB)
      clear hB
      rw [← Hr1.out]
      obtain ⟨q0, q1⟩ := B0.out.two (.tail _ (.head _))
      obtain ⟨p0, p1⟩ := B0.out.two (.head _)
      have n0 := World.new_ne s1 _ q0
      have m0 := World.new_ne s1 _ p0
      go_wp2_with fail
      go_cut [6, 7, 8] from 30 to 38 (fun p s q wx => ∃ (b9 l9 h9 : Nat) (a9 : Option Addr) (c9 : Nat) (l8 h8 : Nat) (a8 : Option Addr) (c8 : Nat), p = .pointer (some ⟨b9, 0, none⟩) ∧ s = .slice a8 y1.length c8 ∧ q = .int .i64 c ∧ s1.heap.size ≤ l9 ∧ h9 ≤ wx.heap.size ∧ s1.heap.size ≤ l8 ∧ h8 ≤ wx.heap.size ∧ (h9 ≤ l8 ∨ h8 ≤ l9) ∧ s1.heap.size ≤ b9 ∧ (b9 < l9 ∨ h9 ≤ b9) ∧ (b9 < l8 ∨ h8 ≤ b9) ∧ b9 < wx.heap.size ∧ Book w wx [(a0, xs0), (a1, xs1)] [(b9, .cells #[.int .i64 U, .slice a9 y0.length c9] 29), (w.heap.size + 1, .cells #[.int .i64 V1, .slice a1 xs1.length cap1] 24), (w.heap.size, .cells #[.int .i64 V0, .slice a0 xs0.length cap0] 24)] [⟨l8, h8, 63, 2, y1.length, .slice a8 y1.length c8, (flatP y1)⟩, ⟨l9, h9, 2, 1, y0.length, .slice a9 y0.length c9, y0⟩])
      case first =>
        go_region_held3 (fun w' => w'.cell? ⟨w.heap.size, 0, none⟩ = some (.int .i64 V0) ∧ w'.cell? ⟨w.heap.size, 1, none⟩ = some (.slice a0 xs0.length cap0) ∧ w'.cell? ⟨w.heap.size + 1, 0, none⟩ = some (.int .i64 V1) ∧ w'.cell? ⟨w.heap.size + 1, 1, none⟩ = some (.slice a1 xs1.length cap1)) (go_keep) (first
          | (go_at_call 17; have hC1 := C1.out; clear hC1; refine (toCx V1 a1 cap1 xs1 _ (by first | with_reducible_and_instances exact Book.arg (C1.out) (.tail _ (.head _)) | with_reducible_and_instances exact Book.arg ((C1.out.alloc (.cells #[.int .i64 0, .slice none 0 0] 29))) (.tail _ (.head _))) hl1).mono ?_; rintro e u2 ⟨g2, rfl, hown2, hB2⟩; (first | (have hZ : Below u1.heap.size u1 u2 := (by with_reducible exact hB2); have yu2 : u1.heap.size ≤ u2.heap.size := hZ.size; have C2 := hid (Book.row (C1.out) hown2 hB2); clear hZ) | (have hZ : Below (World.alloc u1 (.cells #[.int .i64 0, .slice none 0 0] 29)).heap.size (World.alloc u1 (.cells #[.int .i64 0, .slice none 0 0] 29)) u2 := (by with_reducible exact hB2); have yu2 : u1.heap.size + 1 ≤ u2.heap.size := (by simpa using hZ.size); have C2 := hid (Book.row ((C1.out.alloc (.cells #[.int .i64 0, .slice none 0 0] 29))) hown2 hB2); clear hZ)); clear hown2 hB2; (try simp only [World.size_alloc] at C2); have q02 : u2.cell? ⟨w.heap.size, 0, none⟩ = some (.int .i64 V0) := (by first | exact (C2.out.two (.tail _ (.head _))).1 | exact (C2.out.two (.tail _ (.tail _ (.head _)))).1); have q12 : u2.cell? ⟨w.heap.size, 1, none⟩ = some (.slice a0 xs0.length cap0) := (by first | exact (C2.out.two (.tail _ (.head _))).2 | exact (C2.out.two (.tail _ (.tail _ (.head _)))).2); have p02 : u2.cell? ⟨w.heap.size + 1, 0, none⟩ = some (.int .i64 V1) := (by first | exact (C2.out.two (.head _)).1 | exact (C2.out.two (.tail _ (.head _))).1); have p12 : u2.cell? ⟨w.heap.size + 1, 1, none⟩ = some (.slice a1 xs1.length cap1) := (by first | exact (C2.out.two (.head _)).2 | exact (C2.out.two (.tail _ (.head _))).2); have n2 := World.new_ne u2 _ q02; have m2 := World.new_ne u2 _ p02)
          | (go_at_call 17; refine (toCx V0 a0 cap0 xs0 _ (by first | with_reducible_and_instances exact Book.arg (B0.out.drew) (.head _) | with_reducible_and_instances exact Book.arg ((B0.out.alloc (.cells #[.int .i64 0, .slice none 0 0] 29)).drew) (.head _)) hl0).mono ?_; rintro e u1 ⟨g1, rfl, hown1, hB1⟩; (first | (have hZ : Below s1.drew.heap.size s1.drew u1 := (by with_reducible exact hB1); have yu1 : s1.heap.size ≤ u1.heap.size := hZ.size; have C1 := hid (Book.row (B0.out.drew) hown1 hB1); clear hZ) | (have hZ : Below (World.alloc s1 (.cells #[.int .i64 0, .slice none 0 0] 29)).drew.heap.size (World.alloc s1 (.cells #[.int .i64 0, .slice none 0 0] 29)).drew u1 := (by with_reducible exact hB1); have yu1 : s1.heap.size + 1 ≤ u1.heap.size := (by simpa using hZ.size); have C1 := hid (Book.row ((B0.out.alloc (.cells #[.int .i64 0, .slice none 0 0] 29)).drew) hown1 hB1); clear hZ)); clear hown1 hB1; have q01 : u1.cell? ⟨w.heap.size, 0, none⟩ = some (.int .i64 V0) := (by first | exact (C1.out.two (.tail _ (.head _))).1 | exact (C1.out.two (.tail _ (.tail _ (.head _)))).1); have q11 : u1.cell? ⟨w.heap.size, 1, none⟩ = some (.slice a0 xs0.length cap0) := (by first | exact (C1.out.two (.tail _ (.head _))).2 | exact (C1.out.two (.tail _ (.tail _ (.head _)))).2); have p01 : u1.cell? ⟨w.heap.size + 1, 0, none⟩ = some (.int .i64 V1) := (by first | exact (C1.out.two (.head _)).1 | exact (C1.out.two (.tail _ (.head _))).1); have p11 : u1.cell? ⟨w.heap.size + 1, 1, none⟩ = some (.slice a1 xs1.length cap1) := (by first | exact (C1.out.two (.head _)).2 | exact (C1.out.two (.tail _ (.head _))).2); have n1 := World.new_ne u1 _ q01; have m1 := World.new_ne u1 _ p01)
          | (go_at_call 31; refine (HS.out _ _ _ _ _ (by first | with_reducible_and_instances exact Book.slI (C2.out) (.tail _ (.head _)) | with_reducible_and_instances exact Book.slI ((C2.out.alloc (.cells #[.int .i64 0, .slice none 0 0] 29))) (.tail _ (.head _))) (by first | with_reducible_and_instances exact Book.slI (C2.out) (.head _) | with_reducible_and_instances exact Book.slI ((C2.out.alloc (.cells #[.int .i64 0, .slice none 0 0] 29))) (.head _))).mono ?_; rintro e u3 ⟨v, lA, hA, s, lB, hB, rfl, pA, pB, hd, hBl⟩; have oA := pA.own; have oB := pB.own; dsimp only at oA oB; obtain ⟨_, av, cv, rfl, _⟩ := ownsRow_slI oA; obtain ⟨_, aq, cq, rfl, _⟩ := pairs_form oB; have gA : _ ≤ lA := pA.ge; have gB : _ ≤ lB := pB.ge; have lA3 : hA ≤ _ := pA.le; have lB3 : hB ≤ _ := pB.le; clear oA oB; (try simp only [World.size_alloc] at gA gB); (first | (have hZ : Below u2.heap.size u2 u3 := (by with_reducible exact hBl); have yu3 : u2.heap.size ≤ u3.heap.size := hZ.size; have C3 := hid (((Book.below (C2.out) hZ).add pA).add pB); clear hZ) | (have hZ : Below (World.alloc u2 (.cells #[.int .i64 0, .slice none 0 0] 29)).heap.size (World.alloc u2 (.cells #[.int .i64 0, .slice none 0 0] 29)) u3 := (by with_reducible exact hBl); have yu3 : u2.heap.size + 1 ≤ u3.heap.size := (by simpa using hZ.size); have C3 := hid (((Book.below ((C2.out.alloc (.cells #[.int .i64 0, .slice none 0 0] 29))) hZ).add pA).add pB); clear hZ)); clear pA pB hBl; (try simp only [World.size_alloc] at C3); have q03 : u3.cell? ⟨w.heap.size, 0, none⟩ = some (.int .i64 V0) := (by first | exact (C3.out.two (.tail _ (.head _))).1 | exact (C3.out.two (.tail _ (.tail _ (.head _)))).1); have q13 : u3.cell? ⟨w.heap.size, 1, none⟩ = some (.slice a0 xs0.length cap0) := (by first | exact (C3.out.two (.tail _ (.head _))).2 | exact (C3.out.two (.tail _ (.tail _ (.head _)))).2); have p03 : u3.cell? ⟨w.heap.size + 1, 0, none⟩ = some (.int .i64 V1) := (by first | exact (C3.out.two (.head _)).1 | exact (C3.out.two (.tail _ (.head _))).1); have p13 : u3.cell? ⟨w.heap.size + 1, 1, none⟩ = some (.slice a1 xs1.length cap1) := (by first | exact (C3.out.two (.head _)).2 | exact (C3.out.two (.tail _ (.head _))).2); have n3 := World.new_ne u3 _ q03; have m3 := World.new_ne u3 _ p03; (try obtain ⟨c0, c1, f0, f1⟩ := two_of (C3.out.blocks (s1.heap.size, .cells #[.int .i64 0, .slice none 0 0] 29) (.head _))); (try obtain ⟨c0, c1, f0, f1⟩ := two_of (C3.out.blocks (u1.heap.size, .cells #[.int .i64 0, .slice none 0 0] 29) (.head _))); (try obtain ⟨c0, c1, f0, f1⟩ := two_of (C3.out.blocks (u2.heap.size, .cells #[.int .i64 0, .slice none 0 0] 29) (.head _))); skip))
        all_goals
          clear q0 q1 p0 p1 n0 m0
          go_wp2_with fail
          go_meet
          case rel => first
            | exact ⟨u3.heap.size, lA, hA, av, cv, lB, hB, aq, cq, rfl, rfl, rfl, by omega, by simp; omega, by omega, by simp; omega, by omega, by omega, by omega, by omega, by simp, (by with_reducible_and_instances exact (C3.out.alloc _).only (by simp) (by simp))⟩
            | exact ⟨s1.heap.size, lA, hA, av, cv, lB, hB, aq, cq, rfl, rfl, rfl, by omega, by simp; omega, by omega, by simp; omega, by omega, by omega, by omega, by omega, by simp; omega, (Book.only (bs' := [(s1.heap.size, .cells #[.int .i64 0, .slice none 0 0] 29), (w.heap.size + 1, .cells #[.int .i64 V1, .slice a1 xs1.length cap1] 24), (w.heap.size, .cells #[.int .i64 V0, .slice a0 xs0.length cap0] 24)]) (L' := [⟨lB, hB, 63, 2, y1.length, .slice aq y1.length cq, (flatP y1)⟩, ⟨lA, hA, 2, 1, y0.length, .slice av y0.length cv, y0⟩]) C3.out (by simp) (by simp)).set2 (by omega) (by simp; omega) (by simp)⟩
            | exact ⟨u1.heap.size, lA, hA, av, cv, lB, hB, aq, cq, rfl, rfl, rfl, by omega, by simp; omega, by omega, by simp; omega, by omega, by omega, by omega, by omega, by simp; omega, (Book.only (bs' := [(u1.heap.size, .cells #[.int .i64 0, .slice none 0 0] 29), (w.heap.size + 1, .cells #[.int .i64 V1, .slice a1 xs1.length cap1] 24), (w.heap.size, .cells #[.int .i64 V0, .slice a0 xs0.length cap0] 24)]) (L' := [⟨lB, hB, 63, 2, y1.length, .slice aq y1.length cq, (flatP y1)⟩, ⟨lA, hA, 2, 1, y0.length, .slice av y0.length cv, y0⟩]) C3.out (by simp) (by simp)).set2 (by omega) (by simp; omega) (by simp)⟩
            | exact ⟨u2.heap.size, lA, hA, av, cv, lB, hB, aq, cq, rfl, rfl, rfl, by omega, by simp; omega, by omega, by simp; omega, by omega, by omega, by omega, by omega, by simp; omega, (Book.only (bs' := [(u2.heap.size, .cells #[.int .i64 0, .slice none 0 0] 29), (w.heap.size + 1, .cells #[.int .i64 V1, .slice a1 xs1.length cap1] 24), (w.heap.size, .cells #[.int .i64 V0, .slice a0 xs0.length cap0] 24)]) (L' := [⟨lB, hB, 63, 2, y1.length, .slice aq y1.length cq, (flatP y1)⟩, ⟨lA, hA, 2, 1, y0.length, .slice av y0.length cv, y0⟩]) C3.out (by simp) (by simp)).set2 (by omega) (by simp; omega) (by simp)⟩
      case rest =>
        obtain ⟨bw, lw0, hw0, aw0, cw0, lw1, hw1, aw1, cw1, rfl, rfl, rfl, zw1, zw2, zw3, zw4, hdw, zw5, zw6, zw7, zw8, hbk⟩ := hcut
        have B0 := hid hbk
        clear hbk q0 q1 p0 p1 n0 m0
        obtain ⟨wzw, hwzw⟩ : ∃ x, x = wc := ⟨_, rfl⟩
        rw [← hwzw] at B0 zw2 zw4 zw8 ⊢
        clear hwzw
        obtain ⟨q0, q1⟩ := B0.out.two (.tail _ (.tail _ (.head _)))
        go_wp2_with fail
        clear q0 q1
        refine (toCx V0 a0 cap0 xs0 _ (B0.out.arg (.head _)) hl0).mono ?_
        rintro e x0 ⟨gx0, rfl, hown, hB⟩
        have zx0 := hB.size
        (try simp only [World.size_alloc] at zx0)
        have B0 := hid (B0.out.row hown hB)
        clear hown hB
        (try simp only [World.size_alloc] at B0)
        have B0 := hid (B0.out.alloc (.cells #[.int .i64 V0, .slice (some ⟨gx0, 0, none⟩) xs0.length xs0.length] 29))
        (try simp only [World.size_alloc] at B0)
        obtain ⟨q0, q1⟩ := B0.out.two (.tail _ (.tail _ (.head _)))
        go_wp2_with fail
        clear q0 q1
        refine (toCx V1 a1 cap1 xs1 _ (B0.out.arg (.tail _ (.head _))) hl1).mono ?_
        rintro e x1 ⟨gx1, rfl, hown, hB⟩
        have zx1 := hB.size
        (try simp only [World.size_alloc] at zx1)
        have B0 := hid (B0.out.row hown hB)
        clear hown hB
        (try simp only [World.size_alloc] at B0)
        have B0 := hid (B0.out.alloc (.cells #[.int .i64 V1, .slice (some ⟨gx1, 0, none⟩) xs1.length xs1.length] 29))
        (try simp only [World.size_alloc] at B0)
        obtain ⟨lxb00, lxb01⟩ := B0.out.two (.tail _ (.head _))
        obtain ⟨lxb10, lxb11⟩ := B0.out.two (.head _)
        go_wp2_with fail
        clear lxb00 lxb01
        clear lxb10 lxb11
        refine (HI.out _ _ _ _ _ (B0.out.slI (.tail _ (.head _))) (B0.out.slI (.head _))).mono ?_
        rintro e v9 ⟨vg0, lg0, hg0', vg1, lg1, hg1', rfl, p0, p1, hdg, hB⟩
        have zv9 := hB.size
        (try simp only [World.size_alloc] at zv9)
        have B0 := hid (B0.out.below hB)
        clear hB
        have o0 := p0.own
        dsimp only at o0
        obtain ⟨_, ag0, cg0, rfl, _⟩ := ownsRow_slI o0
        clear o0
        have leg0 : hg0' ≤ _ := p0.le
        have geg0 : _ ≤ lg0 := p0.ge
        (try simp only [World.size_alloc] at geg0)
        have B0 := hid (B0.out.add p0)
        clear p0
        have o1 := p1.own
        dsimp only at o1
        obtain ⟨_, ag1, cg1, rfl, _⟩ := pairs_form o1
        clear o1
        have leg1 : hg1' ≤ _ := p1.le
        have geg1 : _ ≤ lg1 := p1.ge
        (try simp only [World.size_alloc] at geg1)
        have B0 := hid (B0.out.add p1)
        clear p1
        (try simp only [World.size_alloc] at B0)
        have B0 := hid (B0.out.alloc (.cells #[.int .i64 U, .slice ag0 y0.length cg0] 29))
        (try simp only [World.size_alloc] at B0)
        obtain ⟨lgb0, lgb1⟩ := B0.out.two (.head _)
        obtain ⟨lwb0, lwb1⟩ := B0.out.two (.tail _ (.tail _ (.tail _ (.head _))))
        go_wp2_with fail
        clear lgb0 lgb1
        clear lwb0 lwb1
        refine (eqCx_yes U _ _ _ _ y0 y0 _ (B0.out.slI (.tail _ (.head _))) (B0.out.slI (.tail _ (.tail _ (.tail _ (.tail _ (.tail _ (.head _))))))) hRl0 hRl0 rfl).mono ?_
        rintro e e1 ⟨rfl, hB⟩
        have ze1 := hB.size
        (try simp only [World.size_alloc] at ze1)
        have B0 := hid (B0.out.below hB)
        clear hB
        go_wp2_with fail
        refine (eqPairs_yes _ _ y1.length _ _ (flatP y1) _ (B0.out.slI (.head _)) (B0.out.slI (.tail _ (.tail _ (.tail _ (.tail _ (.head _)))))) Hq1.out hRl1).mono ?_
        rintro e e2 ⟨rfl, hB⟩
        have ze2 := hB.size
        (try simp only [World.size_alloc] at ze2)
        have B0 := hid (B0.out.below hB)
        clear hB
        obtain ⟨lxb00, lxb01⟩ := B0.out.two (.tail _ (.tail _ (.head _)))
        obtain ⟨lk00, lk01⟩ := B0.out.two (.tail _ (.tail _ (.tail _ (.tail _ (.tail _ (.head _))))))
        go_wp2_with fail
        obtain ⟨wp0, hwp0⟩ : ∃ x : Nat, x = e2.heap.size := ⟨_, rfl⟩
        go_cut [69] from 65 to 69 (fun p wx => p = .bool false ∧ wp0 ≤ wx.heap.size ∧ Book w wx [(a0, xs0), (a1, xs1)] [(v9.heap.size, .cells #[.int .i64 U, .slice ag0 y0.length cg0] 29), (x1.heap.size, .cells #[.int .i64 V1, .slice (some ⟨gx1, 0, none⟩) xs1.length xs1.length] 29), (x0.heap.size, .cells #[.int .i64 V0, .slice (some ⟨gx0, 0, none⟩) xs0.length xs0.length] 29), (bw, .cells #[.int .i64 U, .slice aw0 y0.length cw0] 29), (w.heap.size + 1, .cells #[.int .i64 V1, .slice a1 xs1.length cap1] 24), (w.heap.size, .cells #[.int .i64 V0, .slice a0 xs0.length cap0] 24)] [⟨lg1, hg1', 63, 2, y1.length, .slice ag1 y1.length cg1, (flatP y1)⟩, ⟨lg0, hg0', 2, 1, y0.length, .slice ag0 y0.length cg0, y0⟩, ⟨x0.heap.size + 1, x1.heap.size, 2, 1, xs1.length, .slice (some ⟨gx1, 0, none⟩) xs1.length xs1.length, xs1⟩, ⟨wzw.heap.size, x0.heap.size, 2, 1, xs0.length, .slice (some ⟨gx0, 0, none⟩) xs0.length xs0.length, xs0⟩, ⟨lw1, hw1, 63, 2, y1.length, .slice aw1 y1.length cw1, (flatP y1)⟩, ⟨lw0, hw0, 2, 1, y0.length, .slice aw0 y0.length cw0, y0⟩])
        case first =>
          go_region_with (first
            | (go_at_call 17; refine (toCx V0 a0 cap0 xs0 _ (B0.out.drew.arg (.head _)) hl0).mono ?_; rintro e f0 ⟨gf0, rfl, hown, hB⟩; have zf0 : e2.heap.size ≤ f0.heap.size := hB.size; have C0 := hid (B0.out.drew.row hown hB); clear hown hB; obtain ⟨m00, m01⟩ := C0.out.two (.tail _ (.tail _ (.head _))))
            | (go_at_call 20; refine (eqCx_yes V0 _ _ _ _ xs0 xs0 _ (C0.out.slI (.tail _ (.tail _ (.tail _ (.tail _ (.head _)))))) (C0.out.slI (.head _)) hl0 hl0 rfl).mono ?_; rintro e h0 ⟨rfl, hB⟩))
          all_goals
            have zh0 := hB.size
            have D0 := hid (C0.out.below hB)
            clear hB
            go_wp2_with fail
            go_meet
            case rel => exact ⟨rfl, by omega, D0.out.only (by simp) (by simp)⟩
        case rest =>
          obtain ⟨rfl, zc0, hbk⟩ := hcut
          have B0 := hid hbk
          clear hbk
          clear lxb00 lxb01
          clear lk00 lk01
          obtain ⟨wd0, hwd0⟩ : ∃ x, x = wc := ⟨_, rfl⟩
          rw [← hwd0] at B0 zc0 ⊢
          rw [hwp0] at zc0
          clear hwd0 hwp0
          obtain ⟨lxb10, lxb11⟩ := B0.out.two (.tail _ (.head _))
          obtain ⟨lk10, lk11⟩ := B0.out.two (.tail _ (.tail _ (.tail _ (.tail _ (.head _)))))
          go_wp2_with fail
          obtain ⟨wp1, hwp1⟩ : ∃ x : Nat, x = wd0.heap.size := ⟨_, rfl⟩
          go_cut [74] from 70 to 74 (fun p wx => p = .bool false ∧ wp1 ≤ wx.heap.size ∧ Book w wx [(a0, xs0), (a1, xs1)] [(v9.heap.size, .cells #[.int .i64 U, .slice ag0 y0.length cg0] 29), (x1.heap.size, .cells #[.int .i64 V1, .slice (some ⟨gx1, 0, none⟩) xs1.length xs1.length] 29), (x0.heap.size, .cells #[.int .i64 V0, .slice (some ⟨gx0, 0, none⟩) xs0.length xs0.length] 29), (bw, .cells #[.int .i64 U, .slice aw0 y0.length cw0] 29), (w.heap.size + 1, .cells #[.int .i64 V1, .slice a1 xs1.length cap1] 24), (w.heap.size, .cells #[.int .i64 V0, .slice a0 xs0.length cap0] 24)] [⟨lg1, hg1', 63, 2, y1.length, .slice ag1 y1.length cg1, (flatP y1)⟩, ⟨lg0, hg0', 2, 1, y0.length, .slice ag0 y0.length cg0, y0⟩, ⟨x0.heap.size + 1, x1.heap.size, 2, 1, xs1.length, .slice (some ⟨gx1, 0, none⟩) xs1.length xs1.length, xs1⟩, ⟨wzw.heap.size, x0.heap.size, 2, 1, xs0.length, .slice (some ⟨gx0, 0, none⟩) xs0.length xs0.length, xs0⟩, ⟨lw1, hw1, 63, 2, y1.length, .slice aw1 y1.length cw1, (flatP y1)⟩, ⟨lw0, hw0, 2, 1, y0.length, .slice aw0 y0.length cw0, y0⟩])
          case first =>
            go_region_with (first
              | (go_at_call 17; refine (toCx V1 a1 cap1 xs1 _ (B0.out.drew.arg (.tail _ (.head _))) hl1).mono ?_; rintro e f1 ⟨gf1, rfl, hown, hB⟩; have zf1 : wd0.heap.size ≤ f1.heap.size := hB.size; have C0 := hid (B0.out.drew.row hown hB); clear hown hB; obtain ⟨m10, m11⟩ := C0.out.two (.tail _ (.head _)))
              | (go_at_call 20; refine (eqCx_yes V1 _ _ _ _ xs1 xs1 _ (C0.out.slI (.tail _ (.tail _ (.tail _ (.head _))))) (C0.out.slI (.head _)) hl1 hl1 rfl).mono ?_; rintro e h1 ⟨rfl, hB⟩))
            all_goals
              have zh1 := hB.size
              have D0 := hid (C0.out.below hB)
              clear hB
              go_wp2_with fail
              go_meet
              case rel => exact ⟨rfl, by omega, D0.out.only (by simp) (by simp)⟩
          case rest =>
            obtain ⟨rfl, zc1, hbk⟩ := hcut
            have B0 := hid hbk
            clear hbk
            clear lxb10 lxb11
            clear lk10 lk11
            obtain ⟨wd1, hwd1⟩ : ∃ x, x = wc := ⟨_, rfl⟩
            rw [← hwd1] at B0 zc1 ⊢
            rw [hwp1] at zc1
            clear hwd1 hwp1
            have B0 := hid (B0.out.only (bs' := _) (L' := [⟨wzw.heap.size, x0.heap.size, 2, 1, xs0.length, .slice (some ⟨gx0, 0, none⟩) xs0.length xs0.length, xs0⟩, ⟨x0.heap.size + 1, x1.heap.size, 2, 1, xs1.length, .slice (some ⟨gx1, 0, none⟩) xs1.length xs1.length, xs1⟩, ⟨lg0, hg0', 2, 1, y0.length, .slice ag0 y0.length cg0, y0⟩, ⟨lg1, hg1', 63, 2, y1.length, .slice ag1 y1.length cg1, (flatP y1)⟩, ⟨lw0, hw0, 2, 1, y0.length, .slice aw0 y0.length cw0, y0⟩, ⟨lw1, hw1, 63, 2, y1.length, .slice aw1 y1.length cw1, (flatP y1)⟩]) (fun _ h => h) (by simp))
            obtain ⟨lxb00, lxb01⟩ := B0.out.two (.tail _ (.tail _ (.head _)))
            go_wp2_with fail
            clear lxb00 lxb01
            refine (markCx V0 _ _ _ xs0 (1) _ (B0.out.own (.head _)) hl0 (by omega) (by omega)).mono ?_
            rintro e mX0 ⟨rfl, hown, hg⟩
            have zmX0 := hg.size
            (try simp only [World.size_alloc] at zmX0)
            have B0 := hid (B0.out.mark (ys := count (1) xs0.length) (L' := [⟨x0.heap.size + 1, x1.heap.size, 2, 1, xs1.length, .slice (some ⟨gx1, 0, none⟩) xs1.length xs1.length, xs1⟩, ⟨lg0, hg0', 2, 1, y0.length, .slice ag0 y0.length cg0, y0⟩, ⟨lg1, hg1', 63, 2, y1.length, .slice ag1 y1.length cg1, (flatP y1)⟩, ⟨lw0, hw0, 2, 1, y0.length, .slice aw0 y0.length cw0, y0⟩, ⟨lw1, hw1, 63, 2, y1.length, .slice aw1 y1.length cw1, (flatP y1)⟩]) (.head _) hown hg (by simp only; omega) (by simp <;> omega) (by simp <;> omega))
            clear hown hg
            obtain ⟨lxb10, lxb11⟩ := B0.out.two (.tail _ (.head _))
            go_wp2_with fail
            clear lxb10 lxb11
            refine (markCx V1 _ _ _ xs1 (1 + xs0.length) _ (B0.out.own (.head _)) hl1 (by omega) (by omega)).mono ?_
            rintro e mX1 ⟨rfl, hown, hg⟩
            have zmX1 := hg.size
            (try simp only [World.size_alloc] at zmX1)
            have B0 := hid (B0.out.mark (ys := count (1 + xs0.length) xs1.length) (L' := [⟨lg0, hg0', 2, 1, y0.length, .slice ag0 y0.length cg0, y0⟩, ⟨lg1, hg1', 63, 2, y1.length, .slice ag1 y1.length cg1, (flatP y1)⟩, ⟨lw0, hw0, 2, 1, y0.length, .slice aw0 y0.length cw0, y0⟩, ⟨lw1, hw1, 63, 2, y1.length, .slice aw1 y1.length cw1, (flatP y1)⟩]) (.head _) hown hg (by simp only; omega) (by simp <;> omega) (by simp <;> omega))
            clear hown hg
            obtain ⟨lgb0, lgb1⟩ := B0.out.two (.head _)
            obtain ⟨lwb0, lwb1⟩ := B0.out.two (.tail _ (.tail _ (.tail _ (.head _))))
            go_wp2_with fail
            clear lgb0 lgb1
            clear lwb0 lwb1
            refine (eqCx_yes U _ _ _ _ y0 y0 _ (B0.out.slI (.head _)) (B0.out.slI (.tail _ (.tail _ (.head _)))) hRl0 hRl0 rfl).mono ?_
            rintro e e3 ⟨rfl, hB⟩
            have ze3 := hB.size
            (try simp only [World.size_alloc] at ze3)
            have B0 := hid (B0.out.below hB)
            clear hB
            go_wp2_with fail
            refine (eqPairs_yes _ _ y1.length _ _ (flatP y1) _ (B0.out.slI (.tail _ (.head _))) (B0.out.slI (.tail _ (.tail _ (.tail _ (.head _))))) Hq1.out hRl1).mono ?_
            rintro e e4 ⟨rfl, hB⟩
            have ze4 := hB.size
            (try simp only [World.size_alloc] at ze4)
            have B0 := hid (B0.out.below hB)
            clear hB
            obtain ⟨lgb0, lgb1⟩ := B0.out.two (.head _)
            go_wp2_with fail
            clear lgb0 lgb1
            refine (markCx U _ _ _ y0 (1) _ (B0.out.own (.head _)) hRl0 (by omega) (by omega)).mono ?_
            rintro e mg0 ⟨rfl, hown, hg⟩
            have zmg0 := hg.size
            (try simp only [World.size_alloc] at zmg0)
            have B0 := hid (B0.out.mark (ys := count (1) y0.length) (L' := [⟨lg0, hg0', 2, 1, y0.length, .slice ag0 y0.length cg0, count (1) y0.length⟩, ⟨lg1, hg1', 63, 2, y1.length, .slice ag1 y1.length cg1, (flatP y1)⟩, ⟨lw0, hw0, 2, 1, y0.length, .slice aw0 y0.length cw0, y0⟩, ⟨lw1, hw1, 63, 2, y1.length, .slice aw1 y1.length cw1, (flatP y1)⟩]) (.head _) hown hg (by simp only; omega) (by simp <;> omega) (by simp <;> omega))
            clear hown hg
            go_wp2_with fail
            refine (markPairs _ _ _ _ (flatP y1) (1 + y0.length) _ (B0.out.own (.tail _ (.head _))) hRl1 (by omega) (by omega)).mono ?_
            rintro e mg1 ⟨rfl, hown, hg⟩
            have zmg1 := hg.size
            (try simp only [World.size_alloc] at zmg1)
            have B0 := hid (B0.out.mark (ys := count (1 + y0.length) (y1.length * 2)) (L' := [⟨lg0, hg0', 2, 1, y0.length, .slice ag0 y0.length cg0, count (1) y0.length⟩, ⟨lg1, hg1', 63, 2, y1.length, .slice ag1 y1.length cg1, count (1 + y0.length) (y1.length * 2)⟩, ⟨lw0, hw0, 2, 1, y0.length, .slice aw0 y0.length cw0, y0⟩, ⟨lw1, hw1, 63, 2, y1.length, .slice aw1 y1.length cw1, (flatP y1)⟩]) (.tail _ (.head _)) hown hg (by simp only; omega) (by simp <;> omega) (by simp <;> omega))
            clear hown hg
            obtain ⟨lgb0, lgb1⟩ := B0.out.two (.head _)
            go_wp2_with fail
            clear lgb0 lgb1
            refine (heldCx U _ _ y0.length _ (1) _ rfl (B0.out.slI (.head _)) hRl0 (by omega) (by omega)).mono ?_
            rintro e t1 ⟨rfl, hB⟩
            have zt1 := hB.size
            (try simp only [World.size_alloc] at zt1)
            have B0 := hid (B0.out.below hB)
            clear hB
            go_wp2_with fail
            refine (heldPairs _ _ y1.length _ (1 + y0.length) _ rfl (B0.out.slI (.tail _ (.head _))) hRl1 (by omega) (by omega)).mono ?_
            rintro e t2 ⟨rfl, hB⟩
            have zt2 := hB.size
            (try simp only [World.size_alloc] at zt2)
            have B0 := hid (B0.out.below hB)
            clear hB
            have hnn : ((1 : Int) + y0.length + 2 * y1.length != 1 + y0.length + 2 * y1.length) = false := by simp
            obtain ⟨q0, q1⟩ := B0.out.two (.tail _ (.tail _ (.tail _ (.tail _ (.tail _ (.head _))))))
            obtain ⟨p0, p1⟩ := B0.out.two (.tail _ (.tail _ (.tail _ (.tail _ (.head _)))))
            have n0 := World.new_ne t2 _ q0
            have m0 := World.new_ne t2 _ p0
            go_wp2_with fail
            go_cut [17, 18, 19] from 119 to 127 (fun p s q wx => ∃ (b9 l9 h9 : Nat) (a9 : Option Addr) (c9 : Nat) (l8 h8 : Nat) (a8 : Option Addr) (c8 : Nat), p = .pointer (some ⟨b9, 0, none⟩) ∧ s = .slice a8 y1.length c8 ∧ q = .int .i64 c ∧ t2.heap.size ≤ l9 ∧ h9 ≤ wx.heap.size ∧ t2.heap.size ≤ l8 ∧ h8 ≤ wx.heap.size ∧ (h9 ≤ l8 ∨ h8 ≤ l9) ∧ t2.heap.size ≤ b9 ∧ (b9 < l9 ∨ h9 ≤ b9) ∧ (b9 < l8 ∨ h8 ≤ b9) ∧ b9 < wx.heap.size ∧ Book w wx [(a0, xs0), (a1, xs1)] [(b9, .cells #[.int .i64 U, .slice a9 y0.length c9] 29), (v9.heap.size, .cells #[.int .i64 U, .slice ag0 y0.length cg0] 29), (bw, .cells #[.int .i64 U, .slice aw0 y0.length cw0] 29), (w.heap.size + 1, .cells #[.int .i64 V1, .slice a1 xs1.length cap1] 24), (w.heap.size, .cells #[.int .i64 V0, .slice a0 xs0.length cap0] 24)] [⟨l8, h8, 63, 2, y1.length, .slice a8 y1.length c8, (flatP y1)⟩, ⟨l9, h9, 2, 1, y0.length, .slice a9 y0.length c9, y0⟩, ⟨lg0, hg0', 2, 1, y0.length, .slice ag0 y0.length cg0, count (1) y0.length⟩, ⟨lg1, hg1', 63, 2, y1.length, .slice ag1 y1.length cg1, count (1 + y0.length) (y1.length * 2)⟩, ⟨lw0, hw0, 2, 1, y0.length, .slice aw0 y0.length cw0, y0⟩, ⟨lw1, hw1, 63, 2, y1.length, .slice aw1 y1.length cw1, (flatP y1)⟩])
            case first =>
              go_region_held3 (fun w' => w'.cell? ⟨w.heap.size, 0, none⟩ = some (.int .i64 V0) ∧ w'.cell? ⟨w.heap.size, 1, none⟩ = some (.slice a0 xs0.length cap0) ∧ w'.cell? ⟨w.heap.size + 1, 0, none⟩ = some (.int .i64 V1) ∧ w'.cell? ⟨w.heap.size + 1, 1, none⟩ = some (.slice a1 xs1.length cap1)) (go_keep) (first
                | (go_at_call 17; have hC1 := C1.out; clear hC1; refine (toCx V1 a1 cap1 xs1 _ (by first | with_reducible_and_instances exact Book.arg (C1.out) (.tail _ (.head _)) | with_reducible_and_instances exact Book.arg ((C1.out.alloc (.cells #[.int .i64 0, .slice none 0 0] 29))) (.tail _ (.head _))) hl1).mono ?_; rintro e u2 ⟨g2, rfl, hown2, hB2⟩; (first | (have hZ : Below u1.heap.size u1 u2 := (by with_reducible exact hB2); have yu2 : u1.heap.size ≤ u2.heap.size := hZ.size; have C2 := hid (Book.row (C1.out) hown2 hB2); clear hZ) | (have hZ : Below (World.alloc u1 (.cells #[.int .i64 0, .slice none 0 0] 29)).heap.size (World.alloc u1 (.cells #[.int .i64 0, .slice none 0 0] 29)) u2 := (by with_reducible exact hB2); have yu2 : u1.heap.size + 1 ≤ u2.heap.size := (by simpa using hZ.size); have C2 := hid (Book.row ((C1.out.alloc (.cells #[.int .i64 0, .slice none 0 0] 29))) hown2 hB2); clear hZ)); clear hown2 hB2; (try simp only [World.size_alloc] at C2); have q02 : u2.cell? ⟨w.heap.size, 0, none⟩ = some (.int .i64 V0) := (by first | exact (C2.out.two (.tail _ (.tail _ (.tail _ (.tail _ (.tail _ (.head _))))))).1 | exact (C2.out.two (.tail _ (.tail _ (.tail _ (.tail _ (.tail _ (.tail _ (.head _)))))))).1); have q12 : u2.cell? ⟨w.heap.size, 1, none⟩ = some (.slice a0 xs0.length cap0) := (by first | exact (C2.out.two (.tail _ (.tail _ (.tail _ (.tail _ (.tail _ (.head _))))))).2 | exact (C2.out.two (.tail _ (.tail _ (.tail _ (.tail _ (.tail _ (.tail _ (.head _)))))))).2); have p02 : u2.cell? ⟨w.heap.size + 1, 0, none⟩ = some (.int .i64 V1) := (by first | exact (C2.out.two (.tail _ (.tail _ (.tail _ (.tail _ (.head _)))))).1 | exact (C2.out.two (.tail _ (.tail _ (.tail _ (.tail _ (.tail _ (.head _))))))).1); have p12 : u2.cell? ⟨w.heap.size + 1, 1, none⟩ = some (.slice a1 xs1.length cap1) := (by first | exact (C2.out.two (.tail _ (.tail _ (.tail _ (.tail _ (.head _)))))).2 | exact (C2.out.two (.tail _ (.tail _ (.tail _ (.tail _ (.tail _ (.head _))))))).2); have n2 := World.new_ne u2 _ q02; have m2 := World.new_ne u2 _ p02)
                | (go_at_call 17; refine (toCx V0 a0 cap0 xs0 _ (by first | with_reducible_and_instances exact Book.arg (B0.out.drew) (.head _) | with_reducible_and_instances exact Book.arg ((B0.out.alloc (.cells #[.int .i64 0, .slice none 0 0] 29)).drew) (.head _)) hl0).mono ?_; rintro e u1 ⟨g1, rfl, hown1, hB1⟩; (first | (have hZ : Below t2.drew.heap.size t2.drew u1 := (by with_reducible exact hB1); have yu1 : t2.heap.size ≤ u1.heap.size := hZ.size; have C1 := hid (Book.row (B0.out.drew) hown1 hB1); clear hZ) | (have hZ : Below (World.alloc t2 (.cells #[.int .i64 0, .slice none 0 0] 29)).drew.heap.size (World.alloc t2 (.cells #[.int .i64 0, .slice none 0 0] 29)).drew u1 := (by with_reducible exact hB1); have yu1 : t2.heap.size + 1 ≤ u1.heap.size := (by simpa using hZ.size); have C1 := hid (Book.row ((B0.out.alloc (.cells #[.int .i64 0, .slice none 0 0] 29)).drew) hown1 hB1); clear hZ)); clear hown1 hB1; have q01 : u1.cell? ⟨w.heap.size, 0, none⟩ = some (.int .i64 V0) := (by first | exact (C1.out.two (.tail _ (.tail _ (.tail _ (.tail _ (.tail _ (.head _))))))).1 | exact (C1.out.two (.tail _ (.tail _ (.tail _ (.tail _ (.tail _ (.tail _ (.head _)))))))).1); have q11 : u1.cell? ⟨w.heap.size, 1, none⟩ = some (.slice a0 xs0.length cap0) := (by first | exact (C1.out.two (.tail _ (.tail _ (.tail _ (.tail _ (.tail _ (.head _))))))).2 | exact (C1.out.two (.tail _ (.tail _ (.tail _ (.tail _ (.tail _ (.tail _ (.head _)))))))).2); have p01 : u1.cell? ⟨w.heap.size + 1, 0, none⟩ = some (.int .i64 V1) := (by first | exact (C1.out.two (.tail _ (.tail _ (.tail _ (.tail _ (.head _)))))).1 | exact (C1.out.two (.tail _ (.tail _ (.tail _ (.tail _ (.tail _ (.head _))))))).1); have p11 : u1.cell? ⟨w.heap.size + 1, 1, none⟩ = some (.slice a1 xs1.length cap1) := (by first | exact (C1.out.two (.tail _ (.tail _ (.tail _ (.tail _ (.head _)))))).2 | exact (C1.out.two (.tail _ (.tail _ (.tail _ (.tail _ (.tail _ (.head _))))))).2); have n1 := World.new_ne u1 _ q01; have m1 := World.new_ne u1 _ p01)
                | (go_at_call 32; refine (HI.out _ _ _ _ _ (by first | with_reducible_and_instances exact Book.slI (C2.out) (.tail _ (.head _)) | with_reducible_and_instances exact Book.slI ((C2.out.alloc (.cells #[.int .i64 0, .slice none 0 0] 29))) (.tail _ (.head _))) (by first | with_reducible_and_instances exact Book.slI (C2.out) (.head _) | with_reducible_and_instances exact Book.slI ((C2.out.alloc (.cells #[.int .i64 0, .slice none 0 0] 29))) (.head _))).mono ?_; rintro e u3 ⟨v, lA, hA, s, lB, hB, rfl, pA, pB, hd, hBl⟩; have oA := pA.own; have oB := pB.own; dsimp only at oA oB; obtain ⟨_, av, cv, rfl, _⟩ := ownsRow_slI oA; obtain ⟨_, aq, cq, rfl, _⟩ := pairs_form oB; have gA : _ ≤ lA := pA.ge; have gB : _ ≤ lB := pB.ge; have lA3 : hA ≤ _ := pA.le; have lB3 : hB ≤ _ := pB.le; clear oA oB; (try simp only [World.size_alloc] at gA gB); (first | (have hZ : Below u2.heap.size u2 u3 := (by with_reducible exact hBl); have yu3 : u2.heap.size ≤ u3.heap.size := hZ.size; have C3 := hid (((Book.below (C2.out) hZ).add pA).add pB); clear hZ) | (have hZ : Below (World.alloc u2 (.cells #[.int .i64 0, .slice none 0 0] 29)).heap.size (World.alloc u2 (.cells #[.int .i64 0, .slice none 0 0] 29)) u3 := (by with_reducible exact hBl); have yu3 : u2.heap.size + 1 ≤ u3.heap.size := (by simpa using hZ.size); have C3 := hid (((Book.below ((C2.out.alloc (.cells #[.int .i64 0, .slice none 0 0] 29))) hZ).add pA).add pB); clear hZ)); clear pA pB hBl; (try simp only [World.size_alloc] at C3); have q03 : u3.cell? ⟨w.heap.size, 0, none⟩ = some (.int .i64 V0) := (by first | exact (C3.out.two (.tail _ (.tail _ (.tail _ (.tail _ (.tail _ (.head _))))))).1 | exact (C3.out.two (.tail _ (.tail _ (.tail _ (.tail _ (.tail _ (.tail _ (.head _)))))))).1); have q13 : u3.cell? ⟨w.heap.size, 1, none⟩ = some (.slice a0 xs0.length cap0) := (by first | exact (C3.out.two (.tail _ (.tail _ (.tail _ (.tail _ (.tail _ (.head _))))))).2 | exact (C3.out.two (.tail _ (.tail _ (.tail _ (.tail _ (.tail _ (.tail _ (.head _)))))))).2); have p03 : u3.cell? ⟨w.heap.size + 1, 0, none⟩ = some (.int .i64 V1) := (by first | exact (C3.out.two (.tail _ (.tail _ (.tail _ (.tail _ (.head _)))))).1 | exact (C3.out.two (.tail _ (.tail _ (.tail _ (.tail _ (.tail _ (.head _))))))).1); have p13 : u3.cell? ⟨w.heap.size + 1, 1, none⟩ = some (.slice a1 xs1.length cap1) := (by first | exact (C3.out.two (.tail _ (.tail _ (.tail _ (.tail _ (.head _)))))).2 | exact (C3.out.two (.tail _ (.tail _ (.tail _ (.tail _ (.tail _ (.head _))))))).2); have n3 := World.new_ne u3 _ q03; have m3 := World.new_ne u3 _ p03; (try obtain ⟨c0, c1, f0, f1⟩ := two_of (C3.out.blocks (t2.heap.size, .cells #[.int .i64 0, .slice none 0 0] 29) (.head _))); (try obtain ⟨c0, c1, f0, f1⟩ := two_of (C3.out.blocks (u1.heap.size, .cells #[.int .i64 0, .slice none 0 0] 29) (.head _))); (try obtain ⟨c0, c1, f0, f1⟩ := two_of (C3.out.blocks (u2.heap.size, .cells #[.int .i64 0, .slice none 0 0] 29) (.head _))); skip))
              all_goals
                clear q0 q1 p0 p1 n0 m0
                go_wp2_with fail
                go_meet
                case rel => first
                  | exact ⟨u3.heap.size, lA, hA, av, cv, lB, hB, aq, cq, rfl, rfl, rfl, by omega, by simp; omega, by omega, by simp; omega, by omega, by omega, by omega, by omega, by simp, (by with_reducible_and_instances exact (C3.out.alloc _).only (by simp) (by simp))⟩
                  | exact ⟨t2.heap.size, lA, hA, av, cv, lB, hB, aq, cq, rfl, rfl, rfl, by omega, by simp; omega, by omega, by simp; omega, by omega, by omega, by omega, by omega, by simp; omega, (Book.only (bs' := [(t2.heap.size, .cells #[.int .i64 0, .slice none 0 0] 29), (v9.heap.size, .cells #[.int .i64 U, .slice ag0 y0.length cg0] 29), (bw, .cells #[.int .i64 U, .slice aw0 y0.length cw0] 29), (w.heap.size + 1, .cells #[.int .i64 V1, .slice a1 xs1.length cap1] 24), (w.heap.size, .cells #[.int .i64 V0, .slice a0 xs0.length cap0] 24)]) (L' := [⟨lB, hB, 63, 2, y1.length, .slice aq y1.length cq, (flatP y1)⟩, ⟨lA, hA, 2, 1, y0.length, .slice av y0.length cv, y0⟩, ⟨lg0, hg0', 2, 1, y0.length, .slice ag0 y0.length cg0, count (1) y0.length⟩, ⟨lg1, hg1', 63, 2, y1.length, .slice ag1 y1.length cg1, count (1 + y0.length) (y1.length * 2)⟩, ⟨lw0, hw0, 2, 1, y0.length, .slice aw0 y0.length cw0, y0⟩, ⟨lw1, hw1, 63, 2, y1.length, .slice aw1 y1.length cw1, (flatP y1)⟩]) C3.out (by simp) (by simp)).set2 (by omega) (by simp; omega) (by simp)⟩
                  | exact ⟨u1.heap.size, lA, hA, av, cv, lB, hB, aq, cq, rfl, rfl, rfl, by omega, by simp; omega, by omega, by simp; omega, by omega, by omega, by omega, by omega, by simp; omega, (Book.only (bs' := [(u1.heap.size, .cells #[.int .i64 0, .slice none 0 0] 29), (v9.heap.size, .cells #[.int .i64 U, .slice ag0 y0.length cg0] 29), (bw, .cells #[.int .i64 U, .slice aw0 y0.length cw0] 29), (w.heap.size + 1, .cells #[.int .i64 V1, .slice a1 xs1.length cap1] 24), (w.heap.size, .cells #[.int .i64 V0, .slice a0 xs0.length cap0] 24)]) (L' := [⟨lB, hB, 63, 2, y1.length, .slice aq y1.length cq, (flatP y1)⟩, ⟨lA, hA, 2, 1, y0.length, .slice av y0.length cv, y0⟩, ⟨lg0, hg0', 2, 1, y0.length, .slice ag0 y0.length cg0, count (1) y0.length⟩, ⟨lg1, hg1', 63, 2, y1.length, .slice ag1 y1.length cg1, count (1 + y0.length) (y1.length * 2)⟩, ⟨lw0, hw0, 2, 1, y0.length, .slice aw0 y0.length cw0, y0⟩, ⟨lw1, hw1, 63, 2, y1.length, .slice aw1 y1.length cw1, (flatP y1)⟩]) C3.out (by simp) (by simp)).set2 (by omega) (by simp; omega) (by simp)⟩
                  | exact ⟨u2.heap.size, lA, hA, av, cv, lB, hB, aq, cq, rfl, rfl, rfl, by omega, by simp; omega, by omega, by simp; omega, by omega, by omega, by omega, by omega, by simp; omega, (Book.only (bs' := [(u2.heap.size, .cells #[.int .i64 0, .slice none 0 0] 29), (v9.heap.size, .cells #[.int .i64 U, .slice ag0 y0.length cg0] 29), (bw, .cells #[.int .i64 U, .slice aw0 y0.length cw0] 29), (w.heap.size + 1, .cells #[.int .i64 V1, .slice a1 xs1.length cap1] 24), (w.heap.size, .cells #[.int .i64 V0, .slice a0 xs0.length cap0] 24)]) (L' := [⟨lB, hB, 63, 2, y1.length, .slice aq y1.length cq, (flatP y1)⟩, ⟨lA, hA, 2, 1, y0.length, .slice av y0.length cv, y0⟩, ⟨lg0, hg0', 2, 1, y0.length, .slice ag0 y0.length cg0, count (1) y0.length⟩, ⟨lg1, hg1', 63, 2, y1.length, .slice ag1 y1.length cg1, count (1 + y0.length) (y1.length * 2)⟩, ⟨lw0, hw0, 2, 1, y0.length, .slice aw0 y0.length cw0, y0⟩, ⟨lw1, hw1, 63, 2, y1.length, .slice aw1 y1.length cw1, (flatP y1)⟩]) C3.out (by simp) (by simp)).set2 (by omega) (by simp; omega) (by simp)⟩
            case rest =>
              obtain ⟨bh, lh0, hh0, ah0, ch0, lh1, hh1, ah1, ch1, rfl, rfl, rfl, zh1, zh2, zh3, zh4, hdh, zh5, zh6, zh7, zh8, hbk⟩ := hcut
              have B0 := hid hbk
              clear hbk q0 q1 p0 p1 n0 m0
              obtain ⟨wzh, hwzh⟩ : ∃ x, x = wc := ⟨_, rfl⟩
              rw [← hwzh] at B0 zh2 zh4 zh8 ⊢
              clear hwzh
              obtain ⟨lhb0, lhb1⟩ := B0.out.two (.head _)
              obtain ⟨lwb0, lwb1⟩ := B0.out.two (.tail _ (.tail _ (.head _)))
              go_wp2_with fail
              clear lhb0 lhb1
              clear lwb0 lwb1
              refine (eqCx_yes U _ _ _ _ y0 y0 _ (B0.out.slI (.tail _ (.head _))) (B0.out.slI (.tail _ (.tail _ (.tail _ (.tail _ (.head _)))))) hRl0 hRl0 rfl).mono ?_
              rintro e e5 ⟨rfl, hB⟩
              have ze5 := hB.size
              (try simp only [World.size_alloc] at ze5)
              have B0 := hid (B0.out.below hB)
              clear hB
              go_wp2_with fail
              refine (eqPairs_yes _ _ y1.length _ _ (flatP y1) _ (B0.out.slI (.head _)) (B0.out.slI (.tail _ (.tail _ (.tail _ (.tail _ (.tail _ (.head _))))))) Hq1.out hRl1).mono ?_
              rintro e e6 ⟨rfl, hB⟩
              have ze6 := hB.size
              (try simp only [World.size_alloc] at ze6)
              have B0 := hid (B0.out.below hB)
              clear hB
              obtain ⟨lgb0, lgb1⟩ := B0.out.two (.tail _ (.head _))
              go_wp2_with fail
              clear lgb0 lgb1
              refine (heldCx U _ _ y0.length _ (1) _ rfl (B0.out.slI (.tail _ (.tail _ (.head _)))) hRl0 (by omega) (by omega)).mono ?_
              rintro e t3 ⟨rfl, hB⟩
              have zt3 := hB.size
              (try simp only [World.size_alloc] at zt3)
              have B0 := hid (B0.out.below hB)
              clear hB
              go_wp2_with fail
              refine (heldPairs _ _ y1.length _ (1 + y0.length) _ rfl (B0.out.slI (.tail _ (.tail _ (.tail _ (.head _))))) hRl1 (by omega) (by omega)).mono ?_
              rintro e t4 ⟨rfl, hB⟩
              have zt4 := hB.size
              (try simp only [World.size_alloc] at zt4)
              have B0 := hid (B0.out.below hB)
              clear hB
              go_wp2_with fail
              go_ret
              exact ⟨rfl, B0.out.from0⟩

end Go.Proofs.Ytojnpacklcajpaa

namespace Go.Proofs.Ytojnpacklcajpaa.lawCollapseKeeping
open Go.ChangeShapes Go.WideShapes Go.ChangeAt Go.RowKit Go.Joins

set_option maxRecDepth 100000 in
theorem lifted (os : Os) (started : os.Started) (H : Type) (enc : TypeId × Value → H) :
    ReturnsInHanded {} Try.checked os 7 .any (Rows.fnExactCollapseKeepingSpec.pre6 enc Try.prog Try.f7 Rows.fnExactCollapseKeepingRow.domain false) (Rows.fnExactCollapseKeepingSpec.post enc Try.prog Try.f7 false true false false) := by
  refine returnsInHanded_of_change (C := Try.checked) own started (by kernel_rfl) Try.func7
    (ChangeSpec.witness6 (enc := enc) (C := Try.checked) false ⟨#[], #[.agg #[.int .i64 0, .slice none 0 0], .agg #[.int .i64 0, .slice none 0 0]], []⟩ 8 (by kernel_rfl) (by kernel_rfl) (by kernel_rfl) (by kernel_rfl)) ?_
  intro W base args ds gs before hval0 hW hcnd _
  have hval : ∀ (j : Nat) t v, Try.f7.params[j]? = some t → args[j]? = some v → Value.okWide Try.prog W .any base t v := hval0
  have hW' := hW
  obtain ⟨p, q, hA0, hV, rfl, hfz, hnd⟩ := hW
  have hA : DataW.TrodAll enc Try.prog W 0 (fun _ => true) true Try.f7.params.toList args.toList ds p := hA0
  rw [Try.params7] at hA hval
  obtain ⟨v0, vs0, d0, ds0, p0, q0, hargs, rfl, rfl, h0, r0⟩ := trodAll_cons hA
  obtain ⟨v1, vs1, d1, ds1, p1, q1, rfl, rfl, rfl, h1, r1⟩ := trodAll_cons r0
  obtain ⟨rfl, rfl, rfl⟩ := trodAll_nil r1
  obtain rfl : args = #[v0, v1] := by cases args; simp_all
  obtain ⟨rfl, rfl⟩ := trodVars_none hV
  have k0 := h0
  have lt0 : ∀ x ∈ p0, x.block < W.heap.size := by obtain ⟨m, hm⟩ := k0; exact DataW.trod_lt m _ _ _ hm
  obtain ⟨c0, c0', y0, y0', m0, rfl, _, _, hy0, hy0'⟩ := open_agg2 Try.underlying24 (by kernel_rfl) (by kernel_rfl) (hval 0 24 v0 rfl rfl) h0
  obtain ⟨V0, e0, _, _⟩ := DataW.trod_int Try.underlying2 hy0
  obtain ⟨a0, len0, cap0, xs0, rfl, rfl, hn0, hx0, _⟩ := slI_of_trod hy0'
  simp at e0
  subst e0
  have k1 := h1
  have lt1 : ∀ x ∈ p1, x.block < W.heap.size := by obtain ⟨m, hm⟩ := k1; exact DataW.trod_lt m _ _ _ hm
  obtain ⟨c1, c1', y1, y1', m1, rfl, _, _, hy1, hy1'⟩ := open_agg2 Try.underlying24 (by kernel_rfl) (by kernel_rfl) (hval 1 24 v1 rfl rfl) h1
  obtain ⟨V1, e1, _, _⟩ := DataW.trod_int Try.underlying2 hy1
  obtain ⟨a1, len1, cap1, xs1, rfl, rfl, hn1, hx1, _⟩ := slI_of_trod hy1'
  simp at e1
  subst e1
  clear hA0 hval0
  refine (law_CollapseKeeping V0 a0 cap0 xs0 V1 a1 cap1 xs1 W hx0 hx1 hn0 hn1).mono fun e W' ⟨he, bel⟩ => ?_
  subst he
  exact ⟨_, rfl, _, _, _, [], _, [], hW', trodAll_mk1 (shut_bool Try.underlying4 _), (trodAll_cons_mk (Below.trod laidOut (by kernel_rfl) (of_decide_eq_true (by kernel_rfl)) k0 bel lt0) (trodAll_cons_mk (Below.trod laidOut (by kernel_rfl) (of_decide_eq_true (by kernel_rfl)) k1 bel lt1) trodAll_mk0)), rfl, bel.frame _, fun h => by cases h⟩

theorem over : Rows.fnExactCollapseKeepingRow.holds Try.pinned (OpenSpec.ofChange Rows.fnExactCollapseKeepingSpec) :=
  OpenClaim.holds_of_wide 7 Try.f7 rfl rfl rfl rfl rfl rfl rfl ⟨rfl, rfl, rfl, rfl, rfl⟩ rfl rfl rfl rfl rfl (by kernel_rfl) Try.func7 (by kernel_rfl)
    (of_decide_eq_true (by kernel_rfl)) (by unfold Func.isWrapper; first | (rw [if_pos (by decide +kernel)]; kernel_rfl) | (rw [if_neg (by decide +kernel)]; exact ⟨rfl, rfl⟩))
    (fun os started H enc _ => lifted os started H enc)

theorem proved : Rows.FnExactCollapseKeepingSaid := over
end Go.Proofs.Ytojnpacklcajpaa.lawCollapseKeeping
