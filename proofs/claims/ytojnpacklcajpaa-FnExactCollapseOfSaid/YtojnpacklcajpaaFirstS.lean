import Derived.Test.YtojnpacklcajpaaFirst
import Derived.Test.YtojnpacklcajpaaFreeS
/-! The model's l05First. -/
namespace Go.Proofs.Ytojnpacklcajpaa
open Go.RowKit

/-- The model's walk over the faces, told as the first of the free pairs. -/
theorem firstP_hit {fs ls : List Int} {k : Nat} {f : Int} (hlt : k < fs.length) (hf : fs[k]?.getD 0 = f) (hg : freeG fs f.toNat ≠ 0) (hl : f ∉ ls) (hpre : ∀ p ∈ freeP fs (fs.take k), p.1 ∈ ls) : firstP fs ls = some (f, freeG fs f.toNat) := by
  have e : freeP fs fs = freeP fs (fs.take k) ++ ((f, freeG fs f.toNat) :: freeP fs (fs.drop (k + 1))) := by
    have hs := split_at hlt
    rw [hf] at hs
    have h2 : ∀ a b : List Int, freeP fs (a ++ b) = freeP fs a ++ freeP fs b := fun a b => by simp [freeP]
    have h3 : freeP fs (f :: fs.drop (k + 1)) = (f, freeG fs f.toNat) :: freeP fs (fs.drop (k + 1)) := by simp [freeP, hg]
    have : freeP fs fs = freeP fs (fs.take k ++ f :: fs.drop (k + 1)) := congrArg (freeP fs) hs
    rw [this, h2, h3]
  rw [firstP_pre e hpre, List.find?_cons]
  simp [hl]
theorem firstP_end {fs ls : List Int} (hpre : ∀ p ∈ freeP fs fs, p.1 ∈ ls) : firstP fs ls = none := List.find?_eq_none.2 (fun p hp => by simpa using hpre p hp)

set_option maxRecDepth 100000 in
set_option maxHeartbeats 4000000 in
theorem firstS_any (V : Int) (a0 : Option Addr) (cap : Nat) (fs : List Int) (V1 : Int) (a1 : Option Addr) (cap1 : Nat) (ls : List Int) (w : World) (hx : SlI w w.heap.size a0 fs) (hx1 : SlI w w.heap.size a1 ls) (hl : fs.length ≤ 1048576) (hl1 : ls.length ≤ 1048576) (hf : ∀ x ∈ fs, 1 ≤ x ∧ x ≤ 63) (hL : LowIn fs ls) :
    Calls Try.prog 95 #[.agg #[.int .i64 V, .slice a0 fs.length cap], .agg #[.int .i64 V1, .slice a1 ls.length cap1]] w fun e w' => e = .returned (.tuple #[.agg #[.int .i64 (prO (firstP fs ls)).1, .int .i64 (prO (firstP fs ls)).2], .bool (firstP fs ls).isSome]) ∧ Below w.heap.size w w' := by
  have hB0 : Below w.heap.size w (((w.alloc (.cells #[.int .i64 V, .slice a0 fs.length cap] 29)).alloc (.cells #[.int .i64 V1, .slice a1 ls.length cap1] 29)).alloc (.cells #[.int .i64 0, .int .i64 0] 63)) := (((Below.refl _ w).alloc (Nat.le_refl _) _).alloc (by simp) _).alloc (by simp <;> omega) _
  obtain ⟨W, hW⟩ : ∃ W, W = ((w.alloc (.cells #[.int .i64 V, .slice a0 fs.length cap] 29)).alloc (.cells #[.int .i64 V1, .slice a1 ls.length cap1] 29)).alloc (.cells #[.int .i64 0, .int .i64 0] 63) := ⟨_, rfl⟩
  have Q0 := hid (show W.heap[w.heap.size]? = some (.cells #[.int .i64 V, .slice a0 fs.length cap] 29 (0, 0)) by rw [hW, Below.heap_alloc _ _ _ (by simp <;> omega), Below.heap_alloc _ _ _ (by simp)]; exact heap_alloc_new _ _)
  have Q1 := hid (show W.heap[w.heap.size + 1]? = some (.cells #[.int .i64 V1, .slice a1 ls.length cap1] 29 (0, 0)) by rw [hW, Below.heap_alloc _ _ _ (by simp)]; exact new2 _ _ _)
  have R1 := hid (show W.heap[w.heap.size + 1 + 1]? = some (.cells #[.int .i64 0, .int .i64 0] 63 (0, 0)) by rw [hW]; exact new3 _ _ _ _)
  have HBW : Hid (Below w.heap.size w W) := hid (by rw [hW]; exact hB0)
  have HWs : Hid (w.heap.size + 1 + 1 < W.heap.size) := hid (lt_get R1.out)
  have HW := hid hW
  have Hx0 := hid hx
  have Hx1 := hid hx1
  have Hf := hid hf
  have HL := hid hL
  obtain ⟨F, hF⟩ : ∃ F, F = firstP fs ls := ⟨_, rfl⟩
  rw [← hF]
  have HF := hid hF
  clear hf hx hx1 hB0 hW hL hF
  go_enter Try.func95, Try.ntmps95
  go_wp2_with fail
  rw [← HW.out]
  go_loopg [6] fs.length (fun g i wr => ∃ k : Nat, k + g = fs.length ∧ i = .int .i64 k ∧ Hid (∀ p ∈ freeP fs (fs.take k), p.1 ∈ ls) ∧ Below W.heap.size W wr)
  case atStart => exact ⟨0, by omega, rfl, hid (by simp [freeP]), Below.refl _ _⟩
  case round =>
    obtain ⟨k, hkg, rfl, Hpre, hB⟩ := hrel
    have hws := HWs.out
    obtain ⟨k0, k1, _, _⟩ := two_of ((hB.block _ (lt_get Q0.out)).trans Q0.out)
    have HR := hid ((hB.block _ (lt_get R1.out)).trans R1.out)
    have HQ := hid ((hB.block _ (lt_get Q1.out)).trans Q1.out)
    have HBw := hid (HBW.out.trans (hB.mono HBW.out.size))
    have hsz := hB.size
    cases gk with
    | zero =>
      obtain rfl : k = fs.length := by omega
      rw [List.take_of_length_le (Nat.le_refl _)] at Hpre
      have HE := hid (HF.out.trans (firstP_end Hpre.out))
      obtain ⟨c0, c1, f0, f1⟩ := two_of HR.out
      go_wp2_with fail
      (try simp only [Exit.inBlock, Exit.then])
      have R3 := two_of (two_set HR.out (.int .i64 0) (.int .i64 0))
      refine done_pr (p := 4) (u := 5) (c := .bool false) (by kernel_rfl) rfl rfl R3.1 R3.2.1 rfl ⟨by rw [HE.out]; rfl, ?_⟩
      exact (HBw.out.setCell (p := ⟨w.heap.size + 1 + 1, 0, none⟩) (by show w.heap.size ≤ w.heap.size + 1 + 1; omega) _).setCell (p := ⟨w.heap.size + 1 + 1, 1, none⟩) (by show w.heap.size ≤ w.heap.size + 1 + 1; omega) _
    | succ g =>
      have hlt : k < fs.length := by omega
      obtain ⟨b, off, hb, rfl, hc⟩ : ∃ b off, b < w.heap.size ∧ a0 = some ⟨b, off, none⟩ ∧ ∀ i, i < fs.length → w.cell? ⟨b, off + i, none⟩ = some (.int .i64 (fs[i]?.getD 0)) := by
        rcases Hx0.out with rfl | h
        · simp at hlt
        · exact h
      obtain ⟨f, hf⟩ : ∃ f : Nat, (f : Int) = fs[k]?.getD 0 := ⟨(fs[k]?.getD 0).toNat, by have := Hf.out _ (getD_mem hlt); omega⟩
      have hfr := Hf.out _ (getD_mem hlt)
      have hfm := getD_mem hlt
      rw [← hf] at hfr hfm
      have hf64 : f < 64 := by omega
      have hck : wr.cell? ⟨b, off + k, none⟩ = some (.int .i64 (f : Int)) := by rw [hf]; exact (HBw.out.cell (p := ⟨b, off + k, none⟩) hb).trans (hc k hlt)
      have hi0 : (0 : Int) ≤ (k : Int) := by omega
      have hi1 : (k : Int) < (fs.length : Int) := by omega
      have Hn : Hid (freeP fs (fs.take (k + 1)) = freeP fs (fs.take k) ++ (if freeG fs f = 0 then [] else [((f : Int), freeG fs f)])) := hid (by rw [take_snoc hlt, freeP_snoc, ← hf, Int.toNat_natCast])
      have hgr := freeG_rng (f := f) Hf.out
      have Hcf := hid (free_any V (some ⟨b, off, none⟩) cap fs f wr (Hx0.out.later HBw.out HBw.out.size) hl Hf.out hf64)
      have Hhit := hid (fun hg hl => firstP_hit (ls := ls) hlt hf.symm (by rw [Int.toNat_natCast]; exact hg) hl Hpre.out)
      have Hmem : Hid (freeG fs f ≠ 0 → ((f : Int), freeG fs f) ∈ freeP fs fs) := hid (fun hg => mem_freeP.2 ⟨hfm, by rw [Int.toNat_natCast]; exact hg, by simp⟩)
      rw [Int.toNat_natCast] at Hhit
      obtain ⟨G, hG⟩ : ∃ G, G = freeG fs f := ⟨_, rfl⟩
      rw [← hG] at Hn hgr Hcf Hhit Hmem
      clear hc hf hG hfm
      go_wp2_with fail
      refine Hcf.out.mono ?_
      rintro e w2 ⟨rfl, hB2⟩
      have hs2 := hB2.size
      have HB2 := hid (hB.trans (hB2.mono hsz))
      by_cases hG : G = 0
      · subst hG
        have HP : Hid (freeP fs (fs.take (k + 1)) = freeP fs (fs.take k)) := hid (Hn.out.trans (by simp))
        clear Hn k0 k1 hck hB hB2
        go_wp2_with fail
        go_roundg g
        case measure => omega
        case rel => exact ⟨k + 1, by omega, by go_num, by rw [HP.out]; exact Hpre, HB2.out⟩
      · have hG0 : 0 < G := by omega
        have HP : Hid (freeP fs (fs.take (k + 1)) = freeP fs (fs.take k) ++ [((f : Int), G)]) := hid (Hn.out.trans (by rw [if_neg hG]))
        have HQ2 := hid ((hB2.block _ (lt_get HQ.out)).trans HQ.out)
        have HR2 := hid ((hB2.block _ (lt_get HR.out)).trans HR.out)
        have HB02 := hid (HBw.out.trans (hB2.mono HBw.out.size))
        have Hmm := hid (Hmem.out hG)
        have HhG := hid (Hhit.out hG)
        obtain ⟨l0, l1, _, _⟩ := two_of HQ2.out
        clear Hn k0 k1 hck hB hB2 hG Hmem Hhit
        by_cases hfl : (f : Int) ∈ ls
        · have Hfl := hid hfl
          clear hfl
          go_wp2_with fail
          refine (has_yes V1 (f : Int) a1 cap1 ls _ (Hx1.out.later HB02.out HB02.out.size) hl1 Hfl.out).mono ?_
          rintro e w3 ⟨rfl, hB3⟩
          have HB3 := hid (HB2.out.trans (hB3.mono (by omega)))
          clear l0 l1 hB3
          go_wp2_with fail
          go_roundg g
          case measure => omega
          case rel =>
            refine ⟨k + 1, by omega, by go_num, hid ?_, HB3.out⟩
            intro p hp
            rw [HP.out] at hp
            rcases List.mem_append.1 hp with h | h
            · exact Hpre.out p h
            · simp at h; subst h; exact Hfl.out
        · have Hfl := hid hfl
          have HGl : Hid (G ∉ ls) := hid (fun e => hfl (HL.out _ Hmm.out e))
          have HE := hid (HF.out.trans (HhG.out hfl))
          clear hfl
          go_wp2_with fail
          refine (has_no V1 (f : Int) a1 cap1 ls _ (Hx1.out.later HB02.out HB02.out.size) hl1 Hfl.out).mono ?_
          rintro e w3 ⟨rfl, hB3⟩
          have hs3 := hB3.size
          have HB03 := hid (HB02.out.trans (hB3.mono HB02.out.size))
          have HQ3 := hid ((hB3.block _ (lt_get HQ2.out)).trans HQ2.out)
          have HR3 := hid ((hB3.block _ (lt_get HR2.out)).trans HR2.out)
          clear l0 l1 hB3
          obtain ⟨l0, l1, _, _⟩ := two_of HQ3.out
          go_wp2_with fail
          refine (has_no V1 G a1 cap1 ls _ (Hx1.out.later HB03.out HB03.out.size) hl1 HGl.out).mono ?_
          rintro e w4 ⟨rfl, hB4⟩
          have HB04 := hid (HB03.out.trans (hB4.mono HB03.out.size))
          have HR4 := hid ((hB4.block _ (lt_get HR3.out)).trans HR3.out)
          obtain ⟨c0, c1, f0, f1⟩ := two_of HR4.out
          clear l0 l1 hB4
          go_wp2_with fail
          (try simp only [Exit.inBlock, Exit.then])
          have R3 := two_of (two_set HR4.out (.int .i64 (f : Int)) (.int .i64 G))
          refine done_pr (p := 4) (u := 5) (c := .bool true) (by kernel_rfl) rfl rfl R3.1 R3.2.1 rfl ⟨by rw [HE.out]; rfl, ?_⟩
          exact (HB04.out.setCell (p := ⟨w.heap.size + 1 + 1, 0, none⟩) (by show w.heap.size ≤ w.heap.size + 1 + 1; omega) _).setCell (p := ⟨w.heap.size + 1 + 1, 1, none⟩) (by show w.heap.size ≤ w.heap.size + 1 + 1; omega) _

end Go.Proofs.Ytojnpacklcajpaa
