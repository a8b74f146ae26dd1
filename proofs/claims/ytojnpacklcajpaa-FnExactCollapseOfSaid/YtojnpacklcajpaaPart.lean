import Derived.Test.YtojnpacklcajpaaFw
import Derived.Test.YtojnpacklcajpaaCx
import Derived.Test.YtojnpacklcajpaaContains
/-! slices.ContainsFunc over a closure with one captured variable; the program's isPart. -/
namespace Go.Proofs.Ytojnpacklcajpaa
open Go.RowKit

set_option maxRecDepth 100000 in
set_option maxHeartbeats 2000000 in
theorem idxg_any (a : Option Addr) (cap : Nat) (xs : List Int) (w : World) (fid : Nat) (c1 : Value) (p : Int → Bool) (hx : SlI w w.heap.size a xs) (hl : xs.length ≤ 1048576)
    (hent : ∀ args w, (callFunc fid args).run Try.prog w = .ok (.enter fid args) w)
    (hcl : ∀ W' x, Below w.heap.size w W' → x ∈ xs → Calls Try.prog fid #[.int .i64 x, c1] W' fun e w' => e = .returned (.bool (p x)) ∧ Below W'.heap.size W' w') :
    Calls Try.prog 116 #[.slice a xs.length cap, .func (.func fid) #[] #[c1]] w fun e w' => ∃ i : Int, e = .returned (.int .i64 i) ∧ -1 ≤ i ∧ (0 ≤ i ↔ ∃ x ∈ xs, p x = true) ∧ Below w.heap.size w w' := by
  rcases hx with rfl | ⟨b, off, hb, rfl, hc⟩
  · clear hcl
    go_enter Try.func116, Try.ntmps116
    go_wp2
    refine wp_loop_rounds 1 ?_; rw [rounds_succ]
    go_wp2
    go_ret
    exact ⟨-1, rfl, by decide, by simp, Below.refl _ _⟩
  · have Hc := hid hc
    have Hcl := hid hcl
    clear hc hcl
    go_enter Try.func116, Try.ntmps116
    go_wp2
    go_loopw [8] (fun i wr => ∃ k : Nat, k ≤ xs.length ∧ i = .int .i64 k ∧ Hid (∀ x ∈ xs.take k, p x = false) ∧ Below w.heap.size w wr) (fun i _ => xs.length - (intOf i).toNat)
    case atStart => exact ⟨0, Nat.zero_le _, rfl, hid (by simp), Below.refl _ _⟩
    case round =>
      obtain ⟨k, hk, rfl, Hk, hB⟩ := hrel
      by_cases hlt : k < xs.length
      · obtain ⟨y, hy⟩ : ∃ y, y = xs[k]?.getD 0 := ⟨_, rfl⟩
        have hck : wr.cell? ⟨b, off + k, none⟩ = some (.int .i64 y) := by rw [hy]; exact (hB.cell (p := ⟨b, off + k, none⟩) hb).trans (Hc.out k hlt)
        have hym : y ∈ xs := by rw [hy]; exact getD_mem hlt
        have Hy := hid hy
        have hi0 : (0 : Int) ≤ (k : Int) := by omega
        have hi1 : (k : Int) < (xs.length : Int) := by omega
        have Hcall := hid (Hcl.out wr y hB hym)
        have hsz := hB.size
        clear hy
        go_wp2_with fail
        refine Hcall.out.mono ?_
        rintro e w1 ⟨rfl, hB1⟩
        have HB1 := hid (hB.trans (hB1.mono hsz))
        clear hck
        by_cases hpy : p y = true
        · have He : Hid (∃ x ∈ xs, p x = true) := hid ⟨y, hym, hpy⟩
          rw [hpy]
          go_wp2_with fail
          go_ret
          exact ⟨k, rfl, by omega, ⟨fun _ => He.out, fun _ => by omega⟩, HB1.out⟩
        · have hpf : p y = false := by simpa using hpy
          have He : Hid (∀ x ∈ xs.take (k + 1), p x = false) := hid (by
            rw [take_snoc hlt, ← Hy.out]
            intro x h
            rcases List.mem_append.1 h with h | h
            · exact Hk.out x h
            · simp at h; rw [h]; exact hpf)
          rw [hpf]
          clear hpy hpf
          go_wp2_with fail
          go_roundw
          case rel => exact ⟨k + 1, by omega, by go_num, He, HB1.out⟩
          case measure => simp [intOf]; omega
      · have He : Hid (¬ ∃ x ∈ xs, p x = true) := hid (by
          have := Hk.out
          rw [List.take_of_length_le (by omega)] at this
          rintro ⟨x, hx, hne⟩
          rw [this x hx] at hne
          cases hne)
        go_wp2
        go_ret
        exact ⟨-1, rfl, by decide, ⟨fun h => absurd h (by decide), fun h => absurd h He.out⟩, hB⟩

set_option maxRecDepth 100000 in
set_option maxHeartbeats 1000000 in
theorem containsg_any (a : Option Addr) (cap : Nat) (xs : List Int) (w : World) (fid : Nat) (c1 : Value) (p : Int → Bool) (hx : SlI w w.heap.size a xs) (hl : xs.length ≤ 1048576)
    (hent : ∀ args w, (callFunc fid args).run Try.prog w = .ok (.enter fid args) w)
    (hcl : ∀ W' x, Below w.heap.size w W' → x ∈ xs → Calls Try.prog fid #[.int .i64 x, c1] W' fun e w' => e = .returned (.bool (p x)) ∧ Below W'.heap.size W' w') :
    Calls Try.prog 96 #[.slice a xs.length cap, .func (.func fid) #[] #[c1]] w fun e w' => e = .returned (.bool (decide (∃ x ∈ xs, p x = true))) ∧ Below w.heap.size w w' := by
  have HI := hid (idxg_any a cap xs w fid c1 p hx hl hent hcl)
  obtain ⟨c, hc⟩ : ∃ c, c = decide (∃ x ∈ xs, p x = true) := ⟨_, rfl⟩
  have Hc := hid hc
  rw [← hc]
  clear hc hx hcl hent
  go_enter Try.func96, Try.ntmps96
  go_wp2_with fail
  refine HI.out.mono ?_
  rintro e w' ⟨i, rfl, h1, h2, hB⟩
  have Hi := hid h2
  have H1 := hid h1
  clear h1 h2
  by_cases h0 : 0 ≤ i
  · have He : Hid (c = true) := hid (by rw [Hc.out]; exact decide_eq_true (Hi.out.1 h0))
    go_wp2_with fail
    go_ret
    exact ⟨ret_bool (by rw [He.out]), hB⟩
  · have He : Hid (c = false) := hid (by rw [Hc.out]; exact decide_eq_false (fun h => h0 (Hi.out.2 h)))
    have hlt : i < 0 := by omega
    go_wp2_with fail
    go_ret
    exact ⟨ret_bool (by rw [He.out]; simp [hlt]), hB⟩

theorem partWanted (fs : List Int) (V : Int) (a0 : Option Addr) (cap : Nat) (bd : Nat) (x : Int) (w : World) (hd : w.heap[bd]? = some (.cells #[.int .i64 V, .slice a0 fs.length cap] 29 (0, 0))) (hx : SlI w w.heap.size a0 fs) (hl : fs.length ≤ 1048576) :
    Calls Try.prog 97 #[.int .i64 x, .pointer (some ⟨bd, 0, none⟩)] w fun e w' => e = .returned (.bool (decide (x ∉ fs))) ∧ Below w.heap.size w w' := by
  have Hc := hid (contains_any a0 cap fs x w hx hl)
  obtain ⟨k0, k1, _, _⟩ := two_of hd
  clear hx hd
  go_enter Try.func97, Try.ntmps97
  go_wp2_with fail
  refine Hc.out.mono ?_
  rintro e w1 ⟨rfl, rfl⟩
  go_wp2_with fail
  go_ret
  exact ⟨ret_bool (by simp), Below.refl _ _⟩

/-- Whether a complex is a part of another one. -/
def partB (V : Int) (fs : List Int) (V1 : Int) (ls : List Int) : Bool := decide (V = V1) && decide (∀ x ∈ ls, x ∈ fs)

set_option maxRecDepth 100000 in
set_option maxHeartbeats 1000000 in
theorem isPart_any (V : Int) (a0 : Option Addr) (cap : Nat) (fs : List Int) (V1 : Int) (a1 : Option Addr) (cap1 : Nat) (ls : List Int) (w : World) (hx : SlI w w.heap.size a0 fs) (hx1 : SlI w w.heap.size a1 ls) (hl : fs.length ≤ 1048576) (hl1 : ls.length ≤ 1048576) :
    Calls Try.prog 65 #[.agg #[.int .i64 V, .slice a0 fs.length cap], .agg #[.int .i64 V1, .slice a1 ls.length cap1]] w fun e w' => e = .returned (.bool (partB V fs V1 ls)) ∧ Below w.heap.size w w' := by
  have hB0 : Below w.heap.size w ((w.alloc (.cells #[.int .i64 V, .slice a0 fs.length cap] 29)).alloc (.cells #[.int .i64 V1, .slice a1 ls.length cap1] 29)) := ((Below.refl _ w).alloc (Nat.le_refl _) _).alloc (by simp) _
  obtain ⟨W, hW⟩ : ∃ W, W = (w.alloc (.cells #[.int .i64 V, .slice a0 fs.length cap] 29)).alloc (.cells #[.int .i64 V1, .slice a1 ls.length cap1] 29) := ⟨_, rfl⟩
  have Q0 := hid (show W.heap[w.heap.size]? = some (.cells #[.int .i64 V, .slice a0 fs.length cap] 29 (0, 0)) by rw [hW, Below.heap_alloc _ _ _ (by simp)]; exact heap_alloc_new _ _)
  have Q1 := hid (show W.heap[w.heap.size + 1]? = some (.cells #[.int .i64 V1, .slice a1 ls.length cap1] 29 (0, 0)) by rw [hW]; exact new2 _ _ _)
  have HBW : Hid (Below w.heap.size w W) := hid (by rw [hW]; exact hB0)
  have HxW := hid (hx.later HBW.out HBW.out.size)
  have Hx1W := hid (hx1.later HBW.out HBW.out.size)
  have HW := hid hW
  obtain ⟨P, hP⟩ : ∃ P, P = partB V fs V1 ls := ⟨_, rfl⟩
  rw [← hP]
  have HP := hid hP
  have HCF := hid (containsg_any a1 cap1 ls W 97 (.pointer (some ⟨w.heap.size, 0, none⟩)) (fun x => decide (x ∉ fs)) Hx1W.out hl1 (enters_of Try.func97 (by kernel_rfl) rfl) (fun W' x hW' _ => partWanted fs V a0 cap w.heap.size x W' ((hW'.block _ (lt_get Q0.out)).trans Q0.out) (HxW.out.later hW' hW'.size) hl))
  obtain ⟨k0, k1, _, _⟩ := two_of Q0.out
  obtain ⟨l0, l1, _, _⟩ := two_of Q1.out
  clear hB0 hW hx hx1 hP
  go_enter Try.func65, Try.ntmps65
  go_wp2_with fail
  rw [← HW.out]
  refine HCF.out.mono ?_
  rintro e w2 ⟨rfl, hB2⟩
  have k02 := (hB2.cell (p := ⟨w.heap.size, 0, none⟩) (lt_get Q0.out)).trans k0
  have l02 := (hB2.cell (p := ⟨w.heap.size + 1, 0, none⟩) (lt_get Q1.out)).trans l0
  have HB := hid (HBW.out.trans (hB2.mono HBW.out.size))
  clear k0 k1 l0 l1 hB2
  by_cases hV : V = V1
  · have hd : (V == V1) = true := by simp [hV]
    have He : Hid (P = !decide (∃ x ∈ ls, decide (x ∉ fs) = true)) := hid (by
      rw [HP.out]
      unfold partB
      rw [decide_eq_true hV, Bool.true_and]
      by_cases h : ∀ x ∈ ls, x ∈ fs
      · rw [decide_eq_true h, decide_eq_false (by rintro ⟨x, hx, hn⟩; simp at hn; exact hn (h x hx))]; rfl
      · rw [decide_eq_false h, decide_eq_true (by
          apply Classical.byContradiction
          intro hn
          apply h
          intro x hx
          apply Classical.byContradiction
          intro hxn
          exact hn ⟨x, hx, by simpa using hxn⟩)]; rfl)
    clear hV
    go_wp2_with fail
    go_ret
    exact ⟨ret_bool (by rw [He.out]; simp), HB.out⟩
  · have hd : (V == V1) = false := by simpa using hV
    have He : Hid (P = false) := hid (by rw [HP.out]; unfold partB; rw [decide_eq_false hV]; rfl)
    clear hV
    go_wp2_with fail
    go_ret
    exact ⟨ret_bool (by rw [He.out]), HB.out⟩

end Go.Proofs.Ytojnpacklcajpaa
