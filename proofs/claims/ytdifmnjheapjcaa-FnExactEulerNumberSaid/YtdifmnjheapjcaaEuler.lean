import Derived.Test.YtdifmnjheapjcaaCountImpl
/-! EulerNumber, the model's and the program's. -/
namespace Go.Proofs.Ytdifmnjheapjcaa
open Go.RowKit

/-- The Euler number, as the model has it. -/
def eulerZ (fs : List Int) : Int := fs.foldl (fun s x => s + 2 * ((ones x.toNat : Int) % 2) - 1) 0

theorem eulerZ_snoc (pre : List Int) (x : Int) : eulerZ (pre ++ [x]) = eulerZ pre + 2 * ((ones x.toNat : Int) % 2) - 1 := by simp [eulerZ]

theorem eulerZ_from (fs : List Int) : ∀ s : Int, s - fs.length ≤ fs.foldl (fun s x => s + 2 * ((ones x.toNat : Int) % 2) - 1) s ∧ fs.foldl (fun s x => s + 2 * ((ones x.toNat : Int) % 2) - 1) s ≤ s + fs.length := by
  induction fs with
  | nil => intro s; simp
  | cons x fs ih =>
    intro s
    have h := ih (s + 2 * ((ones x.toNat : Int) % 2) - 1)
    simp only [List.foldl_cons, List.length_cons]
    omega

theorem eulerZ_near (fs : List Int) : -(fs.length : Int) ≤ eulerZ fs ∧ eulerZ fs ≤ fs.length := by
  have h := eulerZ_from fs 0
  unfold eulerZ
  omega

/-- The sum of the first n numbers of faces, with signs. -/
def alt (fs : List Int) : Nat → Int
  | 0 => 0
  | n + 1 => if n % 2 = 0 then alt fs n + ((ofDim fs (n : Int)).length : Int) else alt fs n - ((ofDim fs (n : Int)).length : Int)

theorem alt_nil (n : Nat) : alt [] n = 0 := by
  induction n with
  | zero => rfl
  | succ n ih => simp [alt, ih, ofDim]

theorem alt_snoc (pre : List Int) (x : Nat) (e : Nat) (he : ones x = e + 1) (n : Nat) : alt (pre ++ [(x : Int)]) n = alt pre n + (if e < n then (if e % 2 = 0 then 1 else -1) else 0) := by
  induction n with
  | zero => simp [alt]
  | succ n ih =>
    have hl : ((ofDim (pre ++ [(x : Int)]) (n : Int)).length : Int) = ((ofDim pre (n : Int)).length : Int) + (if e = n then 1 else 0) := by
      by_cases hen : e = n
      · subst hen; simp [ofDim, List.filter_append, he]
      · have : ¬ ((ones x : Int) = (n : Int) + 1) := by omega
        simp [ofDim, List.filter_append, this, hen]
    simp only [alt, ih, hl]
    by_cases h1 : e < n
    · have h2 : e < n + 1 := by omega
      have h3 : ¬ e = n := by omega
      simp only [h1, h2, h3, if_true, if_false]
      split <;> split <;> omega
    · by_cases h3 : e = n
      · subst h3
        simp only [Nat.lt_irrefl, Nat.lt_succ_self, if_true, if_false]
        split <;> omega
      · have h2 : ¬ e < n + 1 := by omega
        simp only [h1, h2, h3, if_false]
        split <;> omega

theorem alt_near (fs : List Int) (n : Nat) : -((n * fs.length : Nat) : Int) ≤ alt fs n ∧ alt fs n ≤ ((n * fs.length : Nat) : Int) := by
  induction n with
  | zero => simp [alt]
  | succ n ih =>
    have : (ofDim fs (n : Int)).length ≤ fs.length := List.length_filter_le _ _
    rw [Nat.succ_mul]
    simp only [alt]
    split <;> omega

theorem alt_euler (fs : List Int) (n : Nat) (hr : ∀ x ∈ fs, 1 ≤ x ∧ x ≤ 63) (hn : ∀ x ∈ fs, (ones x.toNat : Int) ≤ n) : ∀ k, k ≤ fs.length → alt (fs.take k) n = eulerZ (fs.take k) := by
  intro k
  induction k with
  | zero => intro _; simp [alt_nil, eulerZ]
  | succ k ih =>
    intro hk
    have hlt : k < fs.length := by omega
    have hm := getD_mem hlt
    have h1 := hr _ hm
    have h2 := hn _ hm
    obtain ⟨x, hx⟩ : ∃ x : Nat, (x : Int) = fs[k]?.getD 0 := ⟨(fs[k]?.getD 0).toNat, by omega⟩
    rw [take_snoc hlt, ← hx, eulerZ_snoc]
    rw [← hx] at h1 h2
    rw [Int.toNat_natCast] at h2 ⊢
    have hp : 0 < ones x := ones_pos ⟨x, by omega⟩ (by show x ≠ 0; omega)
    obtain ⟨e, he⟩ : ∃ e, ones x = e + 1 := ⟨ones x - 1, by omega⟩
    rw [alt_snoc _ _ e he, ih (by omega), if_pos (by omega)]
    split <;> omega

/-- What EulerNumber hands back. -/
noncomputable def eulerR (V : Int) (fs : List Int) : Int × Int := if isCB V fs then (eulerZ fs, 0) else (0, 1)

theorem num_mono {P : Program} {f : FuncId} {args : Array Value} {w : World} {r : Int × Int} {m c : Int} (hr : r = (m, c))
    (h : Calls P f args w fun e w' => e = .returned (.tuple #[.int .i64 m, .int .i64 c]) ∧ Below w.heap.size w w') : Calls P f args w fun e w' => e = .returned (.tuple #[.int .i64 r.1, .int .i64 r.2]) ∧ Below w.heap.size w w' := by
  subst hr; exact h

theorem tmod2 (n : Nat) : Int.tmod (n : Int) 2 = ((n % 2 : Nat) : Int) := by
  rw [Int.tmod_eq_emod_of_nonneg (by omega)]
  omega

set_option maxHeartbeats 1000000 in
theorem euler_any (V : Int) (a0 : Option Addr) (cap : Nat) (fs : List Int) (w : World) (hx : SlI w w.heap.size a0 fs) (hl : fs.length ≤ 1048576) (hf : ∀ x ∈ fs, 1 ≤ x ∧ x ≤ 63) :
    Calls Try.prog 59 #[.agg #[.int .i64 V, .slice a0 fs.length cap]] w fun e w' => e = .returned (.int .i64 (eulerZ fs)) ∧ Below w.heap.size w w' := by
  have hB0 : Below w.heap.size w (w.alloc (.cells #[.int .i64 V, .slice a0 fs.length cap] 27)) := (Below.refl _ w).alloc (Nat.le_refl _) _
  have Hx0 := hid hx
  have Hf := hid hf
  clear hx hf
  go_enter Try.func59, Try.ntmps59
  go_wp2
  go_loopw [3, 4] (fun m i wr => ∃ k : Nat, k ≤ fs.length ∧ i = .int .i64 k ∧ m = .int .i64 (eulerZ (fs.take k)) ∧ wr = w.alloc (.cells #[.int .i64 V, .slice a0 fs.length cap] 27)) (fun _ i _ => fs.length - (intOf i).toNat)
  case atStart => exact ⟨0, Nat.zero_le _, rfl, by simp [eulerZ], rfl⟩
  case round =>
    obtain ⟨k, hk, rfl, rfl, rfl⟩ := hrel
    by_cases hlt : k < fs.length
    · obtain ⟨b, off, hb, rfl, hc⟩ : ∃ b off, b < w.heap.size ∧ a0 = some ⟨b, off, none⟩ ∧ ∀ i, i < fs.length → w.cell? ⟨b, off + i, none⟩ = some (.int .i64 (fs[i]?.getD 0)) := by
        rcases Hx0.out with rfl | h
        · simp at hlt
        · exact h
      obtain ⟨x, hx⟩ : ∃ x : Nat, (x : Int) = fs[k]?.getD 0 := ⟨(fs[k]?.getD 0).toNat, by have := Hf.out _ (getD_mem hlt); omega⟩
      have hx64 : x < 64 := by have := Hf.out _ (getD_mem hlt); omega
      have hck : ∀ o, (w.alloc o).cell? ⟨b, off + k, none⟩ = some (.int .i64 (x : Int)) := cell_alloc0 (by rw [hx]; exact hc k hlt)
      have hi0 : (0 : Int) ≤ (k : Int) := by omega
      have hi1 : (k : Int) < (fs.length : Int) := by omega
      have ht := eulerZ_near (fs.take k)
      obtain ⟨t, htt⟩ : ∃ t, t = eulerZ (fs.take k) := ⟨_, rfl⟩
      have Ht : Hid (eulerZ (fs.take (k + 1)) = t + 2 * ((ones x % 2 : Nat) : Int) - 1) := hid (by rw [take_snoc hlt, ← hx, eulerZ_snoc, htt]; simp)
      rw [← htt] at ht ⊢
      have ht0 : -1048576 ≤ t := by have := ht.1; rw [List.length_take] at this; omega
      have ht1 : t ≤ 1048576 := by have := ht.2; rw [List.length_take] at this; omega
      have htm := tmod2 (ones x)
      obtain ⟨r, hr⟩ : ∃ r, r = ones x % 2 := ⟨_, rfl⟩
      have hr2 : r < 2 := by omega
      rw [← hr] at htm Ht
      have ho := ones_le x
      clear hx hc htt ht hr
      go_wp2_with (go_at_call 69; refine (ones_any x _ hx64).mono ?_; rintro e w' ⟨rfl, rfl⟩)
      go_roundw
      case rel => exact ⟨k + 1, by omega, by go_num, by rw [Ht.out], trivial⟩
      case measure => simp [intOf]; omega
    · go_wp2
      go_ret
      obtain rfl : k = fs.length := by omega
      exact ⟨ret_int (by rw [List.take_of_length_le (Nat.le_refl _)]), hB0⟩

set_option maxHeartbeats 1000000 in
theorem specEulerNumber (V : Int) (a : Option Addr) (cap : Nat) (fs : List Int) (w : World) (hx : SlI w w.heap.size a fs) (hl : fs.length ≤ 1048576) :
    Calls Try.prog 32 #[.agg #[.int .i64 V, .slice a fs.length cap]] w fun e w' => e = .returned (.tuple #[.int .i64 (eulerR V fs).1, .int .i64 (eulerR V fs).2]) ∧ Below w.heap.size w w' := by
  have hB0 : Below w.heap.size w (w.alloc (.cells #[.int .i64 V, .slice a fs.length cap] 27)) := (Below.refl _ w).alloc (Nat.le_refl _) _
  have Hx := hid (hx.later hB0 (by simp))
  by_cases hC : IsC V fs
  · refine num_mono (show eulerR V fs = (eulerZ fs, 0) by unfold eulerR; rw [isCB_true hC, if_pos rfl]) ?_
    have Hf := hid hC.range63
    have HC := hid hC
    clear hC
    go_enter Try.func32, Try.ntmps32
    go_wp2_with fail
    refine (is_yes V a cap fs _ Hx.out hl HC.out).mono ?_
    rintro e w1 ⟨rfl, hB1⟩
    have k0 : w1.cell? ⟨w.heap.size, 0, none⟩ = some (.int .i64 V) := (hB1.cell (p := ⟨w.heap.size, 0, none⟩) (by simp)).trans (by simp [go_sem])
    have k1 : w1.cell? ⟨w.heap.size, 1, none⟩ = some (.slice a fs.length cap) := (hB1.cell (p := ⟨w.heap.size, 1, none⟩) (by simp)).trans (by simp [go_sem])
    have hB01 := hB0.trans (hB1.mono (by simp))
    have hx1 := hid (hx.later hB01 hB01.size)
    go_wp2_with fail
    refine (euler_any V a cap fs _ hx1.out hl Hf.out).mono ?_
    rintro e w2 ⟨rfl, hB2⟩
    go_wp2_with fail
    go_ret2
    exact ⟨rfl, hB01.trans (hB2.mono hB01.size)⟩
  · refine num_mono (show eulerR V fs = (0, 1) by unfold eulerR; rw [isCB_false hC, if_neg (by simp)]) ?_
    go_enter Try.func32, Try.ntmps32
    go_wp2_with fail
    refine (is_no V a cap fs _ Hx.out hl hC).mono ?_
    rintro e w1 ⟨rfl, hB1⟩
    have hB01 := hB0.trans (hB1.mono (by simp))
    go_wp2_with fail
    go_ret2
    exact ⟨rfl, hB01⟩

set_option maxHeartbeats 1000000 in
theorem implEulerNumber (V : Int) (a : Option Addr) (cap : Nat) (fs : List Int) (w : World) (hx : SlI w w.heap.size a fs) (hl : fs.length ≤ 1048576) :
    Calls Try.prog 33 #[.agg #[.int .i64 V, .slice a fs.length cap]] w fun e w' => e = .returned (.tuple #[.int .i64 (eulerR V fs).1, .int .i64 (eulerR V fs).2]) ∧ Below w.heap.size w w' := by
  have hB0 : Below w.heap.size w (w.alloc (.cells #[.int .i64 V, .slice a fs.length cap] 27)) := (Below.refl _ w).alloc (Nat.le_refl _) _
  have Hx := hid (hx.later hB0 (by simp))
  have HK := hid (fun w' h => implCountFaces V a cap fs w' h hl)
  by_cases hC : IsC V fs
  · refine num_mono (show eulerR V fs = (eulerZ fs, 0) by unfold eulerR; rw [isCB_true hC, if_pos rfl]) ?_
    have Hr : Hid (countFacesR V fs = (countL fs (top fs + 1).toNat, 0)) := hid (by unfold countFacesR; rw [isCB_true hC, if_pos rfl])
    obtain ⟨T, hT⟩ : ∃ T : Nat, (T : Int) = top fs + 1 := ⟨(top fs + 1).toNat, by have := top_lo fs; omega⟩
    have hT6 : T ≤ 6 := by have := top_hi fs; omega
    have hTn : (top fs + 1).toNat = T := by omega
    rw [hTn] at Hr
    have HE : Hid (eulerZ fs = alt fs T) := hid (by
      have h := alt_euler fs T hC.range63 (fun x hx => by have := top_ge fs hx; omega) fs.length (Nat.le_refl _)
      rw [List.take_of_length_le (Nat.le_refl _)] at h
      exact h.symm)
    clear hC hT hTn
    have HK1 : Hid (∀ w', SlI w' w'.heap.size a fs → Calls Try.prog 31 #[.agg #[.int .i64 V, .slice a fs.length cap]] w' fun e w'' => ∃ v, e = .returned (.tuple #[v, .int .i64 0]) ∧ Res w' w'' v (countL fs T)) := hid (fun w' h => by have := HK.out w' h; rwa [Hr.out] at this)
    rw [HE.out]
    clear HE Hr HK
    go_enter Try.func33, Try.ntmps33
    go_wp2_with fail
    refine (HK1.out _ Hx.out).mono ?_
    rintro e w1 ⟨v, rfl, hr⟩
    obtain ⟨_, av, cv, rfl, hsl⟩ := ownsRow_slI hr.1
    rw [countL_len] at hr ⊢
    have hB01 := hB0.trans (hr.2.mono (by simp))
    have Hsl := hid hsl
    clear hsl hr HK1
    go_wp2_with fail
    go_loopw [6, 19] (fun m i wr => ∃ k : Nat, k ≤ T ∧ i = .int .i64 k ∧ m = .int .i64 (alt fs k) ∧ wr = w1) (fun _ i _ => T - (intOf i).toNat)
    case atStart => exact ⟨0, Nat.zero_le _, rfl, by simp [alt], rfl⟩
    case round =>
      obtain ⟨k, hk, rfl, rfl, rfl⟩ := hrel
      by_cases hlt : k < T
      · obtain ⟨b, off, _, rfl, hc⟩ : ∃ b off, b < wr.heap.size ∧ av = some ⟨b, off, none⟩ ∧ ∀ i, i < (countL fs T).length → wr.cell? ⟨b, off + i, none⟩ = some (.int .i64 ((countL fs T)[i]?.getD 0)) := by
          rcases Hsl.out with h | h
          · have := congrArg List.length h; rw [countL_len] at this; simp at this; omega
          · exact h
        obtain ⟨n, hn⟩ : ∃ n : Nat, n = (ofDim fs (k : Int)).length := ⟨_, rfl⟩
        have hn6 : n ≤ 1048576 := by rw [hn]; exact Nat.le_trans (List.length_filter_le _ _) hl
        have hck : wr.cell? ⟨b, off + k, none⟩ = some (.int .i64 (n : Int)) := by rw [hc k (by rw [countL_len]; exact hlt), countL_at _ _ _ hlt, hn]
        have hi0 : (0 : Int) ≤ (k : Int) := by omega
        have hi1 : (k : Int) < (T : Int) := by omega
        have ht := alt_near fs k
        have hkl : k * fs.length ≤ 6 * 1048576 := Nat.mul_le_mul (by omega) hl
        obtain ⟨t, htt⟩ : ∃ t, t = alt fs k := ⟨_, rfl⟩
        have Ht : Hid (alt fs (k + 1) = if k % 2 = 0 then t + (n : Int) else t - (n : Int)) := hid (by simp only [alt]; rw [htt, hn])
        rw [← htt] at ht ⊢
        have ht0 : -6291456 ≤ t := by omega
        have ht1 : t ≤ 6291456 := by omega
        have htm := tmod2 k
        clear hc htt ht hkl hn
        by_cases hp : k % 2 = 0
        · rw [hp] at htm
          rw [if_pos hp] at Ht
          clear hp
          go_wp2_with fail
          go_roundw
          case rel => exact ⟨k + 1, by omega, by go_num, by rw [Ht.out], trivial⟩
          case measure => simp [intOf]; omega
        · rw [show k % 2 = 1 by omega] at htm
          rw [if_neg hp] at Ht
          clear hp
          go_wp2_with fail
          go_roundw
          case rel => exact ⟨k + 1, by omega, by go_num, by rw [Ht.out], trivial⟩
          case measure => simp [intOf]; omega
      · go_wp2_with fail
        go_ret2
        obtain rfl : k = T := by omega
        exact ⟨rfl, hB01⟩
  · refine num_mono (show eulerR V fs = (0, 1) by unfold eulerR; rw [isCB_false hC, if_neg (by simp)]) ?_
    have Hr : Hid (countFacesR V fs = ([], 1)) := hid (by unfold countFacesR; rw [isCB_false hC, if_neg (by simp)])
    have HK1 : Hid (∀ w', SlI w' w'.heap.size a fs → Calls Try.prog 31 #[.agg #[.int .i64 V, .slice a fs.length cap]] w' fun e w'' => ∃ v, e = .returned (.tuple #[v, .int .i64 1]) ∧ Res w' w'' v []) := hid (fun w' h => by have := HK.out w' h; rwa [Hr.out] at this)
    clear HK Hr hC
    go_enter Try.func33, Try.ntmps33
    go_wp2_with fail
    refine (HK1.out _ Hx.out).mono ?_
    rintro e w1 ⟨v, rfl, hr⟩
    have hB01 := hB0.trans (hr.2.mono (by simp))
    go_wp2_with fail
    go_ret2
    exact ⟨rfl, hB01⟩

end Go.Proofs.Ytdifmnjheapjcaa
