import Derived.Test.YthmhdfhjjpfbfaaRankS
import Derived.WalkMore
import Derived.ScopeJumps
/-! The program's bringToSteps: a machine with two labels. -/
namespace Go.Proofs.Ythmhdfhjjpfbfaa
open Go.RowKit
open Go.Sort hiding Below

/-- As Q; by a goto: what holds there. -/
def jump2 (l0 l1 : Nat) (J0 J1 : Act → World → Prop) (Q : Exit → Act → World → Prop) : Exit → Act → World → Prop
  | .goto l, a, w => (l = l0 ∧ J0 a w) ∨ (l = l1 ∧ J1 a w)
  | .normal, a, w => Q .normal a w
  | .exit id, a, w => Q (.exit id) a w
  | .ret, a, w => Q .ret a w
  | .panic ch, a, w => Q (.panic ch) a w
  | .outgrown, a, w => Q .outgrown a w

/-- A scope with two labels, one of them at its head: what holds at each jump, and what each lowers. -/
theorem wp_scope_two {P : Program} {Q : Exit → Act → World → Prop} {a : Act} {w : World} {c c1 X Y x1 x2 x3 x4 : Code} {l0 l1 : Nat} (J0 J1 : Act → World → Prop) (m0 m1 : Act → World → Nat) (hc : c = c1.seq ((Code.label l0).seq X)) (_hX : X = x1.seq (x2.seq (x3.seq (x4.seq ((Code.label l1).seq Y)))))
    (h0 : findLabel c l0 = some (Code.skip.seq X)) (h1 : findLabel c l1 = some (Code.skip.seq Y))
    (first : c1.wp P (fun e a w => e = .normal ∧ J0 a w) a w)
    (pass0 : ∀ a w, J0 a w → X.wp P (jump2 l0 l1 (fun a' w' => J0 a' w' ∧ m0 a' w' < m0 a w) (fun a' w' => J1 a' w' ∧ m1 a' w' < m0 a w) Q) a w)
    (pass1 : ∀ a w, J1 a w → Y.wp P (jump2 l0 l1 (fun a' w' => J0 a' w' ∧ m0 a' w' < m1 a w) (fun a' w' => J1 a' w' ∧ m1 a' w' < m1 a w) Q) a w) : (Code.scope c).wp P Q a w := by
  intro b k cs
  have g0 : gotoIn l0 (.inScope c :: k) = some (.code (Code.skip.seq X) :: .inScope c :: k) := by simp [gotoIn, h0]
  have g1 : gotoIn l1 (.inScope c :: k) = some (.code (Code.skip.seq Y) :: .inScope c :: k) := by simp [gotoIn, h1]
  have key : ∀ N, (∀ a w, m0 a w = N → J0 a w → ∃ e a' w', Q e a' w' ∧ Arrives P (lone (b.at a (.code (Code.skip.seq X) :: .inScope c :: k)) cs w) b k cs e a' w') ∧
      (∀ a w, m1 a w = N → J1 a w → ∃ e a' w', Q e a' w' ∧ Arrives P (lone (b.at a (.code (Code.skip.seq Y) :: .inScope c :: k)) cs w) b k cs e a' w') := by
    intro N
    induction N using Nat.strongRecOn with
    | _ N ih =>
      have go : ∀ (Z : Code) (a : Act) (w : World), Z.wp P (jump2 l0 l1 (fun a' w' => J0 a' w' ∧ m0 a' w' < N) (fun a' w' => J1 a' w' ∧ m1 a' w' < N) Q) a w → ∃ e a' w', Q e a' w' ∧ Arrives P (lone (b.at a (.code Z :: .inScope c :: k)) cs w) b k cs e a' w' := by
        intro Z a w hZ
        obtain ⟨e, a1, w1, hq, harr⟩ := hZ b (.inScope c :: k) cs
        cases e with
        | normal => exact ⟨.normal, a1, w1, hq, Steps.trans harr (.one step_inScope)⟩
        | exit id => exact ⟨.exit id, a1, w1, hq, fun k' hk => harr k' (by simp [exitTo, hk])⟩
        | goto l' =>
          rcases hq with ⟨rfl, hJ, hlt⟩ | ⟨rfl, hJ, hlt⟩
          · obtain ⟨e2, a2, w2, hq2, harr2⟩ := (ih _ hlt).1 a1 w1 rfl hJ
            exact ⟨e2, a2, w2, hq2, .of_steps (harr _ g0) harr2⟩
          · obtain ⟨e2, a2, w2, hq2, harr2⟩ := (ih _ hlt).2 a1 w1 rfl hJ
            exact ⟨e2, a2, w2, hq2, .of_steps (harr _ g1) harr2⟩
        | ret => exact ⟨_, a1, w1, hq, harr⟩
        | panic ch => exact ⟨_, a1, w1, hq, harr⟩
        | outgrown => exact ⟨_, a1, w1, hq, harr⟩
      exact ⟨fun a w hn hJ => go _ a w (wp_seq (wp_skip (by subst hn; exact pass0 a w hJ))), fun a w hn hJ => go _ a w (wp_seq (wp_skip (by subst hn; exact pass1 a w hJ)))⟩
  have hfirst : c.wp P (jump2 l0 l1 J0 J1 Q) a w := by
    rw [hc]
    refine wp_seq (wp_mono first ?_)
    rintro e a w ⟨rfl, hJ⟩
    refine wp_seq (wp_label (wp_mono (pass0 a w hJ) ?_))
    intro e a' w' hq
    cases e with
    | goto l' => rcases hq with ⟨rfl, hJ, _⟩ | ⟨rfl, hJ, _⟩; exact .inl ⟨rfl, hJ⟩; exact .inr ⟨rfl, hJ⟩
    | normal => exact hq
    | exit id => exact hq
    | ret => exact hq
    | panic ch => exact hq
    | outgrown => exact hq
  obtain ⟨e, a1, w1, hq, harr⟩ := hfirst b (.inScope c :: k) cs
  cases e with
  | normal => exact ⟨.normal, a1, w1, hq, .head step_scope (Steps.trans harr (.one step_inScope))⟩
  | exit id => exact ⟨.exit id, a1, w1, hq, fun k' hk => .head step_scope (harr k' (by simp [exitTo, hk]))⟩
  | goto l' =>
    rcases hq with ⟨rfl, hJ⟩ | ⟨rfl, hJ⟩
    · obtain ⟨e2, a2, w2, hq2, harr2⟩ := (key _).1 a1 w1 rfl hJ
      exact ⟨e2, a2, w2, hq2, .of_steps (.head step_scope (harr _ g0)) harr2⟩
    · obtain ⟨e2, a2, w2, hq2, harr2⟩ := (key _).2 a1 w1 rfl hJ
      exact ⟨e2, a2, w2, hq2, .of_steps (.head step_scope (harr _ g1)) harr2⟩
  | ret => exact ⟨_, a1, w1, hq, .of_steps (.one step_scope) harr⟩
  | panic ch => exact ⟨_, a1, w1, hq, .of_steps (.one step_scope) harr⟩
  | outgrown => exact ⟨_, a1, w1, hq, .of_steps (.one step_scope) harr⟩

section
variable {Q : Exit → Act → World → Prop} {J0 J1 : Act → World → Prop} {l0 l1 : Nat} {a : Act} {w : World}
@[go_sem] theorem jump2_normal : jump2 l0 l1 J0 J1 Q .normal a w = Q .normal a w := rfl
@[go_sem] theorem jump2_exit (id : Nat) : jump2 l0 l1 J0 J1 Q (.exit id) a w = Q (.exit id) a w := rfl
@[go_sem] theorem jump2_ret : jump2 l0 l1 J0 J1 Q .ret a w = Q .ret a w := rfl
end

/-- Two rows' slices are put at one another's places, in the program's order. -/
theorem MatW.swap3 {W : World} {B R n w : Nat} {ad : Ads} {M : List (List Int)} (h : MatW W B R n w ad M) {r i : Nat} (hr : r < n) (hi : i < n) :
    MatW ((W.setCell ⟨R, r, none⟩ (.slice (some ⟨(adr ad i).1, (adr ad i).2, none⟩) w w)).setCell ⟨R, i, none⟩ (.slice (some ⟨(adr ad r).1, (adr ad r).2, none⟩) w w)) B R n w (swapA ad r i) (swapR M r i) := by
  refine h.swap hr hi (by simp [World.setCell]) (fun b hb => ?_) (fun k hk => ⟨?_, ?_⟩)
  · rw [Below.heap_setCell _ _ _ _ (by simpa using hb), Below.heap_setCell _ _ _ _ (by simpa using hb)]
  · rw [cells_set2 (by rw [(h.hd r hr).1]; rfl) (by rw [(h.hd i hi).1]; rfl), (h.hd k hk).1]
    by_cases e1 : k = i <;> by_cases e2 : k = r
    · subst e1; subst e2; simp
    · subst e1; simp
    · subst e2; simp [e1]
    · simp [e1, e2]
  · rw [World.frozen?_setCell, World.frozen?_setCell]; exact (h.hd k hk).2

/-- What holds at the label seek. -/
def Seek (B R n w : Nat) (W : World) (p : Int) (E r c : Nat) (wr : World) : Prop :=
  ∃ (M : List (List Int)) (ad : Ads), r ≤ n ∧ c ≤ w ∧ MatW wr B R n w ad M ∧ MatG p n w M ∧ E = elimR p (w - c) r c M ∧ Go.RowKit.Below B W wr
/-- .. at the label sweep. -/
def Swp (B R n w : Nat) (W : World) (p : Int) (E r c : Nat) (wr : World) : Prop :=
  ∃ (M : List (List Int)) (ad : Ads), r < n ∧ c < w ∧ MatW wr B R n w ad M ∧ MatG p n w M ∧ E = elimR p (w - (c + 1)) (r + 1) (c + 1) (sweepTo p c r n M) ∧ Go.RowKit.Below B W wr

/-- The machine at the label seek; at the label sweep. -/
def AtSeek (B R n w cap : Nat) (W : World) (p : Int) (E : Nat) (a' : Act) (w' : World) : Prop :=
  ∃ (r c : Nat) (us : Nat → Value), a' = { tmps := #[.slice (some ⟨R, 0, none⟩) n cap, .int .i64 p, undef, undef, .int .i64 0, .int .i64 (r : Int), .int .i64 (c : Int), us 7, us 8, us 9, us 10, us 11, us 12, us 13, us 14, us 15, us 16, us 17, us 18, us 19, us 20, us 21, us 22, us 23, us 24, us 25, us 26, us 27, us 28, us 29, us 30, us 31, us 32, us 33, us 34, us 35, us 36, us 37, us 38, us 39, us 40, us 41, us 42, us 43, us 44, us 45, us 46, us 47, us 48, us 49, us 50, us 51, us 52, us 53, us 54, us 55, us 56, us 57, us 58, us 59, us 60, us 61, us 62, us 63, us 64, us 65, us 66, us 67, us 68, us 69, us 70, us 71, us 72, us 73, us 74, us 75, us 76], defers := [] } ∧ Hid (Seek B R n w W p E r c w')
def AtSweep (B R n w cap : Nat) (W : World) (p : Int) (E : Nat) (a' : Act) (w' : World) : Prop :=
  ∃ (r c : Nat) (us : Nat → Value), a' = { tmps := #[.slice (some ⟨R, 0, none⟩) n cap, .int .i64 p, undef, undef, .int .i64 0, .int .i64 (r : Int), .int .i64 (c : Int), us 7, us 8, us 9, us 10, us 11, us 12, us 13, us 14, us 15, us 16, us 17, us 18, us 19, us 20, us 21, us 22, us 23, us 24, us 25, us 26, us 27, us 28, us 29, us 30, us 31, us 32, us 33, us 34, us 35, us 36, us 37, us 38, us 39, us 40, us 41, us 42, us 43, us 44, us 45, us 46, us 47, us 48, us 49, us 50, us 51, us 52, us 53, us 54, us 55, us 56, us 57, us 58, us 59, us 60, us 61, us 62, us 63, us 64, us 65, us 66, us 67, us 68, us 69, us 70, us 71, us 72, us 73, us 74, us 75, us 76], defers := [] } ∧ Hid (Swp B R n w W p E r c w')
theorem atSeek_of {B R n w cap : Nat} {W : World} {p : Int} {E r c : Nat} {w' : World} (tm : Array Value) (h : tm = #[.slice (some ⟨R, 0, none⟩) n cap, .int .i64 p, undef, undef, .int .i64 0, .int .i64 (r : Int), .int .i64 (c : Int), tm.getD 7 undef, tm.getD 8 undef, tm.getD 9 undef, tm.getD 10 undef, tm.getD 11 undef, tm.getD 12 undef, tm.getD 13 undef, tm.getD 14 undef, tm.getD 15 undef, tm.getD 16 undef, tm.getD 17 undef, tm.getD 18 undef, tm.getD 19 undef, tm.getD 20 undef, tm.getD 21 undef, tm.getD 22 undef, tm.getD 23 undef, tm.getD 24 undef, tm.getD 25 undef, tm.getD 26 undef, tm.getD 27 undef, tm.getD 28 undef, tm.getD 29 undef, tm.getD 30 undef, tm.getD 31 undef, tm.getD 32 undef, tm.getD 33 undef, tm.getD 34 undef, tm.getD 35 undef, tm.getD 36 undef, tm.getD 37 undef, tm.getD 38 undef, tm.getD 39 undef, tm.getD 40 undef, tm.getD 41 undef, tm.getD 42 undef, tm.getD 43 undef, tm.getD 44 undef, tm.getD 45 undef, tm.getD 46 undef, tm.getD 47 undef, tm.getD 48 undef, tm.getD 49 undef, tm.getD 50 undef, tm.getD 51 undef, tm.getD 52 undef, tm.getD 53 undef, tm.getD 54 undef, tm.getD 55 undef, tm.getD 56 undef, tm.getD 57 undef, tm.getD 58 undef, tm.getD 59 undef, tm.getD 60 undef, tm.getD 61 undef, tm.getD 62 undef, tm.getD 63 undef, tm.getD 64 undef, tm.getD 65 undef, tm.getD 66 undef, tm.getD 67 undef, tm.getD 68 undef, tm.getD 69 undef, tm.getD 70 undef, tm.getD 71 undef, tm.getD 72 undef, tm.getD 73 undef, tm.getD 74 undef, tm.getD 75 undef, tm.getD 76 undef]) (HK : Hid (Seek B R n w W p E r c w')) : AtSeek B R n w cap W p E { tmps := tm, defers := [] } w' :=
  ⟨r, c, fun i => tm.getD i undef, congrArg (fun t => ({ tmps := t, defers := [] } : Act)) h, HK⟩
theorem atSweep_of {B R n w cap : Nat} {W : World} {p : Int} {E r c : Nat} {w' : World} (tm : Array Value) (h : tm = #[.slice (some ⟨R, 0, none⟩) n cap, .int .i64 p, undef, undef, .int .i64 0, .int .i64 (r : Int), .int .i64 (c : Int), tm.getD 7 undef, tm.getD 8 undef, tm.getD 9 undef, tm.getD 10 undef, tm.getD 11 undef, tm.getD 12 undef, tm.getD 13 undef, tm.getD 14 undef, tm.getD 15 undef, tm.getD 16 undef, tm.getD 17 undef, tm.getD 18 undef, tm.getD 19 undef, tm.getD 20 undef, tm.getD 21 undef, tm.getD 22 undef, tm.getD 23 undef, tm.getD 24 undef, tm.getD 25 undef, tm.getD 26 undef, tm.getD 27 undef, tm.getD 28 undef, tm.getD 29 undef, tm.getD 30 undef, tm.getD 31 undef, tm.getD 32 undef, tm.getD 33 undef, tm.getD 34 undef, tm.getD 35 undef, tm.getD 36 undef, tm.getD 37 undef, tm.getD 38 undef, tm.getD 39 undef, tm.getD 40 undef, tm.getD 41 undef, tm.getD 42 undef, tm.getD 43 undef, tm.getD 44 undef, tm.getD 45 undef, tm.getD 46 undef, tm.getD 47 undef, tm.getD 48 undef, tm.getD 49 undef, tm.getD 50 undef, tm.getD 51 undef, tm.getD 52 undef, tm.getD 53 undef, tm.getD 54 undef, tm.getD 55 undef, tm.getD 56 undef, tm.getD 57 undef, tm.getD 58 undef, tm.getD 59 undef, tm.getD 60 undef, tm.getD 61 undef, tm.getD 62 undef, tm.getD 63 undef, tm.getD 64 undef, tm.getD 65 undef, tm.getD 66 undef, tm.getD 67 undef, tm.getD 68 undef, tm.getD 69 undef, tm.getD 70 undef, tm.getD 71 undef, tm.getD 72 undef, tm.getD 73 undef, tm.getD 74 undef, tm.getD 75 undef, tm.getD 76 undef]) (HK : Hid (Swp B R n w W p E r c w')) : AtSweep B R n w cap W p E { tmps := tm, defers := [] } w' :=
  ⟨r, c, fun i => tm.getD i undef, congrArg (fun t => ({ tmps := t, defers := [] } : Act)) h, HK⟩

set_option maxRecDepth 1000000 in
set_option maxHeartbeats 4000000 in
theorem steps_any (B R n w cap : Nat) (ad : Ads) (p : Int) (M : List (List Int)) (W : World) (hM : MatW W B R n w ad M) (hG : MatG p n w M) (hp : p = 2 ∨ p = 3) (hn : n ≤ 1048576) (hw : w ≤ 1048576) :
    Calls Try.prog 128 #[.slice (some ⟨R, 0, none⟩) n cap, .int .i64 p] W fun e W' => e = .returned (.int .i64 (elimR p w 0 0 M : Int)) ∧ Go.RowKit.Below B W W' := by
  obtain ⟨E, hE⟩ : ∃ E, E = elimR p w 0 0 M := ⟨_, rfl⟩
  rw [← hE]
  have HS : Hid (Seek B R n w W p E 0 0 W) := hid ⟨M, ad, by omega, by omega, hM, hG, hE, Below.refl _ _⟩
  have HP := hid hp
  clear hM hG hE hp
  go_enter Try.func128, Try.ntmps128
  go_wp2
  refine wp_scope_two (l0 := 0) (l1 := 1) (AtSeek B R n w cap W p E) (AtSweep B R n w cap W p E)
    (fun a' _ => 2 * (w - (intOf (a'.tmps.getD 6 undef)).toNat) + 1) (fun a' _ => 2 * (w - (intOf (a'.tmps.getD 6 undef)).toNat)) rfl rfl (by kernel_rfl) (by kernel_rfl) ?_ ?_ ?_
  · go_wp2
    exact atSeek_of (r := 0) (c := 0) _ rfl HS
  · rintro a' wr ⟨r, c, us, rfl, HK⟩
    clear HS
    obtain ⟨M, ad, hr, hc, hM, hG, hE, hB⟩ := HK.out
    have HM := hid hM
    have HG := hid hG
    have HE := hid hE
    have HB := hid hB
    clear hM hG hE hB HK
    have hr0 : (0 : Int) ≤ (r : Int) := by omega
    have hc0 : (0 : Int) ≤ (c : Int) := by omega
    by_cases hrn : r = n
    · have hd : ((r : Int) == (n : Int)) = true := by simp [hrn]
      have He : Hid (E = r) := hid (by rw [HE.out, elim_full _ _ _ _ (by rw [HG.out.len]; omega)])
      clear hrn
      go_wp2
      go_ret
      exact ⟨ret_int (by rw [He.out]), HB.out⟩
    · have hd : ((r : Int) == (n : Int)) = false := by simp; omega
      have hrlt : r < n := by omega
      have hri : (r : Int) < (n : Int) := by omega
      obtain ⟨cr, fr⟩ := HM.out.hd r hrlt
      clear hrn
      by_cases hcw : c = w
      · have hd2 : ((c : Int) == (w : Int)) = true := by simp [hcw]
        have He : Hid (E = r) := hid (by rw [HE.out, hcw, Nat.sub_self]; rfl)
        clear hcw
        go_wp2
        go_ret
        exact ⟨ret_int (by rw [He.out]), HB.out⟩
      · have hd2 : ((c : Int) == (w : Int)) = false := by simp; omega
        have hcl : c < w := by omega
        have hci : (c : Int) < (w : Int) := by omega
        clear hcw
        go_wp2
        obtain ⟨wo, rfl⟩ : ∃ wo : World, wo = wr := ⟨_, rfl⟩
        go_loopw [7] (fun s7 wx => ∃ (i : Nat), s7 = .int .i64 i ∧ r ≤ i ∧ i ≤ n ∧ Hid (∀ i', r ≤ i' → i' < i → ent M i' c = 0) ∧ wx = wo) (fun s7 _ => n - (intOf s7).toNat)
        case atStart => exact ⟨r, rfl, Nat.le_refl _, hr, hid (fun i' h1 h2 => by omega), rfl⟩
        case round =>
          obtain ⟨i, rfl, hri', hin, Hz, rfl⟩ := hrel
          by_cases hlt : i < n
          · have hi0 : (0 : Int) ≤ (i : Int) := by omega
            have hi1 : (i : Int) < (n : Int) := by omega
            obtain ⟨ci, fi⟩ := HM.out.hd i hlt
            have cx := (HM.out.at hlt hcl).1
            by_cases hx : ent M i c = 0
            · have Hz' : Hid (∀ i', r ≤ i' → i' < i + 1 → ent M i' c = 0) := hid (fun i' h1 h2 => by
                by_cases e : i' = i
                · rw [e]; exact hx
                · exact Hz.out i' h1 (by omega))
              rw [hx] at cx
              clear hx
              go_wp2
              go_roundw
              case rel => exact ⟨i + 1, by go_num, by omega, by omega, Hz', trivial⟩
              case measure => simp [intOf]; omega
            · have hdx : (ent M i c != 0) = true := by simpa using hx
              have HE2 : Hid (E = elimR p (w - (c + 1)) (r + 1) (c + 1) (sweepTo p c r n (swapR M r i))) := hid (by
                have h1 := HE.out
                rw [show w - c = (w - (c + 1)) + 1 by omega, elim_some hri' (by rw [HG.out.len]; exact hlt) hx Hz.out, HG.out.len] at h1
                exact h1)
              have hRB := HM.out.head
              have HM2 := hid ((HM.out.swap3 hrlt hlt).drewN 1)
              have HB2 := hid (below_drewN ((HB.out.setCell (p := ⟨R, r, none⟩) hRB.1 (.slice (some ⟨(adr ad i).1, (adr ad i).2, none⟩) w w)).setCell (p := ⟨R, i, none⟩) hRB.1 (.slice (some ⟨(adr ad r).1, (adr ad r).2, none⟩) w w)) 1)
              have HG2 := hid (swapR_good HG.out hrlt hlt)
              obtain ⟨v', ci2⟩ := cell?_setCell_some (w := wr) (p := ⟨R, r, none⟩) (x := .slice (some ⟨(adr ad i).1, (adr ad i).2, none⟩) w w) (q := ⟨R, i, none⟩) (v := _) ci
              clear hRB
              obtain ⟨x, hxx⟩ : ∃ x, x = ent M i c := ⟨_, rfl⟩
              rw [← hxx] at cx hdx
              clear hx hxx
              go_wp2
              go_region
              go_wp2
              refine wp_goto ?_
              refine .inr ⟨rfl, atSweep_of (r := r) (c := c) _ rfl (hid ⟨_, _, hrlt, hcl, HM2.out, HG2.out, HE2.out, HB2.out⟩), ?_⟩
              simp [intOf]
          · obtain rfl : i = n := by omega
            have HS2 : Hid (Seek B R i w W p E r (c + 1) wr) := hid ⟨M, ad, hr, by omega, HM.out, HG.out, by
              have h1 := HE.out
              rw [show w - c = (w - (c + 1)) + 1 by omega, elim_none (fun i' h1 h2 => Hz.out i' h1 (by rw [← HG.out.len]; exact h2))] at h1
              exact h1, HB.out⟩
            go_wp2
            refine wp_goto ?_
            refine .inl ⟨rfl, atSeek_of (r := r) (c := c + 1) _ rfl HS2, ?_⟩
            simp [intOf]
            omega
  · rintro a' wr ⟨r, c, us, rfl, HK⟩
    clear HS
    obtain ⟨M, ad, hr, hc, hM, hG, hE, hB⟩ := HK.out
    have HM := hid hM
    have HG := hid hG
    have HE := hid hE
    have HB := hid hB
    clear hM hG hE hB HK
    have hr0 : (0 : Int) ≤ (r : Int) := by omega
    have hr1 : (r : Int) < (n : Int) := by omega
    have hc0 : (0 : Int) ≤ (c : Int) := by omega
    have hci : (c : Int) < (w : Int) := by omega
    go_wp2
    go_loopw [8] (fun s8 wx => ∃ (i : Nat), s8 = .int .i64 i ∧ r + 1 ≤ i ∧ i ≤ n ∧ Hid (MatW wx B R n w ad (sweepTo p c r i M)) ∧ Hid (Go.RowKit.Below B W wx)) (fun s8 _ => n - (intOf s8).toNat)
    case atStart => exact ⟨r + 1, by go_num, Nat.le_refl _, by omega, hid (by rw [sweepTo_none (Nat.le_refl _)]; exact HM.out), HB⟩
    case round =>
      clear HM HB
      obtain ⟨i, rfl, hri, hin, HM, HB⟩ := hrel
      by_cases hlt : i < n
      · have hi0 : (0 : Int) ≤ (i : Int) := by omega
        have hi1 : (i : Int) < (n : Int) := by omega
        have ci := (HM.out.hd i hlt).1
        have cr := (HM.out.hd r hr).1
        have hrow : (sweepTo p c r i M)[i]?.getD [] = M[i]?.getD [] := sweepTo_later (by rw [HG.out.len]; exact hlt)
        have hown : (sweepTo p c r i M)[r]?.getD [] = M[r]?.getD [] := sweepTo_pivot (by rw [HG.out.len]; exact hr)
        have h1 := HM.out.row i hlt
        have h2 := HM.out.row r hr
        rw [hrow] at h1
        rw [hown] at h2
        have HC := hid (clear_any (adr ad i).1 (adr ad i).2 (adr ad r).1 (adr ad r).2 w c p _ _ wr.drew (Sort.holds_ahead encI wr 1 _ _ _ h1) (Sort.holds_ahead encI wr 1 _ _ _ h2) (HG.out.rowLen hlt) (HG.out.rowLen hr) hc hw HP.out (HG.out.rng _ (HG.out.row hlt)) (HG.out.rng _ (HG.out.row hr)) (HM.out.apart i r hlt hr (by omega)))
        have Hput := hid (fun m => HM.out.put hlt m (row := clr p c (M[i]?.getD []) (M[r]?.getD [])) (clr_len (HG.out.rowLen hlt) (HG.out.rowLen hr)))
        have Hsn := hid (sweepTo_succ (p := p) (c := c) (r := r) (k := i) (M := M) (by omega))
        have Hbs := hid (HM.out.base i hlt).1
        clear hrow hown h1 h2
        go_wp2_with fail
        go_region_with (go_at_call 145; refine HC.out.mono ?_; rintro e w2 ⟨⟨u, rfl⟩, m, hw2⟩; have A : Aside (w2 = _) := hw2; clear hw2)
        all_goals
          have hM2 := Hput.out (m + 1)
          have hB2 := below_put HB.out (m + 1) (adr ad i).1 (adr ad i).2 (clr p c (M[i]?.getD []) (M[r]?.getD [])) Hbs.out
          have e2 : w2 = putRow encI (Sort.ahead wr (m + 1)) (adr ad i).1 (adr ad i).2 (clr p c (M[i]?.getD []) (M[r]?.getD [])).toArray := by rw [A.out, Sort.drew_eq_ahead, Sort.ahead_ahead, Nat.add_comm 1 m]
          rw [← e2, ← Hsn.out] at hM2
          rw [← e2] at hB2
          have HM2 := hid hM2
          have HB2 := hid hB2
          clear hM2 hB2 e2 A
          go_wp2
          go_roundw
          case rel => exact ⟨i + 1, by go_num, by omega, by omega, HM2, HB2⟩
          case measure => simp [intOf]; omega
      · obtain rfl : i = n := by omega
        have HS2 : Hid (Seek B R i w W p E (r + 1) (c + 1) wr) := hid ⟨_, _, hr, hc, HM.out, sweepTo_good HG.out (by rcases HP.out with h | h <;> omega) hr, HE.out, HB.out⟩
        go_wp2
        refine wp_goto ?_
        refine .inl ⟨rfl, atSeek_of (r := r + 1) (c := c + 1) _ rfl HS2, ?_⟩
        simp [intOf]
        omega

end Go.Proofs.Ythmhdfhjjpfbfaa
