import Derived.WalkMore
import Derived.ScopeJumps
import Derived.Deep.CutRange
import Derived.Deep.RegionHeld3
import Derived.Lib.QuietBelow
import Derived.Test.YtpdhnjdnlgnniaaDoorMB1
import Derived.Test.YtpdhnjdnlgnniaaDoorMB2
import Derived.Test.YtpdhnjdnlgnniaaDoorMB3
/-! The program's bringToSteps: a machine with two labels. Rows X behind those that it is told stay as they are. -/
namespace Go.Proofs.YtpdhnjdnlgnniaaDoor
open Go.RowKit
open Go.Sort hiding Below

/-- As Q; by a goto: what holds there. -/
def jump2 (l0 l1 : Nat) (J0 J1 : Act → World → Prop) (Q : Exit → Act → World → Prop) : Exit → Act → World → Prop
  | .goto l, a, w => (l = l0 ∧ J0 a w) ∨ (l = l1 ∧ J1 a w)
  | .normal, a, w => Q .normal a w
  | .exit id, a, w => Q (.exit id) a w
  | .ret, a, w => Q .ret a w
  | .panic ch, a, w => Q (.panic ch) a w
  | .outgrown, a, w => Q .outgrown a w

/-- A scope with two labels, one of them at its head: what holds at each jump, and what each lowers. -/
theorem wp_scope_two {P : Program} {Q : Exit → Act → World → Prop} {a : Act} {w : World} {c c1 X Y x1 x2 x3 x4 : Code} {l0 l1 : Nat} (J0 J1 : Act → World → Prop) (m0 m1 : Act → World → Nat) (hc : c = c1.seq ((Code.label l0).seq X)) (_hX : X = x1.seq (x2.seq (x3.seq (x4.seq ((Code.label l1).seq Y)))))
    (h0 : findLabel c l0 = some (Code.skip.seq X)) (h1 : findLabel c l1 = some (Code.skip.seq Y))
    (first : c1.wp P (fun e a w => e = .normal ∧ J0 a w) a w)
    (pass0 : ∀ a w, J0 a w → X.wp P (jump2 l0 l1 (fun a' w' => J0 a' w' ∧ m0 a' w' < m0 a w) (fun a' w' => J1 a' w' ∧ m1 a' w' < m0 a w) Q) a w)
    (pass1 : ∀ a w, J1 a w → Y.wp P (jump2 l0 l1 (fun a' w' => J0 a' w' ∧ m0 a' w' < m1 a w) (fun a' w' => J1 a' w' ∧ m1 a' w' < m1 a w) Q) a w) : (Code.scope c).wp P Q a w := by
  intro b k cs
  have g0 : gotoIn l0 (.inScope c :: k) = some (.code (Code.skip.seq X) :: .inScope c :: k) := by simp [gotoIn, h0]
  have g1 : gotoIn l1 (.inScope c :: k) = some (.code (Code.skip.seq Y) :: .inScope c :: k) := by simp [gotoIn, h1]
  have key : ∀ N, (∀ a w, m0 a w = N → J0 a w → ∃ e a' w', Q e a' w' ∧ Arrives P (lone (b.at a (.code (Code.skip.seq X) :: .inScope c :: k)) cs w) b k cs e a' w') ∧
      (∀ a w, m1 a w = N → J1 a w → ∃ e a' w', Q e a' w' ∧ Arrives P (lone (b.at a (.code (Code.skip.seq Y) :: .inScope c :: k)) cs w) b k cs e a' w') := by
    intro N
    induction N using Nat.strongRecOn with
    | _ N ih =>
      have go : ∀ (Z : Code) (a : Act) (w : World), Z.wp P (jump2 l0 l1 (fun a' w' => J0 a' w' ∧ m0 a' w' < N) (fun a' w' => J1 a' w' ∧ m1 a' w' < N) Q) a w → ∃ e a' w', Q e a' w' ∧ Arrives P (lone (b.at a (.code Z :: .inScope c :: k)) cs w) b k cs e a' w' := by
        intro Z a w hZ
        obtain ⟨e, a1, w1, hq, harr⟩ := hZ b (.inScope c :: k) cs
        cases e with
        | normal => exact ⟨.normal, a1, w1, hq, Steps.trans harr (.one step_inScope)⟩
        | exit id => exact ⟨.exit id, a1, w1, hq, fun k' hk => harr k' (by simp [exitTo, hk])⟩
        | goto l' =>
          rcases hq with ⟨rfl, hJ, hlt⟩ | ⟨rfl, hJ, hlt⟩
          · obtain ⟨e2, a2, w2, hq2, harr2⟩ := (ih _ hlt).1 a1 w1 rfl hJ
            exact ⟨e2, a2, w2, hq2, .of_steps (harr _ g0) harr2⟩
          · obtain ⟨e2, a2, w2, hq2, harr2⟩ := (ih _ hlt).2 a1 w1 rfl hJ
            exact ⟨e2, a2, w2, hq2, .of_steps (harr _ g1) harr2⟩
        | ret => exact ⟨_, a1, w1, hq, harr⟩
        | panic ch => exact ⟨_, a1, w1, hq, harr⟩
        | outgrown => exact ⟨_, a1, w1, hq, harr⟩
      exact ⟨fun a w hn hJ => go _ a w (wp_seq (wp_skip (by subst hn; exact pass0 a w hJ))), fun a w hn hJ => go _ a w (wp_seq (wp_skip (by subst hn; exact pass1 a w hJ)))⟩
  have hfirst : c.wp P (jump2 l0 l1 J0 J1 Q) a w := by
    rw [hc]
    refine wp_seq (wp_mono first ?_)
    rintro e a w ⟨rfl, hJ⟩
    refine wp_seq (wp_label (wp_mono (pass0 a w hJ) ?_))
    intro e a' w' hq
    cases e with
    | goto l' => rcases hq with ⟨rfl, hJ, _⟩ | ⟨rfl, hJ, _⟩; exact .inl ⟨rfl, hJ⟩; exact .inr ⟨rfl, hJ⟩
    | normal => exact hq
    | exit id => exact hq
    | ret => exact hq
    | panic ch => exact hq
    | outgrown => exact hq
  obtain ⟨e, a1, w1, hq, harr⟩ := hfirst b (.inScope c :: k) cs
  cases e with
  | normal => exact ⟨.normal, a1, w1, hq, .head step_scope (Steps.trans harr (.one step_inScope))⟩
  | exit id => exact ⟨.exit id, a1, w1, hq, fun k' hk => .head step_scope (harr k' (by simp [exitTo, hk]))⟩
  | goto l' =>
    rcases hq with ⟨rfl, hJ⟩ | ⟨rfl, hJ⟩
    · obtain ⟨e2, a2, w2, hq2, harr2⟩ := (key _).1 a1 w1 rfl hJ
      exact ⟨e2, a2, w2, hq2, .of_steps (.head step_scope (harr _ g0)) harr2⟩
    · obtain ⟨e2, a2, w2, hq2, harr2⟩ := (key _).2 a1 w1 rfl hJ
      exact ⟨e2, a2, w2, hq2, .of_steps (.head step_scope (harr _ g1)) harr2⟩
  | ret => exact ⟨_, a1, w1, hq, .of_steps (.one step_scope) harr⟩
  | panic ch => exact ⟨_, a1, w1, hq, .of_steps (.one step_scope) harr⟩
  | outgrown => exact ⟨_, a1, w1, hq, .of_steps (.one step_scope) harr⟩

section
variable {Q : Exit → Act → World → Prop} {J0 J1 : Act → World → Prop} {l0 l1 : Nat} {a : Act} {w : World}
@[go_sem] theorem jump2_normal : jump2 l0 l1 J0 J1 Q .normal a w = Q .normal a w := rfl
@[go_sem] theorem jump2_exit (id : Nat) : jump2 l0 l1 J0 J1 Q (.exit id) a w = Q (.exit id) a w := rfl
@[go_sem] theorem jump2_ret : jump2 l0 l1 J0 J1 Q .ret a w = Q .ret a w := rfl
end

/-- Two rows' slices are put at one another's places, in the program's order. -/
theorem MatW.swap3 {W : World} {B R n w : Nat} {ad : Ads} {M : List (List Int)} (h : MatW W B R n w ad M) {r i ei er : Nat} (hr : r < n) (hi : i < n) (hci : W.cell? ⟨R, i, none⟩ = some (.slice (some ⟨(adr ad i).1, (adr ad i).2, none⟩) w ei)) (hcr : W.cell? ⟨R, r, none⟩ = some (.slice (some ⟨(adr ad r).1, (adr ad r).2, none⟩) w er)) :
    MatW ((W.setCell ⟨R, r, none⟩ (.slice (some ⟨(adr ad i).1, (adr ad i).2, none⟩) w ei)).setCell ⟨R, i, none⟩ (.slice (some ⟨(adr ad r).1, (adr ad r).2, none⟩) w er)) B R n w (swapA ad r i) (swapR M r i) := by
  refine h.swap hr hi (by simp [World.setCell]) (fun b hb => ?_) (fun k hk => ⟨?_, ?_⟩)
  · rw [Below.heap_setCell _ _ _ _ (by simpa using hb), Below.heap_setCell _ _ _ _ (by simpa using hb)]
  · rw [cells_set2 (by rw [hcr]; rfl) (by rw [hci]; rfl)]
    by_cases e1 : k = i
    · exact ⟨er, by simp [e1]⟩
    · by_cases e2 : k = r
      · exact ⟨ei, by rw [if_neg e1, if_pos e2, if_neg e1, if_pos e2]⟩
      · obtain ⟨ek, hk2⟩ := (h.hd k hk).1
        exact ⟨ek, by rw [if_neg e1, if_neg e2, if_neg e1, if_neg e2]; exact hk2⟩
  · rw [World.frozen?_setCell, World.frozen?_setCell]; exact (h.hd k hk).2

theorem MatX.swap3 {W : World} {B R n w : Nat} {ad : Ads} {M X : List (List Int)} (h : MatX W B R n w ad M X) {r i ei er : Nat} (hr : r < n) (hi : i < n) (hci : W.cell? ⟨R, i, none⟩ = some (.slice (some ⟨(adr ad i).1, (adr ad i).2, none⟩) w ei)) (hcr : W.cell? ⟨R, r, none⟩ = some (.slice (some ⟨(adr ad r).1, (adr ad r).2, none⟩) w er)) :
    MatX ((W.setCell ⟨R, r, none⟩ (.slice (some ⟨(adr ad i).1, (adr ad i).2, none⟩) w ei)).setCell ⟨R, i, none⟩ (.slice (some ⟨(adr ad r).1, (adr ad r).2, none⟩) w er)) B R n w (swapA ad r i) (swapR M r i) X := by
  refine ⟨?_, by rw [swapR_len]; exact h.len⟩
  have := h.it.swap3 (r := r) (i := i) (by omega) (by omega) hci hcr
  rwa [swapR_app (by rw [h.len]; exact hr) (by rw [h.len]; exact hi)] at this

/-- What holds at the label seek. -/
def Seek (B R n w : Nat) (M0 X : List (List Int)) (W : World) (p : Int) (E r c : Nat) (wr : World) : Prop :=
  ∃ (M : List (List Int)) (ad : Ads), r ≤ n ∧ c ≤ w ∧ MatX wr B R n w ad M X ∧ MatG p n w M ∧ E = elimR p (w - c) r c M ∧ Go.RowKit.Below B W wr ∧ SpanEq p M0 M
/-- .. at the label sweep. -/
def Swp (B R n w : Nat) (M0 X : List (List Int)) (W : World) (p : Int) (E r c : Nat) (wr : World) : Prop :=
  ∃ (M : List (List Int)) (ad : Ads), r < n ∧ c < w ∧ MatX wr B R n w ad M X ∧ MatG p n w M ∧ E = elimR p (w - (c + 1)) (r + 1) (c + 1) (sweepTo p c r n M) ∧ Go.RowKit.Below B W wr ∧ SpanEq p M0 M

/-- The machine at the label seek; at the label sweep. -/
def AtSeek (B R n w cap : Nat) (M0 X : List (List Int)) (W : World) (p : Int) (E : Nat) (a' : Act) (w' : World) : Prop :=
  ∃ (r c : Nat) (us : Nat → Value), a' = { tmps := #[.slice (some ⟨R, 0, none⟩) n cap, .int .i64 p, undef, undef, .int .i64 0, .int .i64 (r : Int), .int .i64 (c : Int), us 7, us 8, us 9, us 10, us 11, us 12, us 13, us 14, us 15, us 16, us 17, us 18, us 19, us 20, us 21, us 22, us 23, us 24, us 25, us 26, us 27, us 28, us 29, us 30, us 31, us 32, us 33, us 34, us 35, us 36, us 37, us 38, us 39, us 40, us 41, us 42, us 43, us 44, us 45, us 46, us 47, us 48, us 49, us 50, us 51, us 52, us 53, us 54, us 55, us 56, us 57, us 58, us 59, us 60, us 61, us 62, us 63, us 64, us 65, us 66, us 67, us 68, us 69, us 70, us 71, us 72, us 73, us 74, us 75, us 76], defers := [] } ∧ Hid (Seek B R n w M0 X W p E r c w')
def AtSweep (B R n w cap : Nat) (M0 X : List (List Int)) (W : World) (p : Int) (E : Nat) (a' : Act) (w' : World) : Prop :=
  ∃ (r c : Nat) (us : Nat → Value), a' = { tmps := #[.slice (some ⟨R, 0, none⟩) n cap, .int .i64 p, undef, undef, .int .i64 0, .int .i64 (r : Int), .int .i64 (c : Int), us 7, us 8, us 9, us 10, us 11, us 12, us 13, us 14, us 15, us 16, us 17, us 18, us 19, us 20, us 21, us 22, us 23, us 24, us 25, us 26, us 27, us 28, us 29, us 30, us 31, us 32, us 33, us 34, us 35, us 36, us 37, us 38, us 39, us 40, us 41, us 42, us 43, us 44, us 45, us 46, us 47, us 48, us 49, us 50, us 51, us 52, us 53, us 54, us 55, us 56, us 57, us 58, us 59, us 60, us 61, us 62, us 63, us 64, us 65, us 66, us 67, us 68, us 69, us 70, us 71, us 72, us 73, us 74, us 75, us 76], defers := [] } ∧ Hid (Swp B R n w M0 X W p E r c w')
theorem atSeek_of {B R n w cap : Nat} {M0 X : List (List Int)} {W : World} {p : Int} {E r c : Nat} {w' : World} (tm : Array Value) (h : tm = #[.slice (some ⟨R, 0, none⟩) n cap, .int .i64 p, undef, undef, .int .i64 0, .int .i64 (r : Int), .int .i64 (c : Int), tm.getD 7 undef, tm.getD 8 undef, tm.getD 9 undef, tm.getD 10 undef, tm.getD 11 undef, tm.getD 12 undef, tm.getD 13 undef, tm.getD 14 undef, tm.getD 15 undef, tm.getD 16 undef, tm.getD 17 undef, tm.getD 18 undef, tm.getD 19 undef, tm.getD 20 undef, tm.getD 21 undef, tm.getD 22 undef, tm.getD 23 undef, tm.getD 24 undef, tm.getD 25 undef, tm.getD 26 undef, tm.getD 27 undef, tm.getD 28 undef, tm.getD 29 undef, tm.getD 30 undef, tm.getD 31 undef, tm.getD 32 undef, tm.getD 33 undef, tm.getD 34 undef, tm.getD 35 undef, tm.getD 36 undef, tm.getD 37 undef, tm.getD 38 undef, tm.getD 39 undef, tm.getD 40 undef, tm.getD 41 undef, tm.getD 42 undef, tm.getD 43 undef, tm.getD 44 undef, tm.getD 45 undef, tm.getD 46 undef, tm.getD 47 undef, tm.getD 48 undef, tm.getD 49 undef, tm.getD 50 undef, tm.getD 51 undef, tm.getD 52 undef, tm.getD 53 undef, tm.getD 54 undef, tm.getD 55 undef, tm.getD 56 undef, tm.getD 57 undef, tm.getD 58 undef, tm.getD 59 undef, tm.getD 60 undef, tm.getD 61 undef, tm.getD 62 undef, tm.getD 63 undef, tm.getD 64 undef, tm.getD 65 undef, tm.getD 66 undef, tm.getD 67 undef, tm.getD 68 undef, tm.getD 69 undef, tm.getD 70 undef, tm.getD 71 undef, tm.getD 72 undef, tm.getD 73 undef, tm.getD 74 undef, tm.getD 75 undef, tm.getD 76 undef]) (HK : Hid (Seek B R n w M0 X W p E r c w')) : AtSeek B R n w cap M0 X W p E { tmps := tm, defers := [] } w' :=
  ⟨r, c, fun i => tm.getD i undef, congrArg (fun t => ({ tmps := t, defers := [] } : Act)) h, HK⟩
theorem atSweep_of {B R n w cap : Nat} {M0 X : List (List Int)} {W : World} {p : Int} {E r c : Nat} {w' : World} (tm : Array Value) (h : tm = #[.slice (some ⟨R, 0, none⟩) n cap, .int .i64 p, undef, undef, .int .i64 0, .int .i64 (r : Int), .int .i64 (c : Int), tm.getD 7 undef, tm.getD 8 undef, tm.getD 9 undef, tm.getD 10 undef, tm.getD 11 undef, tm.getD 12 undef, tm.getD 13 undef, tm.getD 14 undef, tm.getD 15 undef, tm.getD 16 undef, tm.getD 17 undef, tm.getD 18 undef, tm.getD 19 undef, tm.getD 20 undef, tm.getD 21 undef, tm.getD 22 undef, tm.getD 23 undef, tm.getD 24 undef, tm.getD 25 undef, tm.getD 26 undef, tm.getD 27 undef, tm.getD 28 undef, tm.getD 29 undef, tm.getD 30 undef, tm.getD 31 undef, tm.getD 32 undef, tm.getD 33 undef, tm.getD 34 undef, tm.getD 35 undef, tm.getD 36 undef, tm.getD 37 undef, tm.getD 38 undef, tm.getD 39 undef, tm.getD 40 undef, tm.getD 41 undef, tm.getD 42 undef, tm.getD 43 undef, tm.getD 44 undef, tm.getD 45 undef, tm.getD 46 undef, tm.getD 47 undef, tm.getD 48 undef, tm.getD 49 undef, tm.getD 50 undef, tm.getD 51 undef, tm.getD 52 undef, tm.getD 53 undef, tm.getD 54 undef, tm.getD 55 undef, tm.getD 56 undef, tm.getD 57 undef, tm.getD 58 undef, tm.getD 59 undef, tm.getD 60 undef, tm.getD 61 undef, tm.getD 62 undef, tm.getD 63 undef, tm.getD 64 undef, tm.getD 65 undef, tm.getD 66 undef, tm.getD 67 undef, tm.getD 68 undef, tm.getD 69 undef, tm.getD 70 undef, tm.getD 71 undef, tm.getD 72 undef, tm.getD 73 undef, tm.getD 74 undef, tm.getD 75 undef, tm.getD 76 undef]) (HK : Hid (Swp B R n w M0 X W p E r c w')) : AtSweep B R n w cap M0 X W p E { tmps := tm, defers := [] } w' :=
  ⟨r, c, fun i => tm.getD i undef, congrArg (fun t => ({ tmps := t, defers := [] } : Act)) h, HK⟩

set_option maxRecDepth 1000000 in
set_option maxHeartbeats 4000000 in
theorem steps_more (B R n w cap : Nat) (ad : Ads) (p : Int) (M0 X : List (List Int)) (W : World) (hM : MatX W B R n w ad M0 X) (hG : MatG p n w M0) (hp : p = 2 ∨ p = 3) (hn : n ≤ 1048576) (hw : w ≤ 1048576) :
    Calls Tryd.prog 40 #[.slice (some ⟨R, 0, none⟩) n cap, .int .i64 p] W fun e W' => e = .returned (.int .i64 (elimR p w 0 0 M0 : Int)) ∧ Go.RowKit.Below B W W' ∧ ∃ M' ad', MatX W' B R n w ad' M' X ∧ MatG p n w M' ∧ SpanEq p M0 M' := by
  obtain ⟨E, hE⟩ : ∃ E, E = elimR p w 0 0 M0 := ⟨_, rfl⟩
  rw [← hE]
  have HS : Hid (Seek B R n w M0 X W p E 0 0 W) := hid ⟨M0, ad, by omega, by omega, hM, hG, hE, .refl _ _, .refl _ _⟩
  have HP := hid hp
  clear hM hG hE hp
  go_enter Tryd.func40, Tryd.ntmps40
  go_wp2
  refine wp_scope_two (l0 := 0) (l1 := 1) (AtSeek B R n w cap M0 X W p E) (AtSweep B R n w cap M0 X W p E)
    (fun a' _ => 2 * (w - (intOf (a'.tmps.getD 6 undef)).toNat) + 1) (fun a' _ => 2 * (w - (intOf (a'.tmps.getD 6 undef)).toNat)) rfl rfl (by kernel_rfl) (by kernel_rfl) ?_ ?_ ?_
  · go_wp2
    exact atSeek_of (r := 0) (c := 0) _ rfl HS
  · rintro a' wr ⟨r, c, us, rfl, HK⟩
    clear HS
    obtain ⟨M, ad, hr, hc, hM, hG, hE, hB, hT⟩ := HK.out
    have HM := hid hM
    have HG := hid hG
    have HE := hid hE
    have HB := hid hB
    have HT := hid hT
    clear hM hG hE hB HK hT
    have hr0 : (0 : Int) ≤ (r : Int) := by omega
    have hc0 : (0 : Int) ≤ (c : Int) := by omega
    by_cases hrn : r = n
    · have hd : ((r : Int) == (n : Int)) = true := by simp [hrn]
      have He : Hid (E = r) := hid (by rw [HE.out, elim_full _ _ _ _ (by rw [HG.out.len]; omega)])
      clear hrn
      go_wp2
      go_ret
      exact ⟨ret_int (by rw [He.out]), HB.out, _, _, HM.out, HG.out, HT.out⟩
    · have hd : ((r : Int) == (n : Int)) = false := by simp; omega
      have hrlt : r < n := by omega
      have hri : (r : Int) < (n : Int) := by omega
      obtain ⟨⟨er, cr⟩, fr⟩ := HM.out.hd r hrlt
      clear hrn
      by_cases hcw : c = w
      · have hd2 : ((c : Int) == (w : Int)) = true := by simp [hcw]
        have He : Hid (E = r) := hid (by rw [HE.out, hcw, Nat.sub_self]; rfl)
        clear hcw
        go_wp2
        go_ret
        exact ⟨ret_int (by rw [He.out]), HB.out, _, _, HM.out, HG.out, HT.out⟩
      · have hd2 : ((c : Int) == (w : Int)) = false := by simp; omega
        have hcl : c < w := by omega
        have hci : (c : Int) < (w : Int) := by omega
        clear hcw
        go_wp2
        obtain ⟨wo, rfl⟩ : ∃ wo : World, wo = wr := ⟨_, rfl⟩
        go_loopw [7] (fun s7 wx => ∃ (i : Nat), s7 = .int .i64 i ∧ r ≤ i ∧ i ≤ n ∧ Hid (∀ i', r ≤ i' → i' < i → ent M i' c = 0) ∧ wx = wo) (fun s7 _ => n - (intOf s7).toNat)
        case atStart => exact ⟨r, rfl, Nat.le_refl _, hr, hid (fun i' h1 h2 => by omega), rfl⟩
        case round =>
          obtain ⟨i, rfl, hri', hin, Hz, rfl⟩ := hrel
          by_cases hlt : i < n
          · have hi0 : (0 : Int) ≤ (i : Int) := by omega
            have hi1 : (i : Int) < (n : Int) := by omega
            obtain ⟨⟨ei, ci⟩, fi⟩ := HM.out.hd i hlt
            have cx := (HM.out.at hlt hcl).1
            by_cases hx : ent M i c = 0
            · have Hz' : Hid (∀ i', r ≤ i' → i' < i + 1 → ent M i' c = 0) := hid (fun i' h1 h2 => by
                by_cases e : i' = i
                · rw [e]; exact hx
                · exact Hz.out i' h1 (by omega))
              rw [hx] at cx
              clear hx
              go_wp2
              go_roundw
              case rel => exact ⟨i + 1, by go_num, by omega, by omega, Hz', trivial⟩
              case measure => simp [intOf]; omega
            · have hdx : (ent M i c != 0) = true := by simpa using hx
              have HE2 : Hid (E = elimR p (w - (c + 1)) (r + 1) (c + 1) (sweepTo p c r n (swapR M r i))) := hid (by
                have h1 := HE.out
                rw [show w - c = (w - (c + 1)) + 1 by omega, elim_some hri' (by rw [HG.out.len]; exact hlt) hx Hz.out, HG.out.len] at h1
                exact h1)
              have hRB := HM.out.head
              have HM2 := hid ((HM.out.swap3 hrlt hlt ci cr).drewN 1)
              have HB2 := hid (below_drewN ((HB.out.setCell (p := ⟨R, r, none⟩) hRB.1 (.slice (some ⟨(adr ad i).1, (adr ad i).2, none⟩) w ei)).setCell (p := ⟨R, i, none⟩) hRB.1 (.slice (some ⟨(adr ad r).1, (adr ad r).2, none⟩) w er)) 1)
              have HT2 := hid (HT.out.trans (span_swap HG.out hrlt hlt))
              have HG2 := hid (swapR_good HG.out hrlt hlt)
              obtain ⟨v', ci2⟩ := cell?_setCell_some (w := wr) (p := ⟨R, r, none⟩) (x := .slice (some ⟨(adr ad i).1, (adr ad i).2, none⟩) w ei) (q := ⟨R, i, none⟩) (v := _) ci
              clear hRB
              obtain ⟨x, hxx⟩ : ∃ x, x = ent M i c := ⟨_, rfl⟩
              rw [← hxx] at cx hdx
              clear hx hxx
              go_wp2
              go_region
              go_wp2
              refine wp_goto ?_
              refine .inr ⟨rfl, atSweep_of (r := r) (c := c) _ rfl (hid ⟨_, _, hrlt, hcl, HM2.out, HG2.out, HE2.out, HB2.out, HT2.out⟩), ?_⟩
              simp [intOf]
          · obtain rfl : i = n := by omega
            have HS2 : Hid (Seek B R i w M0 X W p E r (c + 1) wr) := hid ⟨M, ad, hr, by omega, HM.out, HG.out, by
              have h1 := HE.out
              rw [show w - c = (w - (c + 1)) + 1 by omega, elim_none (fun i' h1 h2 => Hz.out i' h1 (by rw [← HG.out.len]; exact h2))] at h1
              exact h1, HB.out, HT.out⟩
            go_wp2
            refine wp_goto ?_
            refine .inl ⟨rfl, atSeek_of (r := r) (c := c + 1) _ rfl HS2, ?_⟩
            simp [intOf]
            omega
  · rintro a' wr ⟨r, c, us, rfl, HK⟩
    clear HS
    obtain ⟨M, ad, hr, hc, hM, hG, hE, hB, hT⟩ := HK.out
    have HM := hid hM
    have HG := hid hG
    have HE := hid hE
    have HB := hid hB
    have HT := hid hT
    clear hM hG hE hB HK hT
    have hr0 : (0 : Int) ≤ (r : Int) := by omega
    have hr1 : (r : Int) < (n : Int) := by omega
    have hc0 : (0 : Int) ≤ (c : Int) := by omega
    have hci : (c : Int) < (w : Int) := by omega
    go_wp2
    go_loopw [8] (fun s8 wx => ∃ (i : Nat), s8 = .int .i64 i ∧ r + 1 ≤ i ∧ i ≤ n ∧ Hid (MatX wx B R n w ad (sweepTo p c r i M) X) ∧ Hid (Go.RowKit.Below B W wx)) (fun s8 _ => n - (intOf s8).toNat)
    case atStart => exact ⟨r + 1, by go_num, Nat.le_refl _, by omega, hid (by rw [sweepTo_none (Nat.le_refl _)]; exact HM.out), HB⟩
    case round =>
      clear HM HB
      obtain ⟨i, rfl, hri, hin, HM, HB⟩ := hrel
      by_cases hlt : i < n
      · have hi0 : (0 : Int) ≤ (i : Int) := by omega
        have hi1 : (i : Int) < (n : Int) := by omega
        obtain ⟨ei, ci⟩ := (HM.out.hd i hlt).1
        obtain ⟨er, cr⟩ := (HM.out.hd r hr).1
        have hrow : (sweepTo p c r i M)[i]?.getD [] = M[i]?.getD [] := sweepTo_later (by rw [HG.out.len]; exact hlt)
        have hown : (sweepTo p c r i M)[r]?.getD [] = M[r]?.getD [] := sweepTo_pivot (by rw [HG.out.len]; exact hr)
        have h1 := HM.out.row i hlt
        have h2 := HM.out.row r hr
        rw [hrow] at h1
        rw [hown] at h2
        have HC := hid (clear_any (adr ad i).1 (adr ad i).2 (adr ad r).1 (adr ad r).2 w c ei er p _ _ wr.drew (Sort.holds_ahead encI wr 1 _ _ _ h1) (Sort.holds_ahead encI wr 1 _ _ _ h2) (HG.out.rowLen hlt) (HG.out.rowLen hr) hc hw HP.out (HG.out.rng _ (HG.out.row hlt)) (HG.out.rng _ (HG.out.row hr)) (HM.out.apart i r hlt hr (by omega)))
        have Hput := hid (fun m => HM.out.put hlt m (row := clr p c (M[i]?.getD []) (M[r]?.getD [])) (clr_len (HG.out.rowLen hlt) (HG.out.rowLen hr)))
        have Hsn := hid (sweepTo_succ (p := p) (c := c) (r := r) (k := i) (M := M) (by omega))
        have Hbs := hid (HM.out.base i hlt).1
        clear hrow hown h1 h2
        go_wp2_with fail
        go_region_with (go_at_call 51; refine HC.out.mono ?_; rintro e w2 ⟨⟨u, rfl⟩, m, hw2⟩; have A : Aside (w2 = _) := hw2; clear hw2)
        all_goals
          have hM2 := Hput.out (m + 1)
          have hB2 := below_put HB.out (m + 1) (adr ad i).1 (adr ad i).2 (clr p c (M[i]?.getD []) (M[r]?.getD [])) Hbs.out
          have e2 : w2 = putRow encI (Sort.ahead wr (m + 1)) (adr ad i).1 (adr ad i).2 (clr p c (M[i]?.getD []) (M[r]?.getD [])).toArray := by rw [A.out, Sort.drew_eq_ahead, Sort.ahead_ahead, Nat.add_comm 1 m]
          rw [← e2, ← Hsn.out] at hM2
          rw [← e2] at hB2
          have HM2 := hid hM2
          have HB2 := hid hB2
          clear hM2 hB2 e2 A
          go_wp2
          go_roundw
          case rel => exact ⟨i + 1, by go_num, by omega, by omega, HM2, HB2⟩
          case measure => simp [intOf]; omega
      · obtain rfl : i = n := by omega
        have HS2 : Hid (Seek B R i w M0 X W p E (r + 1) (c + 1) wr) := hid ⟨_, _, hr, hc, HM.out, sweepTo_good HG.out (by rcases HP.out with h | h <;> omega) hr, HE.out, HB.out, HT.out.trans (span_sweep HG.out hr)⟩
        go_wp2
        refine wp_goto ?_
        refine .inl ⟨rfl, atSeek_of (r := r + 1) (c := c + 1) _ rfl HS2, ?_⟩
        simp [intOf]
        omega

theorem steps_any (B R n w cap : Nat) (ad : Ads) (p : Int) (M : List (List Int)) (W : World) (hM : MatW W B R n w ad M) (hG : MatG p n w M) (hp : p = 2 ∨ p = 3) (hn : n ≤ 1048576) (hw : w ≤ 1048576) :
    Calls Tryd.prog 40 #[.slice (some ⟨R, 0, none⟩) n cap, .int .i64 p] W fun e W' => e = .returned (.int .i64 (elimR p w 0 0 M : Int)) ∧ Go.RowKit.Below B W W' :=
  (steps_more B R n w cap ad p M [] W hM.x hG hp hn hw).mono fun _ _ h => ⟨h.1, h.2.1⟩

end Go.Proofs.YtpdhnjdnlgnniaaDoor

/-! The faces of a dimension: the program's facesOfDimension. -/
namespace Go.Proofs.YtpdhnjdnlgnniaaDoor
open Go.RowKit

theorem fodWanted (d : Int) (bd : Nat) (x : Int) (w : World) (hx0 : 1 ≤ x) (hx1 : x ≤ 63) (hd : w.cell? ⟨bd, 0, none⟩ = some (.int .i64 d)) :
    Calls Tryd.prog 49 #[.int .i64 x, .pointer (some ⟨bd, 0, none⟩)] w fun e w' => e = .returned (.bool (decide ((ones x.toNat : Int) = d + 1))) ∧ Below w.heap.size w w' := by
  obtain ⟨f, rfl⟩ : ∃ f : Nat, x = f := ⟨x.toNat, by omega⟩
  have hf : f < 64 := by omega
  rw [Int.toNat_natCast]
  have ho := ones_le f
  have He : Hid (((ones f : Int) - 1 == d) = decide ((ones f : Int) = d + 1)) := hid (by rw [Bool.eq_iff_iff]; simp; omega)
  go_enter Tryd.func49, Tryd.ntmps49
  go_wp2_with fail
  go_quiet ((go_at_call 21; exact quiet_of_eq (dim_any f _ hf)))
  go_wp2_with fail
  go_ret
  exact ⟨ret_bool He.out, ⟨rfl, rfl, rfl, Nat.le_refl _, fun _ _ => rfl⟩⟩

set_option maxRecDepth 100000 in
set_option maxHeartbeats 1000000 in
theorem fod_any (V : Int) (a : Option Addr) (cap : Nat) (fs : List Int) (d : Int) (w : World) (hx : SlI w w.heap.size a fs) (hl : fs.length ≤ 1048576) (hf : ∀ x ∈ fs, 1 ≤ x ∧ x ≤ 63) :
    Calls Tryd.prog 36 #[.agg #[.int .i64 V, .slice a fs.length cap], .int .i64 d] w fun e w' => ∃ v, e = .returned v ∧ Res w w' v (ofDim fs d) := by
  have hB0 : Below w.heap.size w ((w.alloc (.cells #[.int .i64 V, .slice a fs.length cap] 28)).alloc (.cells #[.int .i64 d] 2)) := ((Below.refl _ w).alloc (Nat.le_refl _) _).alloc (by simp) _
  have e1 : ((w.alloc (.cells #[.int .i64 V, .slice a fs.length cap] 28)).alloc (.cells #[.int .i64 d] 2)).heap[w.heap.size + 1]? = some (.cells #[.int .i64 d] 2 (0, 0)) := new2 _ _ _
  have HFW := hid (fw_any V a cap fs _ 49 (.pointer (some ⟨w.heap.size + 1, 0, none⟩)) (fun x => decide ((ones x.toNat : Int) = d + 1)) (hx.later hB0 hB0.size) hl (enters_of Tryd.func49 (by kernel_rfl) rfl) (fun W' x hW' hxm => fodWanted d _ x W' (hf x hxm).1 (hf x hxm).2 ((hW'.cell (p := ⟨w.heap.size + 1, 0, none⟩) (lt_of_get e1)).trans (box_cell e1).1)))
  clear hx hf e1
  go_enter Tryd.func36, Tryd.ntmps36
  go_wp2_with fail
  refine HFW.out.mono ?_
  rintro e w2 ⟨v, rfl, hr⟩
  go_wp2_with fail
  go_ret
  exact ⟨v, rfl, hr.later hB0⟩

end Go.Proofs.YtpdhnjdnlgnniaaDoor

/-! boundaryRank: the program's rank of a dimension. -/
namespace Go.Proofs.YtpdhnjdnlgnniaaDoor
open Go.RowKit Go.Shelf

set_option maxRecDepth 1000000 in
set_option maxHeartbeats 1000000 in
theorem fill_nil (B R w cr cf cs : Nat) (ad : Ads) (p : Int) (S : List Int) (X : List (List Int)) (af as_ : Option Addr) (W : World) (hM : MatX W B R 0 w ad [] X) (hB : B ≤ W.heap.size) :
    CallsIn Fence.wide 10 Tryd.prog 38 #[.slice (some ⟨R, 0, none⟩) 0 cr, .slice af 0 cf, .slice as_ w cs, .int .i64 p] W fun e W' => (∃ v, e = .returned v) ∧ MatX W' B R 0 w ad (([] : List Int).map fun f => bndRow S p (signedF f.toNat)) X ∧ Below B W W' := by
  have hBl : Below B W (((W.alloc (.cells #[.slice (some ⟨R, 0, none⟩) 0 cr] 51)).alloc (.cells #[.slice as_ w cs] 22)).alloc (.cells #[.int .i64 p] 2)) :=
    ((((Below.refl _ W).alloc (Nat.le_refl _) _).alloc (by simp) _).alloc (by simp <;> omega) _).mono hB
  have hk : (((W.alloc (.cells #[.slice (some ⟨R, 0, none⟩) 0 cr] 51)).alloc (.cells #[.slice as_ w cs] 22)).alloc (.cells #[.int .i64 p] 2)).heap[R]? = W.heap[R]? :=
    (Below.heap_alloc _ _ _ (by have := hM.head.2; simp <;> omega)).trans ((Below.heap_alloc _ _ _ (by have := hM.head.2; simp <;> omega)).trans (Below.heap_alloc _ _ _ hM.head.2))
  have HM2 := hid (hM.keep (W' := ((W.alloc (.cells #[.slice (some ⟨R, 0, none⟩) 0 cr] 51)).alloc (.cells #[.slice as_ w cs] 22)).alloc (.cells #[.int .i64 p] 2)) (by simp <;> omega) hk (fun i hi => (Below.heap_alloc _ _ _ (by have := (hM.it.base i hi).2; simp <;> omega)).trans ((Below.heap_alloc _ _ _ (by have := (hM.it.base i hi).2; simp <;> omega)).trans (Below.heap_alloc _ _ _ (hM.it.base i hi).2))))
  have HBl := hid hBl
  clear hM hBl hk
  refine callsIn_of_wp_marks Tryd.func38 rfl trivial ?_ rfl
  simp only [Tryd.ntmps38, List.size_toArray, List.length_cons, List.length_nil, Nat.reduceAdd, Nat.reduceSub, Array.replicate_succ, Array.replicate_zero, List.push_toArray, List.append_toArray, List.nil_append, List.cons_append]
  gi_wp2
  refine wpIn_loop_rounds 1 ?_
  rw [roundsIn_succ]
  gi_wp2
  exact ⟨_, results_none rfl _ _ _, ⟨_, rfl⟩, HM2.out, HBl.out⟩

theorem fill_any (B R n w cr cf cs : Nat) (ad : Ads) (p : Int) (F S : List Int) (X : List (List Int)) (af as_ : Option Addr) (W : World) (hM : MatX W B R n w ad (List.replicate n (List.replicate w 0)) X) (hF : F.length = n) (hS : S.length = w)
    (xF : SlI W B af F) (xS : SlI W B as_ S) (hB : B ≤ W.heap.size) (hp : p = 2 ∨ p = 3) (hFr : ∀ x ∈ F, 1 ≤ x ∧ x ≤ 63) (hSa : S.Pairwise (· < ·)) (hS0 : ∀ s ∈ S, 0 ≤ s)
    (hsd : ∀ f ∈ F, ∀ x ∈ signedF f.toNat, ((x.1.val : Nat) : Int) ∈ S) (hn : n ≤ 1000) (hw : w ≤ 1000) :
    Calls Tryd.prog 38 #[.slice (some ⟨R, 0, none⟩) n cr, .slice af n cf, .slice as_ w cs, .int .i64 p] W fun e W' => (∃ v, e = .returned v) ∧ MatX W' B R n w ad (F.map fun f => bndRow S p (signedF f.toNat)) X ∧ Below B W W' := by
  rcases xF with rfl | ⟨b1, o1, hb, rfl, hc⟩
  · obtain rfl : n = 0 := by simpa using hF.symm
    exact callsIn_wide.1 (fill_nil B R w cr cf cs ad p S X af as_ W hM hB)
  · exact callsIn_wide.1 (fill_in B R n w cr cf cs ad p F S X b1 o1 as_ W hM hF hS hb hc xS hB hp hFr hSa hS0 hsd hn hw)


end Go.Proofs.YtpdhnjdnlgnniaaDoor

/-! RankOf, the model's and the program's. -/
namespace Go.Proofs.YtpdhnjdnlgnniaaDoor
open Go.RowKit

theorem ofDim_low {V : Int} {fs : List Int} (hC : IsC V fs) {d : Int} (hd : d < 0) : ofDim fs d = [] := by
  rw [List.eq_nil_iff_forall_not_mem]
  intro x hx
  obtain ⟨hm, ho⟩ := ofDim_mem.1 hx
  have hr := hC.range63 x hm
  have := ones_pos ⟨x.toNat, by omega⟩ (by simp only; omega)
  simp only at this
  omega
theorem ofDim_high {V : Int} {fs : List Int} (_hC : IsC V fs) {d : Int} (hd : top fs < d) : ofDim fs d = [] := by
  rw [List.eq_nil_iff_forall_not_mem]
  intro x hx
  obtain ⟨hm, ho⟩ := ofDim_mem.1 hx
  have := top_ge fs hm
  omega

set_option maxRecDepth 1000000 in
set_option maxHeartbeats 1000000 in
theorem rankS_nil (R cap : Nat) (p : Int) (W : World) :
    Calls Tryd.prog 30 #[.slice (some ⟨R, 0, none⟩) 0 cap, .int .i64 p] W fun e W' => e = .returned (.int .i64 0) ∧ W = W' := by
  go_enter Tryd.func30, Tryd.ntmps30
  go_wp2
  refine wp_loop_rounds 1 ?_; rw [rounds_succ]
  go_wp2
  go_ret
  exact ⟨rfl, rfl⟩

set_option maxRecDepth 1000000 in
set_option maxHeartbeats 2000000 in
theorem rkS_any (V : Int) (a0 : Option Addr) (cap : Nat) (fs : List Int) (d p : Int) (w : World) (hx : SlI w w.heap.size a0 fs) (hl : fs.length ≤ 1048576) (hC : IsC V fs) (hp : p = 2 ∨ p = 3) (hd0 : 0 ≤ d) (hd1 : d ≤ 100) :
    Calls Tryd.prog 32 #[.agg #[.int .i64 V, .slice a0 fs.length cap], .int .i64 d, .int .i64 p] w fun e w' => e = .returned (.int .i64 (rankN fs d p : Int)) ∧ Below w.heap.size w w' := by
  have hB0 : Below w.heap.size w (w.alloc (.cells #[.int .i64 V, .slice a0 fs.length cap] 28)) := (Below.refl _ w).alloc (Nat.le_refl _) _
  have h63 := hC.len63
  obtain ⟨E, hE⟩ : ∃ E, E = rankN fs d p := ⟨_, rfl⟩
  rw [← hE]
  by_cases h1 : d < 1
  · have He : Hid (E = 0) := hid (by rw [hE]; exact rankN_low (ofDim_low hC (by omega)))
    clear hE
    go_enter Tryd.func32, Tryd.ntmps32
    go_wp2
    go_ret
    exact ⟨ret_int (by rw [He.out]; rfl), hB0⟩
  · have h1' : 1 ≤ d := by omega
    have HD := hid (dimS_any V a0 cap fs _ (hx.later hB0 hB0.size) hl hC.range63)
    have htl := top_lo fs
    have hth := top_hi fs
    by_cases h2 : top fs < d
    · have He : Hid (E = 0) := hid (by rw [hE]; exact rankN_none (ofDim_high hC h2))
      clear hE hx hC
      go_enter Tryd.func32, Tryd.ntmps32
      go_wp2_with fail
      refine HD.out.mono ?_
      rintro e w1 ⟨rfl, hB1⟩
      have HB1 := hid (hB0.trans (hB1.mono hB0.size))
      clear hB0 hB1
      go_wp2_with fail
      go_ret
      exact ⟨ret_int (by rw [He.out]; rfl), HB1.out⟩
    · have h2' : d ≤ top fs := by omega
      have HX := hid hx
      have HC := hid hC
      have HE := hid hE
      clear hE hx hC h1 h2
      go_enter Tryd.func32, Tryd.ntmps32
      go_wp2_with fail
      refine HD.out.mono ?_
      rintro e w1 ⟨rfl, hB1⟩
      have k0 : w1.cell? ⟨w.heap.size, 0, none⟩ = some (.int .i64 V) := (hB1.cell (p := ⟨w.heap.size, 0, none⟩) (by simp)).trans (by simp [go_sem])
      have k1 : w1.cell? ⟨w.heap.size, 1, none⟩ = some (.slice a0 fs.length cap) := (hB1.cell (p := ⟨w.heap.size, 1, none⟩) (by simp)).trans (by simp [go_sem])
      have HB1 := hid (hB0.trans (hB1.mono hB0.size))
      clear hB0 hB1
      go_wp2_with fail
      refine (rowsS_any V a0 cap fs d p w1 (HX.out.later HB1.out HB1.out.size) hl HC.out hp h1' (by omega)).mono ?_
      rintro e w2 ⟨R, ad, cp, rfl, hM, hB2⟩
      have HM := hid hM
      have HB2 := hid (HB1.out.trans (hB2.mono HB1.out.size))
      have hs12 := hB2.size
      have hs1 := HB1.out.size
      have HN := hid (ofDim_len fs d)
      have HN1 := hid (ofDim_len fs (d - 1))
      clear hM hB2 k0 k1
      by_cases hn : (ofDim fs d).length = 0
      · have He : Hid (E = 0) := hid (by rw [HE.out]; exact rankN_none (List.eq_nil_of_length_eq_zero hn))
        rw [hn]
        clear hn
        go_wp2_with fail
        refine (rankS_nil R cp p w2).mono ?_
        rintro e w3 ⟨rfl, rfl⟩
        go_wp2_with fail
        go_ret
        exact ⟨ret_int (by rw [He.out]; rfl), HB2.out⟩
      · have HR := hid (rankS_any w1.heap.size R (ofDim fs d).length (ofDim fs (d - 1)).length cp ad p _ w2 HM.out (bndM_good d hp) hp (by omega) (by have := HN.out; omega) (by have := HN1.out; omega))
        clear hn
        go_wp2_with fail
        refine HR.out.mono ?_
        rintro e w3 ⟨rfl, hB3⟩
        have HB3 := hid (HB2.out.trans (hB3.mono hs1))
        clear hB3
        go_wp2_with fail
        go_ret
        exact ⟨ret_int (by rw [HE.out]; rfl), HB3.out⟩

end Go.Proofs.YtpdhnjdnlgnniaaDoor

/-! Is a list a chain? The model's two tests. -/
namespace Go.Proofs.YtpdhnjdnlgnniaaDoor
open Go.RowKit Go.Sort

/-- Element i of a list is a face with as many vertices as the first one, and greater than the one ahead of it. -/
def linkB (fs ch : List Int) (i : Nat) : Bool :=
  decide (ch[i]?.getD 0 ∈ fs) && decide (ones (ch[i]?.getD 0).toNat = ones (ch[0]?.getD 0).toNat) && (decide (i = 0) || decide (ch[i - 1]?.getD 0 < ch[i]?.getD 0))
def linksTo (fs ch : List Int) (k : Nat) : Prop := ∀ i, i < k → linkB fs ch i = true
def chainB (fs ch : List Int) : Bool := (List.range ch.length).all (linkB fs ch)
/-- The code of a complex and a list. -/
noncomputable def chnR (V : Int) (fs ch : List Int) : Int := if isCB V fs then (if chainB fs ch then 0 else 2) else 1

theorem chain_yes {fs ch : List Int} (h : linksTo fs ch ch.length) : chainB fs ch = true := by
  unfold chainB
  rw [List.all_eq_true]
  intro i hi
  exact h i (by simpa using hi)
theorem chain_no {fs ch : List Int} {k : Nat} (hk : k < ch.length) (h : linkB fs ch k = false) : chainB fs ch = false := by
  unfold chainB
  rw [List.all_eq_false]
  exact ⟨k, by simpa using hk, by simp [h]⟩
theorem links_succ {fs ch : List Int} {k : Nat} (h : linksTo fs ch k) (h1 : linkB fs ch k = true) : linksTo fs ch (k + 1) := by
  intro i hi
  by_cases e : i = k
  · subst e; exact h1
  · exact h i (by omega)
theorem links_mem {fs ch : List Int} (h : chainB fs ch = true) : ∀ x ∈ ch, x ∈ fs := by
  intro x hx
  obtain ⟨i, hi, rfl⟩ := List.getElem_of_mem hx
  unfold chainB at h
  rw [List.all_eq_true] at h
  have h2 := h i (by simpa using hi)
  unfold linkB at h2
  simp only [Bool.and_eq_true, decide_eq_true_eq] at h2
  have h3 := h2.1.1
  rw [List.getElem?_eq_getElem hi] at h3
  simpa using h3
theorem chain_len {fs ch : List Int} {V : Int} (hC : IsC V fs) (h : chainB fs ch = true) : (∀ x ∈ ch, 1 ≤ x ∧ x ≤ 63) := fun x hx => hC.range63 x (links_mem h x hx)
theorem link_no_mem {fs ch : List Int} {k : Nat} (h : ch[k]?.getD 0 ∉ fs) : linkB fs ch k = false := by unfold linkB; simp [h]
theorem link_no_ord {fs ch : List Int} {k : Nat} (hk : 0 < k) (h : ch[k]?.getD 0 ≤ ch[k - 1]?.getD 0) : linkB fs ch k = false := by
  unfold linkB
  rw [decide_eq_false (show ¬ k = 0 by omega), decide_eq_false (show ¬ ch[k - 1]?.getD 0 < ch[k]?.getD 0 by omega)]
  simp
theorem link_first {fs ch : List Int} (h : ch[0]?.getD 0 ∈ fs) : linkB fs ch 0 = true := by unfold linkB; simp [h]
theorem link_eq {fs ch : List Int} {k : Nat} (h : ch[k]?.getD 0 ∈ fs) (ho : 0 < k → ch[k - 1]?.getD 0 < ch[k]?.getD 0) : linkB fs ch k = decide (ones (ch[k]?.getD 0).toNat = ones (ch[0]?.getD 0).toNat) := by
  unfold linkB
  rw [decide_eq_true h]
  by_cases hk : k = 0
  · subst hk; simp
  · rw [decide_eq_true (ho (by omega))]; simp
theorem link_head {fs ch : List Int} {k : Nat} (hk : 0 < k) (h : linksTo fs ch k) : ch[0]?.getD 0 ∈ fs := by
  have h2 := h 0 hk
  unfold linkB at h2
  simp only [Bool.and_eq_true, decide_eq_true_eq] at h2
  exact h2.1.1

theorem chn_bad {V : Int} {fs ch : List Int} (h : isCB V fs = false) : chnR V fs ch = 1 := by unfold chnR; rw [h]; rfl
theorem chn_no {V : Int} {fs ch : List Int} (h : isCB V fs = true) (h2 : chainB fs ch = false) : chnR V fs ch = 2 := by unfold chnR; rw [h, h2]; rfl
theorem chn_yes {V : Int} {fs ch : List Int} (h : isCB V fs = true) (h2 : chainB fs ch = true) : chnR V fs ch = 0 := by unfold chnR; rw [h, h2]; rfl

set_option maxRecDepth 100000 in
set_option maxHeartbeats 8000000 in
theorem chain3_any (V : Int) (a0 : Option Addr) (cap : Nat) (fs : List Int) (a1 : Option Addr) (cap1 : Nat) (ch : List Int) (w : World) (hx : SlI w w.heap.size a0 fs) (hx1 : SlI w w.heap.size a1 ch) (hl : fs.length ≤ 1048576) (hg : ch.length ≤ 1048576) :
    Calls Tryd.prog 15 #[.agg #[.int .i64 V, .slice a0 fs.length cap], .slice a1 ch.length cap1] w fun e w' => e = .returned (.int .i64 (chnR V fs ch)) ∧ Below w.heap.size w w' := by
  obtain ⟨W0, hW0⟩ : ∃ W0, W0 = w.alloc (.cells #[.int .i64 V, .slice a0 fs.length cap] 28) := ⟨_, rfl⟩
  have hB0 : Below w.heap.size w W0 := by rw [hW0]; exact (Below.refl _ w).alloc (Nat.le_refl _) _
  have Hk : Hid (W0.heap[w.heap.size]? = some (.cells #[.int .i64 V, .slice a0 fs.length cap] 28 (0, 0))) := hid (by rw [hW0]; exact heap_alloc_new _ _)
  have Hx := hid hx
  have Hy := hid hx1
  have HB0 := hid hB0
  have HI := hid (is_all V a0 cap fs W0 (hx.later hB0 hB0.size) hl)
  rw [hW0] at HI
  clear hx hx1 hB0
  cases hc : isCB V fs
  · have HR : Hid (chnR V fs ch = 1) := hid (chn_bad hc)
    rw [hc] at HI
    clear hc
    go_enter Tryd.func15, Tryd.ntmps15
    go_wp2_with fail
    refine HI.out.mono ?_
    rintro e w1 ⟨rfl, hB1⟩
    rw [← hW0] at hB1
    go_wp2_with fail
    go_ret
    exact ⟨ret_int HR.out.symm, HB0.out.trans (hB1.mono HB0.out.size)⟩
  · have hC := isCB_iff.1 hc
    have HC := hid hC
    have HY : Hid (chainB fs ch = true → chnR V fs ch = 0) := hid (chn_yes hc)
    have HN : Hid (chainB fs ch = false → chnR V fs ch = 2) := hid (chn_no hc)
    rw [hc] at HI
    clear hc hC
    obtain ⟨R, hR⟩ : ∃ R, R = chnR V fs ch := ⟨_, rfl⟩
    rw [← hR] at HY HN ⊢
    clear hR
    go_enter Tryd.func15, Tryd.ntmps15
    go_wp2_with fail
    refine HI.out.mono ?_
    rintro e w1 ⟨rfl, hB1⟩
    rw [← hW0] at hB1
    have Hk1 := hid ((hB1.block _ (lt_get Hk.out)).trans Hk.out)
    have HB1 := hid (HB0.out.trans (hB1.mono HB0.out.size))
    clear hB1
    go_wp2_with fail
    go_loopw [5] (fun iv wx => ∃ k : Nat, k ≤ ch.length ∧ iv = .int .i64 k ∧ Hid (linksTo fs ch k) ∧ Hid (Below w1.heap.size w1 wx)) (fun iv _ => ch.length - (RowKit.intOf iv).toNat)
    case atStart => exact ⟨0, Nat.zero_le _, rfl, hid (by intro i h; omega), hid (Below.refl _ _)⟩
    case round =>
      obtain ⟨k, hk, rfl, HK, HB⟩ := hrel
      have hBw := HB1.out.trans (HB.out.mono HB1.out.size)
      have HBw := hid hBw
      have Hkr := hid ((HB.out.block _ (lt_get Hk1.out)).trans Hk1.out)
      by_cases hlt : k < ch.length
      · obtain ⟨b, off, hb, rfl, hcl⟩ : ∃ b off, b < w.heap.size ∧ a1 = some ⟨b, off, none⟩ ∧ ∀ i, i < ch.length → w.cell? ⟨b, off + i, none⟩ = some (.int .i64 (ch[i]?.getD 0)) := by
          rcases Hy.out with h | h
          · rw [h] at hlt; simp at hlt
          · exact h
        obtain ⟨x, hxe⟩ : ∃ x, x = ch[k]?.getD 0 := ⟨_, rfl⟩
        have c0 := cell_regrown ((hBw.cell (p := ⟨b, off + k, none⟩) hb).trans (hcl k hlt))
        rw [← hxe] at c0
        obtain ⟨k0, k1, _, _⟩ := two_of Hkr.out
        have r0 := cell_regrown k0
        have r1 := cell_regrown k1
        have CH := hid (fun d os => Calls.regrown_of (has_any V x a0 cap fs (grow (redrawn wr d) os) (Hx.out.later (hBw.trans ((below_regrown wr d os).mono hBw.size)) (hBw.trans ((below_regrown wr d os).mono hBw.size)).size) hl))
        have hi0 : (0 : Int) ≤ (k : Int) := by omega
        have hi1 : (k : Int) < (ch.length : Int) := by omega
        clear k0 k1 hBw
        by_cases hm : x ∈ fs
        · rw [decide_eq_true hm] at CH
          have hxr := HC.out.range63 _ hm
          by_cases hk0 : 0 < k
          · have hd0 : decide (0 < k) = true := decide_eq_true hk0
            have hsub : IntKind.i64.wrap ((k : Int) - 1) = ((k - 1 : Nat) : Int) := by rw [IntKind.wrap_i64]; omega
            have hj0 : (0 : Int) ≤ ((k - 1 : Nat) : Int) := by omega
            have hj1 : ((k - 1 : Nat) : Int) < (ch.length : Int) := by omega
            obtain ⟨y, hye⟩ : ∃ y, y = ch[k - 1]?.getD 0 := ⟨_, rfl⟩
            have c1 := cell_regrown ((HBw.out.cell (p := ⟨b, off + (k - 1), none⟩) hb).trans (hcl (k - 1) (by omega)))
            rw [← hye] at c1
            by_cases hle : x ≤ y
            · have hd1 : decide (x ≤ y) = true := decide_eq_true hle
              have He := hid (HN.out (chain_no hlt (link_no_ord hk0 (by rw [← hxe, ← hye]; exact hle))))
              clear hle hcl hxe hye hk0
              go_wp2_with fail
              refine wp_region_quiet_below (by kernel_rfl) (by kernel_rfl) ?_
              iterate 5 (with_reducible refine wpQuiet_step (fun K hK => ?_); have HK := hid hK; clear hK; go_simp; (first | with_reducible refine HK.out _ ?_ | (rw [if_neg (by decide)]; with_reducible refine HK.out _ ?_)); clear HK K)
              (with_reducible refine wpQuiet_step (fun K hK => ?_); have HK := hid hK; clear hK; go_simp; apply Exists.intro; with_reducible refine ⟨fun _ => ?_, HK.out _ ?_⟩; exact CH.out _ _; clear HK K)
              iterate 29 (with_reducible refine wpQuiet_step (fun K hK => ?_); have HK := hid hK; clear hK; go_simp; (first | with_reducible refine HK.out _ ?_ | (rw [if_neg (by decide)]; with_reducible refine HK.out _ ?_)); clear HK K)
              with_reducible refine wpQuiet_nil ?_
              intro _ hw'
              obtain ⟨⟨dq, osq⟩, hw''⟩ := hw'
              subst hw''
              go_wp2_with fail
              go_ret
              exact ⟨ret_int He.out.symm, HBw.out.trans ((below_regrown wr dq osq).mono HBw.out.size)⟩
            · have hd1 : decide (x ≤ y) = false := decide_eq_false hle
              obtain ⟨z, hze⟩ : ∃ z, z = ch[0]?.getD 0 := ⟨_, rfl⟩
              have c2 := cell_regrown ((HBw.out.cell (p := ⟨b, off, none⟩) hb).trans (hcl 0 (by omega)))
              rw [← hze] at c2
              have hzr := HC.out.range63 _ (show z ∈ fs by rw [hze]; exact link_head hk0 HK.out)
              have He := hid (link_eq (fs := fs) (ch := ch) (k := k) (by rw [← hxe]; exact hm) (fun _ => by rw [← hxe, ← hye]; omega))
              have hl0 : 0 < ch.length := by omega
              rw [← hxe, ← hze] at He
              obtain ⟨x, rfl⟩ : ∃ n : Nat, x = n := ⟨x.toNat, by omega⟩
              obtain ⟨z, rfl⟩ : ∃ n : Nat, z = n := ⟨z.toNat, by omega⟩
              have hx64 : x < 64 := by omega
              have hz64 : z < 64 := by omega
              have cO : ∀ (f : Nat), f < 64 → ∀ d os, Calls Tryd.prog 19 #[.int .i64 (f : Int)] (grow (redrawn wr d) os) fun e w'' => e = .returned (.int .i64 (ones f : Int)) ∧ ∃ p : Regrown, w'' = grow (redrawn wr p.d) p.os := fun f hf d os => Calls.regrown_of ((ones_any f _ hf).mono fun _ _ ⟨he, hw⟩ => ⟨he, by rw [← hw]; exact Below.refl _ _⟩)
              have COx := hid (cO x hx64)
              have COz := hid (cO z hz64)
              simp only [Int.toNat_natCast] at He
              clear hcl hxe hye hze cO hm hxr hzr hle hx64 hz64
              by_cases ho : ones x = ones z
              · have hd2 : (((ones x : Nat) : Int) != ((ones z : Nat) : Int)) = false := by simp [ho]
                have HS := hid (links_succ HK.out (He.out.trans (decide_eq_true ho)))
                clear ho hk0
                go_wp2_with fail
                refine wp_region_quiet_below (by kernel_rfl) (by kernel_rfl) ?_
                iterate 5 (with_reducible refine wpQuiet_step (fun K hK => ?_); have HK := hid hK; clear hK; go_simp; (first | with_reducible refine HK.out _ ?_ | (rw [if_neg (by decide)]; with_reducible refine HK.out _ ?_)); clear HK K)
                (with_reducible refine wpQuiet_step (fun K hK => ?_); have HK := hid hK; clear hK; go_simp; apply Exists.intro; with_reducible refine ⟨fun _ => ?_, HK.out _ ?_⟩; exact CH.out _ _; clear HK K)
                iterate 20 (with_reducible refine wpQuiet_step (fun K hK => ?_); have HK := hid hK; clear hK; go_simp; (first | with_reducible refine HK.out _ ?_ | (rw [if_neg (by decide)]; with_reducible refine HK.out _ ?_)); clear HK K)
                (with_reducible refine wpQuiet_step (fun K hK => ?_); have HK := hid hK; clear hK; go_simp; apply Exists.intro; with_reducible refine ⟨fun _ => ?_, HK.out _ ?_⟩; exact COx.out _ _; clear HK K)
                iterate 3 (with_reducible refine wpQuiet_step (fun K hK => ?_); have HK := hid hK; clear hK; go_simp; (first | with_reducible refine HK.out _ ?_ | (rw [if_neg (by decide)]; with_reducible refine HK.out _ ?_)); clear HK K)
                (with_reducible refine wpQuiet_step (fun K hK => ?_); have HK := hid hK; clear hK; go_simp; apply Exists.intro; with_reducible refine ⟨fun _ => ?_, HK.out _ ?_⟩; exact COz.out _ _; clear HK K)
                iterate 4 (with_reducible refine wpQuiet_step (fun K hK => ?_); have HK := hid hK; clear hK; go_simp; (first | with_reducible refine HK.out _ ?_ | (rw [if_neg (by decide)]; with_reducible refine HK.out _ ?_)); clear HK K)
                with_reducible refine wpQuiet_nil ?_
                intro _ hw'
                obtain ⟨⟨dq, osq⟩, hw''⟩ := hw'
                subst hw''
                go_wp2_with fail
                go_roundw
                case rel => exact ⟨k + 1, by omega, by go_num, HS, hid (HB.out.trans ((below_regrown wr dq osq).mono HB.out.size))⟩
                case measure => simp [RowKit.intOf]; omega
              · have hd2 : (((ones x : Nat) : Int) != ((ones z : Nat) : Int)) = true := by simp; omega
                have HE2 := hid (HN.out (chain_no hlt (He.out.trans (decide_eq_false ho))))
                clear ho hk0
                go_wp2_with fail
                refine wp_region_quiet_below (by kernel_rfl) (by kernel_rfl) ?_
                iterate 5 (with_reducible refine wpQuiet_step (fun K hK => ?_); have HK := hid hK; clear hK; go_simp; (first | with_reducible refine HK.out _ ?_ | (rw [if_neg (by decide)]; with_reducible refine HK.out _ ?_)); clear HK K)
                (with_reducible refine wpQuiet_step (fun K hK => ?_); have HK := hid hK; clear hK; go_simp; apply Exists.intro; with_reducible refine ⟨fun _ => ?_, HK.out _ ?_⟩; exact CH.out _ _; clear HK K)
                iterate 20 (with_reducible refine wpQuiet_step (fun K hK => ?_); have HK := hid hK; clear hK; go_simp; (first | with_reducible refine HK.out _ ?_ | (rw [if_neg (by decide)]; with_reducible refine HK.out _ ?_)); clear HK K)
                (with_reducible refine wpQuiet_step (fun K hK => ?_); have HK := hid hK; clear hK; go_simp; apply Exists.intro; with_reducible refine ⟨fun _ => ?_, HK.out _ ?_⟩; exact COx.out _ _; clear HK K)
                iterate 3 (with_reducible refine wpQuiet_step (fun K hK => ?_); have HK := hid hK; clear hK; go_simp; (first | with_reducible refine HK.out _ ?_ | (rw [if_neg (by decide)]; with_reducible refine HK.out _ ?_)); clear HK K)
                (with_reducible refine wpQuiet_step (fun K hK => ?_); have HK := hid hK; clear hK; go_simp; apply Exists.intro; with_reducible refine ⟨fun _ => ?_, HK.out _ ?_⟩; exact COz.out _ _; clear HK K)
                iterate 4 (with_reducible refine wpQuiet_step (fun K hK => ?_); have HK := hid hK; clear hK; go_simp; (first | with_reducible refine HK.out _ ?_ | (rw [if_neg (by decide)]; with_reducible refine HK.out _ ?_)); clear HK K)
                with_reducible refine wpQuiet_nil ?_
                intro _ hw'
                obtain ⟨⟨dq, osq⟩, hw''⟩ := hw'
                subst hw''
                go_wp2_with fail
                go_ret
                exact ⟨ret_int HE2.out.symm, HBw.out.trans ((below_regrown wr dq osq).mono HBw.out.size)⟩
          · obtain rfl : k = 0 := by omega
            have hd0 : decide (0 < 0) = false := rfl
            have c00 : ∀ d os, (grow (redrawn wr d) os).cell? ⟨b, off, none⟩ = some (.int .i64 x) := fun d os => by simpa using c0 d os
            have HS := hid (links_succ HK.out (link_first (by rw [← hxe]; exact hm)))
            clear hcl hxe hk0 hm
            go_wp2_with fail
            refine wp_region_quiet_below (by kernel_rfl) (by kernel_rfl) ?_
            iterate 5 (with_reducible refine wpQuiet_step (fun K hK => ?_); have HK := hid hK; clear hK; go_simp; (first | with_reducible refine HK.out _ ?_ | (rw [if_neg (by decide)]; with_reducible refine HK.out _ ?_)); clear HK K)
            (with_reducible refine wpQuiet_step (fun K hK => ?_); have HK := hid hK; clear hK; go_simp; apply Exists.intro; with_reducible refine ⟨fun _ => ?_, HK.out _ ?_⟩; exact CH.out _ _; clear HK K)
            iterate 29 (with_reducible refine wpQuiet_step (fun K hK => ?_); have HK := hid hK; clear hK; go_simp; (first | with_reducible refine HK.out _ ?_ | (rw [if_neg (by decide)]; with_reducible refine HK.out _ ?_)); clear HK K)
            with_reducible refine wpQuiet_nil ?_
            intro _ hw'
            obtain ⟨⟨dq, osq⟩, hw''⟩ := hw'
            subst hw''
            go_wp2_with fail
            go_roundw
            case rel => exact ⟨1, by omega, by go_num, HS, hid (HB.out.trans ((below_regrown wr dq osq).mono HB.out.size))⟩
            case measure => simp [RowKit.intOf]; omega
        · rw [decide_eq_false hm] at CH
          have He := hid (HN.out (chain_no hlt (link_no_mem (by rw [← hxe]; exact hm))))
          clear hm hcl hxe
          go_wp2_with fail
          refine wp_region_quiet_below (by kernel_rfl) (by kernel_rfl) ?_
          iterate 5 (with_reducible refine wpQuiet_step (fun K hK => ?_); have HK := hid hK; clear hK; go_simp; (first | with_reducible refine HK.out _ ?_ | (rw [if_neg (by decide)]; with_reducible refine HK.out _ ?_)); clear HK K)
          (with_reducible refine wpQuiet_step (fun K hK => ?_); have HK := hid hK; clear hK; go_simp; apply Exists.intro; with_reducible refine ⟨fun _ => ?_, HK.out _ ?_⟩; exact CH.out _ _; clear HK K)
          iterate 29 (with_reducible refine wpQuiet_step (fun K hK => ?_); have HK := hid hK; clear hK; go_simp; (first | with_reducible refine HK.out _ ?_ | (rw [if_neg (by decide)]; with_reducible refine HK.out _ ?_)); clear HK K)
          with_reducible refine wpQuiet_nil ?_
          intro _ hw'
          obtain ⟨⟨dq, osq⟩, hw''⟩ := hw'
          subst hw''
          go_wp2_with fail
          go_ret
          exact ⟨ret_int He.out.symm, HBw.out.trans ((below_regrown wr dq osq).mono HBw.out.size)⟩
      · obtain rfl : k = ch.length := by omega
        have He := hid (HY.out (chain_yes HK.out))
        go_wp2_with fail
        go_ret
        exact ⟨ret_int He.out.symm, HBw.out⟩

end Go.Proofs.YtpdhnjdnlgnniaaDoor

/-! isBounding: the program's test whether a chain bounds. -/
namespace Go.Proofs.YtpdhnjdnlgnniaaDoor
open Go.RowKit Go.Shelf

/-- The dimension of a chain's first face. -/
def dimC (ch : List Int) : Int := (ones (ch[0]?.getD 0).toNat : Int) - 1
/-- The chain as a row, with a column for each number of S. -/
def rowOf (S ch : List Int) : List Int := S.map fun s => if s ∈ ch then 1 else 0
theorem rowOf_len (S ch : List Int) : (rowOf S ch).length = S.length := by simp [rowOf]
theorem rowOf_nil (S : List Int) : rowOf S [] = List.replicate S.length 0 := by
  unfold rowOf
  simp
  exact List.map_const' ..
theorem rowOf_rng (S ch : List Int) : ∀ x ∈ rowOf S ch, 0 ≤ x ∧ x < 2 := by
  intro x hx
  unfold rowOf at hx
  obtain ⟨s, _, rfl⟩ := List.mem_map.1 hx
  split <;> omega
theorem rowOf_snoc {S L : List Int} {x : Int} (hS : S.Pairwise (· < ·)) (hm : x ∈ S) : rowOf S (L ++ [x]) = (rowOf S L).set (S.idxOf x) 1 := by
  have hil := List.idxOf_lt_length_of_mem hm
  have hat : S[S.idxOf x] = x := List.getElem_idxOf hil
  apply List.ext_getElem
  · simp [rowOf]
  · intro i h1 h2
    have hi : i < S.length := by simpa [rowOf] using h1
    rw [List.getElem_set]
    simp only [rowOf, List.getElem_map]
    by_cases e : S.idxOf x = i
    · subst e
      rw [if_pos rfl, if_pos (by rw [hat]; simp)]
    · rw [if_neg e]
      have hne : S[i] ≠ x := fun h => e (asc_inj hS hil hi (by rw [hat, h]))
      simp [hne]
/-- Does a chain bound? -/
def boundsB (fs ch : List Int) : Bool :=
  decide (ch = []) || decide (elimR 2 (ofDim fs (dimC ch)).length 0 0 (bndM fs (dimC ch + 1) 2 ++ [rowOf (ofDim fs (dimC ch)) ch]) = rankN fs (dimC ch + 1) 2)

theorem chain_dim {fs ch : List Int} (h : chainB fs ch = true) : ∀ x ∈ ch, x ∈ ofDim fs (dimC ch) := by
  intro x hx
  obtain ⟨i, hi, rfl⟩ := List.getElem_of_mem hx
  unfold chainB at h
  rw [List.all_eq_true] at h
  have h2 := h i (by simpa using hi)
  unfold linkB at h2
  simp only [Bool.and_eq_true, decide_eq_true_eq] at h2
  rw [List.getElem?_eq_getElem hi] at h2
  simp only [Option.getD_some] at h2
  rw [ofDim_mem]
  refine ⟨h2.1.1, ?_⟩
  unfold dimC
  rw [h2.1.2]
  omega
theorem bndM_up (fs : List Int) (d p : Int) : bndM fs (d + 1) p = (ofDim fs (d + 1)).map fun f => bndRow (ofDim fs d) p (signedF f.toNat) := by
  unfold bndM
  rw [Int.add_sub_cancel]
theorem rank_up (fs : List Int) (d p : Int) : rankN fs (d + 1) p = elimR p (ofDim fs d).length 0 0 (bndM fs (d + 1) p) := by
  unfold rankN
  rw [Int.add_sub_cancel]
theorem bndM_up_good {fs : List Int} (d : Int) {p : Int} (hp : p = 2 ∨ p = 3) : MatG p (ofDim fs (d + 1)).length (ofDim fs d).length (bndM fs (d + 1) p) := by
  have := bndM_good (fs := fs) (d + 1) hp
  rwa [Int.add_sub_cancel] at this
theorem matG_app {p : Int} {n w : Nat} {M : List (List Int)} (h : MatG p n w M) {row : List Int} (hl : row.length = w) (hr : ∀ x ∈ row, 0 ≤ x ∧ x < p) : MatG p (n + 1) w (M ++ [row]) := by
  refine ⟨by simp [h.len], fun r hm => ?_, fun r hm => ?_⟩
  · rcases List.mem_append.1 hm with h1 | h1
    · exact h.wid _ h1
    · simp at h1; rw [h1]; exact hl
  · rcases List.mem_append.1 hm with h1 | h1
    · exact h.rng _ h1
    · simp at h1; rw [h1]; exact hr

set_option maxRecDepth 1000000 in
set_option maxHeartbeats 4000000 in
theorem isBd_any (V : Int) (a0 : Option Addr) (cap : Nat) (fs : List Int) (a1 : Option Addr) (cap1 : Nat) (ch : List Int) (w : World) (hx : SlI w w.heap.size a0 fs) (hx1 : SlI w w.heap.size a1 ch) (hl : fs.length ≤ 1048576) (hg : ch.length ≤ 1048576) (hC : IsC V fs) (hch : ∀ x ∈ ch, x ∈ ofDim fs (dimC ch)) :
    Calls Tryd.prog 18 #[.agg #[.int .i64 V, .slice a0 fs.length cap], .slice a1 ch.length cap1] w fun e w' => e = .returned (.bool (boundsB fs ch)) ∧ Below w.heap.size w w' := by
  have hB0 : Below w.heap.size w (w.alloc (.cells #[.int .i64 V, .slice a0 fs.length cap] 28)) := (Below.refl _ w).alloc (Nat.le_refl _) _
  by_cases h0 : ch = []
  · have He : Hid (boundsB fs ch = true) := hid (by unfold boundsB; rw [decide_eq_true h0]; rfl)
    have hlen : ch.length = 0 := by rw [h0]; rfl
    rw [hlen]
    have HB0 := hid hB0
    clear h0 hlen hx hx1 hC hch hB0
    go_enter Tryd.func18, Tryd.ntmps18
    go_wp2_with fail
    go_ret
    exact ⟨ret_bool He.out.symm, HB0.out⟩
  · have hlen : 0 < ch.length := List.length_pos_iff.2 h0
    obtain ⟨b1, o1, hb1, rfl, hc1⟩ : ∃ b off, b < w.heap.size ∧ a1 = some ⟨b, off, none⟩ ∧ ∀ i, i < ch.length → w.cell? ⟨b, off + i, none⟩ = some (.int .i64 (ch[i]?.getD 0)) := by
      rcases hx1 with h | h
      · exact absurd h h0
      · exact h
    obtain ⟨d, hd⟩ : ∃ d, d = dimC ch := ⟨_, rfl⟩
    obtain ⟨x0, hx0⟩ : ∃ x0, x0 = ch[0]?.getD 0 := ⟨_, rfl⟩
    have hx0r := hC.range63 x0 (ofDim_mem.1 (hch x0 (by rw [hx0]; exact getD_mem hlen))).1
    have hck : w.cell? ⟨b1, o1, none⟩ = some (.int .i64 x0) := by rw [hx0]; exact hc1 0 hlen
    obtain ⟨f0, rfl⟩ : ∃ f : Nat, x0 = f := ⟨x0.toNat, by omega⟩
    have hf0 : f0 < 64 := by omega
    have hol := ones_le f0
    have hdd : (ones f0 : Int) - 1 = d := by rw [hd]; unfold dimC; rw [← hx0, Int.toNat_natCast]
    have hd0 : -1 ≤ d := by omega
    have hd1 : d ≤ 100 := by omega
    rw [← hd] at hch
    have He : Hid (boundsB fs ch = decide (elimR 2 (ofDim fs d).length 0 0 (bndM fs (d + 1) 2 ++ [rowOf (ofDim fs d) ch]) = rankN fs (d + 1) 2)) := hid (by unfold boundsB; rw [decide_eq_false h0, ← hd]; rfl)
    have h63 := hC.len63
    have hF63 := ofDim_len fs (d + 1)
    have hS63 := ofDim_len fs d
    have HDm := hid (fun W => dim_any f0 W hf0)
    rw [hdd] at HDm
    have hadd : IntKind.i64.wrap (d + 1) = d + 1 := IntWalk.i64_in _ (by omega)
    have hBd := below_drewN hB0 1
    have HF := hid (fun dd w' (hw : Below w.heap.size w w') => fod_any V a0 cap fs dd w' (hx.later hw hw.size) hl hC.range63)
    have HBd := hid hBd
    have HC := hid hC
    have Hch := hid hch
    have Hc1 := hid hc1
    have Hb1 := hid hb1
    have hi0 : (0 : Int) < (ch.length : Int) := by omega
    clear hx hB0 hBd hC hch hc1 h0 hd hx0 hdd hol hx0r hd0 hd1
    go_enter Tryd.func18, Tryd.ntmps18
    go_wp2_with (go_at_call 21; refine (HDm.out _).mono ?_; rintro e w' ⟨rfl, rfl⟩)
    go_cut [6, 7] from 21 to 27 (fun q1 q2 wx => ∃ (a1 a2 : Option Addr) (c1 c2 : Nat), q1 = .slice a1 (ofDim fs (d + 1)).length c1 ∧ q2 = .slice a2 (ofDim fs d).length c2 ∧ SlI wx wx.heap.size a1 (ofDim fs (d + 1)) ∧ SlI wx wx.heap.size a2 (ofDim fs d) ∧ Below w.heap.size w wx)
    case first =>
      go_region_with (first
        | (go_at_call 36; have hz := HB1.out; clear HB1; refine (HF.out _ w1 hz).mono ?_; rintro e w2 ⟨v2, rfl, hr2⟩; obtain ⟨_, a2, c2, rfl, s2⟩ := ownsRow_slI hr2.1; have S2 := hid s2; have HR2 := hid hr2; have HB2 := hid hz; clear s2 hr2 hz n0 n1)
        | (go_at_call 36; refine (HF.out _ _ HBd.out).mono ?_; rintro e w1 ⟨v1, rfl, hr1⟩; have hb1 : Below w.heap.size w w1 := HBd.out.trans (hr1.2.mono HBd.out.size); have n0 : w1.cell? ⟨w.heap.size, 0, none⟩ = some (.int .i64 V) := (hr1.2.cell (p := ⟨w.heap.size, 0, none⟩) (by simp)).trans (by simp [go_sem]); have n1 : w1.cell? ⟨w.heap.size, 1, none⟩ = some (.slice a0 fs.length cap) := (hr1.2.cell (p := ⟨w.heap.size, 1, none⟩) (by simp)).trans (by simp [go_sem]); obtain ⟨_, a1, c1, rfl, s1⟩ := ownsRow_slI hr1.1; have S1 := hid s1; have HB1 := hid hb1; clear hr1 hb1 s1))
      all_goals
        go_wp2_with fail
        go_meet
        case rel =>
          have hb2 := HB2.out.trans (HR2.out.2.mono HB2.out.size)
          have s1' := S1.out.later HR2.out.2 HR2.out.2.size
          first
          | exact ⟨a1, a2, c1, c2, rfl, rfl, s1', S2.out, hb2⟩
          | exact ⟨a2, a1, c2, c1, rfl, rfl, S2.out, s1', hb2⟩
    case rest =>
      obtain ⟨a1, a2, c1, c2, rfl, rfl, s1, s2, hb⟩ := hcut
      obtain ⟨n, hn⟩ : ∃ n, n = (ofDim fs (d + 1)).length := ⟨_, rfl⟩
      obtain ⟨wd, hwd⟩ : ∃ wd, wd = (ofDim fs d).length := ⟨_, rfl⟩
      have hn63 : n ≤ 63 := by omega
      have hw63 : wd ≤ 63 := by omega
      have HG := hid (bndM_up_good (fs := fs) d (p := 2) (.inl rfl))
      have HFr : Hid (∀ x ∈ ofDim fs (d + 1), 1 ≤ x ∧ x ≤ 63) := hid (fun x hx => HC.out.range63 x (ofDim_mem.1 hx).1)
      have HSa := hid (ofDim_asc HC.out.asc d)
      have HS0 : Hid (∀ s ∈ ofDim fs d, 0 ≤ s) := hid (fun x hx => by have := HC.out.range63 x (ofDim_mem.1 hx).1; omega)
      have HSd : Hid (∀ f ∈ ofDim fs (d + 1), ∀ x ∈ signedF f.toNat, ((x.1.val : Nat) : Int) ∈ ofDim fs d) := hid (fun f hf x hx => by have := side_in HC.out hf hx; rwa [Int.add_sub_cancel] at this)
      have HA := hid (bndM_up fs d 2)
      have HRk := hid (rank_up fs d 2)
      obtain ⟨A, hA⟩ : ∃ A, A = bndM fs (d + 1) 2 := ⟨_, rfl⟩
      obtain ⟨F, hF⟩ : ∃ F, F = ofDim fs (d + 1) := ⟨_, rfl⟩
      obtain ⟨S, hS⟩ : ∃ S, S = ofDim fs d := ⟨_, rfl⟩
      obtain ⟨rk, hrk⟩ : ∃ rk, rk = rankN fs (d + 1) 2 := ⟨_, rfl⟩
      rw [← hF] at s1 HG HFr HSd HA hn ⊢
      rw [← hS] at s2 HG HSa HS0 HSd HA He HRk Hch hwd ⊢
      rw [← hA] at HG HA He HRk
      rw [← hrk] at HRk He
      rw [← hn] at HG ⊢
      rw [← hwd] at HG HRk He ⊢
      have hHN := newRows_any (n + 1) wd wc (by omega) (by omega)
      rw [show ((n + 1 : Nat) : Int) = (n : Int) + 1 by simp] at hHN
      have HN := hid hHN
      have Hn := hid hn
      have Hwd := hid hwd
      have S1 := hid s1
      have S2 := hid s2
      have HB := hid hb
      clear s1 s2 hb hF63 hS63 hadd hHN hn hwd hA hF hS hrk HF HDm hck
      go_wp2_with fail
      refine HN.out.mono ?_
      rintro e w3 ⟨R, ad, rfl, hM, hB3⟩
      have HMX : Hid (MatX w3 wc.heap.size R n wd ad (List.replicate n (List.replicate wd 0)) [List.replicate wd 0]) := hid ⟨by rw [← List.replicate_succ']; exact hM, by simp⟩
      obtain ⟨⟨en, cn⟩, _⟩ := hM.hd n (by omega)
      have hnn : (n : Int) < (n : Int) + 1 := by omega
      have hnn2 : (n : Int) ≤ (n : Int) + 1 := by omega
      have HB3 := hid hB3
      clear hM hB3 HN
      go_wp2_with fail
      go_quiet (fail)
      go_wp2_with fail
      have HFi := hid (fill_any wc.heap.size R n wd (n + 1) c1 c2 ad 2 F S [List.replicate wd 0] a1 a2 (w3.drewN nq) (HMX.out.drewN nq) Hn.out.symm Hwd.out.symm (S1.out.below (below_drewN HB3.out nq)) (S2.out.below (below_drewN HB3.out nq)) (below_drewN HB3.out nq).size (.inl rfl) HFr.out HSa.out HS0.out HSd.out (by omega) (by omega))
      rw [← HA.out] at HFi
      refine HFi.out.mono ?_
      rintro e w4 ⟨⟨u, rfl⟩, hM4, hB4⟩
      have HM4 : Hid (MatW w4 wc.heap.size R (n + 1) wd ad (A ++ [rowOf S (ch.take 0)])) := hid (by rw [List.take_zero, rowOf_nil, ← Hwd.out]; exact hM4.it)
      have HB4 := hid ((below_drewN HB3.out nq).trans hB4)
      have hRlt := hM4.head
      have hAl := hM4.len
      clear hM4 hB4 HMX cn hnn hnn2 HFi HB3
      go_wp2_with fail
      go_loopw [49] (fun s49 wx => ∃ k : Nat, s49 = .int .i64 k ∧ k ≤ ch.length ∧ Hid (MatW wx wc.heap.size R (n + 1) wd ad (A ++ [rowOf S (ch.take k)])) ∧ Hid (Below wc.heap.size wc wx)) (fun s49 _ => ch.length - (intOf s49).toNat)
      case atStart => exact ⟨0, rfl, Nat.zero_le _, HM4, HB4⟩
      case round =>
        clear HM4 HB4
        obtain ⟨k, rfl, hk, HM, HBk⟩ := hrel
        by_cases hlt : k < ch.length
        · obtain ⟨x, hx⟩ : ∃ x, x = ch[k]?.getD 0 := ⟨_, rfl⟩
          have hxm : x ∈ S := by rw [hx]; exact Hch.out _ (getD_mem hlt)
          have hck : wr.cell? ⟨b1, o1 + k, none⟩ = some (.int .i64 x) := by
            rw [hx]
            exact ((HB.out.trans (HBk.out.mono HB.out.size)).cell (p := ⟨b1, o1 + k, none⟩) Hb1.out).trans (Hc1.out k hlt)
          have hil := List.idxOf_lt_length_of_mem hxm
          have hIx := HI_of a2 c2 S x wr wc.heap.size (S2.out.below HBk.out) HBk.out.size (by have := Hwd.out; omega) hxm
          have hsn := rowOf_snoc (L := ch.take k) HSa.out hxm
          have htk : ch.take (k + 1) = ch.take k ++ [x] := by rw [take_snoc hlt, hx]
          rw [← htk] at hsn
          rw [← Hwd.out] at hil hIx
          obtain ⟨q, hq⟩ : ∃ q, q = S.idxOf x := ⟨_, rfl⟩
          rw [← hq] at hil hIx hsn
          have hrowA : (A ++ [rowOf S (ch.take k)])[n]?.getD [] = rowOf S (ch.take k) := by
            rw [List.getElem?_append_right (by omega), hAl]
            simp
          obtain ⟨cst, fst_⟩ := HM.out.at (i := n) (j := q) (by omega) hil
          have hset := HM.out.x.set1 (k := n) (j := q) (by omega) hil 1
          have hset2 := hset.w
          rw [hrowA, ← hsn, List.set_append_right _ _ (by omega), hAl, Nat.sub_self, List.set_cons_zero] at hset2
          have Hset := hid hset2
          have HBs := hid (HBk.out.setCell (p := ⟨(adr ad n).1, (adr ad n).2 + q, none⟩) (HM.out.base n (by omega)).1 (.int .i64 1))
          have HIx := hid hIx
          have hi0 : (0 : Int) ≤ (k : Int) := by omega
          have hi1 : (k : Int) < (ch.length : Int) := by omega
          have hq0 : (0 : Int) ≤ (q : Int) := by omega
          have hq1 : (q : Int) < (wd : Int) := by omega
          clear hx hxm hsn htk hq hrowA hset hset2 hIx hil HM HBk
          go_wp2_with (go_at_call 39; refine HIx.out.mono ?_; rintro e w' ⟨rfl, rfl⟩)
          go_roundw
          case rel => exact ⟨k + 1, by go_num, by omega, Hset, HBs⟩
          case measure => simp [intOf]; omega
        · obtain rfl : k = ch.length := by omega
          rw [List.take_length] at HM
          have HX1 : Hid (MatX wr wc.heap.size R n wd ad A [rowOf S ch]) := hid ⟨HM.out, hAl⟩
          have HS1 := hid (steps_more wc.heap.size R n wd (n + 1) ad 2 A [rowOf S ch] wr HX1.out HG.out (.inl rfl) (by omega) (by omega))
          have hGr : ∀ M', MatG 2 n wd M' → MatG 2 (n + 1) wd (M' ++ [rowOf S ch]) := fun M' h => matG_app h (by rw [rowOf_len, ← Hwd.out]) (rowOf_rng S ch)
          have HGr := hid hGr
          clear HM HX1 hGr
          go_wp2_with fail
          refine HS1.out.mono ?_
          rintro e w5 ⟨rfl, hB5, M', ad', hM5, hG5, hE5⟩
          have HS2 := hid (steps_any wc.heap.size R (n + 1) wd (n + 1) ad' 2 (M' ++ [rowOf S ch]) w5 hM5.it (HGr.out _ hG5) (.inl rfl) (by omega) (by omega))
          rw [← rank_span (.inl rfl) (HGr.out _ HG.out) (HGr.out _ hG5) (span_app _ hE5)] at HS2
          have HB5 := hid hB5
          clear hB5 hM5 hG5 hE5
          rw [← HRk.out]
          go_wp2_with fail
          refine HS2.out.mono ?_
          rintro e w6 ⟨rfl, hB6⟩
          have HB6 := hid (HB.out.trans (((HBk.out.trans HB5.out).trans hB6).mono HB.out.size))
          clear hB6
          go_wp2_with fail
          go_ret
          refine ⟨ret_bool ?_, HB6.out⟩
          rw [He.out, Bool.eq_iff_iff]
          simp
          try omega

end Go.Proofs.YtpdhnjdnlgnniaaDoor

/-! A region that draws its order, whose last operation writes what others read: what is held of the world is asked behind every operation but that one. -/
namespace Go.Proofs.YtpdhnjdnlgnniaaDoor
open Go.RowKit

section
variable {P : Program} {ops : Array Oper} {Q : Exit → Act → World → Prop} {md : Region.Mode} {S : World → Prop} {m : Nat}

/-- Whatever order is picked; S holds behind every operation but number m. -/
def anyM (P : Program) (md : Region.Mode) (ops : Array Oper) (Q : Exit → Act → World → Prop) (S : World → Prop) (m : Nat) : Nat → Array Bool → Act → World → Prop
  | 0, listed, a, w => Region.ready md ops listed = [] ∧ Q .normal a w
  | fuel + 1, listed, a, w => (Region.ready md ops listed = [] → Q .normal a w) ∧
      ∀ i ∈ Region.ready md ops listed, wpOp P ops Q i (fun a' w' => (i ≠ m → S w') ∧ anyM P md ops Q S m fuel (listed.setIfInBounds i true) a' w') a w

theorem any_of_M : ∀ (fuel : Nat) (listed : Array Bool) (a : Act) (w : World), anyM P md ops Q S m fuel listed a w → wpAny P md ops Q fuel listed a w
  | 0, _, _, _, h => h
  | fuel + 1, _, _, _, h => ⟨h.1, fun i hi => wpOp_mono (fun a' w' h' => any_of_M fuel _ a' w' h'.2) (h.2 i hi)⟩

/-- Each number waits for the one ahead of it. -/
def queueB (md : Region.Mode) (ops : Array Oper) : List Nat → Bool
  | x :: y :: r => (match ops[y]? with | some o => o.after.any (fun e => Region.binds md e && e.on == x) | none => false) && queueB md ops (y :: r)
  | _ => true

theorem queue_unready {listed : Array Bool} : ∀ (cs : List Nat) (i : Nat), queueB md ops (i :: cs) = true → (∀ c ∈ i :: cs, listed.getD c true = false) → ∀ c ∈ cs, c ∉ Region.ready md ops listed
  | [], _, _, _ => fun c hc => by cases hc
  | y :: r, i, h, hu => fun c hc => by
    simp only [queueB, Bool.and_eq_true] at h
    rcases List.mem_cons.1 hc with rfl | hc
    · intro hr
      obtain ⟨_, o, ho, hall⟩ := mem_ready.1 hr
      have h1 := h.1
      rw [ho] at h1
      simp only [Array.any_eq_true', Bool.and_eq_true, beq_iff_eq] at h1
      obtain ⟨e, he, hb, heq⟩ := h1
      have h2 := hall e he hb
      have h0 := hu i (List.mem_cons_self ..)
      rw [heq] at h2
      rcases Nat.lt_or_ge i listed.size with h' | h'
      · simp [h'] at h0 h2; rw [h0] at h2; cases h2
      · simp [Array.getElem?_eq_none h'] at h2
    · exact queue_unready r y h.2 (fun c hc => hu c (List.mem_cons_of_mem _ hc)) c hc

theorem anyM_first {i : Nat} {oi : Oper} {v : Value} (hi : ops[i]? = some oi) (hsel : ∀ (j : Nat) (o : Oper) cs b, ops[j]? = some o → o.op ≠ .select cs b)
    (hQ : ∀ c a w, Q (.panic c) (a.put oi.dst v) w → Q (.panic c) a w) {cs : List Nat} (hcs : queueB md ops (i :: cs) = true) (hm : m ∈ cs) :
    ∀ (fuel : Nat) (listed : Array Bool) (a : Act) (w : World),
      (∀ j oj, ops[j]? = some oj → j ≠ i → listed.getD j true = false → (∀ e ∈ oj.after, Region.binds md e = true → e.on ≠ i) → oi.apart ops oj = true) →
      i ∈ Region.ready md ops listed → (∀ c ∈ i :: cs, listed.getD c true = false) → YieldsIf P ops S oi v a → S w →
      anyM P md ops Q S m fuel (listed.setIfInBounds i true) (a.put oi.dst v) w → anyM P md ops Q S m (fuel + 1) listed a w := by
  intro fuel
  induction fuel with
  | zero =>
    intro listed a w _ hr _ hy hS H
    refine ⟨fun h => (by rw [h] at hr; cases hr), fun j hj => ?_⟩
    by_cases hji : j = i
    · subst hji; exact hy.wpOp hi hS ⟨fun _ => hS, H⟩
    · have := ready_mono hj hji
      rw [H.1] at this
      cases this
  | succ fuel ih =>
    intro listed a w hfree hr hu hy hS H
    refine ⟨fun h => (by rw [h] at hr; cases hr), fun j hj => ?_⟩
    by_cases hji : j = i
    · subst hji; exact hy.wpOp hi hS ⟨fun _ => hS, H⟩
    · have hjcs : j ∉ cs := fun hc => queue_unready cs i hcs hu j hc hj
      have hjm : j ≠ m := fun e => hjcs (e ▸ hm)
      have h1 := H.2 j (ready_mono hj hji)
      obtain ⟨hjun, oj, hoj, hall⟩ := mem_ready.1 hj
      have hnot : ∀ e ∈ oj.after, Region.binds md e = true → e.on ≠ i := fun e he hb heq => by
        have h1 := hall e he hb
        have h0 := (mem_ready.1 hr).1
        rw [heq] at h1
        rcases Nat.lt_or_ge i listed.size with h' | h'
        · simp [h'] at h0 h1; rw [h0] at h1; cases h1
        · simp [Array.getElem?_eq_none h'] at h1
      have h2 := wpOp_putIf hoj (hfree j oj hoj hji hjun hnot) (fun cs b => hsel i oi cs b hi) (fun cs b => hsel j oj cs b hoj) hQ hy h1
      have hfree' : ∀ k ok, ops[k]? = some ok → k ≠ i → (listed.setIfInBounds j true).getD k true = false →
          (∀ e ∈ ok.after, Region.binds md e = true → e.on ≠ i) → oi.apart ops ok = true := fun k ok hk hki hun hno => by
        refine hfree k ok hk hki ?_ hno
        by_cases hjk : j = k
        · subst hjk; exact hjun
        · rw [getD_set_ne true hjk] at hun; exact hun
      have hu' : ∀ c ∈ i :: cs, (listed.setIfInBounds j true).getD c true = false := fun c hc => by
        rw [getD_set_ne true (fun e => ?_)]
        · exact hu c hc
        · rcases List.mem_cons.1 hc with h | h
          · exact hji (e.trans h)
          · exact hjcs (e ▸ h)
      refine wpOp_mono (fun a' w' h3 => ⟨h3.2.1, ih (listed.setIfInBounds j true) a' w' hfree' (ready_mono hr (Ne.symm hji)) hu' h3.1 (h3.2.1 hjm) ?_⟩) h2
      rw [Array.setIfInBounds_comm _ _ hji]
      exact h3.2.2

theorem anyM_take {i : Nat} {oi : Oper} {v : Value} {fuel : Nat} {listed : Array Bool} {a : Act} {w : World} (cs : List Nat) (hi : ops[i]? = some oi)
    (hs : (Region.noSelect ops && queueB md ops (i :: cs) && cs.contains m && (i :: cs).all (fun c => !listed.getD c true) && Region.free md ops listed i && (Region.ready md ops listed).contains i) = true)
    (hQ : ∀ c a w, Q (.panic c) (a.put oi.dst v) w → Q (.panic c) a w) (hy : YieldsIf P ops S oi v a) (hS : S w)
    (h : anyM P md ops Q S m fuel (listed.setIfInBounds i true) (a.put oi.dst v) w) : anyM P md ops Q S m (fuel + 1) listed a w := by
  simp only [Bool.and_eq_true] at hs
  obtain ⟨⟨⟨⟨⟨h1, h2⟩, h3⟩, h4⟩, h5⟩, h6⟩ := hs
  exact anyM_first hi (Region.noSelect_spec h1) hQ h2 (by simpa using h3) fuel listed a w (Region.free_spec hi h5) (by simpa using h6) (fun c hc => by simpa using List.all_eq_true.1 h4 c hc) hy hS h

/-- Each of the operations 'rs' comes up next. -/
def AllM (P : Program) (md : Region.Mode) (ops : Array Oper) (Q : Exit → Act → World → Prop) (S : World → Prop) (m fuel : Nat) (listed : Array Bool) (a : Act) (w : World) (rs : List Nat) : Prop :=
  ∀ i ∈ rs, wpOp P ops Q i (fun a' w' => (i ≠ m → S w') ∧ anyM P md ops Q S m fuel (listed.setIfInBounds i true) a' w') a w
theorem AllM.nil {fuel : Nat} {listed : Array Bool} {a : Act} {w : World} : AllM P md ops Q S m fuel listed a w [] := fun _ h => by cases h
theorem AllM.cons {fuel : Nat} {listed : Array Bool} {a : Act} {w : World} {i : Nat} {o : Oper} {rs : List Nat} (ho : ops[i]? = some o)
    (h : ∀ K' : Act → World → Prop, Go.Shut (∀ a w, (i ≠ m → S w) → anyM P md ops Q S m fuel (listed.setIfInBounds i true) a w → K' a w) → if Region.wanted o (yielded ops a.tmps) = true then Oper.wp P o a w K' Q else K' (a.put o.dst undef) w)
    (hs : AllM P md ops Q S m fuel listed a w rs) : AllM P md ops Q S m fuel listed a w (i :: rs) := fun j hj => by
  rcases List.mem_cons.1 hj with rfl | hj
  · exact wpOp_step ho (fun K' hK => h K' (fun a w hS hW => hK a w ⟨hS, hW⟩))
  · exact hs j hj
theorem anyM_ready {rs : List Nat} {fuel : Nat} {listed : Array Bool} {a : Act} {w : World} (hr : (Region.ready md ops listed == rs) = true) (hne : rs ≠ [])
    (h : AllM P md ops Q S m fuel listed a w rs) : anyM P md ops Q S m (fuel + 1) listed a w :=
  ⟨fun h0 => absurd (eq_of_beq hr ▸ h0) hne, eq_of_beq hr ▸ h⟩
theorem anyM_done {listed : Array Bool} {a : Act} {w : World} (hr : (Region.ready md ops listed).isEmpty = true) (h : Q .normal a w) : ∀ fuel, anyM P md ops Q S m fuel listed a w
  | 0 => ⟨List.isEmpty_iff.1 hr, h⟩
  | _ + 1 => ⟨fun _ => h, by rw [List.isEmpty_iff.1 hr]; simp⟩
/-- The beginning. -/
theorem region_M {id : Nat} {a : Act} {w : World} (m : Nat) (S : World → Prop) (hm : P.follows .mixedOrders = true)
    (h : anyM P .any ops Q S m ops.size (Array.replicate ops.size false) a w.drew) : (Code.region id ops true).wp P Q a w :=
  wp_region_any hm (any_of_M _ _ _ _ h)
end

end Go.Proofs.YtpdhnjdnlgnniaaDoor
