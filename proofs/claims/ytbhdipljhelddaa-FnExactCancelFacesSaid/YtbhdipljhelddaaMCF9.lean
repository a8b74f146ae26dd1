import Derived.Laws.OwnMore
import Derived.Test.YtbhdipljhelddaaRows
import Derived.ProofKit
import Derived.OpenShut
import Derived.ShutString
import Derived.ChangeOld
import Derived.Below
import Derived.Lib.SmallJoins
import Derived.Test.YtbhdipljhelddaaMCF1
import Derived.Test.YtbhdipljhelddaaMCF2
import Derived.Test.YtbhdipljhelddaaMCF4
import Derived.Test.YtbhdipljhelddaaMCF5
import Derived.Test.YtbhdipljhelddaaMCF7
import Derived.Test.YtbhdipljhelddaaMCF8
/-! l02With: a pair is put into an ascending list. -/
namespace Go.Proofs.Ytbhdipljhelddaa
open Go.RowKit

attribute [local go_sem] Oper.semAt_some

/-- The place of a pair: behind all that are not greater, from the end on. -/
def placeP (qs : List Int) (x y : Int) : Nat → Nat
  | 0 => 0
  | k + 1 => if lessP x y (at0 qs (k * 2)) (at0 qs (k * 2 + 1)) then placeP qs x y k else k + 1
theorem placeP_le (qs : List Int) (x y : Int) : ∀ n, placeP qs x y n ≤ n
  | 0 => Nat.le_refl _
  | k + 1 => by
    unfold placeP
    split
    · exact Nat.le_succ_of_le (placeP_le qs x y k)
    · exact Nat.le_refl _
/-- The list with the pair. -/
def insP (qs : List Int) (n : Nat) (x y : Int) : List Int := qs.take (2 * placeP qs x y n) ++ (x :: y :: qs.drop (2 * placeP qs x y n))
theorem insP_len {qs : List Int} {n : Nat} (h : qs.length = 2 * n) (x y : Int) : (insP qs n x y).length = 2 * (n + 1) := by
  have := placeP_le qs x y n
  unfold insP
  simp
  omega

/-- At the loop's end. -/
def WhOut (B : Nat) (V : Int) (a0 : Option Addr) (l cap : Nat) (a1 : Option Addr) (n cap1 : Nat) (x y : Int) (P : Nat) (a' : Act) : Prop :=
  ∃ us : Nat → Value, a' = { tmps := List.toArray ((.agg #[.int .i64 V, .slice a0 l cap]) :: (.slice a1 n cap1) :: (.agg #[.int .i64 x, .int .i64 y]) :: (.pointer (some ⟨B, 0, none⟩)) :: us 4 :: (.pointer (some ⟨B + 1, 0, none⟩)) :: (.slice none 0 0) :: (.bool false) :: (.int .i64 (P : Int)) :: us 9 :: us 10 :: us 11 :: us 12 :: us 13 :: us 14 :: us 15 :: us 16 :: us 17 :: us 18 :: us 19 :: us 20 :: us 21 :: us 22 :: us 23 :: us 24 :: us 25 :: us 26 :: us 27 :: us 28 :: us 29 :: us 30 :: us 31 :: us 32 :: us 33 :: us 34 :: us 35 :: us 36 :: us 37 :: us 38 :: us 39 :: us 40 :: us 41 :: us 42 :: []), defers := [] }
theorem whOut_of {B : Nat} {V : Int} {a0 : Option Addr} {l cap : Nat} {a1 : Option Addr} {n cap1 : Nat} {x y : Int} {P : Nat} (tm : Array Value) (h : tm = List.toArray ((.agg #[.int .i64 V, .slice a0 l cap]) :: (.slice a1 n cap1) :: (.agg #[.int .i64 x, .int .i64 y]) :: (.pointer (some ⟨B, 0, none⟩)) :: tm.getD 4 undef :: (.pointer (some ⟨B + 1, 0, none⟩)) :: (.slice none 0 0) :: (.bool false) :: (.int .i64 (P : Int)) :: tm.getD 9 undef :: tm.getD 10 undef :: tm.getD 11 undef :: tm.getD 12 undef :: tm.getD 13 undef :: tm.getD 14 undef :: tm.getD 15 undef :: tm.getD 16 undef :: tm.getD 17 undef :: tm.getD 18 undef :: tm.getD 19 undef :: tm.getD 20 undef :: tm.getD 21 undef :: tm.getD 22 undef :: tm.getD 23 undef :: tm.getD 24 undef :: tm.getD 25 undef :: tm.getD 26 undef :: tm.getD 27 undef :: tm.getD 28 undef :: tm.getD 29 undef :: tm.getD 30 undef :: tm.getD 31 undef :: tm.getD 32 undef :: tm.getD 33 undef :: tm.getD 34 undef :: tm.getD 35 undef :: tm.getD 36 undef :: tm.getD 37 undef :: tm.getD 38 undef :: tm.getD 39 undef :: tm.getD 40 undef :: tm.getD 41 undef :: tm.getD 42 undef :: [])) : WhOut B V a0 l cap a1 n cap1 x y P { tmps := tm, defers := [] } :=
  ⟨fun i => tm.getD i undef, congrArg (fun t => ({ tmps := t, defers := [] } : Act)) h⟩

def WhQ (W0 : World) (B : Nat) (V : Int) (a0 : Option Addr) (l cap : Nat) (a1 : Option Addr) (n cap1 : Nat) (x y : Int) (P : Nat) : Exit → Act → World → Prop
  | .exit 0, a', wr => WhOut B V a0 l cap a1 n cap1 x y P a' ∧ Below W0.heap.size W0 wr
  | _, _, _ => False

set_option maxRecDepth 1000000 in
set_option maxHeartbeats 4000000 in
theorem with_any (V : Int) (a0 : Option Addr) (cap : Nat) (fs : List Int) (b off n cap1 : Nat) (qs : List Int) (x y : Int) (w : World) (hx : SlI w w.heap.size a0 fs) (hb : b < w.heap.size) (hcl : ∀ i, i < qs.length → w.cell? ⟨b, off + i, none⟩ = some (.int .i64 (qs[i]?.getD 0))) (hl : fs.length ≤ 1048576) (hf : ∀ x ∈ fs, 1 ≤ x ∧ x ≤ 63) (hp : qs.length = 2 * n) (hn : n + 1 ≤ 1048576) (hcap : n ≤ cap1) :
    Calls Try.prog 55 #[.agg #[.int .i64 V, .slice a0 fs.length cap], .slice (some ⟨b, off, none⟩) n cap1, .agg #[.int .i64 x, .int .i64 y]] w fun e w' => ∃ v, e = .returned (.tuple #[v, .bool (pairingB fs (insP qs n x y) (n + 1))]) ∧ w'.ownsRow w.heap.size 65 2 v (n + 1) ((insP qs n x y).map (Value.int .i64)) ∧ Below w.heap.size w w' := by
  obtain ⟨W0, hW0⟩ : ∃ W0, W0 = (w.alloc (.cells #[.int .i64 V, .slice a0 fs.length cap] 28)).alloc (.cells #[.int .i64 x, .int .i64 y] 65) := ⟨_, rfl⟩
  have hB0 : Below w.heap.size w W0 := by rw [hW0]; exact ((Below.refl _ w).alloc (Nat.le_refl _) _).alloc (by simp) _
  have hs0 : W0.heap.size = w.heap.size + 2 := by rw [hW0]; simp
  have hpb : W0.heap[w.heap.size + 1]? = some (.cells #[.int .i64 x, .int .i64 y] 65 (0, 0)) := by
    have := heap_alloc_new (w.alloc (.cells #[.int .i64 V, .slice a0 fs.length cap] 28)) (.cells #[.int .i64 x, .int .i64 y] 65)
    rw [World.size_alloc] at this
    rw [hW0]
    exact this
  have hk0 : W0.cell? ⟨w.heap.size, 0, none⟩ = some (.int .i64 V) := by rw [hW0]; simp [go_sem]
  have hk1 : W0.cell? ⟨w.heap.size, 1, none⟩ = some (.slice a0 fs.length cap) := by rw [hW0]; simp [go_sem]
  have Hcl := hid hcl
  have Hp := hid hp
  have HB0 := hid hB0
  have Hpb := hid hpb
  have Hk0 := hid hk0
  have Hk1 := hid hk1
  have Hx := hid hx
  obtain ⟨P, hP⟩ : ∃ P, P = placeP qs x y n := ⟨_, rfl⟩
  have HP := hid hP
  clear hx hcl hp hB0 hpb hk0 hk1 hP
  go_enter Try.func55, Try.ntmps55
  go_wp2_with fail
  rw [← hW0]
  clear hW0
  refine wp_mono (Q := WhQ W0 w.heap.size V a0 fs.length cap (some ⟨b, off, none⟩) n cap1 x y P) ?_ ?_
  · go_loopw [8] (fun i wr => ∃ k : Nat, k ≤ n ∧ i = .int .i64 k ∧ Hid (placeP qs x y k = P) ∧ Below W0.heap.size W0 wr) (fun i _ => (intOf i).toNat)
    case atStart => exact ⟨n, Nat.le_refl _, rfl, hid HP.out.symm, Below.refl _ _⟩
    case round =>
      obtain ⟨k, hk, rfl, Hk, hB⟩ := hrel
      rcases k with _ | k
      · have HB := hid hB
        have HP0 : Hid (P = 0) := hid Hk.out.symm
        clear hB
        go_wp2_with fail
        go_quiet (fail)
        go_wp2_with fail
        rw [HP0.out]
        exact ⟨whOut_of _ rfl, HB.out.trans (below_drewN (Below.refl _ wr) _)⟩
      · have hcl := Hcl.out
        have hBw := HB0.out.trans (hB.mono HB0.out.size)
        have hc2 : wr.cell? ⟨b, off + k * 2, none⟩ = some (.int .i64 (at0 qs (k * 2))) := (hBw.cell (p := ⟨b, off + k * 2, none⟩) hb).trans (hcl _ (by have := Hp.out; omega))
        have hc3 : wr.cell? ⟨b, off + k * 2 + 1, none⟩ = some (.int .i64 (at0 qs (k * 2 + 1))) := (hBw.cell (p := ⟨b, off + (k * 2 + 1), none⟩) hb).trans (hcl _ (by have := Hp.out; omega))
        obtain ⟨x', hx'⟩ : ∃ x, x = at0 qs (k * 2) := ⟨_, rfl⟩
        obtain ⟨y', hy'⟩ : ∃ y, y = at0 qs (k * 2 + 1) := ⟨_, rfl⟩
        rw [← hx'] at hc2
        rw [← hy'] at hc3
        obtain ⟨p0, p1, _, _⟩ := two_of ((hB.block _ (lt_of_get Hpb.out)).trans Hpb.out)
        obtain ⟨c, hcc⟩ : ∃ c, c = lessP x y x' y' := ⟨_, rfl⟩
        have HL := hid (less_any x y x' y' wr.drew)
        rw [← hcc] at HL
        have hi0 : (0 : Int) ≤ (k : Int) := by omega
        have hi1 : (k : Int) < (n : Int) := by omega
        have hpos : (0 : Int) < ((k + 1 : Nat) : Int) := by omega
        have hwr : IntKind.i64.wrap ((k : Int) + 1 - 1) = (k : Int) := by rw [IntKind.wrap_i64]; omega
        have hwr3 : IntKind.i64.wrap (k : Int) = (k : Int) := by rw [IntKind.wrap_i64]; omega
        have hwr2 : IntKind.i64.wrap (((k + 1 : Nat) : Int) - 1) = (k : Int) := by rw [IntKind.wrap_i64]; omega
        have HB := hid hB
        have Hxy : Hid (placeP qs x y (k + 1) = if c then placeP qs x y k else k + 1) := hid (by rw [hcc, hx', hy']; rfl)
        clear hcl hx' hy' hB hBw hcc
        go_wp2_with fail
        go_region_with (go_at_call 114; refine HL.out.mono ?_; rintro e w2 ⟨rfl, hB2⟩; have HB2 := hid hB2; clear hB2)
        all_goals
          have HB3 := hid (HB.out.trans (((below_drewN (Below.refl _ wr) 1).trans HB2.out).mono HB.out.size))
          cases c
          · have HP0 : Hid (P = k + 1) := hid (by rw [← Hk.out, Hxy.out]; rfl)
            go_wp2_with fail
            rw [HP0.out]
            exact ⟨whOut_of _ rfl, HB3.out⟩
          · have HP0 : Hid (placeP qs x y k = P) := hid (by rw [← Hk.out, Hxy.out]; rfl)
            go_wp2_with fail
            go_roundw
            case rel => exact ⟨k, by omega, by go_num, HP0, HB3.out⟩
            case measure => simp [intOf]
  · rintro e a' wr h
    cases e with
    | exit id =>
      rcases id with _ | id
      · obtain ⟨⟨us, rfl⟩, hB⟩ := h
        have hPn := placeP_le qs x y n
        rw [← HP.out] at hPn
        have hBw := HB0.out.trans (hB.mono HB0.out.size)
        obtain ⟨p0, p1, _, _⟩ := two_of ((hB.block _ (lt_of_get Hpb.out)).trans Hpb.out)
        have k0 := (hB.cell (p := ⟨w.heap.size, 0, none⟩) (by simp only; omega)).trans Hk0.out
        have k1 := (hB.cell (p := ⟨w.heap.size, 1, none⟩) (by simp only; omega)).trans Hk1.out
        have hi0 : (0 : Int) ≤ (P : Int) := by omega
        have hi1 : (P : Int) ≤ (n : Int) := by omega
        have hi2 : (n : Int) ≤ (cap1 : Int) := by omega
        have hi3 : (P : Int) ≤ (cap1 : Int) := by omega
        have HBw := hid hBw
        have Hi := hid hPn
        clear hBw hPn
        have hcl := Hcl.out
        · obtain ⟨ad, had, hadc⟩ : ∃ ad : Addr, (if cap1 = P then some (⟨b, off, none⟩ : Addr) else some ⟨b, off + P * 2, none⟩) = some ad ∧ ∀ W', Below w.heap.size w W' → ∀ j, j < (n - P) * 2 → W'.cell? (ad.add j) = some (.int .i64 ((qs.drop (2 * P))[j]?.getD 0)) := by
            by_cases hcp : cap1 = P
            · exact ⟨_, if_pos hcp, fun W' _ j hj => by have := Hi.out; omega⟩
            · refine ⟨_, if_neg hcp, fun W' h j hj => ?_⟩
              have hadd : (⟨b, off + P * 2, none⟩ : Addr).add j = ⟨b, off + (P * 2 + j), none⟩ := by unfold Addr.add; split <;> simp_all [Nat.add_assoc]
              rw [hadd, (h.cell (p := ⟨b, off + (P * 2 + j), none⟩) hb), hcl _ (by have := Hp.out; omega), List.getElem?_drop, Nat.mul_comm 2 P]
          have hW1 := one_pair (w := wr.drew) (base := wr.heap.size) (Nat.le_refl _) x y
          have hBd : Below wr.heap.size wr (wr.drew.alloc (.cells #[.int .i64 x, .int .i64 y] 65)) := (below_drewN (Below.refl _ wr) 1).alloc (Nat.le_refl _) _
          obtain ⟨v1, W2, hr1, hown1, hg1, hb1⟩ := append_run (l := n - P) (c := cap1 - P) (ys := qs.drop (2 * P)) hW1 hBd.size (by omega) (by omega) (by have := Hp.out; simp; omega) (hadc _ (HBw.out.trans (hBd.mono HBw.out.size)))
          have hB2 := hBd.trans hb1
          obtain ⟨g1, c1, rfl, hg1l⟩ : ∃ g c, v1 = .slice (some ⟨g, 0, none⟩) (1 + (n - P)) c ∧ g < W2.heap.size := by
            rcases hown1.2 with ⟨_, h0⟩ | ⟨g, cp, cur, h1, _, h2, _⟩
            · omega
            · exact ⟨g, cp, h1, lt_of_get h2⟩
          have hown0 := World.ownsRow_made (base := wr.heap.size) (e := 65) (size := 2) W2 #[] 0 hB2.size (by unfold maxLen; omega) rfl
          have hB3 : Below wr.heap.size wr (W2.alloc (.cells #[] 65)) := hB2.alloc hB2.size _
          obtain ⟨v4, W4, hr4, hown4, hg4, hb4⟩ := append_run (xs := []) (ad := ⟨b, off, none⟩) (l := P) (c := cap1) (ys := qs.take (2 * P)) hown0 hB3.size (by omega) (by omega) (by have := Hp.out; have := Hi.out; simp; omega) (fun j hj => by
            have hadd : (⟨b, off, none⟩ : Addr).add j = ⟨b, off + j, none⟩ := by unfold Addr.add; split <;> simp_all
            rw [hadd, ((HBw.out.trans (hB3.mono HBw.out.size)).cell (p := ⟨b, off + j, none⟩) hb), hcl _ (by have := Hp.out; have := Hi.out; omega), List.getElem?_take_of_lt (by omega)])
          have hB4 := hB3.trans hb4
          have hown1' := (hown1.alloc (.cells #[] 65)).kept hg4 (.inr (by intro e; simp [Value.ownBlock] at e; omega))
          obtain ⟨v5, W5, hr5, hown5, hg5, hb5⟩ := append_run (ad := ⟨g1, 0, none⟩) (l := 1 + (n - P)) (c := c1) (ys := [x, y] ++ qs.drop (2 * P)) hown4 hB4.size (by have := Hi.out; omega) (by omega) (by have := Hp.out; simp; omega) (fun j hj => hown1'.cells rfl j _ (map_get (by have := Hp.out; simp; omega)))
          have hB5 := hB4.trans hb5
          have hall : ([] ++ qs.take (2 * P)) ++ ([x, y] ++ qs.drop (2 * P)) = insP qs n x y := by unfold insP; rw [← HP.out]; simp
          rw [hall, show 0 + P + (1 + (n - P)) = n + 1 by have := Hi.out; omega] at hown5
          obtain ⟨g5, c5, rfl⟩ : ∃ g c, v5 = .slice (some ⟨g, 0, none⟩) (n + 1) c := by
            rcases hown5.2 with ⟨_, h0⟩ | ⟨g, cp, cur, h1, _, h2, _⟩
            · omega
            · exact ⟨g, cp, h1⟩
          have hBW5 := HBw.out.trans (hB5.mono HBw.out.size)
          have HI := hid (pis_any V a0 cap fs (some ⟨g5, 0, none⟩) (n + 1) c5 (insP qs n x y) W5 (Hx.out.later hBW5 hBW5.size) (flat_slI hown5) hl hf (insP_len Hp.out x y) hn)
          have q0 := (hB5.cell (p := ⟨w.heap.size, 0, none⟩) (by have := HBw.out.size; have := lt_of_get Hpb.out; have := hB.size; simp only; omega)).trans k0
          have q1 := (hB5.cell (p := ⟨w.heap.size, 1, none⟩) (by have := HBw.out.size; have := lt_of_get Hpb.out; have := hB.size; simp only; omega)).trans k1
          have Hown5 := hid (ownsRow_base hown5 HBw.out.size)
          have HBW5 := hid hBW5
          clear hown5 hB5 hBW5 hall hown1' hB4 hown4 hg4 hb4 hB3 hown0 hB2 hown1 hg1 hb1 hg5 hb5 hW1 hBd hadc
          simp only [Exit.inBlock, Exit.then]
          go_wp2_with fail
          refine wp_region_any (by kernel_rfl) ?_
          refine wpAny_take (i := 2) (v := ?_) rfl (by kernel_rfl) (by kernel_rfl) (by kernel_rfl) (fun _ _ _ h => h) (Or.inl ⟨by rfl, ?_⟩) ?_
          rotate_left
          · intro w; go_simp; rfl
          refine wpAny_take (i := 3) (v := ?_) rfl (by kernel_rfl) (by kernel_rfl) (by kernel_rfl) (fun _ _ _ h => h) (Or.inl ⟨by rfl, ?_⟩) ?_
          rotate_left
          · intro w; go_simp; rfl
          refine wpAny_take (i := 4) (v := ?_) rfl (by kernel_rfl) (by kernel_rfl) (by kernel_rfl) (fun _ _ _ h => h) (Or.inl ⟨by rfl, ?_⟩) ?_
          rotate_left
          · intro w; go_simp; rfl
          refine wpAny_ready (rs := [0]) (by kernel_rfl) (by simp) ?_
          refine AllReady.cons rfl (fun K hK => ?_) AllReady.nil
          go_simp
          refine hK _ _ ?_
          clear hK K
          refine wpAny_ready (rs := [1]) (by kernel_rfl) (by simp) ?_
          refine AllReady.cons rfl (fun K hK => ?_) AllReady.nil
          go_simp
          refine hK _ _ ?_
          clear hK K
          refine wpAny_ready (rs := [5]) (by kernel_rfl) (by simp) ?_
          refine AllReady.cons rfl (fun K hK => ?_) AllReady.nil
          rw [if_pos (by rfl)]
          refine wp_append_run rfl rfl (show _ = Value.slice (some ad) (n - P) (cap1 - P) from by first | exact congrArg (fun t => Value.slice t (n - P) (cap1 - P)) had | (rw [← had]; rfl)) hr1 ?_
          refine hK _ _ ?_
          clear hK K
          refine wpAny_ready (rs := [6]) (by kernel_rfl) (by simp) ?_
          refine AllReady.cons rfl (fun K hK => ?_) AllReady.nil
          go_simp
          refine hK _ _ ?_
          clear hK K
          refine wpAny_done (by kernel_rfl) ?_ _
          simp only [Exit.then]
          go_wp2_with (first
            | (at_builtin; first | (refine wpList_append_run rfl rfl rfl rfl hr4 ?_) | (refine wpList_append_run rfl rfl rfl rfl hr5 ?_))
            | (go_at_call 115; refine HI.out.mono ?_; rintro e w6 ⟨rfl, hB6⟩; have HB6 := hid hB6; clear hB6))
          go_ret2
          exact ⟨_, rfl, Hown5.out.kept (row := none) ⟨HB6.out.os, HB6.out.tape, HB6.out.output, HB6.out.size, fun k hk _ => HB6.out.block k hk⟩ (.inr (by simp [Value.ownBlock])), HBW5.out.trans (HB6.out.mono HBW5.out.size)⟩
      · exact h.elim
    | normal => exact h.elim
    | goto l => exact h.elim
    | ret => exact h.elim
    | panic ch => exact h.elim
    | outgrown => exact h.elim

end Go.Proofs.Ytbhdipljhelddaa

/-! l02With's list is the list with the pair. -/
namespace Go.Proofs.Ytbhdipljhelddaa
open Go.RowKit

theorem placeP_eq (L : List (Int × Int)) (x y : Int) : ∀ k, k ≤ L.length → placeP (flatP L) x y k = plL L (x, y) k
  | 0, _ => rfl
  | k + 1, h => by
    obtain ⟨e1, e2⟩ := flatP_at L k (by omega)
    unfold placeP plL
    rw [e1, e2, placeP_eq L x y k (by omega)]
theorem flatP_take2 : ∀ (L : List (Int × Int)) (P : Nat), (flatP L).take (2 * P) = flatP (L.take P)
  | [], P => by simp [flatP]
  | p :: L, 0 => by simp [flatP]
  | p :: L, P + 1 => by
    have e : flatP (p :: L) = p.1 :: p.2 :: flatP L := by simp [flatP]
    have e2 : flatP ((p :: L).take (P + 1)) = p.1 :: p.2 :: flatP (L.take P) := by simp [flatP]
    rw [e, e2, show 2 * (P + 1) = 2 * P + 1 + 1 by omega, List.take_succ_cons, List.take_succ_cons, flatP_take2 L P]
theorem flatP_drop2 : ∀ (L : List (Int × Int)) (P : Nat), (flatP L).drop (2 * P) = flatP (L.drop P)
  | [], P => by simp [flatP]
  | p :: L, 0 => by simp [flatP]
  | p :: L, P + 1 => by
    have e : flatP (p :: L) = p.1 :: p.2 :: flatP L := by simp [flatP]
    rw [e, show 2 * (P + 1) = 2 * P + 1 + 1 by omega, List.drop_succ_cons, List.drop_succ_cons, flatP_drop2 L P, List.drop_succ_cons]
theorem insP_eq (L : List (Int × Int)) (x y : Int) : insP (flatP L) L.length x y = flatP (insL L (x, y)) := by
  unfold insP insL
  rw [placeP_eq L x y _ (Nat.le_refl _), flatP_take2, flatP_drop2]
  simp [flatP]
theorem insL_len (L : List (Int × Int)) (p : Int × Int) : (insL L p).length = L.length + 1 := by
  have := (insL_perm L p).length_eq
  simpa using this

end Go.Proofs.Ytbhdipljhelddaa

/-! l02With at the nil list. -/
namespace Go.Proofs.Ytbhdipljhelddaa
open Go.RowKit

attribute [local go_sem] Oper.semAt_some

set_option maxRecDepth 1000000 in
set_option maxHeartbeats 4000000 in
theorem with_nil (V : Int) (a0 : Option Addr) (cap : Nat) (fs : List Int) (x y : Int) (w : World) (hx : SlI w w.heap.size a0 fs) (hl : fs.length ≤ 1048576) (hf : ∀ x ∈ fs, 1 ≤ x ∧ x ≤ 63) :
    Calls Try.prog 55 #[.agg #[.int .i64 V, .slice a0 fs.length cap], .slice none 0 0, .agg #[.int .i64 x, .int .i64 y]] w fun e w' => ∃ v, e = .returned (.tuple #[v, .bool (pairingB fs [x, y] 1)]) ∧ w'.ownsRow w.heap.size 65 2 v 1 ([x, y].map (Value.int .i64)) ∧ Below w.heap.size w w' := by
  obtain ⟨W0, hW0⟩ : ∃ W0, W0 = (w.alloc (.cells #[.int .i64 V, .slice a0 fs.length cap] 28)).alloc (.cells #[.int .i64 x, .int .i64 y] 65) := ⟨_, rfl⟩
  have hB0 : Below w.heap.size w W0 := by rw [hW0]; exact ((Below.refl _ w).alloc (Nat.le_refl _) _).alloc (by simp) _
  have hs0 : W0.heap.size = w.heap.size + 2 := by rw [hW0]; simp
  have hpb : W0.heap[w.heap.size + 1]? = some (.cells #[.int .i64 x, .int .i64 y] 65 (0, 0)) := by
    have := heap_alloc_new (w.alloc (.cells #[.int .i64 V, .slice a0 fs.length cap] 28)) (.cells #[.int .i64 x, .int .i64 y] 65)
    rw [World.size_alloc] at this
    rw [hW0]
    exact this
  have k0 : W0.cell? ⟨w.heap.size, 0, none⟩ = some (.int .i64 V) := by rw [hW0]; simp [go_sem]
  have k1 : W0.cell? ⟨w.heap.size, 1, none⟩ = some (.slice a0 fs.length cap) := by rw [hW0]; simp [go_sem]
  obtain ⟨p0, p1, _, _⟩ := two_of hpb
  obtain ⟨i0, hi0, _, _, _⟩ := info_parts info_pair
  have HB0 := hid hB0
  have Hpb := hid hpb
  have Hx := hid hx
  clear hx hB0 hpb
  go_enter Try.func55, Try.ntmps55
  go_wp2_with fail
  rw [← hW0]
  clear hW0
  go_loopw [8] (fun i wr => i = .int .i64 0 ∧ W0 = wr) (fun i _ => (intOf i).toNat)
  case atStart => exact ⟨rfl, rfl⟩
  case round =>
    obtain ⟨rfl, rfl⟩ := hrel
    go_wp2_with fail
    go_quiet (fail)
    go_wp2_with fail
    generalize hWd : World.drewN W0 _ = wr
    have hB : Below W0.heap.size W0 wr := by rw [← hWd]; exact below_drewN (Below.refl _ W0) _
    clear hWd
    have HBw := hid (HB0.out.trans (hB.mono HB0.out.size))
    have hpw := (hB.block _ (lt_of_get Hpb.out)).trans Hpb.out
    obtain ⟨p0, p1, _, _⟩ := two_of hpw
    have k0 := (hB.cell (p := ⟨w.heap.size, 0, none⟩) (by simp only; omega)).trans k0
    have k1 := (hB.cell (p := ⟨w.heap.size, 1, none⟩) (by simp only; omega)).trans k1
    have hszw := hB.size
    clear hB hpw
    have hW1 := one_pair (w := wr.drew) (base := wr.heap.size) (Nat.le_refl _) x y
    have hBd : Below wr.heap.size wr (wr.drew.alloc (.cells #[.int .i64 x, .int .i64 y] 65)) := (below_drewN (Below.refl _ wr) 1).alloc (Nat.le_refl _) _
    obtain ⟨W2, hW2⟩ : ∃ W2, W2 = wr.drew.alloc (.cells #[.int .i64 x, .int .i64 y] 65) := ⟨_, rfl⟩
    have hr1 : (Builtin.append_ #[37, 37] 37 #[.slice (some ⟨wr.heap.size, 0, none⟩) 1 1, .slice none 0 0]).run Try.prog (wr.drew.alloc (.cells #[.int .i64 x, .int .i64 y] 65)) = .ok (.slice (some ⟨wr.heap.size, 0, none⟩) 1 1) W2 := by
      rw [hW2]
      exact run_append_owned_none (P := Try.prog) _ wr.heap.size 37 37 65 i0 2 Try.underlying37 hi0 _ _ _ hW1
    rw [← hW2] at hBd hW1
    have hown0 := World.ownsRow_made (base := wr.heap.size) (e := 65) (size := 2) W2 #[] 0 hBd.size (by unfold maxLen; omega) rfl
    have hB3 : Below wr.heap.size wr (W2.alloc (.cells #[] 65)) := hBd.alloc hBd.size _
    have hr4 := run_append_owned_none (P := Try.prog) (W2.alloc (.cells #[] 65)) wr.heap.size 37 37 65 i0 2 Try.underlying37 hi0 _ _ _ hown0
    have hown1' := hW1.alloc (.cells #[] 65)
    obtain ⟨v5, W5, hr5, hown5, hg5, hb5⟩ := append_run (xs := []) (m := 0) (ad := ⟨wr.heap.size, 0, none⟩) (l := 1) (c := 1) (ys := [x, y]) hown0 hB3.size (by omega) (by omega) rfl (fun j hj => hown1'.cells rfl j _ (map_get (ys := [x, y]) (by simpa using hj)))
    have hB5 := hB3.trans hb5
    rw [List.nil_append, Nat.zero_add] at hown5
    obtain ⟨g5, c5, rfl⟩ : ∃ g c, v5 = .slice (some ⟨g, 0, none⟩) 1 c := by
      rcases hown5.2 with ⟨_, h0⟩ | ⟨g, cp, cur, h1, _, h2, _⟩
      · omega
      · exact ⟨g, cp, h1⟩
    have hBW5 := HBw.out.trans (hB5.mono HBw.out.size)
    have HI := hid (pis_any V a0 cap fs (some ⟨g5, 0, none⟩) 1 c5 [x, y] W5 (Hx.out.later hBW5 hBW5.size) (flat_slI hown5) hl hf rfl (by omega))
    have q0 := (hB5.cell (p := ⟨w.heap.size, 0, none⟩) (by simp only; omega)).trans k0
    have q1 := (hB5.cell (p := ⟨w.heap.size, 1, none⟩) (by simp only; omega)).trans k1
    have Hown5 := hid (ownsRow_base hown5 HBw.out.size)
    have HBW5 := hid hBW5
    clear hown5 hB5 hBW5 hown1' hown0 hb5 hg5 hBd hW1 hB3
    clear hW2
    refine wp_region_any (by kernel_rfl) ?_
    refine wpAny_take (i := 2) (v := ?_) rfl (by kernel_rfl) (by kernel_rfl) (by kernel_rfl) (fun _ _ _ h => h) (Or.inl ⟨by rfl, ?_⟩) ?_
    rotate_left
    · intro w; go_simp; rfl
    refine wpAny_take (i := 3) (v := ?_) rfl (by kernel_rfl) (by kernel_rfl) (by kernel_rfl) (fun _ _ _ h => h) (Or.inl ⟨by rfl, ?_⟩) ?_
    rotate_left
    · intro w; go_simp; rfl
    refine wpAny_take (i := 4) (v := ?_) rfl (by kernel_rfl) (by kernel_rfl) (by kernel_rfl) (fun _ _ _ h => h) (Or.inl ⟨by rfl, ?_⟩) ?_
    rotate_left
    · intro w; go_simp; rfl
    refine wpAny_ready (rs := [0]) (by kernel_rfl) (by simp) ?_
    refine AllReady.cons rfl (fun K hK => ?_) AllReady.nil
    go_simp
    refine hK _ _ ?_
    clear hK K
    refine wpAny_ready (rs := [1]) (by kernel_rfl) (by simp) ?_
    refine AllReady.cons rfl (fun K hK => ?_) AllReady.nil
    go_simp
    refine hK _ _ ?_
    clear hK K
    refine wpAny_ready (rs := [5]) (by kernel_rfl) (by simp) ?_
    refine AllReady.cons rfl (fun K hK => ?_) AllReady.nil
    rw [if_pos (by rfl)]
    refine wp_append_run rfl rfl rfl hr1 ?_
    refine hK _ _ ?_
    clear hK K
    refine wpAny_ready (rs := [6]) (by kernel_rfl) (by simp) ?_
    refine AllReady.cons rfl (fun K hK => ?_) AllReady.nil
    go_simp
    refine hK _ _ ?_
    clear hK K
    refine wpAny_done (by kernel_rfl) ?_ _
    simp only [Exit.then]
    go_wp2_with (first
      | (at_builtin; first | (refine wpList_append_run rfl (s := .tmp 32) (y := .tmp 35) rfl rfl rfl hr4 ?_) | (refine wpList_append_run rfl (s := .tmp 36) (y := .tmp 37) rfl rfl rfl hr5 ?_))
      | (go_at_call 115; refine HI.out.mono ?_; rintro e w6 ⟨rfl, hB6⟩; have HB6 := hid hB6; clear hB6))
    go_ret2
    exact ⟨_, rfl, Hown5.out.kept (row := none) ⟨HB6.out.os, HB6.out.tape, HB6.out.output, HB6.out.size, fun k hk _ => HB6.out.block k hk⟩ (.inr (by simp [Value.ownBlock])), HBW5.out.trans (HB6.out.mono HBW5.out.size)⟩

end Go.Proofs.Ytbhdipljhelddaa

/-! CancelFaces: the model's, the mathematics. -/
namespace Go.Proofs.Ytbhdipljhelddaa
open Go.RowKit

theorem pairQ_monoS {fn : FuncId} {args : Array Value} {w : World} {P : Program} {R : List (Int × Int) × Int} {b : List (Int × Int)} {c : Int} (hR : R = (b, c))
    (h : Calls P fn args w fun e w' => ∃ v, e = .returned (.tuple #[v, .int .i64 c]) ∧ ResP w w' v b) : Calls P fn args w fun e w' => ∃ v, e = .returned (.tuple #[v, .int .i64 R.2]) ∧ ResP w w' v R.1 := by rw [hR]; exact h
/-- The face taken among the first k below a high face. -/
def faceTo (ps : List Int) (n : Nat) (a h : Int) (k : Nat) : Int := ((((belowR h.toNat 63).take k).filter fun y => decide (highOf ps n y ≠ h) && decide (gw ps n a y = 1)).getLast?).getD 0
theorem faceTo_zero (ps : List Int) (n : Nat) (a h : Int) : faceTo ps n a h 0 = 0 := by simp [faceTo]
theorem faceTo_succ {ps : List Int} {n : Nat} {a h : Int} {k : Nat} (hk : k < (belowR h.toNat 63).length) :
    faceTo ps n a h (k + 1) = if decide (highOf ps n ((belowR h.toNat 63)[k]?.getD 0) ≠ h) && decide (gw ps n a ((belowR h.toNat 63)[k]?.getD 0) = 1) then (belowR h.toNat 63)[k]?.getD 0 else faceTo ps n a h k := by
  unfold faceTo
  rw [take_snoc hk, List.filter_append]
  by_cases hc : (decide (highOf ps n ((belowR h.toNat 63)[k]?.getD 0) ≠ h) && decide (gw ps n a ((belowR h.toNat 63)[k]?.getD 0) = 1)) = true
  · rw [if_pos hc, List.filter_cons_of_pos (by exact hc), List.filter_nil]
    simp
  · rw [if_neg hc, List.filter_cons_of_neg (by exact hc), List.filter_nil, List.append_nil]
theorem faceTo_all (ps : List Int) (n : Nat) (a h : Int) : faceTo ps n a h (belowR h.toNat 63).length = faceOf ps n a h := by
  unfold faceTo faceOf underL
  rw [List.take_length, List.filter_filter]
  rw [show (fun y => decide (highOf ps n y ≠ h) && decide (gw ps n a y = 1)) = (fun y => decide (gw ps n a y = 1) && decide (highOf ps n y ≠ h)) from funext fun y => Bool.and_comm _ _]
/-- The pairs of the first k that have another low face. -/
def restTo (O : List (Int × Int)) (f : Int) (k : Nat) : List (Int × Int) := (O.take k).filter fun q => decide (q.1 ≠ f)
theorem restTo_succ {O : List (Int × Int)} {f : Int} {k : Nat} (hk : k < O.length) : restTo O f (k + 1) = if (O[k]?.getD (0, 0)).1 = f then restTo O f k else restTo O f k ++ [O[k]?.getD (0, 0)] := by
  unfold restTo
  rw [List.take_succ_eq_append_getElem hk, List.getElem?_eq_getElem hk, List.filter_append]
  simp only [Option.getD_some]
  by_cases e : O[k].1 = f
  · rw [if_pos e, List.filter_cons_of_neg (by simp [e]), List.filter_nil, List.append_nil]
  · rw [if_neg e, List.filter_cons_of_pos (by simp [e]), List.filter_nil]
theorem restTo_len (O : List (Int × Int)) (f : Int) (k : Nat) : (restTo O f k).length ≤ O.length := Nat.le_trans (List.length_filter_le _ _) (by simp; omega)
theorem gw_wrap {V : Int} {fs ps : List Int} {n : Nat} (hC : IsC V fs) (hO : OkTo fs ps n) (hc : NoCycle ps n) (a y : Int) : wrap64 (gw ps n a y) = gw ps n a y := by
  obtain ⟨L, hS, hall⟩ := stl_ex hc
  have hn := stl_len hS hall
  have hd := okTo_apart hO
  have h31 := okTo_31 hC hO
  have e : gw (flatP (setP ps L)) L.length a y = gw ps n a y := by
    unfold gw
    rw [flat_gwN hd hS hall, hn]
  have ho := flat_ord hd hS hall
  have h1 := gw_le (ordQ_acyclic ho) (flat_highs hd (okTo_highs hC hO) hS hall) ho a y
  have h2 := gw_nonneg ps n a y
  rw [e, hn] at h1
  have h3 : (2 : Int) ^ (n + 1) ≤ 2 ^ 32 := by
    have : (2 : Nat) ^ (n + 1) ≤ 2 ^ 32 := Nat.pow_le_pow_right (by omega) (by omega)
    exact_mod_cast this
  exact IntWalk.wrap64_in _ ⟨by omega, by omega⟩

theorem slP_of {w : World} {base cv : Nat} {av : Option Addr} {O : List (Int × Int)} (h : w.ownsRow base 65 2 (.slice av O.length cv) O.length ((flatP O).map (Value.int .i64))) : SlI w w.heap.size av (flatP O) := by
  obtain ⟨_, a, c, he, hsl⟩ := pairs_slI h
  injection he with he _ _
  subst he
  exact hsl
/-- A fact laid by. -/
structure KeptP (p : Prop) : Prop where
  out : p
/-- What a step of the model's loop begins with. -/
structure CStep (ps : List Int) (n : Nat) (a : Int) (G : List (Int × Int)) (h : Int) (p : Int × Int) (rs O : List (Int × Int)) : Prop where
  p2 : p.2 = h
  face : faceOf ps n a h = p.1
  way : MWay ps n a (highOf ps n p.1) rs
  canc : cancL (takeIn O p) rs = G
  len : O.length + rs.length + 1 ≤ 100
  len1 : (routeL ps n h a).length = rs.length + 1
  len2 : (routeL ps n (highOf ps n p.1) a).length = rs.length
  h0 : 0 < h
  h64 : h < 64
theorem cstep_of {ps : List Int} {n : Nat} {a : Int} {G : List (Int × Int)} {h : Int} {p : Int × Int} {rs O : List (Int × Int)} (hm : MWay ps n a h (p :: rs)) (hc : cancL O (p :: rs) = G) (hl : O.length + (p :: rs).length ≤ 100) : CStep ps n a G h p rs O :=
  ⟨hm.1, hm.2.2.2.1, hm.2.2.2.2, hc, by simpa [Nat.add_assoc] using hl, by rw [routeL_eq hm]; rfl, by rw [routeL_eq hm.2.2.2.2], hm.2.1, hm.2.2.1⟩

end Go.Proofs.Ytbhdipljhelddaa

/-! CancelFaces: the model's. -/
namespace Go.Proofs.Ytbhdipljhelddaa
open Go.RowKit

set_option maxRecDepth 1000000 in
set_option maxHeartbeats 8000000 in
theorem specCancelFaces (V : Int) (a0 : Option Addr) (cap : Nat) (fs : List Int) (a1 : Option Addr) (n cap1 : Nat) (ps : List Int) (b a : Int) (w : World) (hx : SlI w w.heap.size a0 fs) (hx1 : SlI w w.heap.size a1 ps) (hl : fs.length ≤ 1048576) (hp : ps.length = 2 * n) (hn : n ≤ 1048576) (_hw : ∀ x ∈ ps, (Lit.int .i64 x).wf = true) (_wb : (Lit.int .i64 b).wf = true) (_wa : (Lit.int .i64 a).wf = true) :
    Calls Try.prog 21 #[.agg #[.int .i64 V, .slice a0 fs.length cap], .slice a1 n cap1, .int .i64 b, .int .i64 a] w fun e w' => ∃ v, e = .returned (.tuple #[v, .int .i64 (cancR V fs n ps b a).2]) ∧ ResP w w' v (cancR V fs n ps b a).1 := by
  obtain ⟨W0, hW0⟩ : ∃ W0, W0 = w.alloc (.cells #[.int .i64 V, .slice a0 fs.length cap] 28) := ⟨_, rfl⟩
  have hB0 : Below w.heap.size w W0 := by rw [hW0]; exact (Below.refl _ w).alloc (Nat.le_refl _) _
  have Hk : Hid (W0.heap[w.heap.size]? = some (.cells #[.int .i64 V, .slice a0 fs.length cap] 28 (0, 0))) := hid (by rw [hW0]; exact heap_alloc_new _ _)
  have HG := hid (given_any V a0 cap fs a1 n cap1 ps b a W0 (hx.later hB0 hB0.size) (hx1.later hB0 hB0.size) hl hp hn)
  have HB0 := hid hB0
  rw [hW0] at HG
  by_cases h0 : givenR V fs n ps b a = 0
  · obtain ⟨hpc, hs, hac⟩ := given_zero h0
    have hCO : IsC V fs ∧ OkTo fs ps n := by
      rcases pcode_cases V fs n ps with ⟨hC, ho, _⟩ | ⟨_, _, h2, _⟩ | ⟨_, h2, _⟩
      · exact ⟨hC, ho⟩
      · rw [h2] at hpc; cases hpc
      · rw [h2] at hpc; cases hpc
    obtain ⟨⟨bn, rfl, hbn⟩, ha0, ha1⟩ := such_lt hCO.1.range63 hs
    have hwr := wsum_ps hCO.1 hCO.2 hac hbn
    have hwv : wrap64 (wsum ps n (bn : Int) a) = wsum ps n (bn : Int) a := by
      have := hwr a
      exact IntWalk.wrap64_in _ ⟨by omega, by omega⟩
    have HW := hid (fun w1 (h : Below w.heap.size w w1) => by have := between_any a1 n cap1 ps bn a w1 (hx1.later h h.size) hp hn (okTo_highs hCO.1 hCO.2) hac hbn; rwa [hwv] at this)
    rw [h0] at HG
    by_cases h1 : wsum ps n (bn : Int) a = 1
    · refine pairQ_monoS (show cancR V fs n ps (bn : Int) a = (cancL (setP ps (List.range n)) (routeL ps n (bn : Int) a), 0) by rw [cancR, if_pos h0, if_pos h1]) ?_
      obtain ⟨hmw, hml⟩ := route_of hCO.1 hCO.2 hp hs hac h1
      obtain ⟨G, hG⟩ : ∃ G, G = cancL (setP ps (List.range n)) (routeL ps n (bn : Int) a) := ⟨_, rfl⟩
      rw [← hG]
      rw [h1] at HW
      have h31 := okTo_31 hCO.1 hCO.2
      have HHi := hid (fun y w1 (h : Below w.heap.size w w1) => high_any a1 n cap1 ps y w1 (hx1.later h h.size) hp hn)
      have HWy := hid (fun y w1 (h : Below w.heap.size w w1) => by have := ways_any a1 n cap1 ps a y w1 (hx1.later h h.size) hp hn (okTo_highs hCO.1 hCO.2) hac; rwa [gw_wrap hCO.1 hCO.2 hac] at this)
      have HBe := hid (fun (f : Nat) w1 (h : f < 64) => below_any f w1 h)
      have HWi := hid (fun (g c : Nat) (R : List (Int × Int)) (x y : Int) (w1 : World) (h : Below w.heap.size w w1) (hgl : g < w1.heap.size) (hcl : ∀ i, i < (flatP R).length → w1.cell? ⟨g, 0 + i, none⟩ = some (.int .i64 ((flatP R)[i]?.getD 0))) (hR : R.length + 1 ≤ 1048576) (hc : R.length ≤ c) => by
        have := with_any V a0 cap fs g 0 R.length c (flatP R) x y w1 (hx.later h h.size) hgl hcl hl hCO.1.range63 (flatP_len R) hR hc
        rwa [insP_eq] at this)
      have Hx1 := hid hx1
      have Hfl := hid (flatP_setR hp)
      have H31 := hid h31
      have H1 := hid (show MWay ps n a (bn : Int) (routeL ps n (bn : Int) a) ∧ cancL (setP ps (List.range n)) (routeL ps n (bn : Int) a) = G ∧ (setP ps (List.range n)).length + (routeL ps n (bn : Int) a).length ≤ 100 from ⟨hmw, hG.symm, by rw [setP_len, List.length_range]; omega⟩)
      have hpl : (setP ps (List.range n)).length = n := by rw [setP_len, List.length_range]
      obtain ⟨P, hP⟩ : ∃ P, P = setP ps (List.range n) := ⟨_, rfl⟩
      obtain ⟨rs0, hrs0⟩ : ∃ rs, rs = routeL ps n (bn : Int) a := ⟨_, rfl⟩
      rw [← hP] at Hfl H1 hpl
      rw [← hrs0] at H1
      have Hpl := hid hpl
      clear hx hx1 hl hp hCO hs hac hwr hpc h0 h1 hB0 h31 hwv hG hmw hml hP hpl hrs0
      go_enter Try.func21, Try.ntmps21
      go_wp2_with fail
      refine HG.out.mono ?_
      rintro e w1 ⟨rfl, hB1⟩
      rw [← hW0] at hB1
      have HB1 := hid (HB0.out.trans (hB1.mono HB0.out.size))
      have Hk1 := hid ((hB1.block _ (lt_get Hk.out)).trans Hk.out)
      clear hB1 HG HB0 Hk hW0
      go_wp2_with fail
      refine (HW.out w1 HB1.out).mono ?_
      rintro e w2 ⟨rfl, hB2⟩
      have HB2 := hid (HB1.out.trans (hB2.mono HB1.out.size))
      have Hk2 := hid ((hB2.block _ (lt_get Hk1.out)).trans Hk1.out)
      obtain ⟨q0, q1, _, _⟩ := two_of Hk2.out
      have hxp := Hx1.out.later HB2.out HB2.out.size
      rw [← Hfl.out] at hxp
      obtain ⟨W3, hW3⟩ : ∃ W, W = w2.alloc (.cells #[] 65) := ⟨_, rfl⟩
      have hB3 : Below w2.heap.size w2 W3 := by rw [hW3]; exact (Below.refl _ w2).alloc (Nat.le_refl _) _
      have HX3 := hid (hxp.later hB3 hB3.size)
      have HB3 := hid hB3
      have hs3 : W3.heap.size = w2.heap.size + 1 := by rw [hW3]; simp
      have Hs3 : Hid (w2.heap.size ≤ W3.heap.size) := hid (by omega)
      have HO3 : Hid (W3.ownsRow w2.heap.size 65 2 (.slice (some ⟨w2.heap.size, 0, none⟩) 0 0) 0 ((flatP []).map (Value.int .i64))) := hid (by rw [hW3]; exact World.ownsRow_made (base := w2.heap.size) (e := 65) (size := 2) w2 #[] 0 (Nat.le_refl _) (by unfold maxLen; omega) rfl)
      clear hB2 HW hxp hB3 hs3 q0 q1
      go_wp2_with (at_builtin; rw [← hW3]; refine append_slP (xs := []) (ys := P) rfl rfl rfl HO3.out Hs3.out (by simp) (by have := Hpl.out; omega) rfl (by rw [Hpl.out]; rfl) HX3.out ?_; intro v' w4 hown4 hB4; rw [List.nil_append] at hown4; obtain ⟨_, a4, c4, rfl, _⟩ := pairs_form hown4; have Hown4 := hid hown4; have HB4 := hid (HB3.out.trans hB4); clear hown4 hB4)
      clear HX3 HB3 Hs3 HO3 hW3
      go_loopw [11, 12] (fun ov hv wx => ∃ (rs O : List (Int × Int)) (av : Option Addr) (cv : Nat) (h : Int), Hid (MWay ps n a h rs ∧ cancL O rs = G ∧ O.length + rs.length ≤ 100) ∧ ov = .slice av O.length cv ∧ hv = .int .i64 h ∧ Hid (wx.ownsRow w2.heap.size 65 2 (.slice av O.length cv) O.length ((flatP O).map (Value.int .i64))) ∧ Hid (Below w2.heap.size w2 wx)) (fun _ hv _ => (routeL ps n (intOf hv) a).length)
      case atStart => exact ⟨rs0, P, a4, c4, (bn : Int), H1, rfl, rfl, Hown4, HB4⟩
      case round =>
        clear Hown4 HB4 H1
        obtain ⟨rs, O, av, cv, h, HI, rfl, rfl, HO, HB⟩ := hrel
        obtain ⟨hm, hc, hlen⟩ := HI.out
        clear HI
        cases rs with
        | nil =>
          have hz : h = 0 := hm
          have hGO : O = G := hc
          subst hz
          subst hGO
          clear hm hc hlen
          go_wp2_with fail
          go_ret2
          exact ⟨_, rfl, ownsRow_base HO.out HB2.out.size, HB2.out.trans (HB.out.mono HB2.out.size)⟩
        | cons p rs =>
          have HCS := hid (cstep_of hm hc hlen)
          obtain ⟨hN, hNe⟩ : ∃ hN : Nat, h = (hN : Int) := ⟨h.toNat, by have := HCS.out.h0; omega⟩
          have hN64 : hN < 64 := by have := HCS.out.h64; omega
          have hnz : (h == 0) = false := by have := HCS.out.h0; simp; omega
          have HBc := hid (HB2.out.trans (HB.out.mono HB2.out.size))
          have HBl := hid (show Calls Try.prog 52 #[.int .i64 h] wr _ by rw [hNe]; exact HBe.out hN wr hN64)
          have HNe := hid hNe
          clear hm hc hlen hNe hN64
          go_wp2_with fail
          refine HBl.out.mono ?_
          rintro e w5 ⟨v5, rfl, hR5, hB5⟩
          obtain ⟨_, a5, c5, rfl, hs5⟩ := ownsRow_slI hR5
          obtain ⟨m, hme⟩ : ∃ m, m = (belowR hN 63).length := ⟨_, rfl⟩
          have Hm := hid hme
          rw [← hme]
          have hml : m ≤ 63 := by rw [hme]; exact belowR_len _ _
          have HS5 := hid hs5
          have HB5 := hid hB5
          have HB5c := hid (HBc.out.trans (hB5.mono HBc.out.size))
          have hns : h.toNat = hN := by rw [HNe.out]; exact Int.toNat_natCast hN
          have Hns := hid hns
          clear hR5 hs5 hB5 HBl hme hns
          go_wp2_with fail
          go_loopw [14, 15] (fun fv iv wx => ∃ k : Nat, k ≤ m ∧ fv = .int .i64 (faceTo ps n a h k) ∧ iv = .int .i64 (k : Int) ∧ Hid (Below w5.heap.size w5 wx)) (fun _ iv _ => m - (intOf iv).toNat)
          case atStart => exact ⟨0, Nat.zero_le _, by rw [faceTo_zero], rfl, hid (Below.refl _ _)⟩
          case round =>
            obtain ⟨k, hk, rfl, rfl, HBk⟩ := hrel
            obtain ⟨F, hF⟩ : ∃ F, F = faceTo ps n a h k := ⟨_, rfl⟩
            by_cases hlt : k < m
            · obtain ⟨y, hy⟩ : ∃ y, y = (belowR hN 63)[k]?.getD 0 := ⟨_, rfl⟩
              obtain ⟨g, off, hgb, rfl, hcl⟩ : ∃ g off, g < w5.heap.size ∧ a5 = some ⟨g, off, none⟩ ∧ ∀ i, i < (belowR hN 63).length → w5.cell? ⟨g, off + i, none⟩ = some (.int .i64 ((belowR hN 63)[i]?.getD 0)) := by
                rcases HS5.out with h | h
                · have := Hm.out; rw [h] at this; simp at this; omega
                · exact h
              have hck : wr.cell? ⟨g, off + k, none⟩ = some (.int .i64 y) := by rw [hy]; exact (HBk.out.cell (p := ⟨g, off + k, none⟩) hgb).trans (hcl k (by have := Hm.out; omega))
              have hst := faceTo_succ (ps := ps) (n := n) (a := a) (h := h) (k := k) (by rw [Hns.out]; have := Hm.out; omega)
              rw [Hns.out, ← hy] at hst
              rw [← hF] at hst ⊢
              have Hst := KeptP.mk hst
              have hki : (k : Int) < (m : Int) := by omega
              have hk0 : (0 : Int) ≤ (k : Int) := by omega
              have HBw := hid (HB5c.out.trans (HBk.out.mono HB5c.out.size))
              obtain ⟨H, hH⟩ : ∃ H, H = highOf ps n y := ⟨_, rfl⟩
              have HHy := hid (HHi.out y wr HBw.out)
              rw [← hH] at HHy Hst
              clear hy hcl hst hF hH
              go_wp2_with fail
              refine HHy.out.mono ?_
              rintro e w6 ⟨rfl, rfl⟩
              by_cases hHh : H = h
              · have HE := KeptP.mk (show faceTo ps n a h (k + 1) = F by rw [Hst.out, if_neg (by simp [hHh])])
                clear HHy Hst
                subst hHh
                go_wp2_with fail
                go_roundw
                all_goals first
                  | exact ⟨⟨k + 1, by omega, by rw [HE.out], by go_num, HBk⟩, by simp [intOf]; omega⟩
                  | (case rel => exact ⟨k + 1, by omega, by rw [HE.out], by go_num, HBk⟩)
                  | (simp [intOf]; omega)
              · have hq : (H == h) = false := by simpa using hHh
                obtain ⟨u, hu⟩ : ∃ u, u = gw ps n a y := ⟨_, rfl⟩
                have HWu := hid (HWy.out y wr HBw.out)
                rw [← hu] at HWu Hst
                clear hu HHy
                go_wp2_with fail
                refine HWu.out.mono ?_
                rintro e w6 ⟨rfl, hB6⟩
                have hck6 := (hB6.cell (p := ⟨g, off + k, none⟩) (Nat.lt_of_lt_of_le hgb HBk.out.size)).trans hck
                have HB6 := hid (HBk.out.trans (hB6.mono HBk.out.size))
                clear hB6 HWu hck
                by_cases hu1 : u = 1
                · have HE := KeptP.mk (show faceTo ps n a h (k + 1) = y by rw [Hst.out, if_pos (by simp [hHh, hu1])])
                  clear Hst
                  subst hu1
                  go_wp2_with fail
                  go_roundw
                  all_goals first
                    | exact ⟨⟨k + 1, by omega, by rw [HE.out], by go_num, HB6⟩, by simp [intOf]; omega⟩
                    | (case rel => exact ⟨k + 1, by omega, by rw [HE.out], by go_num, HB6⟩)
                    | (simp [intOf]; omega)
                · have hq1 : (u == 1) = false := by simpa using hu1
                  have HE := KeptP.mk (show faceTo ps n a h (k + 1) = F by rw [Hst.out, if_neg (by simp [hu1])])
                  clear Hst
                  go_wp2_with fail
                  go_roundw
                  all_goals first
                    | exact ⟨⟨k + 1, by omega, by rw [HE.out], by go_num, HB6⟩, by simp [intOf]; omega⟩
                    | (case rel => exact ⟨k + 1, by omega, by rw [HE.out], by go_num, HB6⟩)
                    | (simp [intOf]; omega)
            · obtain rfl : k = m := by omega
              have HFp : KeptP (F = p.1) := KeptP.mk (by rw [hF, ← HCS.out.face, ← faceTo_all, Hns.out, Hm.out])
              rw [← hF]
              obtain ⟨f, hf⟩ : ∃ f, f = p.1 := ⟨_, rfl⟩
              obtain rfl : F = f := by rw [HFp.out, hf]
              have HBw := hid (HB5c.out.trans (HBk.out.mono HB5c.out.size))
              obtain ⟨H, hH⟩ : ∃ H, H = highOf ps n F := ⟨_, rfl⟩
              have HHy := hid (HHi.out F wr HBw.out)
              rw [← hH] at HHy
              have HHe := KeptP.mk hH
              have Hfe := KeptP.mk hf
              have HBo := hid (HB.out.trans ((HB5.out.trans (HBk.out.mono HB5.out.size)).mono HB.out.size))
              have HSO1 := (slP_of HO.out).later HB5.out HB5.out.size
              have HSO := hid (HSO1.later HBk.out HBk.out.size)
              clear HSO1
              clear hF hf hH HFp HS5
              go_wp2_with fail
              refine HHy.out.mono ?_
              rintro e w6 ⟨rfl, rfl⟩
              obtain ⟨W7, hW7⟩ : ∃ W, W = wr.alloc (.cells #[] 65) := ⟨_, rfl⟩
              have hB7 : Below wr.heap.size wr W7 := by rw [hW7]; exact (Below.refl _ wr).alloc (Nat.le_refl _) _
              have HO7 : Hid (W7.ownsRow wr.heap.size 65 2 (.slice (some ⟨wr.heap.size, 0, none⟩) 0 0) 0 ((flatP []).map (Value.int .i64))) := hid (by rw [hW7]; exact World.ownsRow_made (base := wr.heap.size) (e := 65) (size := 2) wr #[] 0 (Nat.le_refl _) (by unfold maxLen; omega) rfl)
              have HB7 := hid hB7
              have HBo7 := hid (HBo.out.trans (hB7.mono HBo.out.size))
              obtain ⟨w6, hw6⟩ : ∃ w6, w6 = wr := ⟨_, rfl⟩
              rw [← hw6] at HO7 HB7 HBw HBo HSO
              have hw6s := hw6
              clear hB7 HHy HBk
              go_wp2_with fail
              rw [← hW7]
              rw [← hw6]
              clear hw6 hW7 hw6s
              go_loopw [17, 18] (fun sv iv wx => ∃ (k g3 c3 : Nat) (R : List (Int × Int)), k ≤ O.length ∧ KeptP (R = restTo O F k) ∧ sv = .slice (some ⟨g3, 0, none⟩) R.length c3 ∧ iv = .int .i64 (k : Int) ∧ Hid (wx.ownsRow w6.heap.size 65 2 (.slice (some ⟨g3, 0, none⟩) R.length c3) R.length ((flatP R).map (Value.int .i64))) ∧ Hid (Below w6.heap.size w6 wx)) (fun _ iv _ => O.length - (intOf iv).toNat)
              case atStart => exact ⟨0, w6.heap.size, 0, [], Nat.zero_le _, KeptP.mk (by simp [restTo]), rfl, rfl, HO7, HB7⟩
              case round =>
                obtain ⟨k, g3, c3, R, hk, HRR, rfl, rfl, HR, HBr⟩ := hrel
                by_cases hlt : k < O.length
                · obtain ⟨q, hq⟩ : ∃ q, q = O[k]?.getD (0, 0) := ⟨_, rfl⟩
                  obtain ⟨e1, e2⟩ := flatP_at O k hlt
                  rw [← hq] at e1 e2
                  obtain ⟨bo, oo, hbo, rfl, hcl⟩ : ∃ bo oo, bo < w6.heap.size ∧ av = some ⟨bo, oo, none⟩ ∧ ∀ i, i < (flatP O).length → w6.cell? ⟨bo, oo + i, none⟩ = some (.int .i64 ((flatP O)[i]?.getD 0)) := by
                    rcases HSO.out with h | h
                    · have h2 := flatP_len O
                      rw [h] at h2
                      simp at h2
                      omega
                    · exact h
                  obtain ⟨q1, q2⟩ := q
                  have hc1 : wr.cell? ⟨bo, oo + k * 2, none⟩ = some (.int .i64 q1) := by
                    have := (HBr.out.cell (p := ⟨bo, oo + k * 2, none⟩) hbo).trans (hcl (k * 2) (by rw [flatP_len]; omega))
                    rw [this]; exact congrArg (fun z => some (Value.int .i64 z)) e1
                  have hc2 : wr.cell? ⟨bo, oo + k * 2 + 1, none⟩ = some (.int .i64 q2) := by
                    have := (HBr.out.cell (p := ⟨bo, oo + (k * 2 + 1), none⟩) hbo).trans (hcl (k * 2 + 1) (by rw [flatP_len]; omega))
                    rw [Nat.add_assoc, this]; exact congrArg (fun z => some (Value.int .i64 z)) e2
                  have hst := restTo_succ (f := F) hlt
                  rw [← hq, ← HRR.out] at hst
                  have Hst := KeptP.mk hst
                  have hRl := restTo_len O F k
                  rw [← HRR.out] at hRl
                  have hki : (k : Int) < (O.length : Int) := by omega
                  have hOl : (O.length : Int) ≤ 100 := by have := HCS.out.len; omega
                  have hk0 : (0 : Int) ≤ (k : Int) := by omega
                  have Hlen : Hid (R.length ≤ 100) := hid (by have := HCS.out.len; omega)
                  clear hst hcl e1 e2 hq hRl
                  by_cases hqf : q1 = F
                  · have HE := KeptP.mk (show restTo O F (k + 1) = R by rw [Hst.out, if_pos hqf])
                    clear Hst
                    subst hqf
                    go_wp2_with fail
                    go_roundw
                    all_goals first
                      | exact ⟨⟨k + 1, g3, c3, R, by omega, KeptP.mk HE.out.symm, rfl, by go_num, HR, HBr⟩, by simp [intOf]; omega⟩
                      | (case rel => exact ⟨k + 1, g3, c3, R, by omega, KeptP.mk HE.out.symm, rfl, by go_num, HR, HBr⟩)
                      | (simp [intOf]; omega)
                  · have HE := KeptP.mk (show restTo O F (k + 1) = R ++ [(q1, q2)] by rw [Hst.out, if_neg hqf])
                    have hqb : (q1 == F) = false := by simpa using hqf
                    have Hbs := hid HBr.out.size
                    clear Hst
                    go_wp2_with (at_builtin; refine append_pair (L := R) rfl rfl HR.out Hbs.out (by have := Hlen.out; omega) rfl rfl ?_; intro v' w8 hown8 hgrow8 hB8; have hown9 : w8.ownsRow w6.heap.size 65 2 v' (R.length + 1) ((flatP (R ++ [(q1, q2)])).map (Value.int .i64)) := (by simpa using hown8); obtain ⟨g8, c8, rfl⟩ := ownsRow_succ hown9; have Hown9 := hid hown9; have HB8 := hid (HBr.out.trans hB8); clear hown8 hgrow8 hB8 hown9)
                    go_roundw
                    all_goals first
                      | exact ⟨⟨k + 1, g8, c8, R ++ [(q1, q2)], by omega, KeptP.mk HE.out.symm, by simp, by go_num, by simpa using Hown9, HB8⟩, by simp [intOf]; omega⟩
                      | (case rel => exact ⟨k + 1, g8, c8, R ++ [(q1, q2)], by omega, KeptP.mk HE.out.symm, by simp, by go_num, by simpa using Hown9, HB8⟩)
                      | (simp [intOf]; omega)
                · obtain rfl : k = O.length := by omega
                  have HRf : KeptP (insL R (F, h) = takeIn O p) := KeptP.mk (by
                    rw [HRR.out, takeIn, restTo, List.take_length, Hfe.out, ← HCS.out.p2])
                  have HBw2 := hid (HBo.out.trans (HBr.out.mono HBo.out.size))
                  have HBww := hid (HB2.out.trans (HBw2.out.mono HB2.out.size))
                  have Hkx := hid ((HBw2.out.block _ (lt_get Hk2.out)).trans Hk2.out)
                  obtain ⟨z0, z1, _, _⟩ := two_of Hkx.out
                  obtain ⟨o1, o2, o3⟩ := own_pairs (qs := flatP R) HR.out
                  have hRl : R.length ≤ O.length := by rw [HRR.out]; exact restTo_len ..
                  have HWr := hid (HWi.out g3 c3 R F h wr HBww.out o1 o3 (by have := HCS.out.len; omega) o2)
                  clear HRR o1 o2 o3
                  go_wp2_with fail
                  refine HWr.out.mono ?_
                  rintro e w8 ⟨v8, rfl, hown8, hB8⟩
                  obtain ⟨T, hT⟩ : ∃ T, T = takeIn O p := ⟨_, rfl⟩
                  rw [HRf.out, ← hT] at hown8
                  obtain ⟨hTl, a8, c8, rfl, _⟩ := pairs_form hown8
                  rw [hTl] at hown8
                  have HNew := hid (show MWay ps n a H rs ∧ cancL T rs = G ∧ T.length + rs.length ≤ 100 from ⟨by rw [HHe.out, Hfe.out]; exact HCS.out.way, by rw [hT]; exact HCS.out.canc, by have := HCS.out.len; omega⟩)
                  have HO8 := hid (ownsRow_base hown8 HBw2.out.size)
                  have HB8 := hid (HBw2.out.trans (hB8.mono HBw2.out.size))
                  have HNk := KeptP.mk HNew.out
                  clear hown8 hB8 hTl hT HWr HRf hRl HNew HR
                  obtain ⟨pb, hpb⟩ : ∃ pb, pb = pairingB fs (flatP (insL R (F, h))) (R.length + 1) := ⟨_, rfl⟩
                  rw [← hpb]
                  clear hpb
                  go_wp2_with fail
                  go_roundw
                  all_goals first
                    | exact ⟨⟨rs, T, a8, c8, H, hid HNk.out, rfl, rfl, HO8, HB8⟩, by show (routeL ps n H a).length < (routeL ps n h a).length; rw [HCS.out.len1, HHe.out, Hfe.out, HCS.out.len2]; omega⟩
                    | (case rel => exact ⟨rs, T, a8, c8, H, hid HNk.out, rfl, rfl, HO8, HB8⟩)
                    | (show (routeL ps n H a).length < (routeL ps n h a).length; rw [HCS.out.len1, HHe.out, Hfe.out, HCS.out.len2]; omega)
    · refine pairQ_monoS (show cancR V fs n ps (bn : Int) a = ([], 5) by rw [cancR, if_pos h0, if_neg h1]) ?_
      obtain ⟨u, hu⟩ : ∃ u, u = wsum ps n (bn : Int) a := ⟨_, rfl⟩
      rw [← hu] at HW h1
      have hu1 : (u == 1) = false := by simpa using h1
      clear hu hwr hCO hs hac hpc h0 hwv hx hx1 hp hB0
      go_enter Try.func21, Try.ntmps21
      go_wp2_with fail
      refine HG.out.mono ?_
      rintro e w1 ⟨rfl, hB1⟩
      rw [← hW0] at hB1
      have HB1 := hid (HB0.out.trans (hB1.mono HB0.out.size))
      clear hB1 HG HB0 Hk hW0
      go_wp2_with fail
      refine (HW.out w1 HB1.out).mono ?_
      rintro e w2 ⟨rfl, hB2⟩
      have HB2 := hid (HB1.out.trans (hB2.mono HB1.out.size))
      clear hB2 HW
      go_wp2_with fail
      go_ret2
      exact ⟨_, rfl, resP_nil _ _ HB2.out⟩
  · refine pairQ_monoS (show cancR V fs n ps b a = ([], givenR V fs n ps b a) by rw [cancR, if_neg h0]) ?_
    obtain ⟨c, hc⟩ : ∃ c, c = givenR V fs n ps b a := ⟨_, rfl⟩
    rw [← hc] at HG h0 ⊢
    have hc1 : (c == 0) = false := by simpa using h0
    clear hc hx hx1 hp hB0
    go_enter Try.func21, Try.ntmps21
    go_wp2_with fail
    refine HG.out.mono ?_
    rintro e w1 ⟨rfl, hB1⟩
    rw [← hW0] at hB1
    have HB1 := hid (HB0.out.trans (hB1.mono HB0.out.size))
    clear hB1 HG HB0 Hk hW0
    go_wp2_with fail
    go_ret2
    exact ⟨_, rfl, resP_nil _ _ HB1.out⟩

end Go.Proofs.Ytbhdipljhelddaa

/-! CancelFaces: both doors. -/

/-! What a complex that comes in is told as, for the rows of all laws. -/
namespace Go.Proofs.Ytbhdipljhelddaa
open Go.ChangeShapes Go.WideShapes Go.ChangeAt Go.RowKit Go.Joins

theorem own : ownKnob Try.prog.godebug = none := by kernel_rfl
theorem laidOut : laidOutB Try.prog = true := by kernel_rfl

variable {H : Type} {enc : TypeId × Value → H}

/-- A slice of int64 that came in. -/
theorem slI_of_trod {W : World} {n : Nat} {v : Value} {y : DataW H × List MemPlace} (hf : DataW.trod enc Try.prog W 0 (fun _ => true) true n 22 [v] = some y) :
    ∃ a len cap xs, v = .slice a len cap ∧ xs.length = len ∧ len ≤ 9223372036854775807 ∧ SlI W W.heap.size a xs ∧ ∀ x ∈ xs, (Lit.int .i64 x).wf = true := by
  rcases open_ints Try.underlying22 Try.underlying2 (by kernel_rfl) hf with ⟨hcs, _⟩ | ⟨x, l, c, zs, hcs, _, hl, hm, hz, _, hcell, hwf⟩
  · simp at hcs
    subst hcs
    exact ⟨none, 0, 0, [], rfl, rfl, by omega, .inl rfl, by simp⟩
  · simp at hcs
    subst hcs
    simp at hz
    have hlen : (zs.take l).length = l := by simp; omega
    unfold maxLen at hm
    refine ⟨some x, l, c, zs.take l, rfl, hlen, by omega, ?_, fun y hy => hwf y (List.mem_of_mem_take hy)⟩
    by_cases h0 : l = 0
    · subst h0; exact .inl (by simp)
    · right
      obtain ⟨b, off, spot⟩ := x
      have hc0 := hcell 0 (by omega)
      have hspot : spot = none := by simpa [Addr.add] using World.cell?_spot hc0
      subst hspot
      refine ⟨b, off, ?_, rfl, fun i hi => ?_⟩
      · have := World.block_lt_of_cell? W _ hc0
        simpa [Addr.add] using this
      · rw [hlen] at hi
        have := hcell i (by omega)
        have hadd : (⟨b, off, none⟩ : Addr).add i = ⟨b, off + i, none⟩ := by unfold Addr.add; split <;> simp_all
        rw [hadd] at this
        rw [List.getElem?_take, if_pos hi]
        simpa using this

end Go.Proofs.Ytbhdipljhelddaa

/-! What a list of pairs that comes in is told as. -/
namespace Go.Proofs.Ytbhdipljhelddaa
open Go.ChangeShapes Go.WideShapes Go.ChangeAt Go.RowKit Go.Joins

variable {H : Type} {enc : TypeId × Value → H}

/-- The number in a cell. -/
def cellInt (v : Option Value) : Int := match v with | some (.int _ n) => n | _ => 0

set_option maxRecDepth 100000 in
theorem two_of_trod {W : World} {n : Nat} {cs : List Value} {y : DataW H × List MemPlace} (hf : DataW.trod enc Try.prog W 0 (fun _ => true) true n 64 cs = some y) : ∃ x y : Int, cs = [.int .i64 x, .int .i64 y] ∧ (Lit.int .i64 x).wf = true ∧ (Lit.int .i64 y).wf = true := by
  cases n with
  | zero => simp [DataW.trod] at hf
  | succ n =>
    unfold DataW.trod at hf
    rw [Try.underlying64] at hf
    simp only at hf
    rw [show Try.prog.cellsOf 64 = 2 by kernel_rfl, show Try.prog.cellsOf 2 = 1 by kernel_rfl] at hf
    split at hf
    · next hl =>
      match cs, hl with
      | [c0, c1], _ =>
        simp only [Option.map_eq_some_iff] at hf
        obtain ⟨xs, hx, _⟩ := hf
        rw [show List.range 2 = [0, 1] from rfl, List.mapM_cons, List.mapM_cons, List.mapM_nil] at hx
        simp only [bind, Option.bind_eq_some_iff, pure, Option.some.injEq] at hx
        obtain ⟨y0, h0, _, ⟨y1, h1, _, rfl, rfl⟩, rfl⟩ := hx
        obtain ⟨a, ea, _, wa⟩ := DataW.trod_int Try.underlying2 h0
        obtain ⟨b, eb, _, wb⟩ := DataW.trod_int Try.underlying2 h1
        simp at ea eb
        subst ea; subst eb
        exact ⟨a, b, rfl, wa, wb⟩
    · cases hf

set_option maxRecDepth 100000 in
/-- A list of pairs that came in. -/
theorem pairs_of_trod {W : World} {n : Nat} {v : Value} {y : DataW H × List MemPlace} (hf : DataW.trod enc Try.prog W 0 (fun _ => true) true n 35 [v] = some y) :
    ∃ a len cap ps, v = .slice a len cap ∧ ps.length = 2 * len ∧ len ≤ 9223372036854775807 ∧ SlI W W.heap.size a ps ∧ ∀ x ∈ ps, (Lit.int .i64 x).wf = true := by
  rcases DataW.trod_slice Try.underlying35 hf with ⟨hcs, _⟩ | ⟨a, len, cap, elems, rest, m, _, hcs, _, hb, hl, hm, hlen, hel, _, _⟩
  · simp at hcs
    subst hcs
    exact ⟨none, 0, 0, [], rfl, rfl, by omega, .inl rfl, by simp⟩
  · simp at hcs
    subst hcs
    unfold maxLen at hm
    have hc : Try.prog.cellsOf 64 = 2 := by kernel_rfl
    have each : ∀ i, i < 2 * len → ∃ x, W.cell? (a.add i) = some (.int .i64 x) ∧ (Lit.int .i64 x).wf = true := by
      intro i hi
      have h := hel (i / 2) (by omega)
      rw [hc] at h
      have hy : elems[i / 2]? = some (elems[i / 2]'(by omega)) := List.getElem?_eq_getElem (by omega)
      rw [hy, Option.bind_eq_some_iff] at h
      obtain ⟨cs, hcs, ht⟩ := h
      obtain ⟨x, y, rfl, wx, wy⟩ := two_of_trod ht
      have h3 := (World.cells?_some hcs).2.2 (i % 2) (Nat.mod_lt _ (by decide))
      have hadd : (a.add (i / 2 * 2)).add (i % 2) = a.add i := by
        rw [Addr.add_add]
        congr 1
        omega
      rw [hadd] at h3
      rcases Nat.mod_two_eq_zero_or_one i with h | h <;> rw [h] at h3 <;> simp at h3
      · exact ⟨_, h3, wx⟩
      · exact ⟨_, h3, wy⟩
    refine ⟨some a, len, cap, (List.range (2 * len)).map (fun i => cellInt (W.cell? (a.add i))), rfl, by simp, by omega, ?_, ?_⟩
    rotate_left
    · intro x hx
      obtain ⟨i, hi, rfl⟩ := List.mem_map.1 hx
      obtain ⟨y, hy, wy⟩ := each i (List.mem_range.1 hi)
      rw [hy]
      exact wy
    by_cases h0 : len = 0
    · subst h0; exact .inl (by simp)
    · right
      obtain ⟨b, off, spot⟩ := a
      obtain ⟨x0, hc0, _⟩ := each 0 (by omega)
      have hspot : spot = none := by simpa [Addr.add] using World.cell?_spot hc0
      subst hspot
      refine ⟨b, off, ?_, rfl, fun i hi => ?_⟩
      · have := World.block_lt_of_cell? W _ hc0
        simpa [Addr.add] using this
      · simp only [List.length_map, List.length_range] at hi
        obtain ⟨x, hx, _⟩ := each i hi
        have hadd : (⟨b, off, none⟩ : Addr).add i = ⟨b, off + i, none⟩ := by unfold Addr.add; split <;> simp_all
        rw [hadd] at hx
        rw [hx, List.getElem?_map, List.getElem?_range hi]
        simp only [Option.map_some, Option.getD_some]
        rw [hadd, hx]
        rfl

theorem pairs_in {W : World} {n : Nat} {a : Option Addr} {m cap : Nat} {y : DataW H × List MemPlace} (hf : DataW.trod enc Try.prog W 0 (fun _ => true) true n 35 (Value.slice a m cap).cells.toList = some y) :
    ∃ ps, ps.length = 2 * m ∧ m ≤ 9223372036854775807 ∧ SlI W W.heap.size a ps ∧ ∀ x ∈ ps, (Lit.int .i64 x).wf = true := by
  obtain ⟨a', len, cap', ps, he, h1, h2, h3, h4⟩ := pairs_of_trod (v := .slice a m cap) hf
  cases he
  exact ⟨ps, h1, h2, h3, h4⟩

end Go.Proofs.Ytbhdipljhelddaa
