/- THE STATEMENT on WaysBetween: for every argument that comes in (a complex-like value (any number, any slice of int64), a list of pairs of int64, an int64, an int64) the law returns true and leaves its arguments as they were. No conditions. -/
import Derived.BigQuiet
import Derived.Test.YtgmapgaijncbeaaMWaysBetween1
import Derived.Test.YtgmapgaijncbeaaMWaysBetween2
import Derived.Test.YtgmapgaijncbeaaMWaysBetween3
/-! CountGradientWays, the program's. -/
namespace Go.Proofs.Ytgmapgaijncbeaa
open Go.RowKit Go.Shelf

attribute [local go_sem] Oper.semAt_some

theorem pairs_slI {w : World} {base e n : Nat} {v : Value} {L : List (Int × Int)} (h : w.ownsRow base e 2 v n ((flatP L).map (Value.int .i64))) :
    n = L.length ∧ ∃ a cap, v = .slice a L.length cap ∧ SlI w w.heap.size a (flatP L) := by
  have hl := h.1
  simp [flatP_len] at hl
  have hn : n = L.length := by omega
  refine ⟨hn, ?_⟩
  rcases h.2 with ⟨rfl, hn0⟩ | ⟨g, cap, cur, rfl, _, hg, _⟩
  · have : L = [] := List.eq_nil_of_length_eq_zero (by omega)
    subst this
    exact ⟨none, 0, rfl, .inl rfl⟩
  · refine ⟨_, cap, by rw [hn], .inr ⟨g, 0, (Array.getElem?_eq_some_iff.1 hg).1, rfl, fun i hi => ?_⟩⟩
    have := h.cells (g := g) rfl i (.int .i64 ((flatP L)[i]?.getD 0)) (by simp [hi])
    have hadd : (⟨g, 0, none⟩ : Addr).add i = ⟨g, i, none⟩ := by unfold Addr.add; split <;> simp_all
    rw [hadd] at this
    simpa using this

/-- Ahead of settled pair k. -/
def GwIn (w3 : World) (M C n c2 : Nat) (a2 : Option Addr) (a b : Int) (ps : List Int) (L : List Nat) (a' : Act) (W : World) : Prop :=
  ∃ (k : Nat) (Ds : List Nat) (us : Nat → Value), a' = { tmps := List.toArray (us 0 :: us 1 :: (.int .i64 a) :: us 3 :: us 4 :: us 5 :: us 6 :: us 7 :: us 8 :: us 9 :: us 10 :: us 11 :: (.map (some M)) :: (.pointer (some ⟨C + 1, 0, none⟩)) :: us 14 :: us 15 :: us 16 :: us 17 :: us 18 :: us 19 :: us 20 :: us 21 :: us 22 :: us 23 :: us 24 :: us 25 :: us 26 :: us 27 :: us 28 :: us 29 :: us 30 :: us 31 :: us 32 :: us 33 :: us 34 :: us 35 :: us 36 :: us 37 :: us 38 :: us 39 :: us 40 :: us 41 :: us 42 :: us 43 :: us 44 :: us 45 :: us 46 :: (.slice a2 n c2) :: (.int .i64 (n : Int)) :: (.int .i64 (k : Int)) :: us 50 :: us 51 :: us 52 :: us 53 :: us 54 :: us 55 :: us 56 :: us 57 :: us 58 :: us 59 :: us 60 :: us 61 :: us 62 :: us 63 :: us 64 :: us 65 :: us 66 :: us 67 :: us 68 :: us 69 :: []), defers := marks Ds } ∧ Hid (GwW w3 W (1 + 64 * k) (gwV ps n b L k) Ds) ∧ k ≤ n
theorem gwIn_of {w3 W : World} {M C n c2 : Nat} {a2 : Option Addr} {a b : Int} {ps : List Int} {L : List Nat} {k : Nat} {Ds : List Nat} (tm : Array Value) (ds : List Deferred) (hds : ds = marks Ds)
    (h : tm = List.toArray (tm.getD 0 undef :: tm.getD 1 undef :: (.int .i64 a) :: tm.getD 3 undef :: tm.getD 4 undef :: tm.getD 5 undef :: tm.getD 6 undef :: tm.getD 7 undef :: tm.getD 8 undef :: tm.getD 9 undef :: tm.getD 10 undef :: tm.getD 11 undef :: (.map (some M)) :: (.pointer (some ⟨C + 1, 0, none⟩)) :: tm.getD 14 undef :: tm.getD 15 undef :: tm.getD 16 undef :: tm.getD 17 undef :: tm.getD 18 undef :: tm.getD 19 undef :: tm.getD 20 undef :: tm.getD 21 undef :: tm.getD 22 undef :: tm.getD 23 undef :: tm.getD 24 undef :: tm.getD 25 undef :: tm.getD 26 undef :: tm.getD 27 undef :: tm.getD 28 undef :: tm.getD 29 undef :: tm.getD 30 undef :: tm.getD 31 undef :: tm.getD 32 undef :: tm.getD 33 undef :: tm.getD 34 undef :: tm.getD 35 undef :: tm.getD 36 undef :: tm.getD 37 undef :: tm.getD 38 undef :: tm.getD 39 undef :: tm.getD 40 undef :: tm.getD 41 undef :: tm.getD 42 undef :: tm.getD 43 undef :: tm.getD 44 undef :: tm.getD 45 undef :: tm.getD 46 undef :: (.slice a2 n c2) :: (.int .i64 (n : Int)) :: (.int .i64 (k : Int)) :: tm.getD 50 undef :: tm.getD 51 undef :: tm.getD 52 undef :: tm.getD 53 undef :: tm.getD 54 undef :: tm.getD 55 undef :: tm.getD 56 undef :: tm.getD 57 undef :: tm.getD 58 undef :: tm.getD 59 undef :: tm.getD 60 undef :: tm.getD 61 undef :: tm.getD 62 undef :: tm.getD 63 undef :: tm.getD 64 undef :: tm.getD 65 undef :: tm.getD 66 undef :: tm.getD 67 undef :: tm.getD 68 undef :: tm.getD 69 undef :: [])) (HW : Hid (GwW w3 W (1 + 64 * k) (gwV ps n b L k) Ds)) (h1 : k ≤ n) : GwIn w3 M C n c2 a2 a b ps L { tmps := tm, defers := ds } W :=
  ⟨k, Ds, fun i => tm.getD i undef, by rw [hds]; exact congrArg (fun t => ({ tmps := t, defers := marks Ds } : Act)) h, HW, h1⟩

set_option maxRecDepth 1000000 in
set_option maxHeartbeats 4000000 in
theorem cgw_in (V : Int) (a0 : Option Addr) (cap : Nat) (fs : List Int) (a1 : Option Addr) (n cap1 : Nat) (ps : List Int) (a b : Int) (w : World) (hx : SlI w w.heap.size a0 fs) (hx1 : SlI w w.heap.size a1 ps) (hl : fs.length ≤ 1048576) (hp : ps.length = 2 * n) (hn : n ≤ 1048576) (hw : ∀ x ∈ ps, (Lit.int .i64 x).wf = true) (hwa : (Lit.int .i64 a).wf = true) (hwb : (Lit.int .i64 b).wf = true) (hC : IsC V fs) (hO : OkTo fs ps n) (hpc : pcodeR V fs n ps = 0) (ha : a ∈ fs) (hb : b ∈ fs) (hc : NoCycle ps n) :
    CallsIn Fence.wide 14 Try.prog 52 #[.agg #[.int .i64 V, .slice a0 fs.length cap], .slice a1 n cap1, .int .i64 a, .int .i64 b] w fun e w' => e = .returned (.tuple #[.int .i64 (wrap64 (gw ps n b a)), .int .i64 0]) ∧ Below w.heap.size w w' := by
  have hB0 : Below w.heap.size w (w.alloc (.cells #[.int .i64 V, .slice a0 fs.length cap] 30)) := (Below.refl _ w).alloc (Nat.le_refl _) _
  have HK := hid (pcode_impl V a0 cap fs a1 n cap1 ps _ (hx.later hB0 hB0.size) (hx1.later hB0 hB0.size) hl hp hn hw)
  rw [hpc] at HK
  have hda : decide (a ∈ fs) = true := decide_eq_true ha
  have hdb : decide (b ∈ fs) = true := decide_eq_true hb
  have HCa := hid (fun w1 (h : Below w.heap.size w w1) => contains_any a0 cap fs a w1 (hx.later h h.size) hl)
  have HCb := hid (fun w1 (h : Below w.heap.size w w1) => contains_any a0 cap fs b w1 (hx.later h h.size) hl)
  rw [hda] at HCa
  rw [hdb] at HCb
  have HSe := hid (fun w1 (h : Below w.heap.size w w1) => callsIn_wide.1 (settled_in a1 n cap1 ps w1 (hx1.later h h.size) hp hn hw (okTo_apart hO) (okTo_highs hC hO)))
  have HLw := hid (fun w1 (hb : Below w.heap.size w w1) => lows_any a1 n cap1 ps w1 (hx1.later hb hb.size) hp hn hw)
  have Hp := hid hp
  have Hw := hid hw
  have HD := hid (okTo_apart hO)
  have HH := hid (okTo_highs hC hO)
  have HN := hid hc
  have HB0 := hid hB0
  have hmm := @run_makeMap Try.prog
  clear hx hx1 hp hw hC hO hpc hB0 ha hb hc hda hdb
  refine callsIn_of_wp_marks Try.func52 rfl trivial ?_ rfl
  simp only [Try.ntmps52, List.size_toArray, List.length_cons, List.length_nil, Nat.reduceAdd, Nat.reduceSub, Array.replicate_succ, Array.replicate_zero, List.push_toArray, List.append_toArray, List.nil_append, List.cons_append]
  gi_wp2_with (first
    | (refine ⟨trivial, ?_⟩; gi_at_call 56; refine (callsIn_wide.2 HK.out).mono ?_; rintro e w1 ⟨rfl, hB1⟩; have HB1 := hid (HB0.out.trans (hB1.mono (by simp))); have k0 : w1.cell? ⟨w.heap.size, 0, none⟩ = some (.int .i64 V) := (hB1.cell (p := ⟨w.heap.size, 0, none⟩) (by simp)).trans (by simp [go_sem]); have k1 : w1.cell? ⟨w.heap.size, 1, none⟩ = some (.slice a0 fs.length cap) := (hB1.cell (p := ⟨w.heap.size, 1, none⟩) (by simp)).trans (by simp [go_sem]); have HA1 := hid (HCa.out w1 HB1.out); have HA2 := hid (HCb.out w1 HB1.out); have hs1 : w.heap.size < w1.heap.size := (by have := hB1.size; simp at this; omega); clear hB1)
    | (refine ⟨trivial, ?_⟩; gi_at_call 95; first | (refine (callsIn_wide.2 HA1.out).mono ?_; rintro e w' ⟨rfl, rfl⟩) | (refine (callsIn_wide.2 HA2.out).mono ?_; rintro e w' ⟨rfl, rfl⟩))
    | (refine ⟨trivial, ?_⟩; gi_at_call 69; refine (callsIn_wide.2 (HSe.out w1 HB1.out)).mono ?_; rintro e w2 ⟨L, v, rfl, hS, hsat, hr⟩; have hLn := (stl_all hS hsat).1 HN.out; have Hall := hid (acyclic_settled HN.out hsat); obtain ⟨_, a2, c2, rfl, hs2⟩ := pairs_slI hr.1; have HS := hid hS; have HL2 := hid hs2; have HB2 := hid (HB1.out.trans (hr.2.mono HB1.out.size)); rw [setP_len, hLn]; clear hS hsat hr hs2 k0 k1)
    | (refine ⟨trivial, ?_⟩; gi_at_call 60; refine (callsIn_wide.2 (HLw.out _ HB2.out)).mono ?_; rintro e w3 ⟨rfl, hown, hB3⟩; obtain ⟨wa, hrun1, hwa, hga, hsa⟩ := (CntM.made w3).update (show 0 < maxLen by decide) hwb (show (Lit.int .i64 1).wf = true by decide)))
  have H0 : Hid (GwW w3 (wa.alloc (.cells #[.map (some w3.heap.size)] 81)) 1 (gwV ps n b L 0) []) := by
    have e3 := heap_alloc_new wa (.cells #[.map (some w3.heap.size)] 81)
    rw [hsa, World.size_alloc] at e3
    rw [gwV_zero]
    exact hid {
      below := (((Below.refl _ w3).alloc (Nat.le_refl _) _).grown hga (by simp) (fun r e => by cases e; exact Nat.le_refl _)).alloc (by simp at hsa; omega) _
      cnt := hwa.alloc _
      b1 := e3
      nodup := by simp
      marks := by simp }
  have HB3 := hid (HB2.out.trans (hB3.mono HB2.out.size))
  have HL3 := hid (HL2.out.later hB3 hB3.size)
  have HLo := hid (fun W (h : Below w3.heap.size w3 W) => show W.ownsMap Try.prog 2 pairElem w2.heap.size n (lowsD ps n) from by
    have hlt := hown.lt
    obtain ⟨es, clock, hbb, F, hs, hDD⟩ := hown
    exact ⟨es, clock, (h.block _ hlt).trans hbb, F, hs, hDD⟩)
  obtain ⟨M, hM⟩ : ∃ M, M = w2.heap.size := ⟨_, rfl⟩
  obtain ⟨C, hCd⟩ : ∃ C, C = w3.heap.size := ⟨_, rfl⟩
  have hCw := hid hCd
  rw [← hCd] at H0 ⊢
  rw [← hM] at HLo ⊢
  clear hown hB3 hrun1 hwa hga hsa hmm HA1 HA2 HB1 HB2 HL2 HSe HLw HCa HCb HK HB0 hM hCd
  refine wpIn_loop (GwIn w3 M C n c2 a2 a b ps L) (fun a' _ => n - (intOf (a'.tmps.getD 49 undef)).toNat) ?start ?round
  case start => exact gwIn_of (k := 0) (Ds := []) _ _ rfl rfl H0 (Nat.zero_le _)
  case round =>
    rintro a' W ⟨k, Ds, us, rfl, HW, hk⟩
    clear H0
    by_cases hlt2 : k < n
    · obtain ⟨lb, off, hlb, rfl, hcl⟩ : ∃ b off, b < w3.heap.size ∧ a2 = some ⟨b, off, none⟩ ∧ ∀ i, i < (flatP (setP ps L)).length → w3.cell? ⟨b, off + i, none⟩ = some (.int .i64 ((flatP (setP ps L))[i]?.getD 0)) := by
        rcases HL3.out with h | h
        · have h2 := congrArg List.length h
          rw [flatP_len, setP_len] at h2
          simp at h2
          omega
        · exact h
      have hkL : k < L.length := by omega
      have hB := HW.out.below
      have hfl : (flatP (setP ps L)).length = 2 * n := by rw [flatP_len, setP_len, hLn]
      have hat := flatP_at (setP ps L) k (by rw [setP_len]; exact hkL)
      have hpk : (setP ps L)[k]?.getD (0, 0) = pairAt ps L[k] := by
        unfold setP
        rw [List.getElem?_map, List.getElem?_eq_getElem hkL]
        rfl
      rw [hpk] at hat
      obtain ⟨x, hx⟩ : ∃ x, x = at0 ps (L[k] * 2) := ⟨_, rfl⟩
      obtain ⟨y, hy⟩ : ∃ y, y = at0 ps (L[k] * 2 + 1) := ⟨_, rfl⟩
      have hc2 : W.cell? ⟨lb, off + k * 2, none⟩ = some (.int .i64 x) := (hB.cell (p := ⟨lb, off + k * 2, none⟩) hlb).trans ((hcl (k * 2) (by omega)).trans (by rw [hx]; exact congrArg (fun t => some (Value.int .i64 t)) hat.1))
      have hc3 : W.cell? ⟨lb, off + k * 2 + 1, none⟩ = some (.int .i64 y) := (hB.cell (p := ⟨lb, off + (k * 2 + 1), none⟩) hlb).trans ((hcl (k * 2 + 1) (by omega)).trans (by rw [hy]; exact congrArg (fun t => some (Value.int .i64 t)) hat.2))
      have Hwx : Hid ((Lit.int .i64 x).wf = true) := hid (Hw.out x (by rw [hx]; exact getD_mem (by have := Hp.out; have := HS.out.lt _ (List.getElem_mem hkL); omega)))
      have HU0 := hid (gwU_nil (b := b) HS.out hkL)
      have HUn := hid (fun (z : Int) (hz : z ∈ nextL ps n (at0 ps (L[k] * 2))) pre => gwU_next (b := b) HS.out hkL hz pre)
      have HUa := hid (gwU_all (b := b) HN.out HH.out HD.out HS.out hkL)
      rw [← hx] at HU0 HUn HUa
      have hi0 : (0 : Int) ≤ (k : Int) := by omega
      have hi1 : (k : Int) < (n : Int) := by omega
      clear hcl hat hpk hx hy hB hfl
      gi_wp2_with (first
        | (refine ⟨trivial, ?_⟩; gi_at_call 61; refine (stepsFrom_in _ M x _).mono ?_; rintro e w' ⟨rfl, rfl⟩))
      obtain ⟨W3, hW3⟩ : ∃ W3, W3 = ((W.alloc (.cells #[.int .i64 x, .int .i64 y] 56)).alloc (.cells #[.map (some M)] 69)).alloc (.cells #[.int .i64 x] 2) := ⟨_, rfl⟩
      have hs3 : W3.heap.size = W.heap.size + 3 := by rw [hW3]; simp
      have hpb : W3.heap[W.heap.size]? = some (.cells #[.int .i64 x, .int .i64 y] 56 (0, 0)) := by rw [hW3]; exact (Below.heap_alloc _ _ _ (by simp <;> omega)).trans ((Below.heap_alloc _ _ _ (by simp)).trans (heap_alloc_new _ _))
      have hbm : W3.heap[W.heap.size + 1]? = some (.cells #[.map (some M)] 69 (0, 0)) := by
        have := heap_alloc_new (W.alloc (.cells #[.int .i64 x, .int .i64 y] 56)) (.cells #[.map (some M)] 69)
        rw [World.size_alloc] at this
        rw [hW3]
        exact (Below.heap_alloc _ _ _ (by simp)).trans this
      have hbx : W3.heap[W.heap.size + 1 + 1]? = some (.cells #[.int .i64 x] 2 (0, 0)) := by
        have := heap_alloc_new ((W.alloc (.cells #[.int .i64 x, .int .i64 y] 56)).alloc (.cells #[.map (some M)] 69)) (.cells #[.int .i64 x] 2)
        rw [World.size_alloc, World.size_alloc] at this
        rw [hW3]
        exact this
      have HS3 : Hid (GwW w3 W3 (1 + 64 * k) (gwV ps n b L k) Ds) := hid (by rw [hW3]; exact ((HW.out.alloc _).alloc _).alloc _)
      have HDs : Hid (∀ D ∈ Ds, D < W3.heap.size) := hid (fun D hD => by have := lt_of_get (HW.out.marks D hD).2; omega)
      have hsz := HW.out.size
      rw [← hW3]
      clear hW3 hc2 hc3
      refine wpIn_rangeFunc_P rfl (by decide) (gf := 101) (lb := #[.pointer (some ⟨W.heap.size + 1, 0, none⟩), .pointer (some ⟨W.heap.size + 1 + 1, 0, none⟩)]) rfl trivial (enters_of Try.func101 (by kernel_rfl) rfl)
        (steps_P 13 (by decide) (W.heap.size + 1) (W.heap.size + 1 + 1) M n n ps x W3 hbm hbx (HLo.out _ HS3.out.below) HD.out HH.out Hwx.out) (by simp) (Below.refl _ _) (fun _ => rfl)
        (fun pre W' => GwW w3 W' (1 + 64 * k + pre.length) (gwU ps n b L k x pre) Ds ∧ W'.heap[W.heap.size]? = some (.cells #[.int .i64 x, .int .i64 y] 56 (0, 0)))
        (fun _ _ _ => False)
        (OwnIn.and (gw_ownIn (by omega) HDs.out) (ownIn_block (β := List (Fin 64)) (fun _ => _) (by omega)))
        (fun _ => ownIn_pure _ _ _)
        ⟨by rw [HU0.out]; exact HS3.out, hpb⟩
        (fun z => { tmps := List.toArray (us 0 :: us 1 :: (.int .i64 a) :: us 3 :: us 4 :: us 5 :: us 6 :: us 7 :: us 8 :: us 9 :: us 10 :: us 11 :: (.map (some M)) :: (.pointer (some ⟨C + 1, 0, none⟩)) :: us 14 :: (.pointer (some ⟨W.heap.size, 0, none⟩)) :: (.int .i64 (z.val : Int)) :: us 17 :: us 18 :: us 19 :: us 20 :: us 21 :: us 22 :: us 23 :: us 24 :: us 25 :: us 26 :: us 27 :: us 28 :: us 29 :: us 30 :: us 31 :: us 32 :: us 33 :: us 34 :: us 35 :: us 36 :: us 37 :: us 38 :: us 39 :: us 40 :: us 41 :: us 42 :: us 43 :: us 44 :: us 45 :: us 46 :: (.slice (some ⟨lb, off, none⟩) n c2) :: (.int .i64 (n : Int)) :: (.int .i64 (k : Int)) :: (.bool true) :: (.pointer (some ⟨lb, off + k * 2, none⟩)) :: (.agg #[.int .i64 x, .int .i64 y]) :: (.map (some M)) :: (.pointer (some ⟨W.heap.size, 0, none⟩)) :: (.int .i64 x) :: (.func (.func 101) #[] #[.pointer (some ⟨W.heap.size + 1, 0, none⟩), .pointer (some ⟨W.heap.size + 1 + 1, 0, none⟩)]) :: (.int .i64 (z.val : Int)) :: us 58 :: us 59 :: us 60 :: us 61 :: us 62 :: us 63 :: us 64 :: us 65 :: us 66 :: us 67 :: us 68 :: us 69 :: []), defers := [] }) ?assign ?body ?done ?stop
      case assign =>
        intro l z W4 K hK
        gi_wp2
        exact hK
      case body =>
        rintro l pre z W4 hpre hsz4 ⟨hS, hpb4⟩
        have hzw : (Lit.int .i64 (z.val : Int)).wf = true := WalkArith.wf_i64 (by have := z.isLt; omega)
        have hzn : (z.val : Int) ∈ nextL ps n x := (mem_stepsF HH.out x _).1 ⟨z, hpre.subset (by simp), rfl⟩
        have hpl : pre.length + 1 ≤ 6 := by
          have h1 := hpre.length_le
          have h2 := steps_few ps n x
          simp at h1
          omega
        obtain ⟨p0, _, _, _⟩ := two_of hpb4
        have q1 : W4.cell? ⟨C + 1, 0, none⟩ = some (.map (some C)) := by rw [hCw.out]; exact (box_cell hS.b1).1
        have hlk1 := hS.cnt.lookup Hwx.out
        have hlk2 := hS.cnt.lookup hzw
        obtain ⟨c, hc⟩ : ∃ c, c = gwU ps n b L k x pre x := ⟨_, rfl⟩
        rw [HUn.out _ hzn] at hlk2
        obtain ⟨g, hg⟩ : ∃ g, g = wrap64 (gw ps n b (z.val : Int)) := ⟨_, rfl⟩
        obtain ⟨W5, hrun5, hc5, hg5, hs5⟩ := hS.cnt.update (show 1 + 64 * k + pre.length < maxLen by unfold maxLen; omega) Hwx.out (wf_wrap (c + g))
        have hS5 := hS.put hc5 hg5
        rw [hc, hg, gwU_snoc] at hS5
        rw [← hCw.out] at hlk1 hlk2 hrun5
        rw [← hc] at hlk1
        rw [← hg] at hlk2
        have HS5 := hid hS5
        have Hg5 := hid hg5
        have Hpb5 := hid ((hg5.block _ (lt_of_get hpb4) (fun e => by injection e with e; omega)).trans hpb4)
        have hsw := hS.size
        clear hS hpb4 hS5 hc5 hg5 hc hg hzn hzw HW hpb hbm hbx HS3
        gi_wp2
        refine ⟨⟨Hg5.out.size, fun r hr => ?_⟩, ?_, Hpb5.out⟩
        · rcases hr with h | h
          · simp at h
          · exact Hg5.out.block r (by omega) (fun e => by injection e with e; omega)
        · have e : 1 + 64 * k + (pre ++ [z]).length = 1 + 64 * k + pre.length + 1 := by simp; omega
          rw [e]
          exact HS5.out
      case done =>
        rintro W4 ⟨hS, hpb4⟩ hD4
        have hS4 := (hS.mark hD4 (by omega) (fun hm => by have := HDs.out _ hm; omega)).mono (show 1 + 64 * k + (stepsF ps n x).length ≤ 1 + 64 * (k + 1) by have := steps_few ps n x; omega)
        rw [HUa.out] at hS4
        have HS4 := hid hS4
        clear hS hS4 hpb4 hD4
        gi_wp2
        exact ⟨gwIn_of (k := k + 1) (Ds := W3.heap.size :: Ds) _ _ rfl rfl HS4 (by omega), by simp [intOf]; omega⟩
      case stop =>
        rintro c pre W4 hpre hF hD4
        exact hF.elim
    · have HVn := hid (show gwV ps n b L n a = wrap64 (gw ps n b a) from by
        have h := congrFun (gwV_all (ps := ps) (b := b) Hall.out) a
        rw [hLn] at h
        exact h)
      obtain rfl : k = n := by omega
      have c1 : W.cell? ⟨C + 1, 0, none⟩ = some (.map (some C)) := by rw [hCw.out]; exact (box_cell HW.out.b1).1
      have hlk := HW.out.cnt.lookup hwa
      rw [HVn.out, ← hCw.out] at hlk
      gi_wp2
      refine leaves_marks (by simp) Ds _ HW.out.nodup (fun D hD => (HW.out.marks D hD).2) (fun w' hw' => ?_)
      exact ⟨_, results_tmp2 rfl _ _ _, rfl, (HB3.out.trans (HW.out.below.mono HB3.out.size)).trans (hw'.below (fun D hD => by have := (HW.out.marks D hD).1; have := HB3.out.size; omega))⟩

end Go.Proofs.Ytgmapgaijncbeaa

/-! isCritical, the program's. -/
namespace Go.Proofs.Ytgmapgaijncbeaa
open Go.RowKit Go.Shelf

attribute [local go_sem] Oper.semAt_some

set_option maxRecDepth 100000 in
set_option maxHeartbeats 1000000 in
theorem oc_free (x : Int) (w : World) : Calls Try.prog 107 #[.int .u64 x] w fun e w' => ∃ c, e = .returned (.int .i64 c) ∧ w = w' := by
  go_enter Try.func107, Try.ntmps107
  go_wp2
  go_ret
  exact ⟨_, rfl, rfl⟩
set_option maxHeartbeats 400000 in
theorem dim_free (x : Int) (w : World) : Calls Try.prog 66 #[.int .i64 x] w fun e w' => ∃ c, e = .returned (.int .i64 c) ∧ w = w' := by
  go_enter Try.func66, Try.ntmps66
  go_wp2_with fail
  refine (oc_free _ _).mono ?_
  rintro e w' ⟨c, rfl, rfl⟩
  go_wp2_with fail
  go_ret
  exact ⟨_, rfl, rfl⟩

set_option maxRecDepth 100000 in
set_option maxHeartbeats 1000000 in
/-- The condition: the number is one of the pair's. -/
theorem isCr1_any (x y f : Int) (bf : Nat) (w : World) (hc : w.heap[bf]? = some (.cells #[.int .i64 f] 2 (0, 0))) :
    Calls Try.prog 106 #[.agg #[.int .i64 x, .int .i64 y], .pointer (some ⟨bf, 0, none⟩)] w fun e w' => e = .returned (.bool (decide (f ∈ [x, y]))) ∧ Below w.heap.size w w' := by
  have cf : ∀ o : Obj, (w.alloc o).cell? ⟨bf, 0, none⟩ = some (.int .i64 f) := fun o => cell_alloc0 (box_cell hc).1 o
  have hB0 : Below w.heap.size w (w.alloc (.cells #[.int .i64 x, .int .i64 y] 56)) := (Below.refl _ w).alloc (Nat.le_refl _) _
  have hS : SlI (w.alloc (.cells #[.int .i64 x, .int .i64 y] 56)).drew (w.alloc (.cells #[.int .i64 x, .int .i64 y] 56)).drew.heap.size (some ⟨w.heap.size, 0, none⟩) [x, y] := by
    refine .inr ⟨w.heap.size, 0, by show w.heap.size < (w.alloc _).heap.size; simp, rfl, fun i hi => ?_⟩
    have h2 := two_of (heap_alloc_new w (.cells #[.int .i64 x, .int .i64 y] 56))
    match i, hi with
    | 0, _ => exact h2.1
    | 1, _ => exact h2.2.1
  have HC := hid (contains_any (some ⟨w.heap.size, 0, none⟩) 2 [x, y] f _ hS (by simp))
  have HB := hid (hB0.trans (below_drewN (Below.refl _ _) 1))
  clear hc hS hB0
  go_enter Try.func106, Try.ntmps106
  go_wp2_with fail
  go_region_with (go_at_call 95; refine HC.out.mono ?_; rintro e w' ⟨rfl, rfl⟩)
  all_goals
    go_wp2_with fail
    go_ret
    exact ⟨ret_bool (by simp), HB.out⟩

/-- The pairs ahead of pair k that hold f. -/
def holdsTo (ps : List Int) (f : Int) (k : Nat) : Prop := ∃ i, i < k ∧ (f = at0 ps (i * 2) ∨ f = at0 ps (i * 2 + 1))
theorem holds_mem {ps : List Int} {n : Nat} (hp : ps.length = 2 * n) (f : Int) : holdsTo ps f n ↔ f ∈ ps := by
  constructor
  · rintro ⟨i, hi, h | h⟩
    · rw [h]; exact getD_mem (by omega)
    · rw [h]; exact getD_mem (by omega)
  · intro h
    obtain ⟨j, hj, e⟩ := List.getElem_of_mem h
    have hat : at0 ps j = f := by
      show ps[j]?.getD 0 = f
      rw [List.getElem?_eq_getElem hj]
      exact e
    rcases Nat.mod_two_eq_zero_or_one j with h2 | h2
    · exact ⟨j / 2, by omega, .inl (by rw [show j / 2 * 2 = j by omega, hat])⟩
    · exact ⟨j / 2, by omega, .inr (by rw [show j / 2 * 2 + 1 = j by omega, hat])⟩

set_option maxRecDepth 100000 in
set_option maxHeartbeats 2000000 in
theorem idxP_any (a1 : Option Addr) (n cap1 : Nat) (ps : List Int) (f : Int) (bf : Nat) (w : World) (hx : SlI w w.heap.size a1 ps) (hp : ps.length = 2 * n) (hn : n ≤ 1048576) (hc : w.heap[bf]? = some (.cells #[.int .i64 f] 2 (0, 0))) :
    Calls Try.prog 147 #[.slice a1 n cap1, .func (.func 106) #[] #[.pointer (some ⟨bf, 0, none⟩)]] w fun e w' => ∃ i : Int, e = .returned (.int .i64 i) ∧ -1 ≤ i ∧ (0 ≤ i ↔ f ∈ ps) ∧ Below w.heap.size w w' := by
  have hent : ∀ args w, (callFunc 106 args).run Try.prog w = .ok (.enter 106 args) w := enters_of Try.func106 (by kernel_rfl) rfl
  have HC := hid (fun x y w1 (h : Below w.heap.size w w1) => isCr1_any x y f bf w1 ((h.block bf (lt_of_get hc)).trans hc))
  have Hx := hid hx
  have Hp := hid hp
  have Hm := hid (holds_mem hp f)
  clear hx hp hc
  go_enter Try.func147, Try.ntmps147
  go_wp2
  go_loopw [8] (fun i wr => ∃ k : Nat, k ≤ n ∧ i = .int .i64 k ∧ Hid (¬ holdsTo ps f k) ∧ Below w.heap.size w wr) (fun i _ => n - (intOf i).toNat)
  case atStart => exact ⟨0, Nat.zero_le _, rfl, hid (fun ⟨i, hi, _⟩ => absurd hi (Nat.not_lt_zero _)), Below.refl _ _⟩
  case round =>
    obtain ⟨k, hk, rfl, Hk, hB⟩ := hrel
    by_cases hlt : k < n
    · obtain ⟨b, off, hb, rfl, hcl⟩ : ∃ b off, b < w.heap.size ∧ a1 = some ⟨b, off, none⟩ ∧ ∀ i, i < ps.length → w.cell? ⟨b, off + i, none⟩ = some (.int .i64 (ps[i]?.getD 0)) := by
        rcases Hx.out with h | h
        · have := Hp.out; rw [h] at this; simp at this; omega
        · exact h
      have hc2 : wr.cell? ⟨b, off + k * 2, none⟩ = some (.int .i64 (at0 ps (k * 2))) := (hB.cell (p := ⟨b, off + k * 2, none⟩) hb).trans (hcl _ (by have := Hp.out; omega))
      have hc3 : wr.cell? ⟨b, off + k * 2 + 1, none⟩ = some (.int .i64 (at0 ps (k * 2 + 1))) := (hB.cell (p := ⟨b, off + (k * 2 + 1), none⟩) hb).trans (hcl _ (by have := Hp.out; omega))
      obtain ⟨x, hx⟩ : ∃ x, x = at0 ps (k * 2) := ⟨_, rfl⟩
      obtain ⟨y, hy⟩ : ∃ y, y = at0 ps (k * 2 + 1) := ⟨_, rfl⟩
      rw [← hx] at hc2
      rw [← hy] at hc3
      have HC2 := hid (HC.out x y wr hB)
      have hi0 : (0 : Int) ≤ (k : Int) := by omega
      have hi1 : (k : Int) < (n : Int) := by omega
      have HB := hid hB
      have Hxy : Hid (f ∈ [x, y] ↔ (f = at0 ps (k * 2) ∨ f = at0 ps (k * 2 + 1))) := hid (by rw [hx, hy]; simp)
      clear hcl hx hy hB
      by_cases hf : f ∈ [x, y]
      · rw [decide_eq_true hf] at HC2
        have He : Hid (f ∈ ps) := hid (Hm.out.1 ⟨k, hlt, Hxy.out.1 hf⟩)
        clear hf
        go_wp2_with fail
        refine HC2.out.mono ?_
        rintro e w2 ⟨rfl, hB2⟩
        have HB2 := hid (HB.out.trans (hB2.mono HB.out.size))
        clear hB2
        go_wp2_with fail
        go_ret
        exact ⟨k, rfl, by omega, ⟨fun _ => He.out, fun _ => by omega⟩, HB2.out⟩
      · rw [decide_eq_false hf] at HC2
        have He : Hid (¬ holdsTo ps f (k + 1)) := hid (by
          rintro ⟨i, hi, h⟩
          by_cases e : i = k
          · subst e
            exact hf (Hxy.out.2 h)
          · exact Hk.out ⟨i, by omega, h⟩)
        clear hf
        go_wp2_with fail
        refine HC2.out.mono ?_
        rintro e w2 ⟨rfl, hB2⟩
        have HB2 := hid (HB.out.trans (hB2.mono HB.out.size))
        clear hB2
        go_wp2_with fail
        go_roundw
        case rel => exact ⟨k + 1, by omega, by go_num, He, HB2.out⟩
        case measure => simp [intOf]; omega
    · obtain rfl : k = n := by omega
      have He : Hid (f ∉ ps) := hid (fun h => Hk.out (Hm.out.2 h))
      go_wp2_with fail
      go_ret
      exact ⟨-1, rfl, by decide, ⟨fun h => absurd h (by decide), fun h => absurd h He.out⟩, hB⟩

set_option maxRecDepth 100000 in
set_option maxHeartbeats 1000000 in
theorem containsP_any (a1 : Option Addr) (n cap1 : Nat) (ps : List Int) (f : Int) (bf : Nat) (w : World) (hx : SlI w w.heap.size a1 ps) (hp : ps.length = 2 * n) (hn : n ≤ 1048576) (hc : w.heap[bf]? = some (.cells #[.int .i64 f] 2 (0, 0))) :
    Calls Try.prog 105 #[.slice a1 n cap1, .func (.func 106) #[] #[.pointer (some ⟨bf, 0, none⟩)]] w fun e w' => e = .returned (.bool (decide (f ∈ ps))) ∧ Below w.heap.size w w' := by
  have HI := hid (idxP_any a1 n cap1 ps f bf w hx hp hn hc)
  obtain ⟨c, hcc⟩ : ∃ c, c = decide (f ∈ ps) := ⟨_, rfl⟩
  have Hc := hid hcc
  rw [← hcc]
  clear hc hx hcc
  go_enter Try.func105, Try.ntmps105
  go_wp2_with fail
  refine HI.out.mono ?_
  rintro e w' ⟨i, rfl, h1, h2, hB⟩
  have Hi := hid h2
  have HB := hid hB
  clear h2 hB
  by_cases h0 : 0 ≤ i
  · have He : Hid (c = true) := hid (by rw [Hc.out]; exact decide_eq_true (Hi.out.1 h0))
    go_wp2_with fail
    go_ret
    exact ⟨ret_bool (by rw [He.out]), HB.out⟩
  · have He : Hid (c = false) := hid (by rw [Hc.out]; exact decide_eq_false (fun h => h0 (Hi.out.2 h)))
    have hlt : i < 0 := by omega
    go_wp2_with fail
    go_ret
    exact ⟨ret_bool (by rw [He.out]; simp [hlt]), HB.out⟩

/-- In the complex, and in no pair. -/
def critB (fs ps : List Int) (f : Int) : Bool := decide (f ∈ fs) && !decide (f ∈ ps)
set_option maxRecDepth 100000 in
set_option maxHeartbeats 2000000 in
theorem isCr_any (V : Int) (a0 : Option Addr) (cap : Nat) (fs : List Int) (a1 : Option Addr) (n cap1 : Nat) (ps : List Int) (f : Int) (w : World) (hx : SlI w w.heap.size a0 fs) (hx1 : SlI w w.heap.size a1 ps) (hl : fs.length ≤ 1048576) (hp : ps.length = 2 * n) (hn : n ≤ 1048576) :
    Calls Try.prog 65 #[.agg #[.int .i64 V, .slice a0 fs.length cap], .slice a1 n cap1, .int .i64 f] w fun e w' => e = .returned (.bool (critB fs ps f)) ∧ Below w.heap.size w w' := by
  obtain ⟨W0, hW0⟩ : ∃ W0, W0 = (w.alloc (.cells #[.int .i64 V, .slice a0 fs.length cap] 30)).alloc (.cells #[.int .i64 f] 2) := ⟨_, rfl⟩
  have hB0 : Below w.heap.size w W0 := by rw [hW0]; exact ((Below.refl _ w).alloc (Nat.le_refl _) _).alloc (by simp) _
  have hs0 : W0.heap.size = w.heap.size + 2 := by rw [hW0]; simp
  have hbf : W0.heap[w.heap.size + 1]? = some (.cells #[.int .i64 f] 2 (0, 0)) := by
    have := heap_alloc_new (w.alloc (.cells #[.int .i64 V, .slice a0 fs.length cap] 30)) (.cells #[.int .i64 f] 2)
    rw [World.size_alloc] at this
    rw [hW0]
    exact this
  have hk1 : W0.cell? ⟨w.heap.size, 1, none⟩ = some (.slice a0 fs.length cap) := by rw [hW0]; simp [go_sem]
  have HP := hid (containsP_any a1 n cap1 ps f (w.heap.size + 1) W0 (hx1.later hB0 hB0.size) hp hn hbf)
  have HF := hid (fun w1 (h : Below w.heap.size w w1) => contains_any a0 cap fs f w1 (hx.later h h.size) hl)
  have Hbf := hid hbf
  have HB0 := hid hB0
  have Hk1 := hid hk1
  have Hs0 := hid hs0
  rw [hW0] at HP
  obtain ⟨c1, hc1⟩ : ∃ c, c = decide (f ∈ fs) := ⟨_, rfl⟩
  obtain ⟨c2, hc2⟩ : ∃ c, c = decide (f ∈ ps) := ⟨_, rfl⟩
  rw [← hc1] at HF
  rw [← hc2] at HP
  have Hc : Hid (critB fs ps f = (c1 && !c2)) := hid (by unfold critB; rw [hc1, hc2])
  have HW0 := hid hW0
  clear hx hx1 hp hB0 hs0 hbf hk1 hc1 hc2 hW0
  go_enter Try.func65, Try.ntmps65
  go_wp2_with fail
  rw [← HW0.out] at HP ⊢
  refine HP.out.mono ?_
  rintro e w1 ⟨rfl, hB1⟩
  have hB : Below w.heap.size w w1 := HB0.out.trans (hB1.mono HB0.out.size)
  have k1 : w1.cell? ⟨w.heap.size, 1, none⟩ = some (.slice a0 fs.length cap) := (hB1.cell (p := ⟨w.heap.size, 1, none⟩) (by have := Hs0.out; simp only; omega)).trans Hk1.out
  have kf : w1.cell? ⟨w.heap.size + 1, 0, none⟩ = some (.int .i64 f) := (hB1.cell (p := ⟨w.heap.size + 1, 0, none⟩) (by have := Hs0.out; simp only; omega)).trans (box_cell Hbf.out).1
  have HF1 := hid (HF.out w1 hB)
  have HB := hid hB
  clear hB1 hB
  cases c1
  · go_wp2_with (go_at_call 95; refine HF1.out.mono ?_; rintro e w' ⟨rfl, rfl⟩)
    go_ret
    exact ⟨ret_bool (by rw [Hc.out]; rfl), HB.out⟩
  · go_wp2_with (go_at_call 95; refine HF1.out.mono ?_; rintro e w' ⟨rfl, rfl⟩)
    go_ret
    exact ⟨ret_bool (by rw [Hc.out]; cases c2 <;> rfl), HB.out⟩

end Go.Proofs.Ytgmapgaijncbeaa

/-! WaysBetween, the model's. -/
namespace Go.Proofs.Ytgmapgaijncbeaa
open Go.RowKit

/-- The ways by the first k faces below b. -/
def wsPart (ps : List Int) (n b : Nat) (a : Int) (k : Nat) : Int := (((belowR b 63).take k).map (gw ps n a)).sum
theorem wsPart_succ {ps : List Int} {n b : Nat} {a : Int} {k : Nat} (hk : k < (belowR b 63).length) : wsPart ps n b a (k + 1) = wsPart ps n b a k + gw ps n a ((belowR b 63)[k]?.getD 0) := by
  unfold wsPart
  rw [List.take_add_one, List.getElem?_eq_getElem hk]
  simp only [Option.toList_some, List.map_append, List.map_cons, List.map_nil, List.sum_append, List.sum_cons, List.sum_nil, Option.getD_some, Int.add_zero]
theorem wsPart_all {ps : List Int} {n b : Nat} (hb : b < 64) (a : Int) : wsPart ps n b a (belowR b 63).length = wsum ps n (b : Int) a := by
  unfold wsPart wsum
  rw [List.take_length, Int.toNat_natCast]
  have e := sides_below ⟨b, hb⟩
  simp only at e
  have e2 : (sidesF b).map (fun s => gw ps n a (s.val : Int)) = ((belowR b 63).map (gw ps n a)).reverse := by
    rw [← List.map_reverse, ← e, List.map_map]
    rfl
  rw [e2, int_sum_reverse]

set_option maxRecDepth 1000000 in
set_option maxHeartbeats 2000000 in
theorem between_any (a1 : Option Addr) (n cap : Nat) (ps : List Int) (b : Nat) (a : Int) (w : World) (hx : SlI w w.heap.size a1 ps) (hp : ps.length = 2 * n) (hl : n ≤ 1048576) (hh : HighsB ps n) (hc : NoCycle ps n) (hb : b < 64) :
    Calls Try.prog 64 #[.slice a1 n cap, .int .i64 (b : Int), .int .i64 a] w fun e w' => e = .returned (.int .i64 (wrap64 (wsum ps n (b : Int) a))) ∧ Below w.heap.size w w' := by
  have HN := hid (below_any b w hb)
  have HH := hid (fun y w' (h : Below w.heap.size w w') => ways_any a1 n cap ps a y w' (hx.later h h.size) hp hl hh hc)
  obtain ⟨E, hE⟩ : ∃ E, E = wsum ps n (b : Int) a := ⟨_, rfl⟩
  rw [← hE]
  have HE := hid (hE.trans (wsPart_all (ps := ps) (n := n) hb a).symm)
  obtain ⟨m, hm⟩ : ∃ m, m = (belowR b 63).length := ⟨_, rfl⟩
  have hml : m ≤ 63 := by rw [hm]; exact belowR_len _ _
  have Hm := hid hm
  rw [← hm] at HN HE
  clear hx hp hh hc hE hm
  go_enter Try.func64, Try.ntmps64
  go_wp2_with fail
  refine HN.out.mono ?_
  rintro e w1 ⟨v, rfl, hR, hB1⟩
  obtain ⟨hgb, av, cv, rfl, hs⟩ := ownsRow_slI hR
  have HS := hid hs
  have HB1 := hid hB1
  rw [← Hm.out]
  clear hR hs hgb hB1
  go_wp2_with fail
  go_loopw [8, 9] (fun t i wr => ∃ k : Nat, k ≤ m ∧ i = .int .i64 k ∧ t = .int .i64 (wrap64 (wsPart ps n b a k)) ∧ Below w1.heap.size w1 wr) (fun _ i _ => m - (intOf i).toNat)
  case atStart => exact ⟨0, Nat.zero_le _, rfl, by simp [wsPart, wrap64], Below.refl _ _⟩
  case round =>
    obtain ⟨k, hk, rfl, rfl, hB⟩ := hrel
    by_cases hlt : k < m
    · obtain ⟨y, hy⟩ : ∃ y, y = (belowR b 63)[k]?.getD 0 := ⟨_, rfl⟩
      obtain ⟨g, off, hgb, rfl, hcl⟩ : ∃ g off, g < w1.heap.size ∧ av = some ⟨g, off, none⟩ ∧ ∀ i, i < (belowR b 63).length → w1.cell? ⟨g, off + i, none⟩ = some (.int .i64 ((belowR b 63)[i]?.getD 0)) := by
        rcases HS.out with h | h
        · have := Hm.out; rw [h] at this; simp at this; omega
        · exact h
      have hck : wr.cell? ⟨g, off + k, none⟩ = some (.int .i64 y) := by rw [hy]; exact (hB.cell (p := ⟨g, off + k, none⟩) hgb).trans (hcl k (by have := Hm.out; omega))
      have HC := hid (HH.out y wr (HB1.out.trans (hB.mono HB1.out.size)))
      have hsum : Hid (wrap64 (wrap64 (wsPart ps n b a k) + wrap64 (gw ps n a y)) = wrap64 (wsPart ps n b a (k + 1))) := hid (by rw [wrap64_add, wsPart_succ (by have := Hm.out; omega), ← hy])
      have hi0 : (0 : Int) ≤ (k : Int) := by omega
      have hi1 : (k : Int) < (m : Int) := by omega
      have HB := hid hB
      clear hy hcl hB
      go_wp2_with fail
      refine HC.out.mono ?_
      rintro e w2 ⟨rfl, hB2⟩
      have HB2 := hid (HB.out.trans (hB2.mono HB.out.size))
      clear hB2
      go_wp2_with fail
      go_roundw
      case rel => exact ⟨k + 1, by omega, by go_num, congrArg (Value.int .i64) hsum.out, HB2.out⟩
      case measure => simp [intOf]; omega
    · obtain rfl : k = m := by omega
      go_wp2_with fail
      go_ret
      exact ⟨ret_int (by rw [HE.out]), HB1.out.trans (hB.mono HB1.out.size)⟩

theorem mem_critL {fs ps : List Int} {x : Int} : x ∈ critL fs ps ↔ critB fs ps x = true := by
  unfold critL critB
  simp

set_option maxRecDepth 1000000 in
set_option maxHeartbeats 2000000 in
theorem crit6_any (V : Int) (a0 : Option Addr) (cap : Nat) (fs : List Int) (a1 : Option Addr) (n cap1 : Nat) (ps : List Int) (f : Int) (w : World) (hx : SlI w w.heap.size a0 fs) (hx1 : SlI w w.heap.size a1 ps) (hl : fs.length ≤ 1048576) (hp : ps.length = 2 * n) (hn : n ≤ 1048576) :
    Calls Try.prog 103 #[.agg #[.int .i64 V, .slice a0 fs.length cap], .slice a1 n cap1, .int .i64 f] w fun e w' => e = .returned (.bool (critB fs ps f)) ∧ Below w.heap.size w w' := by
  have hB0 : Below w.heap.size w (w.alloc (.cells #[.int .i64 V, .slice a0 fs.length cap] 30)) := (Below.refl _ w).alloc (Nat.le_refl _) _
  have HN := hid (critS_any V a0 cap fs a1 n cap1 ps _ (hx.later hB0 hB0.size) (hx1.later hB0 hB0.size) hl hp hn)
  obtain ⟨E, hE⟩ : ∃ E, E = critB fs ps f := ⟨_, rfl⟩
  rw [← hE]
  have HE := hid hE
  obtain ⟨C, hC⟩ : ∃ C, C = critL fs ps := ⟨_, rfl⟩
  have hml : C.length ≤ 1048576 := by rw [hC]; exact Nat.le_trans (List.length_filter_le _ _) hl
  have HMem : Hid (f ∈ C ↔ critB fs ps f = true) := hid (by rw [hC]; exact mem_critL)
  rw [← hC] at HN
  have HB0 := hid hB0
  clear hx hx1 hp hE hC hB0
  go_enter Try.func103, Try.ntmps103
  go_wp2_with fail
  refine HN.out.mono ?_
  rintro e w1 ⟨v, rfl, hR⟩
  obtain ⟨_, av, cv, rfl, hs⟩ := ownsRow_slI hR.1
  have HS := hid hs
  have HB1 := hid (HB0.out.trans (hR.2.mono HB0.out.size))
  clear hR hs
  go_wp2_with fail
  go_loopw [8] (fun i wr => ∃ k : Nat, k ≤ C.length ∧ i = .int .i64 k ∧ Hid (f ∉ C.take k) ∧ wr = w1) (fun i _ => C.length - (intOf i).toNat)
  case atStart => exact ⟨0, Nat.zero_le _, rfl, hid (by simp), rfl⟩
  case round =>
    obtain ⟨k, hk, rfl, Hk, rfl⟩ := hrel
    by_cases hlt : k < C.length
    · obtain ⟨y, hy⟩ : ∃ y, y = C[k]?.getD 0 := ⟨_, rfl⟩
      obtain ⟨g, off, hgb, rfl, hcl⟩ : ∃ g off, g < wr.heap.size ∧ av = some ⟨g, off, none⟩ ∧ ∀ i, i < C.length → wr.cell? ⟨g, off + i, none⟩ = some (.int .i64 (C[i]?.getD 0)) := by
        rcases HS.out with h | h
        · rw [h] at hlt; simp at hlt
        · exact h
      have hck : wr.cell? ⟨g, off + k, none⟩ = some (.int .i64 y) := by rw [hy]; exact hcl k hlt
      have hi0 : (0 : Int) ≤ (k : Int) := by omega
      have hi1 : (k : Int) < (C.length : Int) := by omega
      have Hy := hid hy
      clear hcl hy
      by_cases hyf : y = f
      · have hd : (y == f) = true := by simp [hyf]
        have He : Hid (E = true) := hid (by rw [HE.out]; exact HMem.out.1 (by rw [← hyf, Hy.out]; exact getD_mem hlt))
        clear hyf
        go_wp2_with fail
        go_ret
        exact ⟨ret_bool (by rw [He.out]), HB1.out⟩
      · have hd : (y == f) = false := by simp [hyf]
        have He : Hid (f ∉ C.take (k + 1)) := hid (by
          rw [take_snoc hlt, ← Hy.out]
          intro h
          rcases List.mem_append.1 h with h | h
          · exact Hk.out h
          · simp at h; exact hyf h.symm)
        clear hyf
        go_wp2_with fail
        go_roundw
        case rel => exact ⟨k + 1, by omega, by go_num, He, by first | rfl | trivial⟩
        case measure => simp [intOf]; omega
    · have He : Hid (E = false) := hid (by
        have h2 := Hk.out
        rw [List.take_of_length_le (by omega)] at h2
        rw [HE.out]
        cases h3 : critB fs ps f
        · rfl
        · exact absurd (HMem.out.2 h3) h2)
      go_wp2_with fail
      go_ret
      exact ⟨ret_bool (by rw [He.out]), HB1.out⟩

/-- b and a are critical faces, b of one dimension more. -/
def suchB (fs ps : List Int) (b a : Int) : Bool := critB fs ps b && (critB fs ps a && decide (ones b.toNat = ones a.toNat + 1))
noncomputable def givenR (V : Int) (fs : List Int) (n : Nat) (ps : List Int) (b a : Int) : Int := if pcodeR V fs n ps = 0 then (if suchB fs ps b a then (if acyB ps n then 0 else 5) else 2) else pcodeR V fs n ps
noncomputable def waysBR (V : Int) (fs : List Int) (n : Nat) (ps : List Int) (b a : Int) : Int × Int := if givenR V fs n ps b a = 0 then (wrap64 (wsum ps n b a), 0) else (0, givenR V fs n ps b a)

set_option maxRecDepth 1000000 in
set_option maxHeartbeats 4000000 in
theorem given_any (V : Int) (a0 : Option Addr) (cap : Nat) (fs : List Int) (a1 : Option Addr) (n cap1 : Nat) (ps : List Int) (b a : Int) (w : World) (hx : SlI w w.heap.size a0 fs) (hx1 : SlI w w.heap.size a1 ps) (hl : fs.length ≤ 1048576) (hp : ps.length = 2 * n) (hn : n ≤ 1048576) :
    Calls Try.prog 63 #[.agg #[.int .i64 V, .slice a0 fs.length cap], .slice a1 n cap1, .int .i64 b, .int .i64 a] w fun e w' => e = .returned (.int .i64 (givenR V fs n ps b a)) ∧ Below w.heap.size w w' := by
  have hB0 : Below w.heap.size w (w.alloc (.cells #[.int .i64 V, .slice a0 fs.length cap] 30)) := (Below.refl _ w).alloc (Nat.le_refl _) _
  have HK := hid (pcode_spec V a0 cap fs a1 n cap1 ps _ (hx.later hB0 hB0.size) (hx1.later hB0 hB0.size) hl hp hn)
  have HB0 := hid hB0
  obtain ⟨E, hE⟩ : ∃ E, E = givenR V fs n ps b a := ⟨_, rfl⟩
  rw [← hE]
  by_cases hpc : pcodeR V fs n ps = 0
  · have hCO : IsC V fs ∧ OkTo fs ps n := by
      rcases pcode_cases V fs n ps with ⟨hC, ho, _⟩ | ⟨_, _, h2, _⟩ | ⟨_, h2, _⟩
      · exact ⟨hC, ho⟩
      · rw [h2] at hpc; cases hpc
      · rw [h2] at hpc; cases hpc
    have hE1 : E = if suchB fs ps b a then (if acyB ps n then 0 else 5) else 2 := by rw [hE, givenR, if_pos hpc]
    rw [hpc] at HK
    have HCb := hid (fun w1 (h : Below w.heap.size w w1) => crit6_any V a0 cap fs a1 n cap1 ps b w1 (hx.later h h.size) (hx1.later h h.size) hl hp hn)
    have HCa := hid (fun w1 (h : Below w.heap.size w w1) => crit6_any V a0 cap fs a1 n cap1 ps a w1 (hx.later h h.size) (hx1.later h h.size) hl hp hn)
    have HA := hid (fun w1 (h : Below w.heap.size w w1) => acyclicS_any a1 n cap1 ps w1 (hx1.later h h.size) hp hn (okTo_highs hCO.1 hCO.2) (okTo_lows hCO.1 hCO.2))
    have Hr := hid hCO.1.range63
    clear hx hx1 hp hpc hCO hE hB0
    have Hm := hid (fun f (h : critB fs ps f = true) => (show f ∈ fs by unfold critB at h; simp at h; exact h.1))
    cases hcb : critB fs ps b
    · have He : Hid (E = 2) := hid (by rw [hE1, if_neg (by unfold suchB; rw [hcb]; simp)])
      rw [hcb] at HCb
      clear hE1 hcb
      go_enter Try.func63, Try.ntmps63
      go_wp2_with (first
        | (go_at_call 54; refine HK.out.mono ?_; rintro e w1 ⟨rfl, hB1⟩; have HB1 := hid (HB0.out.trans (hB1.mono (by simp))); have k0 : w1.cell? ⟨w.heap.size, 0, none⟩ = some (.int .i64 V) := (hB1.cell (p := ⟨w.heap.size, 0, none⟩) (by simp)).trans (by simp [go_sem]); have k1 : w1.cell? ⟨w.heap.size, 1, none⟩ = some (.slice a0 fs.length cap) := (hB1.cell (p := ⟨w.heap.size, 1, none⟩) (by simp)).trans (by simp [go_sem]); have hs1 : w.heap.size < w1.heap.size := (by have := hB1.size; simp at this; omega); have HCb1 := hid (HCb.out w1 HB1.out); clear hB1)
        | (go_at_call 103; refine HCb1.out.mono ?_; rintro e w2 ⟨rfl, hB2⟩; have m0 := (hB2.cell (p := ⟨w.heap.size, 0, none⟩) hs1).trans k0; have m1 := (hB2.cell (p := ⟨w.heap.size, 1, none⟩) hs1).trans k1; have HB2 := hid (HB1.out.trans (hB2.mono HB1.out.size)); have HCa2 := hid (HCa.out w2 HB2.out); clear hB2 k0 k1 HCb1))
      go_ret
      exact ⟨ret_int (by rw [He.out]), HB2.out⟩
    · cases hca : critB fs ps a
      · have He : Hid (E = 2) := hid (by rw [hE1, if_neg (by unfold suchB; rw [hca]; simp)])
        rw [hcb] at HCb
        rw [hca] at HCa
        clear hE1 hcb hca
        go_enter Try.func63, Try.ntmps63
        go_wp2_with (first
          | (go_at_call 54; refine HK.out.mono ?_; rintro e w1 ⟨rfl, hB1⟩; have HB1 := hid (HB0.out.trans (hB1.mono (by simp))); have k0 : w1.cell? ⟨w.heap.size, 0, none⟩ = some (.int .i64 V) := (hB1.cell (p := ⟨w.heap.size, 0, none⟩) (by simp)).trans (by simp [go_sem]); have k1 : w1.cell? ⟨w.heap.size, 1, none⟩ = some (.slice a0 fs.length cap) := (hB1.cell (p := ⟨w.heap.size, 1, none⟩) (by simp)).trans (by simp [go_sem]); have hs1 : w.heap.size < w1.heap.size := (by have := hB1.size; simp at this; omega); have HCb1 := hid (HCb.out w1 HB1.out); clear hB1)
          | (go_at_call 103; refine HCa2.out.mono ?_; rintro e w3 ⟨rfl, hB3⟩; have HB3 := hid (HB2.out.trans (hB3.mono HB2.out.size)); have HA3 := hid (HA.out w3 HB3.out); clear hB3 m0 m1 HCa2) | (go_at_call 103; refine HCb1.out.mono ?_; rintro e w2 ⟨rfl, hB2⟩; have m0 := (hB2.cell (p := ⟨w.heap.size, 0, none⟩) hs1).trans k0; have m1 := (hB2.cell (p := ⟨w.heap.size, 1, none⟩) hs1).trans k1; have HB2 := hid (HB1.out.trans (hB2.mono HB1.out.size)); have HCa2 := hid (HCa.out w2 HB2.out); clear hB2 k0 k1 HCb1))
        go_ret
        exact ⟨ret_int (by rw [He.out]), HB3.out⟩
      · obtain ⟨bn, rfl⟩ : ∃ bn : Nat, b = (bn : Int) := ⟨b.toNat, by have := Hr.out b (Hm.out b hcb); omega⟩
        obtain ⟨an, rfl⟩ : ∃ an : Nat, a = (an : Int) := ⟨a.toNat, by have := Hr.out a (Hm.out a hca); omega⟩
        have hbn : bn < 64 := by have := Hr.out _ (Hm.out _ hcb); omega
        have han : an < 64 := by have := Hr.out _ (Hm.out _ hca); omega
        have hob := ones_le bn
        have hoa := ones_le an
        by_cases hones : ones bn = ones an + 1
        · have hs : suchB fs ps (bn : Int) (an : Int) = true := by unfold suchB; rw [hcb, hca]; simp [hones]
          rw [hcb] at HCb
          rw [hca] at HCa
          rw [if_pos hs] at hE1
          have hon : ((ones bn : Int) != (ones an : Int) + 1) = false := by simp; omega
          cases hac : acyB ps n
          · have He : Hid (E = 5) := hid (by rw [hE1, hac]; simp)
            rw [hac] at HA
            clear hE1 hcb hca hs hones hac
            go_enter Try.func63, Try.ntmps63
            go_wp2_with (first
              | (go_at_call 54; refine HK.out.mono ?_; rintro e w1 ⟨rfl, hB1⟩; have HB1 := hid (HB0.out.trans (hB1.mono (by simp))); have k0 : w1.cell? ⟨w.heap.size, 0, none⟩ = some (.int .i64 V) := (hB1.cell (p := ⟨w.heap.size, 0, none⟩) (by simp)).trans (by simp [go_sem]); have k1 : w1.cell? ⟨w.heap.size, 1, none⟩ = some (.slice a0 fs.length cap) := (hB1.cell (p := ⟨w.heap.size, 1, none⟩) (by simp)).trans (by simp [go_sem]); have hs1 : w.heap.size < w1.heap.size := (by have := hB1.size; simp at this; omega); have HCb1 := hid (HCb.out w1 HB1.out); clear hB1)
              | (go_at_call 103; refine HCa2.out.mono ?_; rintro e w3 ⟨rfl, hB3⟩; have HB3 := hid (HB2.out.trans (hB3.mono HB2.out.size)); have HA3 := hid (HA.out w3 HB3.out); clear hB3 m0 m1 HCa2) | (go_at_call 103; refine HCb1.out.mono ?_; rintro e w2 ⟨rfl, hB2⟩; have m0 := (hB2.cell (p := ⟨w.heap.size, 0, none⟩) hs1).trans k0; have m1 := (hB2.cell (p := ⟨w.heap.size, 1, none⟩) hs1).trans k1; have HB2 := hid (HB1.out.trans (hB2.mono HB1.out.size)); have HCa2 := hid (HCa.out w2 HB2.out); clear hB2 k0 k1 HCb1)
              | (go_at_call 104; refine (ones_any _ _ (by assumption)).mono ?_; rintro e w' ⟨rfl, rfl⟩)
              | (go_at_call 55; refine HA3.out.mono ?_; rintro e w4 ⟨rfl, hB4⟩; have HB4 := hid (HB3.out.trans (hB4.mono HB3.out.size)); clear hB4))
            go_ret
            exact ⟨ret_int (by rw [He.out]), HB4.out⟩
          · have He : Hid (E = 0) := hid (by rw [hE1, hac]; simp)
            rw [hac] at HA
            clear hE1 hcb hca hs hones hac
            go_enter Try.func63, Try.ntmps63
            go_wp2_with (first
              | (go_at_call 54; refine HK.out.mono ?_; rintro e w1 ⟨rfl, hB1⟩; have HB1 := hid (HB0.out.trans (hB1.mono (by simp))); have k0 : w1.cell? ⟨w.heap.size, 0, none⟩ = some (.int .i64 V) := (hB1.cell (p := ⟨w.heap.size, 0, none⟩) (by simp)).trans (by simp [go_sem]); have k1 : w1.cell? ⟨w.heap.size, 1, none⟩ = some (.slice a0 fs.length cap) := (hB1.cell (p := ⟨w.heap.size, 1, none⟩) (by simp)).trans (by simp [go_sem]); have hs1 : w.heap.size < w1.heap.size := (by have := hB1.size; simp at this; omega); have HCb1 := hid (HCb.out w1 HB1.out); clear hB1)
              | (go_at_call 103; refine HCa2.out.mono ?_; rintro e w3 ⟨rfl, hB3⟩; have HB3 := hid (HB2.out.trans (hB3.mono HB2.out.size)); have HA3 := hid (HA.out w3 HB3.out); clear hB3 m0 m1 HCa2) | (go_at_call 103; refine HCb1.out.mono ?_; rintro e w2 ⟨rfl, hB2⟩; have m0 := (hB2.cell (p := ⟨w.heap.size, 0, none⟩) hs1).trans k0; have m1 := (hB2.cell (p := ⟨w.heap.size, 1, none⟩) hs1).trans k1; have HB2 := hid (HB1.out.trans (hB2.mono HB1.out.size)); have HCa2 := hid (HCa.out w2 HB2.out); clear hB2 k0 k1 HCb1)
              | (go_at_call 104; refine (ones_any _ _ (by assumption)).mono ?_; rintro e w' ⟨rfl, rfl⟩)
              | (go_at_call 55; refine HA3.out.mono ?_; rintro e w4 ⟨rfl, hB4⟩; have HB4 := hid (HB3.out.trans (hB4.mono HB3.out.size)); clear hB4))
            go_ret
            exact ⟨ret_int (by rw [He.out]), HB4.out⟩
        · have He : Hid (E = 2) := hid (by rw [hE1, if_neg (by unfold suchB; simp [hones])])
          rw [hcb] at HCb
          rw [hca] at HCa
          have hon : ((ones bn : Int) != (ones an : Int) + 1) = true := by simp; omega
          clear hE1 hcb hca hones
          go_enter Try.func63, Try.ntmps63
          go_wp2_with (first
            | (go_at_call 54; refine HK.out.mono ?_; rintro e w1 ⟨rfl, hB1⟩; have HB1 := hid (HB0.out.trans (hB1.mono (by simp))); have k0 : w1.cell? ⟨w.heap.size, 0, none⟩ = some (.int .i64 V) := (hB1.cell (p := ⟨w.heap.size, 0, none⟩) (by simp)).trans (by simp [go_sem]); have k1 : w1.cell? ⟨w.heap.size, 1, none⟩ = some (.slice a0 fs.length cap) := (hB1.cell (p := ⟨w.heap.size, 1, none⟩) (by simp)).trans (by simp [go_sem]); have hs1 : w.heap.size < w1.heap.size := (by have := hB1.size; simp at this; omega); have HCb1 := hid (HCb.out w1 HB1.out); clear hB1)
            | (go_at_call 103; refine HCa2.out.mono ?_; rintro e w3 ⟨rfl, hB3⟩; have HB3 := hid (HB2.out.trans (hB3.mono HB2.out.size)); have HA3 := hid (HA.out w3 HB3.out); clear hB3 m0 m1 HCa2) | (go_at_call 103; refine HCb1.out.mono ?_; rintro e w2 ⟨rfl, hB2⟩; have m0 := (hB2.cell (p := ⟨w.heap.size, 0, none⟩) hs1).trans k0; have m1 := (hB2.cell (p := ⟨w.heap.size, 1, none⟩) hs1).trans k1; have HB2 := hid (HB1.out.trans (hB2.mono HB1.out.size)); have HCa2 := hid (HCa.out w2 HB2.out); clear hB2 k0 k1 HCb1)
            | (go_at_call 104; refine (ones_any _ _ (by assumption)).mono ?_; rintro e w' ⟨rfl, rfl⟩))
          go_ret
          exact ⟨ret_int (by rw [He.out]), HB3.out⟩
  · have hE1 : E = pcodeR V fs n ps := by rw [hE, givenR, if_neg hpc]
    rw [← hE1] at hpc HK
    have hcn : (E == 0) = false := by simpa using hpc
    clear hx hx1 hp hpc hE hE1 hB0
    go_enter Try.func63, Try.ntmps63
    go_wp2_with fail
    refine HK.out.mono ?_
    rintro e w1 ⟨rfl, hB1⟩
    go_wp2_with fail
    go_ret
    exact ⟨rfl, HB0.out.trans (hB1.mono (by simp))⟩

theorem given_zero {V : Int} {fs : List Int} {n : Nat} {ps : List Int} {b a : Int} (h : givenR V fs n ps b a = 0) : pcodeR V fs n ps = 0 ∧ suchB fs ps b a = true ∧ NoCycle ps n := by
  unfold givenR at h
  split at h
  · rename_i hp
    split at h
    · rename_i hs
      split at h
      · rename_i ha
        refine ⟨hp, hs, Classical.byContradiction fun hn => ?_⟩
        rw [acyB_false hn] at ha
        cases ha
      · cases h
    · cases h
  · rename_i hp
    exact absurd h hp
theorem such_lt {fs ps : List Int} {b a : Int} (hr : ∀ x ∈ fs, 1 ≤ x ∧ x ≤ 63) (h : suchB fs ps b a = true) : (∃ bn : Nat, b = (bn : Int) ∧ bn < 64) ∧ (0 ≤ a ∧ a < 64) := by
  unfold suchB critB at h
  simp at h
  have h1 := hr _ h.1.1
  have h2 := hr _ h.2.1.1
  exact ⟨⟨b.toNat, by omega, by omega⟩, by omega, by omega⟩

set_option maxRecDepth 1000000 in
set_option maxHeartbeats 2000000 in
theorem specWaysBetween (V : Int) (a0 : Option Addr) (cap : Nat) (fs : List Int) (a1 : Option Addr) (n cap1 : Nat) (ps : List Int) (b a : Int) (w : World) (hx : SlI w w.heap.size a0 fs) (hx1 : SlI w w.heap.size a1 ps) (hl : fs.length ≤ 1048576) (hp : ps.length = 2 * n) (hn : n ≤ 1048576) (_hw : ∀ x ∈ ps, (Lit.int .i64 x).wf = true) (_wb : (Lit.int .i64 b).wf = true) (_wa : (Lit.int .i64 a).wf = true) :
    Calls Try.prog 29 #[.agg #[.int .i64 V, .slice a0 fs.length cap], .slice a1 n cap1, .int .i64 b, .int .i64 a] w fun e w' => e = .returned (.tuple #[.int .i64 (waysBR V fs n ps b a).1, .int .i64 (waysBR V fs n ps b a).2]) ∧ Below w.heap.size w w' := by
  have hB0 : Below w.heap.size w (w.alloc (.cells #[.int .i64 V, .slice a0 fs.length cap] 30)) := (Below.refl _ w).alloc (Nat.le_refl _) _
  have HG := hid (given_any V a0 cap fs a1 n cap1 ps b a _ (hx.later hB0 hB0.size) (hx1.later hB0 hB0.size) hl hp hn)
  have HB0 := hid hB0
  by_cases h0 : givenR V fs n ps b a = 0
  · obtain ⟨hpc, hs, hac⟩ := given_zero h0
    have hCO : IsC V fs ∧ OkTo fs ps n := by
      rcases pcode_cases V fs n ps with ⟨hC, ho, _⟩ | ⟨_, _, h2, _⟩ | ⟨_, h2, _⟩
      · exact ⟨hC, ho⟩
      · rw [h2] at hpc; cases hpc
      · rw [h2] at hpc; cases hpc
    refine num_mono3 (show waysBR V fs n ps b a = (wrap64 (wsum ps n b a), 0) by rw [waysBR, if_pos h0]) ?_
    obtain ⟨⟨bn, rfl, hbn⟩, _⟩ := such_lt hCO.1.range63 hs
    have HW := hid (fun w1 (h : Below w.heap.size w w1) => between_any a1 n cap1 ps bn a w1 (hx1.later h h.size) hp hn (okTo_highs hCO.1 hCO.2) hac hbn)
    rw [h0] at HG
    clear hx hx1 h0 hpc hCO hp hac hs hB0
    go_enter Try.func29, Try.ntmps29
    go_wp2_with fail
    refine HG.out.mono ?_
    rintro e w1 ⟨rfl, hB1⟩
    have HB1 := hid (HB0.out.trans (hB1.mono (by simp)))
    clear hB1
    go_wp2_with fail
    refine (HW.out w1 HB1.out).mono ?_
    rintro e w2 ⟨rfl, hB2⟩
    have HB2 := hid (HB1.out.trans (hB2.mono HB1.out.size))
    clear hB2
    go_wp2_with fail
    go_ret2
    exact ⟨rfl, HB2.out⟩
  · obtain ⟨c, hc⟩ : ∃ c, c = givenR V fs n ps b a := ⟨_, rfl⟩
    refine num_mono3 (show waysBR V fs n ps b a = (0, c) by rw [waysBR, if_neg h0, hc]) ?_
    rw [← hc] at h0 HG
    have hcn : (c != 0) = true := by simpa using h0
    clear hc hp h0 hx hx1 hB0
    go_enter Try.func29, Try.ntmps29
    go_wp2_with fail
    refine HG.out.mono ?_
    rintro e w1 ⟨rfl, hB1⟩
    go_wp2_with fail
    go_ret2
    exact ⟨rfl, HB0.out.trans (hB1.mono (by simp))⟩

end Go.Proofs.Ytgmapgaijncbeaa

/-! waysFrom, walked. -/
namespace Go.Proofs.Ytgmapgaijncbeaa
open Go.RowKit Go.Shelf

attribute [local go_sem] Oper.semAt_some

theorem CntM.same {W W' : World} {b N : Nat} {f : Int → Int} (h : CntM W b N f) (he : W'.heap[b]? = W.heap[b]?) : CntM W' b N f := by
  obtain ⟨D, h0, ⟨es, clock, hb, rest⟩, h2⟩ := h
  exact ⟨D, h0, ⟨es, clock, he.trans hb, rest⟩, h2⟩
theorem keepB_ownIn {β : Type} {Bs : List Nat} {lo k lo' k' : Nat} {W0 : World} (h0 : lo + k ≤ W0.heap.size) (hB : ∀ q ∈ Bs, q < W0.heap.size) (h1 : lo + k ≤ lo') (hB1 : ∀ q ∈ Bs, q < lo') : OwnIn lo' k' (fun (_ : β) W => KeepP Bs lo k W0 W) := by
  intro s A C row h hg hr
  refine h.trans ⟨hg.size, fun r hr2 => hg.block r ?_ (fun e => ?_)⟩
  · have := h.size
    rcases hr2 with h2 | h2
    · have := hB r h2; omega
    · omega
  · have := (hr r e.symm).1
    rcases hr2 with h2 | h2
    · have := hB1 r h2; omega
    · omega
theorem lows_ownIn {β : Type} {M n m : Nat} {ps : List Int} {lo k : Nat} (h0 : M < lo) : OwnIn lo k (fun (_ : β) W => W.ownsMap Try.prog 2 pairElem M n (lowsD ps m)) := by
  intro s A C row h hg hr
  exact h.kept hg (fun e => by have := (hr _ e.symm).1; omega)
theorem SeqStopsP.inRound {α : Type} {F : Fence} {n : Nat} {P : Program} {g : Nat} {lb : Array Value} {encs : α → Array Value} {Bs : List Nat} {k : Nat} {L : List α} {w0 : World} (l : Nat) (h : SeqStopsP F n P g lb encs Bs k L w0) : SeqStopsP (F.inRound l) n P g lb encs Bs k L w0 := h

theorem downL_prefix {n i : Nat} {pre : List Nat} (h : pre ++ [i] <+: downL n) : pre.length < n ∧ i = n - 1 - pre.length := by
  have hl := h.length_le
  rw [downL_len] at hl
  simp at hl
  refine ⟨by omega, ?_⟩
  have h1 := List.prefix_iff_eq_take.1 h
  have h2 : (pre ++ [i]).length = pre.length + 1 := by simp
  rw [h2, downL_take (by omega)] at h1
  have h3 := List.append_inj' h1 rfl
  simpa using h3.2

set_option maxRecDepth 1000000 in
set_option maxHeartbeats 4000000 in
theorem wfrom_in (a1 : Option Addr) (n cap1 : Nat) (qs : List Int) (b : Nat) (w : World) (hx1 : SlI w w.heap.size a1 qs) (hp : qs.length = 2 * n) (hn : n ≤ 1048576) (hw : ∀ x ∈ qs, (Lit.int .i64 x).wf = true) (hd : LowsApart qs n) (hh : HighsB qs n) (hO : OrdQ qs n) (hlo : ∀ i, i < n → 0 ≤ at0 qs (i * 2) ∧ at0 qs (i * 2) < 64) (hb : b < 64) :
    CallsIn Fence.wide 20 Try.prog 68 #[.slice a1 n cap1, .int .i64 (b : Int)] w fun e w' => ∃ N f, e = .returned (.map (some w.heap.size)) ∧ CntM w' w.heap.size N f ∧ (∀ a, 0 ≤ a → a < 64 → f a = wrap64 (wsum qs n (b : Int) a)) ∧ Below w.heap.size w w' := by
  have HLw := hid (fun w1 (hb : Below w.heap.size w w1) => lows_any a1 n cap1 qs w1 (hx1.later hb hb.size) hp hn hw)
  have Hy := hid hx1
  have Hp := hid hp
  have Hw := hid hw
  have HD := hid hd
  have HH := hid hh
  have HO := hid hO
  have Hlo := hid hlo
  have hmm := @run_makeMap Try.prog
  clear hx1 hp hw hd hh hO hlo
  refine callsIn_of_wp_marks Try.func68 rfl trivial ?_ rfl
  simp only [Try.ntmps68, List.size_toArray, List.length_cons, List.length_nil, Nat.reduceAdd, Nat.reduceSub, Array.replicate_succ, Array.replicate_zero, List.push_toArray, List.append_toArray, List.nil_append, List.cons_append]
  gi_wp2_with (first
    | (refine ⟨trivial, ?_⟩; gi_at_call 102; refine (sides_in _ _ _).mono ?_; rintro e w' ⟨rfl, rfl⟩))
  obtain ⟨W0, hW0⟩ : ∃ W0, W0 = ((w.alloc (.map #[] 0)).alloc (.cells #[.map (some w.heap.size)] 81)).alloc (.cells #[.int .i64 (b : Int)] 2) := ⟨_, rfl⟩
  have hs0 : W0.heap.size = w.heap.size + 3 := by rw [hW0]; simp
  have hbb : W0.heap[w.heap.size + 1 + 1]? = some (.cells #[.int .i64 (b : Int)] 2 (0, 0)) := by
    have := heap_alloc_new ((w.alloc (.map #[] 0)).alloc (.cells #[.map (some w.heap.size)] 81)) (.cells #[.int .i64 (b : Int)] 2)
    rw [World.size_alloc, World.size_alloc] at this
    rw [hW0]
    exact this
  have H0 : Hid (GwW w W0 0 (sideU []) []) := by
    have e3 := heap_alloc_new (w.alloc (.map #[] 0)) (.cells #[.map (some w.heap.size)] 81)
    rw [World.size_alloc] at e3
    rw [hW0]
    exact hid {
      below := (((Below.refl _ w).alloc (Nat.le_refl _) _).alloc (by simp) _).alloc (by simp; omega) _
      cnt := ((CntM.made w).alloc _).alloc _
      b1 := (Below.heap_alloc _ _ _ (by simp)).trans e3
      nodup := by simp
      marks := by simp }
  rw [← hW0]
  clear hW0 hmm
  refine wpIn_rangeFunc_P rfl (by decide) (gf := 146) (lb := #[.pointer (some ⟨w.heap.size + 1 + 1, 0, none⟩)]) rfl trivial (enters_of Try.func146 (by kernel_rfl) rfl)
    (sides_P 19 (by decide) (w.heap.size + 1 + 1) b hb W0 (by omega) hbb) (by simp; omega) (Below.refl _ _) (fun _ => rfl)
    (fun pre W' => GwW w W' pre.length (sideU pre) [])
    (fun _ _ _ => False)
    (gw_ownIn (by omega) (by simp))
    (fun _ => ownIn_pure _ _ _)
    H0.out
    (fun z => { tmps := List.toArray ((.slice a1 n cap1) :: (.int .i64 (b : Int)) :: (undef) :: (undef) :: (.map none) :: (.pointer (some ⟨w.heap.size + 1, 0, none⟩)) :: (.int .i64 (z.val : Int)) :: (undef) :: (undef) :: (undef) :: (undef) :: (.map (some w.heap.size)) :: (.int .i64 (b : Int)) :: (.func (.func 146) #[] #[.pointer (some ⟨w.heap.size + 1 + 1, 0, none⟩)]) :: (.int .i64 (z.val : Int)) :: (undef) :: (undef) :: (undef) :: (undef) :: (undef) :: (undef) :: (undef) :: (undef) :: (undef) :: (undef) :: (undef) :: (undef) :: (undef) :: (undef) :: (undef) :: (undef) :: (undef) :: (undef) :: (undef) :: (undef) :: (undef) :: (undef) :: []), defers := [] }) ?assign ?body ?done ?stop
  case assign =>
    intro l z W4 K hK
    gi_wp2
    exact hK
  case body =>
    rintro l pre z W4 hpre hsz4 hS
    have hzw : (Lit.int .i64 (z.val : Int)).wf = true := WalkArith.wf_i64 (by have := z.isLt; omega)
    have hpl : pre.length + 1 ≤ 6 := by
      have h1 := hpre.length_le
      have h2 : (sidesF b).length ≤ 6 := sides_len b 6
      simp at h1
      omega
    have q1 : W4.cell? ⟨w.heap.size + 1, 0, none⟩ = some (.map (some w.heap.size)) := (box_cell hS.b1).1
    obtain ⟨W5, hrun5, hc5, hg5, hs5⟩ := hS.cnt.update (show pre.length < maxLen by unfold maxLen; omega) hzw (show (Lit.int .i64 1).wf = true by decide)
    have hS5 := hS.put hc5 hg5
    rw [sideU_snoc] at hS5
    have HS5 := hid hS5
    have Hg5 := hid hg5
    clear hS hS5 hc5 hg5 hzw hbb H0
    gi_wp2
    refine ⟨⟨Hg5.out.size, fun r hr => ?_⟩, ?_⟩
    · rcases hr with h | h
      · simp at h
        subst h
        exact Hg5.out.block _ (by omega) (fun e => by injection e with e; omega)
      · exact Hg5.out.block r (by omega) (fun e => by injection e with e; omega)
    · show GwW w W5 (pre ++ [z]).length (sideU (pre ++ [z])) []
      have e : (pre ++ [z]).length = pre.length + 1 := by simp
      rw [e]
      exact HS5.out
  case stop =>
    rintro c pre W4 hpre hF hD4
    exact hF.elim
  case done =>
    rintro W4 hS hD4
    have hS4 := (hS.mark hD4 (by omega) (by simp)).mono (show (sidesF b).length ≤ 6 from sides_len b 6)
    have hsz4 := hS4.size
    rw [hs0] at hS4
    have HS4 := hid hS4
    clear hS hS4 hD4 hbb H0
    gi_wp2_with (first
      | (refine ⟨trivial, ?_⟩; gi_at_call 60; refine (callsIn_wide.2 (HLw.out _ HS4.out.below)).mono ?_; rintro e w5 ⟨rfl, hown, hB5⟩)
      | (refine ⟨trivial, ?_⟩; gi_at_call 108; refine (backward_in _ _ _ _ _).mono ?_; rintro e w' ⟨rfl, rfl⟩))
    have hMl : W4.heap.size < w5.heap.size := hown.lt
    obtain ⟨W6, hW6⟩ : ∃ W6, W6 = (w5.alloc (.cells #[.map (some W4.heap.size)] 69)).alloc (.cells #[.slice a1 n cap1] 32) := ⟨_, rfl⟩
    have hs6 : W6.heap.size = w5.heap.size + 2 := by rw [hW6]; simp
    have hlb6 : W6.heap[w5.heap.size]? = some (.cells #[.map (some W4.heap.size)] 69 (0, 0)) := by rw [hW6]; exact (Below.heap_alloc _ _ _ (by simp)).trans (heap_alloc_new _ _)
    have hsb6 : W6.heap[w5.heap.size + 1]? = some (.cells #[.slice a1 n cap1] 32 (0, 0)) := by
      have := heap_alloc_new (w5.alloc (.cells #[.map (some W4.heap.size)] 69)) (.cells #[.slice a1 n cap1] 32)
      rw [World.size_alloc] at this
      rw [hW6]
      exact this
    have hown6 : W6.ownsMap Try.prog 2 pairElem W4.heap.size n (lowsD qs n) := by rw [hW6]; exact (hown.alloc _).alloc _
    have hG6 : GwW w W6 6 (sideU (sidesF b)) [w.heap.size + 3] := by
      rw [hW6]
      exact ((HS4.out.turn (row := none) ⟨hB5.os, hB5.tape, hB5.output, hB5.size, fun k hk _ => hB5.block k hk⟩ (fun r e => by cases e)).alloc _).alloc _
    obtain ⟨lb, off, hlbs, hlbn, hcl⟩ : ∃ lb off, lb < W6.heap.size ∧ lb ≠ w.heap.size ∧ (n = 0 ∨ (a1 = some ⟨lb, off, none⟩ ∧ ∀ i, i < 2 * n → W6.cell? ⟨lb, off + i, none⟩ = some (.int .i64 (at0 qs i)))) := by
      rcases Hy.out with h | ⟨lb, off, h1, h2, h3⟩
      · refine ⟨w.heap.size + 1, 0, by omega, by omega, .inl ?_⟩
        have := Hp.out
        rw [h] at this
        simp at this
        omega
      · refine ⟨lb, off, by omega, by omega, .inr ⟨h2, fun i hi => ?_⟩⟩
        exact (hG6.below.cell (p := ⟨lb, off + i, none⟩) h1).trans (h3 i (by have := Hp.out; omega))
    have HG6 := hid hG6
    rw [← hW6]
    clear hW6 hG6 hown HS4 HLw hB5 Hy
    refine wpIn_rangeFunc_PH rfl (by decide) (gf := 148) (lb := #[.pointer (some ⟨w5.heap.size + 1, 0, none⟩)]) rfl trivial (enters_of Try.func148 (by kernel_rfl) rfl)
      (backward_P 19 (by decide) (w5.heap.size + 1) lb off n cap1 a1 qs W6 hsb6 hlbs hn hcl) (by simp; omega) (Below.refl _ _) (fun _ => rfl)
      (fun pre W' => (∃ u, GwW w W' (64 + 64 * pre.length) (fun x => wrap64 (u x)) [w.heap.size + 3] ∧ ∀ a, totW (wtK qs n a pre.length) u = wsum qs n (b : Int) a) ∧ W'.heap[w5.heap.size]? = some (.cells #[.map (some W4.heap.size)] 69 (0, 0)) ∧ W'.ownsMap Try.prog 2 pairElem W4.heap.size n (lowsD qs n))
      (fun _ _ _ => False)
      (OwnIn.and (fun s A B row ⟨u, h1, h2⟩ hg hr => ⟨u, gw_ownIn (β := Unit) (N := fun _ => 64 + 64 * s.length) (f := fun _ x => wrap64 (u x)) (by omega) (by intro D hD; simp at hD; omega) () A B row h1 hg hr, h2⟩) (OwnIn.and (ownIn_block (β := List Nat) (fun _ => _) (by omega)) (lows_ownIn (by omega))))
      (fun _ => ownIn_pure _ _ _)
      ⟨⟨sideU (sidesF b), ?_, fun a => wsum_start hb a⟩, hlb6, hown6⟩
      (fun i => .cells #[.int .i64 (at0 qs (i * 2)), .int .i64 (at0 qs (i * 2 + 1))] 56)
      (fun i bx => { tmps := List.toArray ((.slice a1 n cap1) :: (.int .i64 (b : Int)) :: (undef) :: (undef) :: (.map none) :: (.pointer (some ⟨w.heap.size + 1, 0, none⟩)) :: (undef) :: (.pointer (some ⟨w5.heap.size, 0, none⟩)) :: (undef) :: (.pointer (some ⟨bx, 0, none⟩)) :: (undef) :: (.map (some w.heap.size)) :: (.int .i64 (b : Int)) :: (.func (.func 146) #[] #[.pointer (some ⟨w.heap.size + 1 + 1, 0, none⟩)]) :: (undef) :: (undef) :: (undef) :: (.slice a1 n cap1) :: (.map (some W4.heap.size)) :: (.slice a1 n cap1) :: (.func (.func 148) #[] #[.pointer (some ⟨w5.heap.size + 1, 0, none⟩)]) :: (.int .i64 (i : Int)) :: (.agg #[.int .i64 (at0 qs (i * 2)), .int .i64 (at0 qs (i * 2 + 1))]) :: (undef) :: (undef) :: (undef) :: (undef) :: (undef) :: (undef) :: (undef) :: (undef) :: (undef) :: (undef) :: (undef) :: (undef) :: (undef) :: (undef) :: []), defers := [] }) ?assign2 ?body2 ?done2 ?stop2
    · have e : (fun x => wrap64 (sideU (sidesF b) x)) = sideU (sidesF b) := by
        funext x
        exact wrap64_01 _
      rw [e]
      exact HG6.out.mono (by simp)
    case assign2 =>
      intro l i W7 K hK
      gi_wp2
      exact hK
    case body2 =>
      rintro pre i bx W7 hpre hbx hsz7 hob ⟨r, hrec⟩ ⟨⟨u, hG, hT⟩, hlb, hown7⟩
      obtain ⟨hkn, hi⟩ := downL_prefix hpre
      obtain ⟨k, hk⟩ : ∃ k, k = pre.length := ⟨_, rfl⟩
      rw [← hk] at hkn hi hG hT
      have hin : i < n := by omega
      have Hx64 : Hid (0 ≤ at0 qs (i * 2) ∧ at0 qs (i * 2) < 64) := hid (Hlo.out i hin)
      obtain ⟨x, hx⟩ : ∃ x, x = at0 qs (i * 2) := ⟨_, rfl⟩
      obtain ⟨y, hy⟩ : ∃ y, y = at0 qs (i * 2 + 1) := ⟨_, rfl⟩
      rw [← hx] at Hx64
      rw [← hx, ← hy] at hob ⊢
      have Hxi : Hid (x = at0 qs ((n - 1 - k) * 2)) := hid (by rw [hx, hi])
      have Hwx : Hid ((Lit.int .i64 x).wf = true) := hid (WalkArith.wf_i64 (by have := Hx64.out; omega))
      obtain ⟨p0, _, _, _⟩ := two_of hob
      obtain ⟨q7, _⟩ := box_cell hlb
      have HG := hid hG
      have HT := hid hT
      have Hob := hid hob
      have Hlb := hid hlb
      have Hown7 := hid hown7
      have Hrec := hid hrec
      have Hk := hid hk
      clear hG hT hob hlb hown7 hrec hx hy hi hpre hk HG6 hlb6 hown6 hsb6 hcl
      gi_wp2_with (first
        | (refine ⟨trivial, ?_⟩; gi_at_call 61; refine (stepsFrom_in _ W4.heap.size x _).mono ?_; rintro e w' ⟨rfl, rfl⟩))
      obtain ⟨W8, hW8⟩ : ∃ W8, W8 = (W7.alloc (.cells #[.map (some W4.heap.size)] 69)).alloc (.cells #[.int .i64 x] 2) := ⟨_, rfl⟩
      have hs8 : W8.heap.size = bx + 3 := by rw [hW8]; simp [hsz7]
      have hbm8 : W8.heap[bx + 1]? = some (.cells #[.map (some W4.heap.size)] 69 (0, 0)) := by
        rw [hW8, ← hsz7]
        exact (Below.heap_alloc _ _ _ (by simp)).trans (heap_alloc_new _ _)
      have hbx8 : W8.heap[bx + 1 + 1]? = some (.cells #[.int .i64 x] 2 (0, 0)) := by
        have := heap_alloc_new (W7.alloc (.cells #[.map (some W4.heap.size)] 69)) (.cells #[.int .i64 x] 2)
        rw [World.size_alloc, hsz7] at this
        rw [hW8]
        exact this
      have hob8 : W8.heap[bx]? = some (.cells #[.int .i64 x, .int .i64 y] 56 (0, 0)) := by rw [hW8]; exact (Below.heap_alloc _ _ _ (by simp; omega)).trans ((Below.heap_alloc _ _ _ (by omega)).trans Hob.out)
      have hlb8 : W8.heap[w5.heap.size]? = some (.cells #[.map (some W4.heap.size)] 69 (0, 0)) := by rw [hW8]; exact (Below.heap_alloc _ _ _ (by simp; omega)).trans ((Below.heap_alloc _ _ _ (by omega)).trans Hlb.out)
      have hown8 : W8.ownsMap Try.prog 2 pairElem W4.heap.size n (lowsD qs n) := by rw [hW8]; exact (Hown7.out.alloc _).alloc _
      have hrec8 : W8.heap[W6.heap.size + 1]? = some (.loop r) := by rw [hW8]; exact (Below.heap_alloc _ _ _ (by simp; omega)).trans ((Below.heap_alloc _ _ _ (by omega)).trans Hrec.out)
      have hkp8 : KeepP [w5.heap.size + 1, lb] W6.heap.size (2 + 0) W7 W8 := by
        rw [hW8]
        refine ⟨by simp; omega, fun q hq => ?_⟩
        have hq2 : q < W7.heap.size := by
          rcases hq with h | h
          · simp at h
            omega
          · omega
        exact (Below.heap_alloc _ _ _ (by simp; omega)).trans (Below.heap_alloc _ _ _ hq2)
      have HG8 : Hid (GwW w W8 (64 + 64 * k) (fun x => wrap64 (u x)) [w.heap.size + 3]) := hid (by rw [hW8]; exact (HG.out.alloc _).alloc _)
      rw [← hW8]
      clear hW8 p0 q7
      refine wpIn_rangeFunc_PN rfl hrec8 (by decide) (gf := 101) (lb := #[.pointer (some ⟨bx + 1, 0, none⟩), .pointer (some ⟨bx + 1 + 1, 0, none⟩)]) rfl trivial (enters_of Try.func101 (by kernel_rfl) rfl)
        ((steps_P 17 (by decide) (bx + 1) (bx + 1 + 1) W4.heap.size n n qs x W8 hbm8 hbx8 hown8 HD.out HH.out Hwx.out).inRound _) (by simp) (Below.refl _ _) (fun _ => rfl)
        (fun pre2 W' => (∃ u, GwW w W' (64 + 64 * k + pre2.length) (fun x => wrap64 (u x)) [w.heap.size + 3] ∧ ∀ a, totW (wtK qs n a k) u = wsum qs n (b : Int) a + u x * (pre2.map fun z => gw qs n a (z.val : Int)).sum) ∧ W'.heap[bx]? = some (.cells #[.int .i64 x, .int .i64 y] 56 (0, 0)) ∧ W'.heap[w5.heap.size]? = some (.cells #[.map (some W4.heap.size)] 69 (0, 0)) ∧ W'.ownsMap Try.prog 2 pairElem W4.heap.size n (lowsD qs n) ∧ KeepP [w5.heap.size + 1, lb] W6.heap.size (2 + 0) W7 W')
        (fun _ _ _ => False)
        (OwnIn.and (fun s A B row ⟨u, h1, h2⟩ hg hr => ⟨u, gw_ownIn (β := Unit) (N := fun _ => 64 + 64 * k + s.length) (f := fun _ x => wrap64 (u x)) (by omega) (by intro D hD; simp at hD; omega) () A B row h1 hg hr, h2⟩) (OwnIn.and (ownIn_block (β := List (Fin 64)) (fun _ => _) (by omega)) (OwnIn.and (ownIn_block (β := List (Fin 64)) (fun _ => _) (by omega)) (OwnIn.and (lows_ownIn (by omega)) (keepB_ownIn (by omega) (by simp; omega) (by omega) (by simp; omega))))))
        (fun _ => ownIn_pure _ _ _)
        ⟨⟨u, HG8.out, fun a => by rw [HT.out a]; simp⟩, hob8, hlb8, hown8, hkp8⟩
        (fun z => { tmps := List.toArray ((.slice a1 n cap1) :: (.int .i64 (b : Int)) :: (undef) :: (undef) :: (.map none) :: (.pointer (some ⟨w.heap.size + 1, 0, none⟩)) :: (undef) :: (.pointer (some ⟨w5.heap.size, 0, none⟩)) :: (undef) :: (.pointer (some ⟨bx, 0, none⟩)) :: (.int .i64 (z.val : Int)) :: (.map (some w.heap.size)) :: (.int .i64 (b : Int)) :: (.func (.func 146) #[] #[.pointer (some ⟨w.heap.size + 1 + 1, 0, none⟩)]) :: (undef) :: (undef) :: (undef) :: (.slice a1 n cap1) :: (.map (some W4.heap.size)) :: (.slice a1 n cap1) :: (.func (.func 148) #[] #[.pointer (some ⟨w5.heap.size + 1, 0, none⟩)]) :: (.int .i64 (i : Int)) :: (.agg #[.int .i64 x, .int .i64 y]) :: (.map (some W4.heap.size)) :: (.pointer (some ⟨bx, 0, none⟩)) :: (.int .i64 x) :: (.func (.func 101) #[] #[.pointer (some ⟨bx + 1, 0, none⟩), .pointer (some ⟨bx + 1 + 1, 0, none⟩)]) :: (.int .i64 (z.val : Int)) :: (undef) :: (undef) :: (undef) :: (undef) :: (undef) :: (undef) :: (undef) :: (undef) :: (undef) :: []), defers := [] }) ?assign3 ?body3 ?done3 ?stop3
      case assign3 =>
        intro l z W9 K hK
        gi_wp2
        exact hK
      case body3 =>
        rintro l pre2 z W9 hpre2 hsz9 ⟨⟨u2, hS, hT2⟩, hob9, hlb9, hown9, hkp9⟩
        have hzw : (Lit.int .i64 (z.val : Int)).wf = true := WalkArith.wf_i64 (by have := z.isLt; omega)
        have Hzn : Hid ((z.val : Int) ∈ nextL qs n x) := hid ((mem_stepsF HH.out x _).1 ⟨z, hpre2.subset (by simp), rfl⟩)
        have hpl : pre2.length + 1 ≤ 6 := by
          have h1 := hpre2.length_le
          have h2 := steps_few qs n x
          simp at h1
          omega
        obtain ⟨p0, _, _, _⟩ := two_of hob9
        have q1 : W9.cell? ⟨w.heap.size + 1, 0, none⟩ = some (.map (some w.heap.size)) := (box_cell hS.b1).1
        have hlk1 := hS.cnt.lookup Hwx.out
        have hlk2 := hS.cnt.lookup hzw
        obtain ⟨cx, hcx⟩ : ∃ c, c = wrap64 (u2 x) := ⟨_, rfl⟩
        obtain ⟨cz, hcz⟩ : ∃ c, c = wrap64 (u2 (z.val : Int)) := ⟨_, rfl⟩
        obtain ⟨W5, hrun5, hc5, hg5, hs5⟩ := hS.cnt.update (show 64 + 64 * k + pre2.length < maxLen by unfold maxLen; omega) hzw (wf_wrap (cz + cx))
        have hf5 : (fun q => if q = (z.val : Int) then wrap64 (cz + cx) else wrap64 (u2 q)) = fun q => wrap64 ((fun q => if q = (z.val : Int) then u2 (z.val : Int) + u2 x else u2 q) q) := by
          funext q
          by_cases e : q = (z.val : Int)
          · simp only [if_pos e]
            rw [hcx, hcz, wrap64_add]
          · simp only [if_neg e]
        rw [hf5] at hc5
        have hS5 := hS.put hc5 hg5
        rw [← hcx] at hlk1
        rw [← hcz] at hlk2
        have HS5 := hid hS5
        have Hg5 := hid hg5
        have Hob5 := hid ((hg5.block _ (lt_of_get hob9) (fun e => by injection e with e; omega)).trans hob9)
        have Hlb5 := hid ((hg5.block _ (lt_of_get hlb9) (fun e => by injection e with e; omega)).trans hlb9)
        have Hown5 := hid (hown9.kept hg5 (fun e => by injection e with e; omega))
        have hsk := hkp9.size
        have Hkp5 : Hid (KeepP [w5.heap.size + 1, lb] W6.heap.size (2 + 0) W7 W5) := hid (hkp9.trans (KeepP.of_grownBy hg5 (by simp; omega) (by omega) (fun j e => by injection e with e; subst e; simp; omega)))
        have HT2 := hid hT2
        clear hS hob9 hlb9 hown9 hkp9 hS5 hc5 hg5 hcx hcz hf5 hzw hT2 hbm8 hbx8 hob8 hlb8 hown8 hrec8 hkp8
        gi_wp2
        refine ⟨⟨Hg5.out.size, fun r hr => ?_⟩, ⟨_, ?_, fun a => totW_next HO.out HH.out a hkn Hxi.out Hzn.out (HT2.out a)⟩, Hob5.out, Hlb5.out, Hown5.out, (by have h := Hkp5.out; rw [hs6] at h; exact h)⟩
        · rcases hr with h | h
          · simp at h
          · exact Hg5.out.block r (by omega) (fun e => by injection e with e; omega)
        · have e : 64 + 64 * k + (pre2 ++ [z]).length = 64 + 64 * k + pre2.length + 1 := by simp; omega
          rw [e]
          exact HS5.out
      case stop3 =>
        rintro c pre2 W9 hpre hF
        exact hF.elim
      case done3 =>
        rintro W9 ⟨⟨u2, hS, hT2⟩, hob9, hlb9, hown9, hkp9⟩
        have HS9 := hid (hS.mono (show 64 + 64 * k + (stepsF qs n x).length ≤ 64 + 64 * (pre ++ [i]).length by have := steps_few qs n x; have := Hk.out; simp; omega))
        have HT3 : Hid (∀ a, totW (wtK qs n a (pre ++ [i]).length) u2 = wsum qs n (b : Int) a) := hid (fun a => by
          rw [show (pre ++ [i]).length = k + 1 by rw [Hk.out]; simp]
          exact totW_round HO.out HH.out HD.out a hkn Hxi.out Hx64.out (hT2 a))
        have Hlb9 := hid hlb9
        have Hown9 := hid hown9
        have Hkp9 := hid hkp9
        clear hS hT2 hob9 hlb9 hown9 hkp9 hbm8 hbx8 hob8 hlb8 hown8 hrec8 hkp8
        gi_wp2
        exact ⟨Hkp9.out, ⟨u2, HS9.out, HT3.out⟩, Hlb9.out, Hown9.out⟩
    case stop2 =>
      rintro c pre W7 hpre hF hD7
      exact hF.elim
    case done2 =>
      rintro W7 ⟨⟨u, hG, hT⟩, hlb, hown7⟩ hD7
      rw [downL_len] at hG hT
      have hG7 := hG.mark hD7 (by omega) (by simp; omega)
      have c5 : W7.cell? ⟨w.heap.size + 1, 0, none⟩ = some (.map (some w.heap.size)) := (box_cell hG7.b1).1
      have HG7 := hid hG7
      have HT := hid hT
      clear hG hT hlb hown7 hD7 hG7 HG6 hlb6 hown6 hsb6 hcl
      gi_wp2
      refine leaves_marks (by simp) [_, _] _ HG7.out.nodup (fun D hD => (HG7.out.marks D hD).2) (fun w' hw' => ?_)
      refine ⟨_, results_tmp rfl _ _ _, _, _, rfl, HG7.out.cnt.same (hw'.block _ (fun hm => by have := (HG7.out.marks _ hm).1; omega)), fun a h0 h1 => ?_, HG7.out.below.trans (hw'.below (fun D hD => by have := (HG7.out.marks D hD).1; omega))⟩
      exact congrArg wrap64 (wsum_end ⟨h0, h1⟩ (HT.out a))

end Go.Proofs.Ytgmapgaijncbeaa

/-! acyclicCode, the program's. -/
namespace Go.Proofs.Ytgmapgaijncbeaa
open Go.RowKit

attribute [local go_sem] Oper.semAt_some

noncomputable def acodeR (V : Int) (fs : List Int) (n : Nat) (ps : List Int) (s : Bool) : Int := if pcodeR V fs n ps = 0 then (if s then (if acyB ps n then 0 else 5) else 2) else pcodeR V fs n ps

set_option maxRecDepth 1000000 in
set_option maxHeartbeats 2000000 in
theorem acode_any (V : Int) (a0 : Option Addr) (cap : Nat) (fs : List Int) (a1 : Option Addr) (n cap1 : Nat) (ps : List Int) (s : Bool) (w : World) (hx : SlI w w.heap.size a0 fs) (hx1 : SlI w w.heap.size a1 ps) (hl : fs.length ≤ 1048576) (hp : ps.length = 2 * n) (hn : n ≤ 1048576) (hw : ∀ x ∈ ps, (Lit.int .i64 x).wf = true) :
    Calls Try.prog 67 #[.agg #[.int .i64 V, .slice a0 fs.length cap], .slice a1 n cap1, .bool s] w fun e w' => e = .returned (.int .i64 (acodeR V fs n ps s)) ∧ Below w.heap.size w w' := by
  have hB0 : Below w.heap.size w (w.alloc (.cells #[.int .i64 V, .slice a0 fs.length cap] 30)) := (Below.refl _ w).alloc (Nat.le_refl _) _
  have HK := hid (pcode_impl V a0 cap fs a1 n cap1 ps _ (hx.later hB0 hB0.size) (hx1.later hB0 hB0.size) hl hp hn hw)
  have HB0 := hid hB0
  obtain ⟨E, hE⟩ : ∃ E, E = acodeR V fs n ps s := ⟨_, rfl⟩
  rw [← hE]
  by_cases hpc : pcodeR V fs n ps = 0
  · have hCO : IsC V fs ∧ OkTo fs ps n := by
      rcases pcode_cases V fs n ps with ⟨hC, ho, _⟩ | ⟨_, _, h2, _⟩ | ⟨_, h2, _⟩
      · exact ⟨hC, ho⟩
      · rw [h2] at hpc; cases hpc
      · rw [h2] at hpc; cases hpc
    have hE1 : E = if s then (if acyB ps n then 0 else 5) else 2 := by rw [hE, acodeR, if_pos hpc]
    rw [hpc] at HK
    have HA := hid (fun w1 (h : Below w.heap.size w w1) => isAcy_any a1 n cap1 ps w1 (hx1.later h h.size) hp hn hw (okTo_apart hCO.2) (okTo_highs hCO.1 hCO.2))
    clear hx hx1 hp hw hpc hCO hE hB0
    cases s
    · have He : Hid (E = 2) := hid (by rw [hE1]; simp)
      clear hE1
      go_enter Try.func67, Try.ntmps67
      go_wp2_with fail
      refine HK.out.mono ?_
      rintro e w1 ⟨rfl, hB1⟩
      go_wp2_with fail
      go_ret
      exact ⟨ret_int (by rw [He.out]), HB0.out.trans (hB1.mono (by simp))⟩
    · cases hac : acyB ps n
      · have He : Hid (E = 5) := hid (by rw [hE1, hac]; simp)
        rw [hac] at HA
        clear hE1 hac
        go_enter Try.func67, Try.ntmps67
        go_wp2_with fail
        refine HK.out.mono ?_
        rintro e w1 ⟨rfl, hB1⟩
        have HB1 := hid (HB0.out.trans (hB1.mono (by simp)))
        clear hB1
        go_wp2_with fail
        refine (HA.out w1 HB1.out).mono ?_
        rintro e w2 ⟨rfl, hB2⟩
        go_wp2_with fail
        go_ret
        exact ⟨ret_int (by rw [He.out]), HB1.out.trans (hB2.mono HB1.out.size)⟩
      · have He : Hid (E = 0) := hid (by rw [hE1, hac]; simp)
        rw [hac] at HA
        clear hE1 hac
        go_enter Try.func67, Try.ntmps67
        go_wp2_with fail
        refine HK.out.mono ?_
        rintro e w1 ⟨rfl, hB1⟩
        have HB1 := hid (HB0.out.trans (hB1.mono (by simp)))
        clear hB1
        go_wp2_with fail
        refine (HA.out w1 HB1.out).mono ?_
        rintro e w2 ⟨rfl, hB2⟩
        go_wp2_with fail
        go_ret
        exact ⟨ret_int (by rw [He.out]), HB1.out.trans (hB2.mono HB1.out.size)⟩
  · have hE1 : E = pcodeR V fs n ps := by rw [hE, acodeR, if_neg hpc]
    rw [← hE1] at hpc HK
    have hcn : (E != 0) = true := by simpa using hpc
    clear hx hx1 hp hw hpc hE hE1 hB0
    go_enter Try.func67, Try.ntmps67
    go_wp2_with fail
    refine HK.out.mono ?_
    rintro e w1 ⟨rfl, hB1⟩
    go_wp2_with fail
    go_ret
    exact ⟨rfl, HB0.out.trans (hB1.mono (by simp))⟩

/-- The settled pairs in their order make the same steps. -/
theorem at_flat {ps : List Int} {L : List Nat} {k : Nat} (hk : k < L.length) : at0 (flatP (setP ps L)) (k * 2) = at0 ps (L[k] * 2) ∧ at0 (flatP (setP ps L)) (k * 2 + 1) = at0 ps (L[k] * 2 + 1) := by
  have hat := flatP_at (setP ps L) k (by rw [setP_len]; exact hk)
  have hpk : (setP ps L)[k]?.getD (0, 0) = pairAt ps L[k] := by
    unfold setP
    rw [List.getElem?_map, List.getElem?_eq_getElem hk]
    rfl
  rw [hpk] at hat
  exact hat
theorem flat_apart {ps : List Int} {n : Nat} {L : List Nat} (hd : LowsApart ps n) (hS : Stl ps n L) : LowsApart (flatP (setP ps L)) L.length := by
  intro i j hij hj
  rw [(at_flat (show i < L.length by omega)).1, (at_flat hj).1]
  intro e
  have h1 := lows_inj hd (hS.lt _ (List.getElem_mem (show i < L.length by omega))) (hS.lt _ (List.getElem_mem hj)) e
  exact (List.pairwise_iff_getElem.1 hS.nodup) i j (by omega) hj hij h1
theorem flat_high {ps : List Int} {n : Nat} {L : List Nat} (hd : LowsApart ps n) (hS : Stl ps n L) (hall : ∀ i, i < n → i ∈ L) (a : Int) : highOf (flatP (setP ps L)) L.length a = highOf ps n a := by
  by_cases hex : ∃ i, i < n ∧ at0 ps (i * 2) = a
  · obtain ⟨i, hi, hia⟩ := hex
    rw [highOf_some hi hia (fun j hj e => hd j i hj hi (e.trans hia.symm))]
    obtain ⟨k, hk, hki⟩ := List.getElem_of_mem (hall i hi)
    have h1 := (at_flat (ps := ps) hk).1
    rw [hki, hia] at h1
    rw [highOf_some hk h1 (fun j hj e => flat_apart hd hS j k hj hk (e.trans h1.symm)), (at_flat hk).2, hki]
  · rw [highOf_none (fun i hi e => hex ⟨i, hi, e⟩), highOf_none]
    intro k hk e
    rw [(at_flat hk).1] at e
    exact hex ⟨L[k], hS.lt _ (List.getElem_mem hk), e⟩
theorem flat_next {ps : List Int} {n : Nat} {L : List Nat} (hd : LowsApart ps n) (hS : Stl ps n L) (hall : ∀ i, i < n → i ∈ L) (a : Int) : nextL (flatP (setP ps L)) L.length a = nextL ps n a := by
  unfold nextL
  rw [flat_high hd hS hall]
theorem flat_highs {ps : List Int} {n : Nat} {L : List Nat} (hd : LowsApart ps n) (hh : HighsB ps n) (hS : Stl ps n L) (hall : ∀ i, i < n → i ∈ L) : HighsB (flatP (setP ps L)) L.length := fun a => by
  rw [flat_high hd hS hall]
  exact hh a

theorem flat_ord {ps : List Int} {n : Nat} {L : List Nat} (hd : LowsApart ps n) (hS : Stl ps n L) (hall : ∀ i, i < n → i ∈ L) : OrdQ (flatP (setP ps L)) L.length := by
  intro i j hi hj hs
  unfold StepP at hs
  rw [flat_next hd hS hall, (at_flat hi).1, (at_flat hj).1] at hs
  have hm : L[j] ∈ L.take i := hS.ord (L.take i) L[i] (L.drop (i + 1)) (by rw [← List.drop_eq_getElem_cons hi, List.take_append_drop]) L[j] (hS.lt _ (List.getElem_mem hj)) hs
  obtain ⟨m, hm1, hm2⟩ := List.getElem_of_mem hm
  simp at hm1
  rw [List.getElem_take] at hm2
  by_cases h : j < i
  · exact h
  · exact absurd hm2 ((List.pairwise_iff_getElem.1 hS.nodup) m j (by omega) hj (by omega))
theorem flat_gwN {ps : List Int} {n : Nat} {L : List Nat} (hd : LowsApart ps n) (hS : Stl ps n L) (hall : ∀ i, i < n → i ∈ L) (b : Int) : ∀ (f : Nat) (a : Int), gwN (flatP (setP ps L)) L.length b f a = gwN ps n b f a
  | 0, _ => rfl
  | f + 1, a => by
    unfold gwN
    rw [flat_next hd hS hall]
    congr 2
    exact List.map_congr_left (fun y _ => flat_gwN hd hS hall b f y)
theorem flat_wsum {ps : List Int} {n : Nat} {L : List Nat} (hd : LowsApart ps n) (hS : Stl ps n L) (hall : ∀ i, i < n → i ∈ L) (hn : L.length = n) (b a : Int) : wsum (flatP (setP ps L)) L.length b a = wsum ps n b a := by
  unfold wsum gw
  congr 1
  refine List.map_congr_left (fun y _ => ?_)
  rw [flat_gwN hd hS hall, hn]
theorem flat_wf {ps : List Int} {n : Nat} {L : List Nat} (hp : ps.length = 2 * n) (hw : ∀ x ∈ ps, (Lit.int .i64 x).wf = true) (hS : Stl ps n L) : ∀ x ∈ flatP (setP ps L), (Lit.int .i64 x).wf = true := by
  intro x hx
  unfold flatP at hx
  obtain ⟨q, hq, h⟩ := List.mem_flatMap.1 hx
  have := wf_setP hp hw hS.lt q hq
  simp at h
  rcases h with rfl | rfl
  · exact this.1
  · exact this.2

end Go.Proofs.Ytgmapgaijncbeaa

/-! WaysBetween, the program's door. -/
namespace Go.Proofs.Ytgmapgaijncbeaa
open Go.RowKit

attribute [local go_sem] Oper.semAt_some

theorem acode_such {V : Int} {fs : List Int} {n : Nat} {ps : List Int} {b a : Int} {s : Bool} (h : pcodeR V fs n ps = 0 → s = suchB fs ps b a) : acodeR V fs n ps s = givenR V fs n ps b a := by
  unfold acodeR givenR
  by_cases hp : pcodeR V fs n ps = 0
  · rw [if_pos hp, if_pos hp, h hp]
  · rw [if_neg hp, if_neg hp]

set_option maxRecDepth 1000000 in
set_option maxHeartbeats 8000000 in
theorem implWaysBetween (V : Int) (a0 : Option Addr) (cap : Nat) (fs : List Int) (a1 : Option Addr) (n cap1 : Nat) (ps : List Int) (b a : Int) (w : World) (hx : SlI w w.heap.size a0 fs) (hx1 : SlI w w.heap.size a1 ps) (hl : fs.length ≤ 1048576) (hp : ps.length = 2 * n) (hn : n ≤ 1048576) (hw : ∀ x ∈ ps, (Lit.int .i64 x).wf = true) (_wb : (Lit.int .i64 b).wf = true) (wa : (Lit.int .i64 a).wf = true) :
    Calls Try.prog 30 #[.agg #[.int .i64 V, .slice a0 fs.length cap], .slice a1 n cap1, .int .i64 b, .int .i64 a] w fun e w' => e = .returned (.tuple #[.int .i64 (waysBR V fs n ps b a).1, .int .i64 (waysBR V fs n ps b a).2]) ∧ Below w.heap.size w w' := by
  have hB0 : Below w.heap.size w (w.alloc (.cells #[.int .i64 V, .slice a0 fs.length cap] 30)) := (Below.refl _ w).alloc (Nat.le_refl _) _
  have HCb0 := hid (isCr_any V a0 cap fs a1 n cap1 ps b _ (hx.later hB0 hB0.size) (hx1.later hB0 hB0.size) hl hp hn)
  have HCa := hid (fun w1 (h : Below w.heap.size w w1) => isCr_any V a0 cap fs a1 n cap1 ps a w1 (hx.later h h.size) (hx1.later h h.size) hl hp hn)
  have HAc := hid (fun s w1 (h : Below w.heap.size w w1) => acode_any V a0 cap fs a1 n cap1 ps s w1 (hx.later h h.size) (hx1.later h h.size) hl hp hn hw)
  have HB0 := hid hB0
  by_cases h0 : givenR V fs n ps b a = 0
  · obtain ⟨hpc, hs, hac⟩ := given_zero h0
    have hCO : IsC V fs ∧ OkTo fs ps n := by
      rcases pcode_cases V fs n ps with ⟨hC, ho, _⟩ | ⟨_, _, h2, _⟩ | ⟨_, h2, _⟩
      · exact ⟨hC, ho⟩
      · rw [h2] at hpc; cases hpc
      · rw [h2] at hpc; cases hpc
    refine num_mono3 (show waysBR V fs n ps b a = (wrap64 (wsum ps n b a), 0) by rw [waysBR, if_pos h0]) ?_
    obtain ⟨⟨bn, rfl, hbn⟩, ha0, ha1⟩ := such_lt hCO.1.range63 hs
    obtain ⟨an, rfl⟩ : ∃ an : Nat, a = (an : Int) := ⟨a.toNat, by omega⟩
    have han : an < 64 := by omega
    have hwan := wa
    have hac0 : acodeR V fs n ps true = 0 := by rw [acode_such (b := (bn : Int)) (a := (an : Int)) (fun _ => hs.symm), h0]
    have hsb := hs
    unfold suchB at hsb
    simp only [Bool.and_eq_true, decide_eq_true_eq, Int.toNat_natCast] at hsb
    obtain ⟨hcb, hca, hones⟩ := hsb
    have hob := ones_le bn
    have hoa := ones_le an
    have hon : ((ones bn : Int) - 1 == (ones an : Int) - 1 + 1) = true := by simp; omega
    have hon2 : ((ones bn : Int) - 1 == (ones an : Int)) = true := by simp; omega
    rw [hcb] at HCb0
    rw [hca] at HCa
    have HSe := hid (fun w1 (h : Below w.heap.size w w1) => callsIn_wide.1 (settled_in a1 n cap1 ps w1 (hx1.later h h.size) hp hn hw (okTo_apart hCO.2) (okTo_highs hCO.1 hCO.2)))
    have Hp := hid hp
    have Hw := hid hw
    have HD := hid (okTo_apart hCO.2)
    have HH := hid (okTo_highs hCO.1 hCO.2)
    have Hlo := hid (okTo_lows hCO.1 hCO.2)
    have HN := hid hac
    clear hx hx1 h0 hpc hCO hp hac hs hB0 hw hcb hca hones wa ha0 ha1
    go_enter Try.func30, Try.ntmps30
    go_wp2_with (first
      | (go_at_call 65; refine HCb0.out.mono ?_; rintro e w1 ⟨rfl, hB1⟩; have HB1 := hid (HB0.out.trans (hB1.mono (by simp))); have m0 : w1.cell? ⟨w.heap.size, 0, none⟩ = some (.int .i64 V) := (hB1.cell (p := ⟨w.heap.size, 0, none⟩) (by simp)).trans (by simp [go_sem]); have m1 : w1.cell? ⟨w.heap.size, 1, none⟩ = some (.slice a0 fs.length cap) := (hB1.cell (p := ⟨w.heap.size, 1, none⟩) (by simp)).trans (by simp [go_sem]); have hs1 : w.heap.size < w1.heap.size := (by have := hB1.size; simp at this; omega); have HCa1 := hid (HCa.out w1 HB1.out); clear hB1 HCb0) | (go_at_call 65; refine HCa1.out.mono ?_; rintro e w2 ⟨rfl, hB2⟩; have n0 := (hB2.cell (p := ⟨w.heap.size, 0, none⟩) hs1).trans m0; have n1 := (hB2.cell (p := ⟨w.heap.size, 1, none⟩) hs1).trans m1; have HB2 := hid (HB1.out.trans (hB2.mono HB1.out.size)); have hs2 := Nat.lt_of_lt_of_le hs1 hB2.size; clear hB2 m0 m1 HCa1)
      | (go_at_call 66; refine (dim_any _ _ (by assumption)).mono ?_; rintro e w' ⟨rfl, rfl⟩)
      | (go_at_call 67; refine (HAc.out _ w2 HB2.out).mono ?_; rintro e w3 ⟨rfl, hB3⟩; rw [hac0]; have HB3 := hid (HB2.out.trans (hB3.mono HB2.out.size)); clear hB3)
      | (go_at_call 69; refine (HSe.out w3 HB3.out).mono ?_; rintro e w4 ⟨L, v, rfl, hS, hsat, hr⟩; have hLn := (stl_all hS hsat).1 HN.out; have hall := acyclic_settled HN.out hsat; obtain ⟨_, a2, c2, rfl, hs4⟩ := pairs_slI hr.1; have HB4 := hid (HB3.out.trans (hr.2.mono HB3.out.size)); have hqn : (setP ps L).length = L.length := setP_len ps L; have HWf := hid (callsIn_wide.1 (wfrom_in a2 L.length c2 (flatP (setP ps L)) bn w4 hs4 (by rw [flatP_len, hqn]) (by omega) (flat_wf Hp.out Hw.out hS) (flat_apart HD.out hS) (flat_highs HD.out HH.out hS hall) (flat_ord HD.out hS hall) (fun i hi => (by rw [(at_flat hi).1]; exact Hlo.out _ (hS.lt _ (List.getElem_mem hi)))) hbn)); have Hws : Hid (wsum (flatP (setP ps L)) L.length (bn : Int) (an : Int) = wsum ps n (bn : Int) (an : Int)) := hid (flat_wsum HD.out hS hall hLn _ _); rw [hLn] at HWf Hws; rw [hqn, hLn]; clear hS hsat hr hs4 hall hqn hLn)
      | (go_at_call 68; refine HWf.out.mono ?_; rintro e w5 ⟨N5, f5, rfl, hc5, hf5, hB5⟩; have hlk := hc5.lookup hwan; have hlv := hf5 (an : Int) (by omega) (by omega); rw [Hws.out] at hlv; rw [hlv] at hlk; have HB5 := hid (HB4.out.trans (hB5.mono HB4.out.size)); clear hc5 hf5 hB5 hlv))
    go_ret2
    exact ⟨rfl, HB5.out⟩
  · obtain ⟨c, hc⟩ : ∃ c, c = givenR V fs n ps b a := ⟨_, rfl⟩
    refine num_mono3 (show waysBR V fs n ps b a = (0, c) by rw [waysBR, if_neg h0, hc]) ?_
    rw [← hc] at h0
    have hcn : (c != 0) = true := by simpa using h0
    cases hcb : critB fs ps b
    · have hcode : acodeR V fs n ps false = c := by rw [hc]; exact acode_such (fun _ => by unfold suchB; rw [hcb]; rfl)
      rw [hcb] at HCb0
      clear hx hx1 hp hw hB0 hc h0 hcb
      go_enter Try.func30, Try.ntmps30
      go_wp2_with (first
        | (go_at_call 65; refine HCb0.out.mono ?_; rintro e w1 ⟨rfl, hB1⟩; have HB1 := hid (HB0.out.trans (hB1.mono (by simp))); have m0 : w1.cell? ⟨w.heap.size, 0, none⟩ = some (.int .i64 V) := (hB1.cell (p := ⟨w.heap.size, 0, none⟩) (by simp)).trans (by simp [go_sem]); have m1 : w1.cell? ⟨w.heap.size, 1, none⟩ = some (.slice a0 fs.length cap) := (hB1.cell (p := ⟨w.heap.size, 1, none⟩) (by simp)).trans (by simp [go_sem]); have hs1 : w.heap.size < w1.heap.size := (by have := hB1.size; simp at this; omega); have HCa1 := hid (HCa.out w1 HB1.out); clear hB1 HCb0)
        | (go_at_call 67; refine (HAc.out _ w1 HB1.out).mono ?_; rintro e w3 ⟨rfl, hB3⟩; rw [hcode]; have HB3 := hid (HB1.out.trans (hB3.mono HB1.out.size)); clear hB3))
      go_ret2
      exact ⟨rfl, HB3.out⟩
    · cases hca : critB fs ps a
      · have hcode : acodeR V fs n ps false = c := by rw [hc]; exact acode_such (fun _ => by unfold suchB; rw [hcb, hca]; rfl)
        rw [hcb] at HCb0
        rw [hca] at HCa
        clear hx hx1 hp hw hB0 hc h0 hcb hca
        go_enter Try.func30, Try.ntmps30
        go_wp2_with (first
          | (go_at_call 65; refine HCb0.out.mono ?_; rintro e w1 ⟨rfl, hB1⟩; have HB1 := hid (HB0.out.trans (hB1.mono (by simp))); have m0 : w1.cell? ⟨w.heap.size, 0, none⟩ = some (.int .i64 V) := (hB1.cell (p := ⟨w.heap.size, 0, none⟩) (by simp)).trans (by simp [go_sem]); have m1 : w1.cell? ⟨w.heap.size, 1, none⟩ = some (.slice a0 fs.length cap) := (hB1.cell (p := ⟨w.heap.size, 1, none⟩) (by simp)).trans (by simp [go_sem]); have hs1 : w.heap.size < w1.heap.size := (by have := hB1.size; simp at this; omega); have HCa1 := hid (HCa.out w1 HB1.out); clear hB1 HCb0) | (go_at_call 65; refine HCa1.out.mono ?_; rintro e w2 ⟨rfl, hB2⟩; have n0 := (hB2.cell (p := ⟨w.heap.size, 0, none⟩) hs1).trans m0; have n1 := (hB2.cell (p := ⟨w.heap.size, 1, none⟩) hs1).trans m1; have HB2 := hid (HB1.out.trans (hB2.mono HB1.out.size)); have hs2 := Nat.lt_of_lt_of_le hs1 hB2.size; clear hB2 m0 m1 HCa1)
          | (go_at_call 67; refine (HAc.out _ w2 HB2.out).mono ?_; rintro e w3 ⟨rfl, hB3⟩; rw [hcode]; have HB3 := hid (HB2.out.trans (hB3.mono HB2.out.size)); clear hB3))
        go_ret2
        exact ⟨rfl, HB3.out⟩
      · rw [hcb] at HCb0
        rw [hca] at HCa
        by_cases hpc : pcodeR V fs n ps = 0
        · have hC : IsC V fs := by
            rcases pcode_cases V fs n ps with ⟨hC, ho, _⟩ | ⟨_, _, h2, _⟩ | ⟨_, h2, _⟩
            · exact hC
            · rw [h2] at hpc; cases hpc
            · rw [h2] at hpc; cases hpc
          have hmb : b ∈ fs := by unfold critB at hcb; simp at hcb; exact hcb.1
          have hma : a ∈ fs := by unfold critB at hca; simp at hca; exact hca.1
          obtain ⟨bn, rfl⟩ : ∃ bn : Nat, b = (bn : Int) := ⟨b.toNat, by have := hC.range63 b hmb; omega⟩
          obtain ⟨an, rfl⟩ : ∃ an : Nat, a = (an : Int) := ⟨a.toNat, by have := hC.range63 a hma; omega⟩
          have hbn : bn < 64 := by have := hC.range63 _ hmb; omega
          have han : an < 64 := by have := hC.range63 _ hma; omega
          have hob := ones_le bn
          have hoa := ones_le an
          obtain ⟨sv, hsv⟩ : ∃ sv, ((ones bn : Int) - 1 == (ones an : Int)) = sv := ⟨_, rfl⟩
          have hsv2 : ((ones bn : Int) - 1 == (ones an : Int) - 1 + 1) = sv := by rw [← hsv]; congr 1; omega
          have hcode : acodeR V fs n ps sv = c := by
            rw [hc]
            refine acode_such (fun _ => ?_)
            unfold suchB
            rw [hcb, hca, ← hsv]
            simp only [Bool.true_and, Int.toNat_natCast]
            rw [Bool.eq_iff_iff]
            simp
            omega
          clear hx hx1 hp hw hB0 hc h0 hcb hca hpc hC hmb hma
          go_enter Try.func30, Try.ntmps30
          go_wp2_with (first
            | (go_at_call 65; refine HCb0.out.mono ?_; rintro e w1 ⟨rfl, hB1⟩; have HB1 := hid (HB0.out.trans (hB1.mono (by simp))); have m0 : w1.cell? ⟨w.heap.size, 0, none⟩ = some (.int .i64 V) := (hB1.cell (p := ⟨w.heap.size, 0, none⟩) (by simp)).trans (by simp [go_sem]); have m1 : w1.cell? ⟨w.heap.size, 1, none⟩ = some (.slice a0 fs.length cap) := (hB1.cell (p := ⟨w.heap.size, 1, none⟩) (by simp)).trans (by simp [go_sem]); have hs1 : w.heap.size < w1.heap.size := (by have := hB1.size; simp at this; omega); have HCa1 := hid (HCa.out w1 HB1.out); clear hB1 HCb0) | (go_at_call 65; refine HCa1.out.mono ?_; rintro e w2 ⟨rfl, hB2⟩; have n0 := (hB2.cell (p := ⟨w.heap.size, 0, none⟩) hs1).trans m0; have n1 := (hB2.cell (p := ⟨w.heap.size, 1, none⟩) hs1).trans m1; have HB2 := hid (HB1.out.trans (hB2.mono HB1.out.size)); have hs2 := Nat.lt_of_lt_of_le hs1 hB2.size; clear hB2 m0 m1 HCa1)
            | (go_at_call 66; refine (dim_any _ _ (by assumption)).mono ?_; rintro e w' ⟨rfl, rfl⟩)
            | (go_at_call 67; refine (HAc.out _ w2 HB2.out).mono ?_; rintro e w3 ⟨rfl, hB3⟩; rw [hcode]; have HB3 := hid (HB2.out.trans (hB3.mono HB2.out.size)); clear hB3))
          go_ret2
          exact ⟨rfl, HB3.out⟩
        · have hcode : ∀ s, acodeR V fs n ps s = c := fun s => by rw [hc]; exact acode_such (fun h => absurd h hpc)
          clear hx hx1 hp hw hB0 hc h0 hcb hca hpc
          go_enter Try.func30, Try.ntmps30
          go_wp2_with (first
            | (go_at_call 65; refine HCb0.out.mono ?_; rintro e w1 ⟨rfl, hB1⟩; have HB1 := hid (HB0.out.trans (hB1.mono (by simp))); have m0 : w1.cell? ⟨w.heap.size, 0, none⟩ = some (.int .i64 V) := (hB1.cell (p := ⟨w.heap.size, 0, none⟩) (by simp)).trans (by simp [go_sem]); have m1 : w1.cell? ⟨w.heap.size, 1, none⟩ = some (.slice a0 fs.length cap) := (hB1.cell (p := ⟨w.heap.size, 1, none⟩) (by simp)).trans (by simp [go_sem]); have hs1 : w.heap.size < w1.heap.size := (by have := hB1.size; simp at this; omega); have HCa1 := hid (HCa.out w1 HB1.out); clear hB1 HCb0) | (go_at_call 65; refine HCa1.out.mono ?_; rintro e w2 ⟨rfl, hB2⟩; have n0 := (hB2.cell (p := ⟨w.heap.size, 0, none⟩) hs1).trans m0; have n1 := (hB2.cell (p := ⟨w.heap.size, 1, none⟩) hs1).trans m1; have HB2 := hid (HB1.out.trans (hB2.mono HB1.out.size)); have hs2 := Nat.lt_of_lt_of_le hs1 hB2.size; clear hB2 m0 m1 HCa1)
            | (go_at_call 66; refine (dim_free _ _).mono ?_; rintro e w' ⟨c1, rfl, rfl⟩)
            | (go_at_call 67; refine (HAc.out _ w2 HB2.out).mono ?_; rintro e w3 ⟨rfl, hB3⟩; rw [hcode]; have HB3 := hid (HB2.out.trans (hB3.mono HB2.out.size)); clear hB3))
          go_ret2
          exact ⟨rfl, HB3.out⟩

end Go.Proofs.Ytgmapgaijncbeaa

/-! The law on WaysBetween, walked. -/
namespace Go.Proofs.Ytgmapgaijncbeaa
open Go.RowKit

set_option maxRecDepth 100000 in
set_option maxHeartbeats 8000000 in
theorem law_WaysBetween (V0 : Int) (a0 : Option Addr) (cap0 : Nat) (xs0 : List Int) (a1 : Option Addr) (n1 cap1 : Nat) (ps1 : List Int) (d2 : Int) (d3 : Int) (w : World) (hx0 : SlI w w.heap.size a0 xs0) (hx1 : SlI w w.heap.size a1 ps1) (hp1 : ps1.length = 2 * n1) (wp1 : ∀ x ∈ ps1, (Lit.int .i64 x).wf = true) (hn0 : xs0.length ≤ 9223372036854775807) (hn1 : n1 ≤ 9223372036854775807) (wd2 : (Lit.int .i64 d2).wf = true) (wd3 : (Lit.int .i64 d3).wf = true) :
    Calls Try.prog 5 #[.agg #[.int .i64 V0, .slice a0 xs0.length cap0], .slice a1 n1 cap1, .int .i64 d2, .int .i64 d3] w fun e w' => e = .returned (.bool true) ∧ Below w.heap.size w w' := by
  have F0 : Book w w [(a0, xs0), (a1, ps1)] [] [] := ⟨Below.refl _ _, by simp; exact ⟨hx0, hx1⟩, by simp, by simp⟩
  have F0 := F0.alloc (.cells #[.int .i64 V0, .slice a0 xs0.length cap0] 24)
  (try simp only [World.size_alloc] at F0)
  have B0 := hid F0
  clear F0 hx0 hx1
  have Hp1 := hid hp1
  have Wp1 := hid wp1
  clear hp1 wp1
  obtain ⟨r0, hr0⟩ : ∃ r, r = szR 1048576 xs0.length := ⟨_, rfl⟩
  have Hr0 := hid hr0
  obtain ⟨r1, hr1⟩ : ∃ r, r = szR r0 n1 := ⟨_, rfl⟩
  have Hr1 := hid hr1
  by_cases hb0 : 1048576 < xs0.length
  · have hm0 : r0 = -1 := by rw [hr0]; exact szR_big (by omega)
    clear hb0
    clear hr0 hr1
    go_enter Try.func5, Try.ntmps5
    go_wp2_with fail
    refine (szCx V0 a0 xs0.length cap0 1048576 _ (by omega) (by omega) hn0).mono ?_
    rintro e s0 ⟨rfl, hB⟩
    have zs0 := hB.size
    (try simp only [World.size_alloc] at zs0)
    have B0 := hid (B0.out.below hB)
    clear hB
    rw [← Hr0.out]
    go_wp2_with fail
    go_ret
    exact ⟨rfl, B0.out.from0⟩
  · have hv0 : r0 = 1048576 - xs0.length := by rw [hr0, szR_fit (by omega)]
    have hg0 : 0 ≤ r0 := by omega
    have hu0 : r0 ≤ 1048576 := by omega
    have hl0 : xs0.length ≤ 1048576 := by omega
    clear hr0 hb0
    have Hv0 := hid hv0
    clear hv0
    by_cases hb1 : r0 < n1
    · have hm1 : r1 = -1 := by rw [hr1]; exact szR_big (by omega)
      clear hb1
      clear hr1
      go_enter Try.func5, Try.ntmps5
      go_wp2_with fail
      refine (szCx V0 a0 xs0.length cap0 1048576 _ (by omega) (by omega) hn0).mono ?_
      rintro e s0 ⟨rfl, hB⟩
      have zs0 := hB.size
      (try simp only [World.size_alloc] at zs0)
      have B0 := hid (B0.out.below hB)
      clear hB
      rw [← Hr0.out]
      go_wp2_with fail
      refine (szPairs a1 n1 cap1 r0 _ hg0 hu0 hn1).mono ?_
      rintro e s1 ⟨rfl, hs1⟩
      subst hs1
      rw [← Hr1.out]
      go_wp2_with fail
      go_ret
      exact ⟨rfl, B0.out.from0⟩
    · have hv1 : r1 = r0 - n1 := by rw [hr1, szR_fit (by omega)]
      have hg1 : 0 ≤ r1 := by omega
      have hu1 : r1 ≤ 1048576 := by omega
      have hl1 : n1 ≤ 1048576 := by omega
      clear hr1 hb1
      have Hv1 := hid hv1
      clear hv1
      obtain ⟨R, hR⟩ : ∃ R, R = waysBR V0 xs0 n1 ps1 d2 d3 := ⟨_, rfl⟩
      obtain ⟨nn, c⟩ := R
      have HS : Hid (∀ a0 cap0 a1 cap1 w', SlI w' w'.heap.size a0 xs0 → SlI w' w'.heap.size a1 ps1 → Calls Try.prog 29 #[.agg #[.int .i64 V0, .slice a0 xs0.length cap0], .slice a1 n1 cap1, .int .i64 d2, .int .i64 d3] w' fun e w'' => e = .returned (.tuple #[.int .i64 nn, .int .i64 c]) ∧ Below w'.heap.size w' w'') :=
        hid (fun a0 cap0 a1 cap1 w' hs0 hs1 => by have := specWaysBetween V0 a0 cap0 xs0 a1 n1 cap1 ps1 d2 d3 w' hs0 hs1 hl0 Hp1.out hl1 Wp1.out wd2 wd3; rwa [← hR] at this)
      have HI : Hid (∀ a0 cap0 a1 cap1 w', SlI w' w'.heap.size a0 xs0 → SlI w' w'.heap.size a1 ps1 → Calls Try.prog 30 #[.agg #[.int .i64 V0, .slice a0 xs0.length cap0], .slice a1 n1 cap1, .int .i64 d2, .int .i64 d3] w' fun e w'' => e = .returned (.tuple #[.int .i64 nn, .int .i64 c]) ∧ Below w'.heap.size w' w'') :=
        hid (fun a0 cap0 a1 cap1 w' hs0 hs1 => by have := implWaysBetween V0 a0 cap0 xs0 a1 n1 cap1 ps1 d2 d3 w' hs0 hs1 hl0 Hp1.out hl1 Wp1.out wd2 wd3; rwa [← hR] at this)
      have hcc : (c != c) = false := by simp
      clear hR
      have hcn : (nn != nn) = false := by simp
      go_enter Try.func5, Try.ntmps5
      go_wp2_with fail
      refine (szCx V0 a0 xs0.length cap0 1048576 _ (by omega) (by omega) hn0).mono ?_
      rintro e s0 ⟨rfl, hB⟩
      have zs0 := hB.size
      (try simp only [World.size_alloc] at zs0)
      have B0 := hid (B0.out.below hB)
      clear hB
      rw [← Hr0.out]
      go_wp2_with fail
      refine (szPairs a1 n1 cap1 r0 _ hg0 hu0 hn1).mono ?_
      rintro e s1 ⟨rfl, hs1⟩
      subst hs1
      rw [← Hr1.out]
      obtain ⟨q0, q1⟩ := B0.out.two (.head _)
      go_wp2_with fail
      clear q0 q1
      refine (toCx V0 a0 cap0 xs0 _ (B0.out.arg (.head _)) hl0).mono ?_
      rintro e u0 ⟨gu0, rfl, hown, hB⟩
      have zu0 := hB.size
      (try simp only [World.size_alloc] at zu0)
      have B0 := hid (B0.out.row hown hB)
      clear hown hB
      (try simp only [World.size_alloc] at B0)
      go_wp2_with fail
      refine (toPairs a1 n1 cap1 ps1 _ (B0.out.arg (.tail _ (.head _))) Hp1.out hl1).mono ?_
      rintro e u1 ⟨rfl, hown, hB⟩
      have zu1 := hB.size
      (try simp only [World.size_alloc] at zu1)
      have B0 := hid (B0.out.row hown hB)
      clear hown hB
      (try simp only [World.size_alloc] at B0)
      go_wp2_with fail
      refine (HS.out _ _ _ _ _ (B0.out.slI (.tail _ (.head _))) (B0.out.slI (.head _))).mono ?_
      rintro e u9 ⟨rfl, hB⟩
      have zu9 := hB.size
      (try simp only [World.size_alloc] at zu9)
      have B0 := hid (B0.out.below hB)
      clear hB
      obtain ⟨q0, q1⟩ := B0.out.two (.head _)
      go_wp2_with fail
      clear q0 q1
      refine (toCx V0 a0 cap0 xs0 _ (B0.out.arg (.head _)) hl0).mono ?_
      rintro e x0 ⟨gx0, rfl, hown, hB⟩
      have zx0 := hB.size
      (try simp only [World.size_alloc] at zx0)
      have B0 := hid (B0.out.row hown hB)
      clear hown hB
      (try simp only [World.size_alloc] at B0)
      have B0 := hid (B0.out.alloc (.cells #[.int .i64 V0, .slice (some ⟨gx0, 0, none⟩) xs0.length xs0.length] 30))
      go_wp2_with fail
      refine (toPairs a1 n1 cap1 ps1 _ (B0.out.arg (.tail _ (.head _))) Hp1.out hl1).mono ?_
      rintro e x1 ⟨rfl, hown, hB⟩
      have zx1 := hB.size
      (try simp only [World.size_alloc] at zx1)
      have B0 := hid (B0.out.row hown hB)
      clear hown hB
      (try simp only [World.size_alloc] at B0)
      obtain ⟨p00, p01⟩ := B0.out.two (.head _)
      go_wp2_with fail
      clear p00 p01
      refine (HI.out _ _ _ _ _ (B0.out.slI (.tail _ (.head _))) (B0.out.slI (.head _))).mono ?_
      rintro e v9 ⟨rfl, hB⟩
      have zv9 := hB.size
      (try simp only [World.size_alloc] at zv9)
      have B0 := hid (B0.out.below hB)
      clear hB
      clear HS HI
      obtain ⟨lxb00, lxb01⟩ := B0.out.two (.head _)
      obtain ⟨lk00, lk01⟩ := B0.out.two (.tail _ (.head _))
      go_wp2_with fail
      go_region_with (first
        | (go_at_call 17; refine (toCx V0 a0 cap0 xs0 _ (B0.out.drew.arg (.head _)) hl0).mono ?_; rintro e f0 ⟨gf0, rfl, hown, hB⟩; have zf0 := hB.size; have C0 := hid (B0.out.drew.row hown hB); clear hown hB; obtain ⟨m00, m01⟩ := C0.out.two (.head _))
        | (go_at_call 20; refine (eqCx_yes V0 _ _ _ _ xs0 xs0 _ (C0.out.slI (.tail _ (.tail _ (.head _)))) (C0.out.slI (.head _)) hl0 hl0 rfl).mono ?_; rintro e h0 ⟨rfl, hB⟩))
      all_goals
        have zh0 := hB.size
        have D0 := hid (C0.out.below hB)
        clear hB C0 B0 m00 m01
        clear lxb00 lxb01
        clear lk00 lk01
        have B0 := D0
        clear D0
        skip
        go_wp2_with fail
        refine (toPairs a1 n1 cap1 ps1 _ (B0.out.arg (.tail _ (.head _))) Hp1.out hl1).mono ?_
        rintro e f1 ⟨rfl, hown, hB⟩
        have zf1 := hB.size
        (try simp only [World.size_alloc] at zf1)
        have B0 := hid (B0.out.row hown hB)
        clear hown hB
        (try simp only [World.size_alloc] at B0)
        go_wp2_with fail
        refine (eqPairs_yes _ _ n1 _ _ ps1 _ (B0.out.slI (.tail _ (.tail _ (.head _)))) (B0.out.slI (.head _)) Hp1.out hl1).mono ?_
        rintro e h1 ⟨rfl, hB⟩
        have zh1 := hB.size
        (try simp only [World.size_alloc] at zh1)
        have B0 := hid (B0.out.below hB)
        clear hB
        go_wp2_with fail
        go_ret
        exact ⟨rfl, B0.out.from0⟩

end Go.Proofs.Ytgmapgaijncbeaa

namespace Go.Proofs.Ytgmapgaijncbeaa.lawWaysBetween
open Go.ChangeShapes Go.WideShapes Go.ChangeAt Go.RowKit Go.Joins

set_option maxRecDepth 100000 in
theorem lifted (os : Os) (started : os.Started) (H : Type) (enc : TypeId × Value → H) :
    ReturnsInHanded {} Try.checked os 5 .any (Rows.fnExactWaysBetweenSpec.pre6 enc Try.prog Try.f5 Rows.fnExactWaysBetweenRow.domain false) (Rows.fnExactWaysBetweenSpec.post enc Try.prog Try.f5 false true false false) := by
  refine returnsInHanded_of_change (C := Try.checked) own started (by kernel_rfl) Try.func5
    (ChangeSpec.witness6 (enc := enc) (C := Try.checked) false ⟨#[], #[.agg #[.int .i64 0, .slice none 0 0], .slice none 0 0, .int .i64 0, .int .i64 0], []⟩ 8 (by kernel_rfl) (by kernel_rfl) (by kernel_rfl) (by kernel_rfl)) ?_
  intro W base args ds gs before hval0 hW hcnd _
  have hval : ∀ (j : Nat) t v, Try.f5.params[j]? = some t → args[j]? = some v → Value.okWide Try.prog W .any base t v := hval0
  have hW' := hW
  obtain ⟨p, q, hA0, hV, rfl, hfz, hnd⟩ := hW
  have hA : DataW.TrodAll enc Try.prog W 0 (fun _ => true) true Try.f5.params.toList args.toList ds p := hA0
  rw [Try.params5] at hA hval
  obtain ⟨v0, vs0, d0, ds0, p0, q0, hargs, rfl, rfl, h0, r0⟩ := trodAll_cons hA
  obtain ⟨v1, vs1, d1, ds1, p1, q1, rfl, rfl, rfl, h1, r1⟩ := trodAll_cons r0
  obtain ⟨v2, vs2, d2, ds2, p2, q2, rfl, rfl, rfl, h2, r2⟩ := trodAll_cons r1
  obtain ⟨v3, vs3, d3, ds3, p3, q3, rfl, rfl, rfl, h3, r3⟩ := trodAll_cons r2
  obtain ⟨rfl, rfl, rfl⟩ := trodAll_nil r3
  obtain rfl : args = #[v0, v1, v2, v3] := by cases args; simp_all
  obtain ⟨rfl, rfl⟩ := trodVars_none hV
  have k0 := h0
  have lt0 : ∀ x ∈ p0, x.block < W.heap.size := by obtain ⟨m, hm⟩ := k0; exact DataW.trod_lt m _ _ _ hm
  obtain ⟨c0, c0', y0, y0', m0, rfl, _, _, hy0, hy0'⟩ := open_agg2 Try.underlying24 (by kernel_rfl) (by kernel_rfl) (hval 0 24 v0 rfl rfl) h0
  obtain ⟨V0, e0, _, _⟩ := DataW.trod_int Try.underlying2 hy0
  obtain ⟨a0, len0, cap0, xs0, rfl, rfl, hn0, hx0, _⟩ := slI_of_trod hy0'
  simp at e0
  subst e0
  have k1 := h1
  have lt1 : ∀ x ∈ p1, x.block < W.heap.size := by obtain ⟨m, hm⟩ := k1; exact DataW.trod_lt m _ _ _ hm
  obtain ⟨a1, n1, cap1, hv1⟩ := okWide_slice Try.underlying25 (hval 1 25 v1 rfl rfl)
  subst hv1
  obtain ⟨fu1, hf1⟩ := h1
  obtain ⟨ps1, hp1, hn1, hx1, wp1⟩ := pairs_in hf1
  obtain ⟨i2, rfl, rfl, rfl, wd2⟩ := open_int Try.underlying2 (hval 2 2 v2 rfl rfl) h2
  obtain ⟨i3, rfl, rfl, rfl, wd3⟩ := open_int Try.underlying2 (hval 3 2 v3 rfl rfl) h3
  clear hA0 hval0
  refine (law_WaysBetween V0 a0 cap0 xs0 a1 n1 cap1 ps1 i2 i3 W hx0 hx1 hp1 wp1 hn0 hn1 wd2 wd3).mono fun e W' ⟨he, bel⟩ => ?_
  subst he
  exact ⟨_, rfl, _, _, _, [], _, [], hW', trodAll_mk1 (shut_bool Try.underlying4 _), (trodAll_cons_mk (Below.trod laidOut (by kernel_rfl) (of_decide_eq_true (by kernel_rfl)) k0 bel lt0) (trodAll_cons_mk (Below.trod laidOut (by kernel_rfl) (of_decide_eq_true (by kernel_rfl)) k1 bel lt1) (trodAll_cons_mk (shut_int Try.underlying2 wd2) (trodAll_cons_mk (shut_int Try.underlying2 wd3) trodAll_mk0)))), rfl, bel.frame _, fun h => by cases h⟩

theorem over : Rows.fnExactWaysBetweenRow.holds Try.pinned (OpenSpec.ofChange Rows.fnExactWaysBetweenSpec) :=
  OpenClaim.holds_of_wide 5 Try.f5 rfl rfl rfl rfl rfl rfl rfl ⟨rfl, rfl, rfl, rfl, rfl⟩ rfl rfl rfl rfl rfl (by kernel_rfl) Try.func5 (by kernel_rfl)
    (of_decide_eq_true (by kernel_rfl)) (by unfold Func.isWrapper; first | (rw [if_pos (by decide +kernel)]; kernel_rfl) | (rw [if_neg (by decide +kernel)]; exact ⟨rfl, rfl⟩))
    (fun os started H enc _ => lifted os started H enc)

theorem proved : Rows.FnExactWaysBetweenSaid := over
end Go.Proofs.Ytgmapgaijncbeaa.lawWaysBetween
