import Derived.Scope
import Derived.Test.YtpdhnjdnlgnniaaGreatMC22
import Derived.Test.YtpdhnjdnlgnniaaGreatMC23
import Derived.Test.YtpdhnjdnlgnniaaGreatMC24
/-! settledPairs, walked. -/
namespace Go.Proofs.YtpdhnjdnlgnniaaGreat
open Go.RowKit Go.Shelf

attribute [local go_sem] Oper.semAt_some

/-- Ahead of a pass. -/
def StOut (w : World) (M B n cap1 : Nat) (a1 : Option Addr) (ps : List Int) (a' : Act) (W : World) : Prop :=
  ∃ (L : List Nat) (av : Option Addr) (cp : Nat) (b : Int) (Ds : List Nat) (us : Nat → Value), a' = { tmps := List.toArray ((.slice a1 n cap1) :: us 1 :: (.slice none 0 0) :: (.pointer (some ⟨B, 0, none⟩)) :: (.pointer (some ⟨B + 1 + 1, 0, none⟩)) :: (.slice av L.length cp) :: (.int .i64 b) :: us 7 :: us 8 :: us 9 :: us 10 :: us 11 :: (.slice a1 n cap1) :: (.map (some M)) :: (.map (some (B + 1))) :: us 15 :: us 16 :: us 17 :: us 18 :: us 19 :: us 20 :: us 21 :: us 22 :: us 23 :: us 24 :: us 25 :: us 26 :: us 27 :: us 28 :: us 29 :: us 30 :: us 31 :: us 32 :: us 33 :: us 34 :: us 35 :: us 36 :: us 37 :: us 38 :: us 39 :: us 40 :: us 41 :: us 42 :: us 43 :: us 44 :: us 45 :: us 46 :: us 47 :: us 48 :: us 49 :: us 50 :: us 51 :: us 52 :: us 53 :: us 54 :: us 55 :: []), defers := marks Ds } ∧
    Hid (SetW w W M B n ps L (.slice av L.length cp) Ds) ∧ Hid (Stl ps n L) ∧ -1 ≤ b ∧ b ≤ (L.length : Int) ∧ Hid (b = (L.length : Int) → SatTo ps n n L)
theorem stOut_of {w W : World} {M B n cap1 : Nat} {a1 : Option Addr} {ps : List Int} {L : List Nat} {av : Option Addr} {cp : Nat} {b : Int} {Ds : List Nat} (tm : Array Value) (ds : List Deferred) (hds : ds = marks Ds)
    (h : tm = List.toArray ((.slice a1 n cap1) :: tm.getD 1 undef :: (.slice none 0 0) :: (.pointer (some ⟨B, 0, none⟩)) :: (.pointer (some ⟨B + 1 + 1, 0, none⟩)) :: (.slice av L.length cp) :: (.int .i64 b) :: tm.getD 7 undef :: tm.getD 8 undef :: tm.getD 9 undef :: tm.getD 10 undef :: tm.getD 11 undef :: (.slice a1 n cap1) :: (.map (some M)) :: (.map (some (B + 1))) :: tm.getD 15 undef :: tm.getD 16 undef :: tm.getD 17 undef :: tm.getD 18 undef :: tm.getD 19 undef :: tm.getD 20 undef :: tm.getD 21 undef :: tm.getD 22 undef :: tm.getD 23 undef :: tm.getD 24 undef :: tm.getD 25 undef :: tm.getD 26 undef :: tm.getD 27 undef :: tm.getD 28 undef :: tm.getD 29 undef :: tm.getD 30 undef :: tm.getD 31 undef :: tm.getD 32 undef :: tm.getD 33 undef :: tm.getD 34 undef :: tm.getD 35 undef :: tm.getD 36 undef :: tm.getD 37 undef :: tm.getD 38 undef :: tm.getD 39 undef :: tm.getD 40 undef :: tm.getD 41 undef :: tm.getD 42 undef :: tm.getD 43 undef :: tm.getD 44 undef :: tm.getD 45 undef :: tm.getD 46 undef :: tm.getD 47 undef :: tm.getD 48 undef :: tm.getD 49 undef :: tm.getD 50 undef :: tm.getD 51 undef :: tm.getD 52 undef :: tm.getD 53 undef :: tm.getD 54 undef :: tm.getD 55 undef :: [])) (HW : Hid (SetW w W M B n ps L (.slice av L.length cp) Ds)) (HS : Hid (Stl ps n L)) (h1 : -1 ≤ b) (h2 : b ≤ (L.length : Int)) (h3 : Hid (b = (L.length : Int) → SatTo ps n n L)) :
    StOut w M B n cap1 a1 ps { tmps := tm, defers := ds } W :=
  ⟨L, av, cp, b, Ds, fun i => tm.getD i undef, by rw [hds]; exact congrArg (fun t => ({ tmps := t, defers := marks Ds } : Act)) h, HW, HS, h1, h2, h3⟩
/-- Within a pass, ahead of pair k. -/
def StIn (w : World) (M B n cap1 : Nat) (a1 : Option Addr) (ps : List Int) (b : Nat) (a' : Act) (W : World) : Prop :=
  ∃ (k : Nat) (L : List Nat) (av : Option Addr) (cp : Nat) (Ds : List Nat) (us : Nat → Value), a' = { tmps := List.toArray ((.slice a1 n cap1) :: us 1 :: (.slice none 0 0) :: (.pointer (some ⟨B, 0, none⟩)) :: (.pointer (some ⟨B + 1 + 1, 0, none⟩)) :: (.slice av L.length cp) :: (.int .i64 (b : Int)) :: us 7 :: us 8 :: us 9 :: us 10 :: us 11 :: (.slice a1 n cap1) :: (.map (some M)) :: (.map (some (B + 1))) :: us 15 :: us 16 :: us 17 :: us 18 :: us 19 :: us 20 :: (.slice a1 n cap1) :: (.int .i64 (n : Int)) :: (.int .i64 (k : Int)) :: us 24 :: us 25 :: us 26 :: us 27 :: us 28 :: us 29 :: us 30 :: us 31 :: us 32 :: us 33 :: us 34 :: us 35 :: us 36 :: us 37 :: us 38 :: us 39 :: us 40 :: us 41 :: us 42 :: us 43 :: us 44 :: us 45 :: us 46 :: us 47 :: us 48 :: us 49 :: us 50 :: us 51 :: us 52 :: us 53 :: us 54 :: us 55 :: []), defers := marks Ds } ∧
    Hid (SetW w W M B n ps L (.slice av L.length cp) Ds) ∧ Hid (Stl ps n L) ∧ k ≤ n ∧ b ≤ L.length ∧ Hid (b = L.length → SatTo ps n k L)
theorem stIn_of {w W : World} {M B n cap1 : Nat} {a1 : Option Addr} {ps : List Int} {L : List Nat} {av : Option Addr} {cp b k : Nat} {Ds : List Nat} (tm : Array Value) (ds : List Deferred) (hds : ds = marks Ds)
    (h : tm = List.toArray ((.slice a1 n cap1) :: tm.getD 1 undef :: (.slice none 0 0) :: (.pointer (some ⟨B, 0, none⟩)) :: (.pointer (some ⟨B + 1 + 1, 0, none⟩)) :: (.slice av L.length cp) :: (.int .i64 (b : Int)) :: tm.getD 7 undef :: tm.getD 8 undef :: tm.getD 9 undef :: tm.getD 10 undef :: tm.getD 11 undef :: (.slice a1 n cap1) :: (.map (some M)) :: (.map (some (B + 1))) :: tm.getD 15 undef :: tm.getD 16 undef :: tm.getD 17 undef :: tm.getD 18 undef :: tm.getD 19 undef :: tm.getD 20 undef :: (.slice a1 n cap1) :: (.int .i64 (n : Int)) :: (.int .i64 (k : Int)) :: tm.getD 24 undef :: tm.getD 25 undef :: tm.getD 26 undef :: tm.getD 27 undef :: tm.getD 28 undef :: tm.getD 29 undef :: tm.getD 30 undef :: tm.getD 31 undef :: tm.getD 32 undef :: tm.getD 33 undef :: tm.getD 34 undef :: tm.getD 35 undef :: tm.getD 36 undef :: tm.getD 37 undef :: tm.getD 38 undef :: tm.getD 39 undef :: tm.getD 40 undef :: tm.getD 41 undef :: tm.getD 42 undef :: tm.getD 43 undef :: tm.getD 44 undef :: tm.getD 45 undef :: tm.getD 46 undef :: tm.getD 47 undef :: tm.getD 48 undef :: tm.getD 49 undef :: tm.getD 50 undef :: tm.getD 51 undef :: tm.getD 52 undef :: tm.getD 53 undef :: tm.getD 54 undef :: tm.getD 55 undef :: [])) (HW : Hid (SetW w W M B n ps L (.slice av L.length cp) Ds)) (HS : Hid (Stl ps n L)) (h1 : k ≤ n) (h2 : b ≤ L.length) (h3 : Hid (b = L.length → SatTo ps n k L)) :
    StIn w M B n cap1 a1 ps b { tmps := tm, defers := ds } W :=
  ⟨k, L, av, cp, Ds, fun i => tm.getD i undef, by rw [hds]; exact congrArg (fun t => ({ tmps := t, defers := marks Ds } : Act)) h, HW, HS, h1, h2, h3⟩

theorem wpIn_scope_wide {n : Nat} {P : Program} {c : Code} {Q : Exit → Act → World → Prop} {a : Act} {w : World} (h : c.wpIn Fence.wide n P (Exit.noGoto Q) a w) : (Code.scope c).wpIn Fence.wide n P Q a w :=
  wpIn_wide.2 (wp_scope_straight (wpIn_wide.1 h))

set_option maxRecDepth 1000000 in
set_option maxHeartbeats 4000000 in
theorem settled_in (a1 : Option Addr) (n cap1 : Nat) (ps : List Int) (w : World) (hx1 : SlI w w.heap.size a1 ps) (hp : ps.length = 2 * n) (hn : n ≤ 1048576) (hw : ∀ x ∈ ps, (Lit.int .i64 x).wf = true) (hd : LowsApart ps n) (hh : HighsB ps n) :
    CallsIn Fence.wide 14 Tryz.prog 52 #[.slice a1 n cap1] w fun e w' => ∃ L v, e = .returned v ∧ Stl ps n L ∧ SatTo ps n n L ∧ ResP w w' v (setP ps L) := by
  have HLw := hid (lows_any a1 n cap1 ps w hx1 hp hn hw)
  have Hy := hid hx1
  have Hp := hid hp
  have Hw := hid hw
  have HD := hid hd
  have HH := hid hh
  have hmm := @run_makeMap Tryz.prog
  clear hx1 hp hw hd hh
  refine callsIn_of_wp_marks Tryz.func52 rfl trivial ?_ rfl
  simp only [Tryz.ntmps52, List.size_toArray, List.length_cons, List.length_nil, Nat.reduceAdd, Nat.reduceSub, Array.replicate_succ, Array.replicate_zero, List.push_toArray, List.append_toArray, List.nil_append, List.cons_append]
  gi_wp2_with (first
    | (refine ⟨trivial, ?_⟩; gi_at_call 68; refine (callsIn_wide.2 HLw.out).mono ?_; rintro e w1 ⟨rfl, hown, hB1⟩))
  clear hmm
  have hMB : w.heap.size < w1.heap.size := hown.lt
  have H0 : Hid (SetW w (((w1.alloc (.cells #[.map (some w.heap.size)] 84)).alloc (.map #[] 0)).alloc (.cells #[.map (some (w1.heap.size + 1))] 81)) w.heap.size w1.heap.size n ps [] (.slice none 0 0) []) := by
    have e3 := heap_alloc_new ((w1.alloc (.cells #[.map (some w.heap.size)] 84)).alloc (.map #[] 0)) (.cells #[.map (some (w1.heap.size + 1))] 81)
    rw [World.size_alloc, World.size_alloc] at e3
    have m0 := World.ownsMap_made (H := Unit) (w1.alloc (.cells #[.map (some w.heap.size)] 84)) Tryz.prog 47 (plainElem (H := Unit) Tryz.prog 4)
    rw [World.size_alloc] at m0
    exact hid {
      below := ((hB1.alloc (by omega) _).alloc (by simp; omega) _).alloc (by simp; omega) _
      lo := Nat.le_refl _
      mb := hMB
      lows := ((hown.alloc _).alloc _).alloc _
      b3 := (Below.heap_alloc _ _ _ (by simp; omega)).trans ((Below.heap_alloc _ _ _ (by simp)).trans (heap_alloc_new _ _))
      own := World.ownsMap.alloc m0 _
      b4 := e3
      row := World.ownsRow_nil _ _ _ _
      off := by simp
      nodup := by simp
      marks := by simp }
  obtain ⟨M, hM⟩ : ∃ M, M = w.heap.size := ⟨_, rfl⟩
  obtain ⟨B, hBd⟩ : ∃ B, B = w1.heap.size := ⟨_, rfl⟩
  have HMw := hid hM
  rw [← hM, ← hBd] at H0 ⊢
  clear hMB hown hB1 HLw hM hBd
  refine wpIn_loop (StOut w M B n cap1 a1 ps) (fun a' _ => ((n : Int) - intOf (a'.tmps.getD 6 undef)).toNat) ?start ?round
  case start => exact stOut_of (L := []) (Ds := []) _ _ rfl rfl H0 (hid (Stl.nil ps n)) (by decide) (by decide) (hid (fun h => by simp at h))
  case round =>
    rintro a' W ⟨L, av, cp, b, Ds, us, rfl, HW, HS, hb0, hb1, HSat⟩
    clear H0
    by_cases hlt : b < (L.length : Int)
    · clear HSat
      have hsz := HW.out.size
      have hLn := HS.out.len
      gi_wp2
      refine wpIn_scope_wide ?_
      gi_wp2
      refine wpIn_label ?_
      gi_wp2
      refine wpIn_loop (StIn w M B n cap1 a1 ps L.length) (fun a' _ => n - (intOf (a'.tmps.getD 23 undef)).toNat) ?start2 ?round2
      case start2 => exact stIn_of (k := 0) (L := L) (Ds := Ds) _ _ rfl rfl HW HS (Nat.zero_le _) (Nat.le_refl _) (hid (fun _ => SatTo.zero _ _ _))
      case round2 =>
        clear HW hsz
        rintro a' W ⟨k, L2, av, cp, Ds, us, rfl, HW, HS2, hk, hb, HSat⟩
        by_cases hlt2 : k < n
        · obtain ⟨lb, off, hlb, rfl, hc⟩ : ∃ b off, b < w.heap.size ∧ a1 = some ⟨b, off, none⟩ ∧ ∀ i, i < ps.length → w.cell? ⟨b, off + i, none⟩ = some (.int .i64 (ps[i]?.getD 0)) := by
            rcases Hy.out with h | h
            · have := Hp.out; rw [h] at this; simp at this; omega
            · exact h
          have hB := HW.out.below
          have hc2 : W.cell? ⟨lb, off + k * 2, none⟩ = some (.int .i64 (at0 ps (k * 2))) := (hB.cell (p := ⟨lb, off + k * 2, none⟩) hlb).trans (hc _ (by have := Hp.out; omega))
          have hc3 : W.cell? ⟨lb, off + k * 2 + 1, none⟩ = some (.int .i64 (at0 ps (k * 2 + 1))) := (hB.cell (p := ⟨lb, off + (k * 2 + 1), none⟩) hlb).trans (hc _ (by have := Hp.out; omega))
          have hwk := wf_pairAt Hp.out Hw.out hlt2
          have hlk := lookup_pair (HW.out.alloc (.cells #[.int .i64 (at0 ps (k * 2)), .int .i64 (at0 ps (k * 2 + 1))] 47)).own (wf_setP Hp.out Hw.out HS2.out.lt) hwk
          have hmem := mem_setP HD.out HS2.out.lt hlt2
          obtain ⟨x, hx⟩ : ∃ x, x = at0 ps (k * 2) := ⟨_, rfl⟩
          obtain ⟨y, hy⟩ : ∃ y, y = at0 ps (k * 2 + 1) := ⟨_, rfl⟩
          have Hxy : Hid (pairAt ps k = (x, y)) := hid (by rw [hx, hy]; rfl)
          have Hx := hid hx
          rw [show (pairAt ps k).1 = x by rw [Hxy.out], show (pairAt ps k).2 = y by rw [Hxy.out]] at hlk
          rw [← hx, ← hy] at hlk
          rw [← hx] at hc2
          rw [← hy] at hc3
          have c4 : ∀ o : Obj, (W.alloc o).cell? ⟨B + 1 + 1, 0, none⟩ = some (.map (some (B + 1))) := fun o => cell_alloc0 (box_cell HW.out.b4).1 o
          have c3 : ∀ o : Obj, (W.alloc o).cell? ⟨B, 0, none⟩ = some (.map (some M)) := fun o => cell_alloc0 (box_cell HW.out.b3).1 o
          have hi0 : (0 : Int) ≤ (k : Int) := by omega
          have hi1 : (k : Int) < (n : Int) := by omega
          have Hwx : Hid ((Lit.int .i64 x).wf = true) := hid (by rw [hx]; exact hwk.1)
          have Hwk : Hid (wfP (x, y)) := hid (by rw [← Hxy.out]; exact hwk)
          clear hx hy hc hB hwk
          by_cases hm : k ∈ L2
          · rw [decide_eq_true (hmem.2 hm)] at hlk
            have Hm := hid hm
            clear hm hmem
            gi_wp2
            exact ⟨stIn_of (k := k + 1) (L := L2) (Ds := Ds) _ _ rfl rfl (hid (HW.out.alloc _)) HS2 (by omega) hb (hid (fun h => (HSat.out h).skip (.inl Hm.out))), by simp [intOf]; omega⟩
          · rw [decide_eq_false (fun h => hm (hmem.1 h))] at hlk
            have Hm := hid hm
            clear hm hmem
            gi_wp2_with (first
              | (refine ⟨trivial, ?_⟩; gi_at_call 69; refine (stepsFrom_in _ M x _).mono ?_; rintro e w' ⟨rfl, rfl⟩))
            obtain ⟨W3, hW3⟩ : ∃ W3, W3 = ((W.alloc (.cells #[.int .i64 x, .int .i64 y] 47)).alloc (.cells #[.map (some M)] 84)).alloc (.cells #[.int .i64 x] 2) := ⟨_, rfl⟩
            have hs3 : W3.heap.size = W.heap.size + 3 := by rw [hW3]; simp
            have hpb : W3.heap[W.heap.size]? = some (.cells #[.int .i64 x, .int .i64 y] 47 (0, 0)) := by rw [hW3]; exact (Below.heap_alloc _ _ _ (by simp <;> omega)).trans ((Below.heap_alloc _ _ _ (by simp)).trans (heap_alloc_new _ _))
            have hbm : W3.heap[W.heap.size + 1]? = some (.cells #[.map (some M)] 84 (0, 0)) := by
              have := heap_alloc_new (W.alloc (.cells #[.int .i64 x, .int .i64 y] 47)) (.cells #[.map (some M)] 84)
              rw [World.size_alloc] at this
              rw [hW3]
              exact (Below.heap_alloc _ _ _ (by simp)).trans this
            have hbx : W3.heap[W.heap.size + 1 + 1]? = some (.cells #[.int .i64 x] 2 (0, 0)) := by
              have := heap_alloc_new ((W.alloc (.cells #[.int .i64 x, .int .i64 y] 47)).alloc (.cells #[.map (some M)] 84)) (.cells #[.int .i64 x] 2)
              rw [World.size_alloc, World.size_alloc] at this
              rw [hW3]
              exact this
            have HS3 : Hid (SetW w W3 M B n ps L2 (.slice av L2.length cp) Ds) := hid (by rw [hW3]; exact ((HW.out.alloc _).alloc _).alloc _)
            have HDs : Hid (∀ D ∈ Ds, D < W3.heap.size) := hid (fun D hD => by have := lt_of_get (HW.out.marks D hD).2; omega)
            have Hvb : Hid (∀ g, (Value.slice av L2.length cp).ownBlock = some g → g < W3.heap.size) := hid (fun g hg => by have := (HW.out.row.lt g hg).2; omega)
            have hsz := HW.out.size
            rw [← hW3]
            clear hW3 hlk c4 c3 hc2 hc3
            refine wpIn_rangeFunc_P rfl (by decide) (gf := 82) (lb := #[.pointer (some ⟨W.heap.size + 1, 0, none⟩), .pointer (some ⟨W.heap.size + 1 + 1, 0, none⟩)]) rfl trivial (enters_of Tryz.func82 (by kernel_rfl) rfl)
              (steps_P 13 (by decide) (W.heap.size + 1) (W.heap.size + 1 + 1) M n n ps x W3 hbm hbx HS3.out.lows HD.out HH.out Hwx.out) (by simp) (Below.refl _ _) (fun _ => rfl)
              (fun pre W' => SetW w W' M B n ps L2 (.slice av L2.length cp) Ds ∧ W'.heap[W.heap.size]? = some (.cells #[.int .i64 x, .int .i64 y] 47 (0, 0)) ∧ ∀ z ∈ pre, ∀ j, j < n → at0 ps (j * 2) = ((z : Fin 64).val : Int) → j ∈ L2)
              (fun c _ W' => c = .exit 3 ∧ SetW w W' M B n ps L2 (.slice av L2.length cp) Ds ∧ ∃ j, j < n ∧ StepP ps n k j ∧ j ∉ L2)
              (OwnIn.and (set_ownIn (by omega) HDs.out Hvb.out) (OwnIn.and (ownIn_block (β := List (Fin 64)) (fun _ => _) (by omega)) (ownIn_pure _ _ (fun (pre : List (Fin 64)) => ∀ z ∈ pre, ∀ j, j < n → at0 ps (j * 2) = (z.val : Int) → j ∈ L2))))
              (fun c => OwnIn.and (ownIn_pure _ _ (fun (_ : List (Fin 64)) => c = .exit 3)) (OwnIn.and (set_ownIn (by omega) HDs.out Hvb.out) (ownIn_pure _ _ (fun (_ : List (Fin 64)) => ∃ j, j < n ∧ StepP ps n k j ∧ j ∉ L2))))
              ⟨HS3.out, hpb, by simp⟩
              (fun z => { tmps := List.toArray ((.slice (some ⟨lb, off, none⟩) n cap1) :: us 1 :: (.slice none 0 0) :: (.pointer (some ⟨B, 0, none⟩)) :: (.pointer (some ⟨B + 1 + 1, 0, none⟩)) :: (.slice av L2.length cp) :: (.int .i64 (L.length : Int)) :: us 7 :: (.pointer (some ⟨W.heap.size, 0, none⟩)) :: (.int .i64 (z.val : Int)) :: us 10 :: us 11 :: (.slice (some ⟨lb, off, none⟩) n cap1) :: (.map (some M)) :: (.map (some (B + 1))) :: us 15 :: us 16 :: us 17 :: us 18 :: us 19 :: us 20 :: (.slice (some ⟨lb, off, none⟩) n cap1) :: (.int .i64 (n : Int)) :: (.int .i64 (k : Int)) :: (.bool true) :: (.pointer (some ⟨lb, off + k * 2, none⟩)) :: (.agg #[.int .i64 x, .int .i64 y]) :: (.map (some (B + 1))) :: (.agg #[.int .i64 x, .int .i64 y]) :: (.bool false) :: (.map (some M)) :: (.pointer (some ⟨W.heap.size, 0, none⟩)) :: (.int .i64 x) :: (.func (.func 82) #[] #[.pointer (some ⟨W.heap.size + 1, 0, none⟩), .pointer (some ⟨W.heap.size + 1 + 1, 0, none⟩)]) :: (.int .i64 (z.val : Int)) :: us 35 :: us 36 :: us 37 :: us 38 :: us 39 :: us 40 :: us 41 :: us 42 :: us 43 :: us 44 :: us 45 :: us 46 :: us 47 :: us 48 :: us 49 :: us 50 :: us 51 :: us 52 :: us 53 :: us 54 :: us 55 :: []), defers := [] }) ?assign ?body ?done ?stop
            case assign =>
              intro l z W4 K hK
              gi_wp2
              exact hK
            case body =>
              rintro l pre z W4 hpre hsz4 ⟨hS, hpb4, hok⟩
              clear HW HSat hpb hbm hbx HS3
              have hzw : (Lit.int .i64 (z.val : Int)).wf = true := WalkArith.wf_i64 (by have := z.isLt; omega)
              obtain ⟨q3, _⟩ := box_cell hS.b3
              have q4 : ∀ o : Obj, (W4.alloc o).cell? ⟨B + 1 + 1, 0, none⟩ = some (.map (some (B + 1))) := fun o => cell_alloc0 (box_cell hS.b4).1 o
              have Hstep : Hid (∀ j, at0 ps (j * 2) = (z.val : Int) → StepP ps n k j) := hid (fun j hj => by
                unfold StepP
                rw [← Hx.out, hj]
                exact (mem_stepsF HH.out x _).1 ⟨z, hpre.subset (by simp), rfl⟩)
              have Hok := hid hok
              have HSa := hid hS
              have Hpb4 := hid hpb4
              rcases lows_look2 hS.lows HD.out hzw with ⟨j, hj, hjz, hrun⟩ | ⟨hno, hrun⟩
              · obtain ⟨u, hu⟩ : ∃ u, u = at0 ps (j * 2 + 1) := ⟨_, rfl⟩
                have hpj : pairAt ps j = ((z.val : Int), u) := by unfold pairAt; rw [hjz, hu]
                have hlk := lookup_pair (hS.alloc (.cells #[.int .i64 (z.val : Int), .int .i64 u] 47)).own (wf_setP Hp.out Hw.out HS2.out.lt) (wf_pairAt Hp.out Hw.out hj)
                have hmem := mem_setP HD.out HS2.out.lt hj
                rw [hpj] at hlk hmem
                simp only at hlk
                rw [← hu] at hrun
                have Hjz := hid hjz
                have Hj := hid hj
                clear hS hpb4 hok hjz hu hpj hj
                by_cases hm : j ∈ L2
                · rw [decide_eq_true (hmem.2 hm)] at hlk
                  have Hmj := hid hm
                  clear hm hmem
                  gi_wp2
                  refine ⟨KeepP.new _ (by simp) (by omega), HSa.out.alloc _, (Below.heap_alloc _ _ _ (lt_of_get Hpb4.out)).trans Hpb4.out, fun z' hz' j' hj' he => ?_⟩
                  rcases List.mem_append.1 hz' with h | h
                  · exact Hok.out z' h j' hj' he
                  · simp at h
                    subst h
                    exact (lows_inj HD.out hj' Hj.out (he.trans Hjz.out.symm)) ▸ Hmj.out
                · rw [decide_eq_false (fun h => hm (hmem.1 h))] at hlk
                  have Hmj := hid hm
                  clear hm hmem
                  gi_wp2
                  exact ⟨KeepP.new _ (by simp) (by omega), rfl, HSa.out.alloc _, j, Hj.out, Hstep.out j Hjz.out, Hmj.out⟩
              · have Hno := hid hno
                clear hS hpb4 hok hno
                gi_wp2
                refine ⟨KeepP.new _ (by simp) (by omega), HSa.out.alloc _, (Below.heap_alloc _ _ _ (lt_of_get Hpb4.out)).trans Hpb4.out, fun z' hz' j' hj' he => ?_⟩
                rcases List.mem_append.1 hz' with h | h
                · exact Hok.out z' h j' hj' he
                · simp at h
                  subst h
                  exact absurd he (Hno.out j' hj')
            case done =>
              rintro W4 ⟨hS, hpb4, hok⟩ hD4
              have hS4 := hS.mark hD4 (by omega) (fun hm => by have := HDs.out _ hm; omega) (fun e => by have := Hvb.out _ e; omega)
              obtain ⟨L3, hL3⟩ : ∃ L3, L3 = L2 ++ [k] := ⟨_, rfl⟩
              have Hst : Hid (Stl ps n L3) := hid (by
                rw [hL3]
                refine HS2.out.snoc hlt2 Hm.out (fun j hj hs => ?_)
                unfold StepP at hs
                rw [← Hx.out] at hs
                obtain ⟨z, hz, he⟩ := (mem_stepsF HH.out x _).2 hs
                exact hok z hz j hj he)
              have hl2 := HS2.out.len
              have hl3 : L3.length = L2.length + 1 := by rw [hL3]; simp
              have he3 : (setP ps L2 ++ [(x, y)]).length = L3.length := by rw [hL3]; simp [setP]
              obtain ⟨W5, hrun5, hown5, hg5⟩ := World.ownsMap.update hS4.own keyedP Tryz.underlying81 (show L2.length < maxLen by unfold maxLen; omega) (keyOfP Hwk.out) (plainElem_bool Tryz.underlying4 true)
              have hpb5 : W5.heap[W.heap.size]? = some (.cells #[.int .i64 x, .int .i64 y] 47 (0, 0)) := (hg5.block _ (lt_of_get hpb4) (fun e => by injection e with e; omega)).trans hpb4
              have hrow5 := hS4.row.kept hg5 (by
                cases hv : (Value.slice av L2.length cp).ownBlock with
                | none => exact .inl rfl
                | some g => exact .inr (fun e => by have := (hS4.row.lt g hv).1; injection e with e; omega))
              obtain ⟨p40, p41, _, _⟩ := two_of hpb4
              obtain ⟨p50, p51, _, _⟩ := two_of hpb5
              obtain ⟨q4, _⟩ := box_cell hS4.b4
              have q4' : W4.cell? ⟨B + 1 + 1, 0, none⟩ = some (.map (some (B + 1))) := q4
              have hsz5 : B + 3 ≤ W5.heap.size := Nat.le_trans hS4.size hg5.size
              have Hr5 := hid hrow5
              have HS4 := hid hS4
              have Ho5 := hid hown5
              have Hg5 := hid hg5
              have hsl : (setP ps L2).length = L2.length := setP_len ps L2
              have He3 := hid he3
              have HL3 := hid hL3
              have Hl3 := hid hl3
              clear hl3 hS hS4 hok hD4 hpb4 hpb5 hrow5 hown5 hg5 he3 hL3 q4
              gi_wp2_with (first
                | (gi_at_builtin; refine append_pairIn rfl rfl Hr5.out (by omega) (by omega) (by first | rfl | (simp only [hsl]; rfl)) rfl ?_; intro v' w6 hr6 hg6 hat6; obtain ⟨_, av', cp', rfl, _⟩ := pairs_form hr6; rw [He3.out] at hr6 hat6 ⊢; have Hr6 := hid hr6; have Hg6 := hid hg6; have Hat6 := hid hat6; clear hr6 hg6 hat6))
              have h6 := HS4.out.put (i := k) (by rw [Hxy.out]; exact Ho5.out) Hg5.out (by rw [Hxy.out, He3.out]; exact Hr6.out) Hg6.out Hat6.out
              rw [← HL3.out, hs3] at h6
              exact ⟨stIn_of (k := k + 1) (L := L3) (Ds := (W.heap.size + 3) :: Ds) _ _ rfl rfl (hid h6) Hst (by omega) (by rw [Hl3.out]; omega) (hid (fun h => by rw [Hl3.out] at h; omega)), by simp [intOf]; omega⟩
            case stop =>
              rintro c pre W4 hpre ⟨rfl, hS, hj⟩ hD4
              have HS4 := hid (hS.mark hD4 (by omega) (fun hm => by have := HDs.out _ hm; omega) (fun e => by have := Hvb.out _ e; omega))
              have Hj := hid hj
              clear hS hj hD4
              gi_wp2
              exact ⟨stIn_of (k := k + 1) (L := L2) (Ds := W3.heap.size :: Ds) _ _ rfl rfl HS4 HS2 (by omega) hb (hid (fun h => (HSat.out h).skip (.inr Hj.out))), by simp [intOf]; omega⟩
        · obtain rfl : k = n := by omega
          clear hlt2
          gi_wp2
          simp only [Exit.noGoto]
          gi_wp2
          exact ⟨stOut_of (L := L2) (Ds := Ds) _ _ rfl rfl HW HS2 (by omega) (by omega) (hid (fun h => HSat.out (by omega))), by simp [intOf]; omega⟩
    · have hbL : b = (L.length : Int) := by omega
      have Hsat := hid (HSat.out hbL)
      clear HSat
      gi_wp2
      refine leaves_marks (by simp) Ds _ HW.out.nodup (fun D hD => (HW.out.marks D hD).2) (fun w' hw' => ?_)
      exact ⟨_, results_tmp rfl _ _ _, L, .slice av L.length cp, rfl, HS.out, Hsat.out, HW.out.leaves hw'⟩

end Go.Proofs.YtpdhnjdnlgnniaaGreat

/-! All pairs as keys of a map. -/
namespace Go.Proofs.YtpdhnjdnlgnniaaGreat
open Go.RowKit

theorem row_pair {w : World} {base g cap : Nat} {L : List (Int × Int)} (h : w.ownsRow base 47 2 (.slice (some ⟨g, 0, none⟩) L.length cap) L.length ((flatP L).map (Value.int .i64))) {k : Nat} (hk : k < L.length) {x y : Int} (hx : L[k]?.getD (0, 0) = (x, y)) :
    w.cell? ⟨g, k * 2, none⟩ = some (.int .i64 x) ∧ w.cell? ⟨g, k * 2 + 1, none⟩ = some (.int .i64 y) := by
  have hlen := flatP_len L
  have ha := flatP_at L k hk
  rw [hx] at ha
  unfold at0 at ha
  simp only at ha
  have h0 : k * 2 < (flatP L).length := by omega
  have h1 : k * 2 + 1 < (flatP L).length := by omega
  constructor
  · rw [h.cellAt (k * 2) (by omega), List.getElem?_map, List.getElem?_eq_getElem h0, ← ha.1, List.getElem?_eq_getElem h0]; rfl
  · rw [h.cellAt (k * 2 + 1) (by omega), List.getElem?_map, List.getElem?_eq_getElem h1, ← ha.2, List.getElem?_eq_getElem h1]; rfl

set_option maxRecDepth 100000 in
set_option maxHeartbeats 4000000 in
theorem known_any (vn : Nat) (a0 : Option Addr) (cap : Nat) (fs : List Int) (w : World) (hx : SlI w w.heap.size a0 fs) (hl : fs.length ≤ 1048576) (hC : IsC (vn : Int) fs) :
    Calls Tryz.prog 67 #[.agg #[.int .i64 vn, .slice a0 fs.length cap]] w fun e w' => ∃ b n, e = .returned (.map (some b)) ∧ MapP w' b n (pairsL fs vn fs.length) ∧ w.heap.size ≤ b ∧ Below w.heap.size w w' := by
  have hB0 : Hid (Below w.heap.size w ((w.alloc (.cells #[.int .i64 vn, .slice a0 fs.length cap] 30)).alloc (.map #[] 0))) := hid (((Below.refl _ w).alloc (Nat.le_refl _) _).alloc (by simp) _)
  have Hx := hid (hx.later hB0.out hB0.out.size)
  have hvn : vn ≤ 6 := by have := hC.hi; omega
  have Hf := hid hC.range63
  have HC := hid hC
  have Hpl := hid (pairsL_len fs vn fs.length (Nat.le_refl _))
  have Hwf : Hid (∀ q ∈ pairsL fs vn fs.length, wfP q) := hid (fun q hq => by
    obtain ⟨x, y⟩ := q
    have h := (mem_pairsL HC.out x y).1 (by simpa using hq)
    unfold pairB at h
    simp only [Bool.and_eq_true, decide_eq_true_eq] at h
    have h0 := Hf.out x h.1.1.1
    have h1 := Hf.out y h.1.1.2
    exact ⟨wf_face h0.1 h0.2, wf_face h1.1 h1.2⟩)
  have hw0 := World.ownsMap_made (H := Unit) (w.alloc (.cells #[.int .i64 vn, .slice a0 fs.length cap] 30)) Tryz.prog 47 (plainElem (H := Unit) Tryz.prog 4)
  have Hw0 := hid hw0
  obtain ⟨L, hL⟩ : ∃ L, L = pairsL fs vn fs.length := ⟨_, rfl⟩
  rw [← hL] at Hwf Hpl ⊢
  have HL := hid hL
  clear hL
  have hmm := @run_makeMap Tryz.prog
  clear hx hC hw0
  go_enter Tryz.func67, Tryz.ntmps67
  go_wp2_with fail
  refine (pairsOf_any vn a0 cap fs _ Hx.out hl HC.out).mono ?_
  rintro e w1 ⟨v, rfl, hrow, hB1⟩
  rw [← HL.out] at hrow
  have hB01 := hid (hB0.out.trans (hB1.mono (by simp <;> omega)))
  have hm1 : w1.ownsMap Tryz.prog 47 (plainElem (H := Unit) Tryz.prog 4) (w.heap.size + 1) 0 (.map []) := by
    have := World.ownsMap.kept Hw0.out (row := none) ⟨hB1.os, hB1.tape, hB1.output, hB1.size, fun k hk _ => hB1.block k hk⟩ (by simp)
    simpa using this
  have Hm1 := hid hm1
  have hrow1 := ownsRow_base hrow (show w.heap.size + 1 + 1 ≤ _ by simp)
  have Hrow := hid hrow1
  clear hB1 hrow hm1 hmm hrow1 Hw0 Hx hB0
  rcases Hrow.out.2 with ⟨rfl, hn⟩ | ⟨g, cp, _, rfl, _⟩
  · have hLn : L = [] := List.length_eq_zero_iff.1 hn
    subst hLn
    clear hn
    go_wp2
    refine wp_loop_rounds 1 ?_; rw [rounds_succ]
    go_wp2
    go_ret
    exact ⟨_, _, rfl, Hm1.out, by omega, hB01.out⟩
  · go_wp2
    go_loopw [10] (fun i wr => ∃ k : Nat, k ≤ L.length ∧ i = .int .i64 k ∧ MapP wr (w.heap.size + 1) k (L.take k) ∧ wr.ownsRow (w.heap.size + 1 + 1) 47 2 (.slice (some ⟨g, 0, none⟩) L.length cp) L.length ((flatP L).map (Value.int .i64)) ∧ Below w.heap.size w wr) (fun i _ => L.length - (intOf i).toNat)
    case atStart => exact ⟨0, Nat.zero_le _, rfl, Hm1.out, Hrow.out, hB01.out⟩
    case round =>
      obtain ⟨k, hk, rfl, hm, hr, hB⟩ := hrel
      clear Hrow hB01 Hm1
      by_cases hlt : k < L.length
      · obtain ⟨x, y, hxy⟩ : ∃ x y, L[k]?.getD (0, 0) = (x, y) := ⟨_, _, rfl⟩
        obtain ⟨hc0, hc1⟩ := row_pair hr hlt hxy
        have hmem : (x, y) ∈ L := by rw [← hxy, List.getElem?_eq_getElem hlt]; simp
        have Hsn : Hid (L.take (k + 1) = L.take k ++ [(x, y)]) := hid (by rw [List.take_add_one, ← hxy, List.getElem?_eq_getElem hlt]; rfl)
        have Hwk := hid (Hwf.out _ hmem)
        have hi0 : (0 : Int) ≤ (k : Int) := by omega
        have hi1 : (k : Int) < (L.length : Int) := by omega
        have hLl : L.length ≤ 6291456 := Nat.le_trans Hpl.out (Nat.le_trans (Nat.mul_le_mul hl hvn) (by decide))
        have hkm : k < maxLen := by unfold maxLen; omega
        have Hm := hid hm
        have Hr := hid hr
        have HB := hid hB
        clear hm hr hB hmem hxy
        have HmA := hid (World.ownsMap.alloc Hm.out (.cells #[.int .i64 x, .int .i64 y] 47))
        go_wp2_with (first | (at_mapUpdate; refine wpList_mapUpdate_own _ rfl _ _ _ 81 rfl 47 4 keyedP Tryz.underlying81 _ (w.heap.size + 1) _ _ rfl HmA.out hkm _ _ _ rfl rfl (keyOfP Hwk.out) _ [] (plainElem_bool Tryz.underlying4 true) ?_; intro w2 hown2 hgrow2) | go_in)
        go_roundw
        case rel =>
          have hgg : ∀ q, (some g : Option Nat) = some q → w.heap.size + 1 + 1 ≤ q ∧ q < wr.heap.size := fun q hq => Hr.out.lt q hq
          refine ⟨k + 1, by omega, by go_num, ?_, ?_, (HB.out.alloc HB.out.size _).grown hgrow2 (by have := HB.out.size; simp; omega) (fun r e => by cases e; omega)⟩
          · rw [Hsn.out]
            unfold MapP
            rw [pknD_snoc]
            exact hown2
          · exact (Hr.out.alloc _).kept hgrow2 (Or.inr (fun e => by have := hgg g rfl; simp [Value.ownBlock] at e; omega))
        case measure => simp [intOf]; omega
      · obtain rfl : k = L.length := by omega
        rw [List.take_of_length_le (Nat.le_refl _)] at hm
        go_wp2
        go_ret
        exact ⟨_, _, rfl, hm, by omega, hB⟩

end Go.Proofs.YtpdhnjdnlgnniaaGreat

/-! The program's IsPairing. -/
namespace Go.Proofs.YtpdhnjdnlgnniaaGreat
open Go.RowKit

/-- What the program has asked of the first k pairs. -/
def GoodTo (fs ps : List Int) (k : Nat) : Prop := ∀ i, i < k → pairB fs (at0 ps (i * 2)) (at0 ps (i * 2 + 1)) = true ∧ at0 ps (i * 2) ∉ ps.take (i * 2) ∧ at0 ps (i * 2 + 1) ∉ ps.take (i * 2)

theorem mem_take_at {ps : List Int} {m : Nat} {x : Int} (hm : m ≤ ps.length) : x ∈ ps.take m ↔ ∃ j, j < m ∧ at0 ps j = x := by
  rw [List.mem_iff_getElem?]
  constructor
  · rintro ⟨j, hj⟩
    rw [List.getElem?_take] at hj
    split at hj
    · next h => exact ⟨j, h, by unfold at0; rw [hj]; rfl⟩
    · cases hj
  · rintro ⟨j, h, rfl⟩
    refine ⟨j, ?_⟩
    rw [List.getElem?_take, if_pos h]
    unfold at0
    rw [List.getElem?_eq_getElem (by omega)]; rfl

theorem clash_iff {x y u v : Int} : clashB x y u v = false ↔ x ≠ u ∧ x ≠ v ∧ y ≠ u ∧ y ≠ v := by
  unfold clashB; simp [Bool.or_eq_false_iff, and_assoc]

theorem good_free {ps : List Int} {n i : Nat} (hp : ps.length = 2 * n) (hi : i < n) :
    (at0 ps (i * 2) ∉ ps.take (i * 2) ∧ at0 ps (i * 2 + 1) ∉ ps.take (i * 2)) ↔ ∀ j, j < i → clashB (at0 ps (i * 2)) (at0 ps (i * 2 + 1)) (at0 ps (j * 2)) (at0 ps (j * 2 + 1)) = false := by
  rw [mem_take_at (by omega), mem_take_at (by omega)]
  constructor
  · rintro ⟨h0, h1⟩ j hj
    rw [clash_iff]
    exact ⟨fun e => h0 ⟨j * 2, by omega, e.symm⟩, fun e => h0 ⟨j * 2 + 1, by omega, e.symm⟩, fun e => h1 ⟨j * 2, by omega, e.symm⟩, fun e => h1 ⟨j * 2 + 1, by omega, e.symm⟩⟩
  · intro h
    have key : ∀ j, j < i * 2 → at0 ps j ≠ at0 ps (i * 2) ∧ at0 ps j ≠ at0 ps (i * 2 + 1) := by
      intro j hj
      have hc := clash_iff.1 (h (j / 2) (by omega))
      rcases Nat.mod_two_eq_zero_or_one j with hm | hm
      · have e : j / 2 * 2 = j := by omega
        rw [e] at hc
        exact ⟨fun e => hc.1 e.symm, fun e => hc.2.2.1 e.symm⟩
      · have e : j / 2 * 2 + 1 = j := by omega
        rw [e] at hc
        exact ⟨fun e => hc.2.1 e.symm, fun e => hc.2.2.2 e.symm⟩
    exact ⟨fun ⟨j, hj, e⟩ => (key j hj).1 e, fun ⟨j, hj, e⟩ => (key j hj).2 e⟩

theorem less_asym {x y u v : Int} (h : lessP x y u v = true) : lessP u v x y = false := by
  unfold lessP at *
  simp only [Bool.or_eq_true, Bool.and_eq_true, decide_eq_true_eq, Bool.or_eq_false_iff, Bool.and_eq_false_iff, decide_eq_false_iff_not] at *
  omega

theorem okTo_good {fs ps : List Int} {n : Nat} (hp : ps.length = 2 * n) (h : OkTo fs ps n) : NoDrop ps n 1 ∧ GoodTo fs ps n :=
  ⟨fun j _ h2 h3 => less_asym ((h j h3).2.1 h2), fun i hi => ⟨(h i hi).1, (good_free hp hi).2 (h i hi).2.2⟩⟩

theorem good_okTo {fs ps : List Int} {n : Nat} (hp : ps.length = 2 * n) (hs : NoDrop ps n 1) (h : GoodTo fs ps n) : OkTo fs ps n := by
  intro i hi
  have hc := (good_free hp hi).1 (h i hi).2
  refine ⟨(h i hi).1, fun h1 => ?_, hc⟩
  have hd := hs i h1 h1 hi
  have hn := clash_iff.1 (hc (i - 1) (by omega))
  unfold lessP at *
  simp only [Bool.or_eq_true, Bool.and_eq_true, decide_eq_true_eq, Bool.or_eq_false_iff, Bool.and_eq_false_iff, decide_eq_false_iff_not] at *
  omega

/-- The answer. -/
noncomputable def isPairingR (V : Int) (fs : List Int) (n : Nat) (ps : List Int) : Bool × Int := if isCB V fs then (pairingB fs ps n, 0) else (false, 1)

theorem two_mono {P : Program} {f : FuncId} {args : Array Value} {w : World} {r : Bool × Int} {b : Bool} {c : Int} (hr : r = (b, c))
    (h : Calls P f args w fun e w' => e = .returned (.tuple #[.bool b, .int .i64 c]) ∧ Below w.heap.size w w') : Calls P f args w fun e w' => e = .returned (.tuple #[.bool r.1, .int .i64 r.2]) ∧ Below w.heap.size w w' := by
  subst hr; exact h

set_option maxRecDepth 100000 in
set_option maxHeartbeats 4000000 in
theorem implIsPairing (V : Int) (a0 : Option Addr) (cap : Nat) (fs : List Int) (a1 : Option Addr) (n cap1 : Nat) (ps : List Int) (w : World) (hx : SlI w w.heap.size a0 fs) (hx1 : SlI w w.heap.size a1 ps) (hl : fs.length ≤ 1048576) (hp : ps.length = 2 * n) (hn : n ≤ 1048576) (hw : ∀ x ∈ ps, (Lit.int .i64 x).wf = true) :
    Calls Tryz.prog 51 #[.agg #[.int .i64 V, .slice a0 fs.length cap], .slice a1 n cap1] w fun e w' => e = .returned (.tuple #[.bool (isPairingR V fs n ps).1, .int .i64 (isPairingR V fs n ps).2]) ∧ Below w.heap.size w w' := by
  have hB0 : Below w.heap.size w (w.alloc (.cells #[.int .i64 V, .slice a0 fs.length cap] 30)) := (Below.refl _ w).alloc (Nat.le_refl _) _
  have Hx := hid (hx.later hB0 hB0.size)
  have Hx0 := hid hx
  have Hy := hid hx1
  clear hx hx1
  by_cases hC : IsC V fs
  · obtain ⟨vn, rfl⟩ : ∃ vn : Nat, V = vn := ⟨V.toNat, by have := hC.lo; omega⟩
    refine two_mono (show isPairingR vn fs n ps = (pairingB fs ps n, 0) by unfold isPairingR; rw [isCB_true hC, if_pos rfl]) ?_
    have HC := hid hC
    have Hp := hid hp
    have Hw := hid hw
    clear hC hp hw
    have hent : ∀ args w, (callFunc 66 args).run Tryz.prog w = .ok (.enter 66 args) w := enters_of Tryz.func66 (by kernel_rfl) rfl
    go_enter Tryz.func51, Tryz.ntmps51
    go_wp2_with fail
    refine (isc_yes (vn : Int) a0 cap fs _ Hx.out hl HC.out).mono ?_
    rintro e w1 ⟨rfl, hB1⟩
    have HB1 := hid (hB0.trans (hB1.mono (by simp)))
    have k0 : w1.cell? ⟨w.heap.size, 0, none⟩ = some (.int .i64 vn) := (hB1.cell (p := ⟨w.heap.size, 0, none⟩) (by simp)).trans (by simp [go_sem])
    have k1 : w1.cell? ⟨w.heap.size, 1, none⟩ = some (.slice a0 fs.length cap) := (hB1.cell (p := ⟨w.heap.size, 1, none⟩) (by simp)).trans (by simp [go_sem])
    have hs1 : w.heap.size < w1.heap.size := by have := hB1.size; simp at this; omega
    clear hB0 hB1
    go_wp2_with fail
    refine (sorted_any a1 n cap1 ps _ (Hy.out.later HB1.out HB1.out.size) Hp.out hn).mono ?_
    rintro e w2 ⟨rfl, hB2⟩
    by_cases hnd : NoDrop ps n 1
    rotate_left
    · rw [noDropB_false hnd]
      have He := hid (pairingB_false (fs := fs) (fun h => hnd (okTo_good Hp.out h).1))
      clear hnd
      go_wp2_with fail
      go_ret2
      exact ⟨by rw [He.out]; rfl, HB1.out.trans (hB2.mono HB1.out.size)⟩
    · rw [noDropB_true hnd]
      have Hnd := hid hnd
      have HB2 := hid (HB1.out.trans (hB2.mono HB1.out.size))
      have k02 := (hB2.cell (p := ⟨w.heap.size, 0, none⟩) hs1).trans k0
      have k12 := (hB2.cell (p := ⟨w.heap.size, 1, none⟩) hs1).trans k1
      have hs2 : w1.heap.size ≤ w2.heap.size := hB2.size
      clear hnd hB2 k0 k1 HB1 hent
      have hmm := @run_makeMap Tryz.prog
      go_wp2_with fail
      refine (known_any vn a0 cap fs _ (Hx0.out.later HB2.out HB2.out.size) hl HC.out).mono ?_
      rintro e w3 ⟨bm, nm, rfl, hm, hbm, hB3⟩
      have HB3 := hid (HB2.out.trans (hB3.mono HB2.out.size))
      have Hm := hid hm
      obtain ⟨L, hL⟩ : ∃ L, L = pairsL fs vn fs.length := ⟨_, rfl⟩
      have HL : Hid (∀ x y : Int, (x, y) ∈ L ↔ pairB fs x y = true) := hid (fun x y => by rw [hL]; exact mem_pairsL HC.out x y)
      have Hwl : Hid (∀ q ∈ L, wfP q) := hid (fun q hq => by
        obtain ⟨x, y⟩ := q
        have h := (HL.out x y).1 hq
        unfold pairB at h
        simp only [Bool.and_eq_true, decide_eq_true_eq] at h
        have h0 := HC.out.range63 x h.1.1.1
        have h1 := HC.out.range63 y h.1.1.2
        exact ⟨wf_face h0.1 h0.2, wf_face h1.1 h1.2⟩)
      have hbm3 : bm < w3.heap.size := World.ownsMap.lt hm
      rw [← hL] at Hm
      clear hm hB3 hL HB2 k02 k12
      go_wp2_with fail
      clear hmm
      go_loopw [21] (fun i wr => ∃ k : Nat, k ≤ n ∧ i = .int .i64 k ∧ Hid (GoodTo fs ps k) ∧ MapW wr w3.heap.size (k * 2) (ps.take (k * 2)) ∧ MapP wr bm nm L ∧ Below w.heap.size w wr) (fun i _ => n - (intOf i).toNat)
      case atStart => exact ⟨0, Nat.zero_le _, rfl, hid (fun i hi => by omega), World.ownsMap_made w3 Tryz.prog 2 _, World.ownsMap.alloc Hm.out _, HB3.out.alloc HB3.out.size _⟩
      case round =>
        obtain ⟨k, hk, rfl, Hg, hown, hm, hB⟩ := hrel
        by_cases hlt : k < n
        · obtain ⟨b, off, hb, rfl, hc⟩ : ∃ b off, b < w.heap.size ∧ a1 = some ⟨b, off, none⟩ ∧ ∀ i, i < ps.length → w.cell? ⟨b, off + i, none⟩ = some (.int .i64 (ps[i]?.getD 0)) := by
            rcases Hy.out with h | h
            · have := Hp.out; rw [h] at this; simp at this; omega
            · exact h
          have hc2 : wr.cell? ⟨b, off + k * 2, none⟩ = some (.int .i64 (at0 ps (k * 2))) := (hB.cell (p := ⟨b, off + k * 2, none⟩) hb).trans (hc _ (by have := Hp.out; omega))
          have hc3 : wr.cell? ⟨b, off + k * 2 + 1, none⟩ = some (.int .i64 (at0 ps (k * 2 + 1))) := (hB.cell (p := ⟨b, off + (k * 2 + 1), none⟩) hb).trans (hc _ (by have := Hp.out; omega))
          obtain ⟨x, hx⟩ : ∃ x, x = at0 ps (k * 2) := ⟨_, rfl⟩
          obtain ⟨y, hy⟩ : ∃ y, y = at0 ps (k * 2 + 1) := ⟨_, rfl⟩
          have hlen := Hp.out
          have hwx : (Lit.int .i64 x).wf = true := Hw.out x (by rw [hx]; exact getD_mem (by omega))
          have hwy : (Lit.int .i64 y).wf = true := Hw.out y (by rw [hy]; exact getD_mem (by omega))
          have Hsn : Hid (ps.take ((k + 1) * 2) = ps.take (k * 2) ++ [x] ++ [y]) := hid (by
            rw [show (k + 1) * 2 = k * 2 + 1 + 1 by omega, take_snoc (show k * 2 + 1 < ps.length by omega), take_snoc (show k * 2 < ps.length by omega), hx, hy]; rfl)
          have Hgood : Hid (GoodTo fs ps n → pairB fs x y = true ∧ x ∉ ps.take (k * 2) ∧ y ∉ ps.take (k * 2)) := hid (fun h => by rw [hx, hy]; exact h k hlt)
          have Hgs : Hid (pairB fs x y = true → x ∉ ps.take (k * 2) → y ∉ ps.take (k * 2) → GoodTo fs ps (k + 1)) := hid (fun h0 h1 h2 i hi => by
            by_cases hik : i < k
            · exact Hg.out i hik
            · obtain rfl : i = k := by omega
              rw [← hx, ← hy]; exact ⟨h0, h1, h2⟩)
          rw [← hx] at hc2
          rw [← hy] at hc3
          have HmA : Hid (MapP (wr.alloc (.cells #[.int .i64 x, .int .i64 y] 47)) bm nm L) := hid (World.ownsMap.alloc hm _)
          have Hown := hid hown
          have HoA : Hid (MapW (wr.alloc (.cells #[.int .i64 x, .int .i64 y] 47)) w3.heap.size (k * 2) (ps.take (k * 2))) := hid (World.ownsMap.alloc hown _)
          have hlk := lookup_pair HmA.out Hwl.out (p := (x, y)) ⟨hwx, hwy⟩
          have hl0 := lookup_known HoA.out hwx
          have hl1 := lookup_known HoA.out hwy
          have hi0 : (0 : Int) ≤ (k : Int) := by omega
          have hi1 : (k : Int) < (n : Int) := by omega
          have HB := hid hB
          have Hbad : Hid (¬ GoodTo fs ps n → pairingB fs ps n = false) := hid (fun h => pairingB_false (fun ho => h (okTo_good Hp.out ho).2))
          clear hx hy hc hB hm hown hlen
          by_cases hxy : (x, y) ∈ L
          rotate_left
          · rw [decide_eq_false hxy] at hlk
            have He := hid (Hbad.out (fun h => hxy ((HL.out x y).2 (Hgood.out h).1)))
            clear hxy
            go_wp2_with (simp only [hlk, hl0, hl1])
            go_ret2
            exact ⟨by rw [He.out]; rfl, HB.out.alloc HB.out.size _⟩
          · rw [decide_eq_true hxy] at hlk
            have Hxy := hid ((HL.out x y).1 hxy)
            clear hxy
            by_cases h0 : x ∈ ps.take (k * 2)
            · rw [decide_eq_true h0] at hl0
              have He := hid (Hbad.out (fun h => (Hgood.out h).2.1 h0))
              clear h0
              go_wp2_with (simp only [hlk, hl0, hl1])
              go_ret2
              exact ⟨by rw [He.out]; rfl, HB.out.alloc HB.out.size _⟩
            · rw [decide_eq_false h0] at hl0
              by_cases h1 : y ∈ ps.take (k * 2)
              · rw [decide_eq_true h1] at hl1
                have He := hid (Hbad.out (fun h => (Hgood.out h).2.2 h1))
                clear h0 h1
                go_wp2_with (simp only [hlk, hl0, hl1])
                go_ret2
                exact ⟨by rw [He.out]; rfl, HB.out.alloc HB.out.size _⟩
              · rw [decide_eq_false h1] at hl1
                have He := hid (Hgs.out Hxy.out h0 h1)
                clear h0 h1
                go_wp2_with (simp only [hlk, hl0, hl1])
                have hu1 := World.ownsMap.update (w := World.drew (wr.alloc (.cells #[.int .i64 x, .int .i64 y] 47))) HoA.out (Maps.int_keyed Tryz.underlying2) Tryz.underlying83 (show k * 2 < maxLen by unfold maxLen; omega) (Maps.keyOf_int_mk Tryz.underlying2 hwx) (plainElem_bool Tryz.underlying4 true)
                obtain ⟨wa, hrun1, hwa, hga⟩ := hu1
                obtain ⟨wb, hrun2, hwb, hgb⟩ := World.ownsMap.update hwa (Maps.int_keyed Tryz.underlying2) Tryz.underlying83 (show k * 2 + 1 < maxLen by unfold maxLen; omega) (Maps.keyOf_int_mk Tryz.underlying2 hwy) (plainElem_bool Tryz.underlying4 true)
                have hlw : w3.heap.size < wr.heap.size := by have := World.ownsMap.lt HoA.out; have hne := World.ownsMap.lt (b := w3.heap.size) Hown.out; exact hne
                have hba : ∀ j, j ≠ w3.heap.size → j < wr.heap.size + 1 → wa.heap[j]? = (wr.alloc (.cells #[.int .i64 x, .int .i64 y] 47)).heap[j]? := fun j hj hlt => hga.block j (by show j < (wr.alloc _).heap.size; simp; omega) (by simpa using hj)
                have Hba := hid hba
                have qa : wa.heap[wr.heap.size]? = some (.cells #[.int .i64 x, .int .i64 y] 47 (0, 0)) := (Hba.out _ (by omega) (by omega)).trans (heap_alloc_new _ _)
                have qb : wb.heap[wr.heap.size]? = some (.cells #[.int .i64 x, .int .i64 y] 47 (0, 0)) := (hgb.block _ (lt_get qa) (by simp; omega)).trans qa
                obtain ⟨ca0, ca1, _, _⟩ := two_of qa
                obtain ⟨cb0, cb1, _, _⟩ := two_of qb
                have Hga := hid hga
                have Hgb := hid hgb
                have Hwb := hid hwb
                clear hga hgb hwb hwa hba qa qb
                go_region_held3 (fun w' => w'.cell? ⟨wr.heap.size, 0, none⟩ = some (.int .i64 x) ∧ w'.cell? ⟨wr.heap.size, 1, none⟩ = some (.int .i64 y)) (go_keep) (first
                  | (simp only [hrun1])
                  | (simp only [hrun2]))
                go_wp2_with fail
                go_roundw
                case rel =>
                  have hm2 : MapP wb bm nm L := World.ownsMap.kept (World.ownsMap.kept HmA.out (row := some w3.heap.size) ⟨Hga.out.os, Hga.out.tape, Hga.out.output, Hga.out.size, Hga.out.block⟩ (by simp; omega)) Hgb.out (by simp; omega)
                  have hBx : Below w.heap.size w wa := (HB.out.alloc HB.out.size _).grown (w := wr.alloc (.cells #[.int .i64 x, .int .i64 y] 47)) ⟨Hga.out.os, Hga.out.tape, Hga.out.output, Hga.out.size, Hga.out.block⟩ (by have := HB.out.size; simp; omega) (fun r e => by cases e; have := HB3.out.size; omega)
                  refine ⟨k + 1, by omega, by go_num, He.out, ?_, hm2, hBx.grown Hgb.out hBx.size (fun r e => by cases e; have := HB3.out.size; omega)⟩
                  rw [Hsn.out]
                  unfold MapW
                  rw [knownD_snoc, knownD_snoc, show (k + 1) * 2 = k * 2 + 1 + 1 by omega]
                  exact Hwb.out
                case measure => simp [intOf]; omega
        · obtain rfl : k = n := by omega
          have He := hid (pairingB_true (good_okTo Hp.out Hnd.out Hg.out))
          go_wp2
          go_ret2
          exact ⟨by rw [He.out]; rfl, hB⟩
  · refine two_mono (show isPairingR V fs n ps = (false, 1) by unfold isPairingR; rw [isCB_false hC, if_neg (by simp)]) ?_
    go_enter Tryz.func51, Tryz.ntmps51
    go_wp2_with fail
    refine (isc_no V a0 cap fs _ Hx.out hl hC).mono ?_
    rintro e w1 ⟨rfl, hB1⟩
    go_wp2_with fail
    go_ret2
    exact ⟨rfl, hB0.trans (hB1.mono (by simp))⟩

end Go.Proofs.YtpdhnjdnlgnniaaGreat

/-! The critical faces, the program's. -/
namespace Go.Proofs.YtpdhnjdnlgnniaaGreat
open Go.RowKit

noncomputable def pcodeR (V : Int) (fs : List Int) (n : Nat) (ps : List Int) : Int := if isCB V fs then (if pairingB fs ps n then 0 else 2) else 1
def critL (fs ps : List Int) : List Int := fs.filter fun x => !decide (x ∈ ps)
noncomputable def criticalFacesR (V : Int) (fs : List Int) (n : Nat) (ps : List Int) : List Int × Int := if pcodeR V fs n ps = 0 then (critL fs ps, 0) else ([], pcodeR V fs n ps)

theorem pcode_cases (V : Int) (fs : List Int) (n : Nat) (ps : List Int) :
    (IsC V fs ∧ OkTo fs ps n ∧ pcodeR V fs n ps = 0 ∧ isPairingR V fs n ps = (true, 0) ∧ pairingB fs ps n = true) ∨ (IsC V fs ∧ ¬ OkTo fs ps n ∧ pcodeR V fs n ps = 2 ∧ isPairingR V fs n ps = (false, 0) ∧ pairingB fs ps n = false) ∨ (¬ IsC V fs ∧ pcodeR V fs n ps = 1 ∧ isPairingR V fs n ps = (false, 1)) := by
  unfold pcodeR isPairingR
  by_cases hC : IsC V fs
  · rw [isCB_true hC]
    by_cases ho : OkTo fs ps n
    · rw [pairingB_true ho]; exact .inl ⟨hC, ho, by simp, by simp, rfl⟩
    · rw [pairingB_false ho]; exact .inr (.inl ⟨hC, ho, by simp, by simp, rfl⟩)
  · rw [isCB_false hC]; exact .inr (.inr ⟨hC, by simp, by simp⟩)

set_option maxRecDepth 100000 in
set_option maxHeartbeats 1000000 in
theorem pcode_impl (V : Int) (a0 : Option Addr) (cap : Nat) (fs : List Int) (a1 : Option Addr) (n cap1 : Nat) (ps : List Int) (w : World) (hx : SlI w w.heap.size a0 fs) (hx1 : SlI w w.heap.size a1 ps) (hl : fs.length ≤ 1048576) (hp : ps.length = 2 * n) (hn : n ≤ 1048576) (hw : ∀ x ∈ ps, (Lit.int .i64 x).wf = true) :
    Calls Tryz.prog 35 #[.agg #[.int .i64 V, .slice a0 fs.length cap], .slice a1 n cap1] w fun e w' => e = .returned (.int .i64 (pcodeR V fs n ps)) ∧ Below w.heap.size w w' := by
  have hB0 : Below w.heap.size w (w.alloc (.cells #[.int .i64 V, .slice a0 fs.length cap] 30)) := (Below.refl _ w).alloc (Nat.le_refl _) _
  have HI := hid (implIsPairing V a0 cap fs a1 n cap1 ps _ (hx.later hB0 hB0.size) (hx1.later hB0 hB0.size) hl hp hn hw)
  clear hx hx1 hp hw
  rcases pcode_cases V fs n ps with ⟨_, _, h0, h1, _⟩ | ⟨_, _, h0, h1, _⟩ | ⟨_, h0, h1⟩
  all_goals
    rw [h1] at HI
    rw [h0]
    clear h0 h1
    go_enter Tryz.func35, Tryz.ntmps35
    go_wp2_with fail
    refine HI.out.mono ?_
    rintro e w1 ⟨rfl, hB1⟩
    go_wp2_with fail
    go_ret
    exact ⟨rfl, hB0.trans (hB1.mono (by simp))⟩


end Go.Proofs.YtpdhnjdnlgnniaaGreat

/-! The model's IsPairing. -/
namespace Go.Proofs.YtpdhnjdnlgnniaaGreat
open Go.RowKit

set_option maxRecDepth 100000 in
set_option maxHeartbeats 1000000 in
theorem pis_any (V : Int) (a : Option Addr) (cap : Nat) (fs : List Int) (a1 : Option Addr) (n c2 : Nat) (ps : List Int) (w : World) (hx : SlI w w.heap.size a fs) (hx1 : SlI w w.heap.size a1 ps) (hl : fs.length ≤ 1048576) (hf : ∀ x ∈ fs, 1 ≤ x ∧ x ≤ 63) (hp : ps.length = 2 * n) (hn : n ≤ 1048576) :
    Calls Tryz.prog 29 #[.agg #[.int .i64 V, .slice a fs.length cap], .slice a1 n c2] w fun e w' => e = .returned (.bool (pairingB fs ps n)) ∧ Below w.heap.size w w' := by
  rcases hx1 with rfl | ⟨b, off, hb, rfl, hc⟩
  · obtain rfl : n = 0 := by simp at hp; omega
    have He := hid (pairingB_true (fs := fs) (ps := []) (n := 0) (fun i hi => by omega))
    clear hp hf hx
    go_enter Tryz.func29, Tryz.ntmps29
    go_wp2
    refine wp_loop_rounds 1 ?_; rw [rounds_succ]
    go_wp2
    go_ret
    exact ⟨ret_bool He.out.symm, (Below.refl _ w).alloc (Nat.le_refl _) _⟩
  · exact pis_some V a cap fs b off n c2 ps w hx hl hf hb hc hp hn

end Go.Proofs.YtpdhnjdnlgnniaaGreat

/-! The critical faces, the model's. -/
namespace Go.Proofs.YtpdhnjdnlgnniaaGreat
open Go.RowKit Go.Sort

set_option maxRecDepth 100000 in
set_option maxHeartbeats 8000000 in
theorem critS_any (V : Int) (a0 : Option Addr) (cap : Nat) (fs : List Int) (a1 : Option Addr) (n cap1 : Nat) (ps : List Int) (w : World) (hx : SlI w w.heap.size a0 fs) (hx1 : SlI w w.heap.size a1 ps) (hl : fs.length ≤ 1048576) (hp : ps.length = 2 * n) (hn : n ≤ 1048576) :
    Calls Tryz.prog 31 #[.agg #[.int .i64 V, .slice a0 fs.length cap], .slice a1 n cap1] w fun e w' => ∃ v, e = .returned v ∧ Res w w' v (critL fs ps) := by
  have hB0 : Below w.heap.size w (w.alloc (.cells #[.int .i64 V, .slice a0 fs.length cap] 30)) := (Below.refl _ w).alloc (Nat.le_refl _) _
  have hB00 := (hB0.alloc (by simp) (.cells #[] 2))
  have hown0 := World.ownsRow_made (base := w.heap.size + 1) (e := 2) (size := 1) (w.alloc (.cells #[.int .i64 V, .slice a0 fs.length cap] 30)) #[] 0 (by simp) (by simp [maxLen]) rfl
  rw [World.size_alloc] at hown0
  have Hown0 := hid hown0
  have HB0 := hid hB0
  have HB00 := hid hB00
  clear hown0 hB0 hB00
  rcases hx with rfl | ⟨b, off, hb, rfl, hc⟩
  · go_enter Tryz.func31, Tryz.ntmps31
    go_wp2
    refine wp_loop_rounds 1 ?_; rw [rounds_succ]
    go_wp2
    go_ret
    exact ⟨_, rfl, ownsRow_base (by simpa [critL] using Hown0.out) (Nat.le_succ _), HB00.out⟩
  · have Hc := hid hc
    have Hp := hid hp
    have Hy := hid hx1
    clear hc hp hx1
    go_enter Tryz.func31, Tryz.ntmps31
    go_wp2
    go_loopw [5, 6] (fun v i wr => ∃ k : Nat, k ≤ fs.length ∧ i = .int .i64 k ∧ wr.ownsRow (w.heap.size + 1) 2 1 v (critL (fs.take k) ps).length ((critL (fs.take k) ps).map (Value.int .i64)) ∧
        Below (w.heap.size + 1) (w.alloc (.cells #[.int .i64 V, .slice (some ⟨b, off, none⟩) fs.length cap] 30)) wr) (fun _ i _ => fs.length - (intOf i).toNat)
    case atStart => exact ⟨0, Nat.zero_le _, rfl, Hown0.out, (Below.refl _ _).alloc (by simp) _⟩
    case round =>
      obtain ⟨k, hk, rfl, hown, hB⟩ := hrel
      have c0 : wr.cell? ⟨w.heap.size, 0, none⟩ = some (.int .i64 V) := (hB.cell (p := ⟨w.heap.size, 0, none⟩) (by simp)).trans (by simp [go_sem])
      have c1 : wr.cell? ⟨w.heap.size, 1, none⟩ = some (.slice (some ⟨b, off, none⟩) fs.length cap) := (hB.cell (p := ⟨w.heap.size, 1, none⟩) (by simp)).trans (by simp [go_sem])
      by_cases hlt : k < fs.length
      · obtain ⟨x, hx⟩ : ∃ x, x = fs[k]?.getD 0 := ⟨_, rfl⟩
        have Hp' : Hid (∀ c, decide (x ∉ ps) = c → critL (fs.take (k + 1)) ps = critL (fs.take k) ps ++ (if c then [x] else [])) := hid (fun c hc => by
          unfold critL
          rw [take_snoc hlt, List.filter_append, ← hx]
          cases c <;> simpa using hc)
        have Hx := hid hx
        have hi0 : (0 : Int) ≤ (k : Int) := by omega
        have hi1 : (k : Int) < (fs.length : Int) := by omega
        have hfl : (critL (fs.take k) ps).length ≤ 1048576 := Nat.le_trans (List.length_filter_le _ _) (by simp; omega)
        have HB := hid hB
        have Hown := hid hown
        clear hx hB hown
        go_wp2
        clear c0 c1
        go_loopw [7, 8] (fun q j wx => ∃ m : Nat, m ≤ n ∧ q = .bool (decide (x ∉ ps.take (m * 2))) ∧ j = .int .i64 m ∧ wx.ownsRow (w.heap.size + 1) 2 1 u5 (critL (fs.take k) ps).length ((critL (fs.take k) ps).map (Value.int .i64)) ∧
            Below (w.heap.size + 1) (w.alloc (.cells #[.int .i64 V, .slice (some ⟨b, off, none⟩) fs.length cap] 30)) wx) (fun _ j _ => n - (intOf j).toNat)
        case atStart => exact ⟨0, Nat.zero_le _, by simp, rfl, Hown.out, HB.out⟩
        case round =>
          clear HB Hown
          obtain ⟨m, hm, rfl, rfl, hown, hBx⟩ := hrel
          have c0 : wr.cell? ⟨w.heap.size, 0, none⟩ = some (.int .i64 V) := (hBx.cell (p := ⟨w.heap.size, 0, none⟩) (by simp)).trans (by simp [go_sem])
          have c1 : wr.cell? ⟨w.heap.size, 1, none⟩ = some (.slice (some ⟨b, off, none⟩) fs.length cap) := (hBx.cell (p := ⟨w.heap.size, 1, none⟩) (by simp)).trans (by simp [go_sem])
          have hBw : Below w.heap.size w wr := HB0.out.trans (hBx.mono (Nat.le_succ _))
          have hck : wr.cell? ⟨b, off + k, none⟩ = some (.int .i64 x) := by rw [Hx.out]; exact (hBw.cell (p := ⟨b, off + k, none⟩) hb).trans (Hc.out k hlt)
          by_cases hltm : m < n
          · obtain ⟨b1, o1, hb1, rfl, hc1⟩ : ∃ b o, b < w.heap.size ∧ a1 = some ⟨b, o, none⟩ ∧ ∀ i, i < ps.length → w.cell? ⟨b, o + i, none⟩ = some (.int .i64 (ps[i]?.getD 0)) := by
              rcases Hy.out with h | h
              · have := Hp.out; rw [h] at this; simp at this; omega
              · exact h
            have hd2 : wr.cell? ⟨b1, o1 + m * 2, none⟩ = some (.int .i64 (at0 ps (m * 2))) := (hBw.cell (p := ⟨b1, o1 + m * 2, none⟩) hb1).trans (hc1 _ (by have := Hp.out; omega))
            have hd3 : wr.cell? ⟨b1, o1 + m * 2 + 1, none⟩ = some (.int .i64 (at0 ps (m * 2 + 1))) := (hBw.cell (p := ⟨b1, o1 + (m * 2 + 1), none⟩) hb1).trans (hc1 _ (by have := Hp.out; omega))
            obtain ⟨u, hu⟩ : ∃ u, u = at0 ps (m * 2) := ⟨_, rfl⟩
            obtain ⟨v, hv⟩ : ∃ v, v = at0 ps (m * 2 + 1) := ⟨_, rfl⟩
            have Hsn : Hid (ps.take ((m + 1) * 2) = ps.take (m * 2) ++ [u] ++ [v]) := hid (by
              have := Hp.out
              rw [show (m + 1) * 2 = m * 2 + 1 + 1 by omega, take_snoc (show m * 2 + 1 < ps.length by omega), take_snoc (show m * 2 < ps.length by omega), hu, hv]; rfl)
            rw [← hu] at hd2
            rw [← hv] at hd3
            have hm0 : (0 : Int) ≤ (m : Int) := by omega
            have hm1 : (m : Int) < (n : Int) := by omega
            have HBx := hid hBx
            have HO := hid hown
            clear hu hv hBx hBw hc1 hown
            by_cases h0 : x ∈ ps.take (m * 2)
            · have hfr : decide (x ∉ ps.take (m * 2)) = false := by simp [h0]
              have He : Hid (decide (x ∉ ps.take ((m + 1) * 2)) = false) := hid (by rw [Hsn.out]; simp [h0])
              rw [hfr]
              clear h0 hfr
              go_wp2_with fail
              refine wp_region_quiet_lit (by kernel_rfl) (by kernel_rfl) ?_
              iterate 28 (with_reducible refine wpQuiet_step (fun K hK => ?_); have HK := hid hK; clear hK; go_simp; (first | with_reducible refine HK.out _ ?_ | (rw [if_neg (by decide)]; with_reducible refine HK.out _ ?_)); clear HK K)
              with_reducible refine wpQuiet_nil ?_
              intro _ hw'
              obtain ⟨nq, hw''⟩ := hw'
              subst hw''
              go_wp2_with fail
              go_roundw
              case rel => exact ⟨m + 1, by omega, by rw [He.out], by go_num, HO.out, HBx.out.trans ⟨rfl, rfl, rfl, Nat.le_refl _, fun _ _ => rfl⟩⟩
              case measure => simp [intOf]; omega
            · have hfr : decide (x ∉ ps.take (m * 2)) = true := by simp [h0]
              by_cases h1 : u = x
              · have g1 : (u != x) = false := by simp [h1]
                have He : Hid (decide (x ∉ ps.take ((m + 1) * 2)) = false) := hid (by rw [Hsn.out]; simp [h1])
                rw [hfr]
                clear h0 h1 hfr
                go_wp2_with fail
                refine wp_region_quiet_lit (by kernel_rfl) (by kernel_rfl) ?_
                iterate 28 (with_reducible refine wpQuiet_step (fun K hK => ?_); have HK := hid hK; clear hK; go_simp; (first | with_reducible refine HK.out _ ?_ | (rw [if_neg (by decide)]; with_reducible refine HK.out _ ?_)); clear HK K)
                with_reducible refine wpQuiet_nil ?_
                intro _ hw'
                obtain ⟨nq, hw''⟩ := hw'
                subst hw''
                go_wp2_with fail
                go_roundw
                case rel => exact ⟨m + 1, by omega, by rw [He.out], by go_num, HO.out, HBx.out.trans ⟨rfl, rfl, rfl, Nat.le_refl _, fun _ _ => rfl⟩⟩
                case measure => simp [intOf]; omega
              · have g1 : (u != x) = true := by simp [h1]
                by_cases h2 : v = x
                · have g2 : (v != x) = false := by simp [h2]
                  have He : Hid (decide (x ∉ ps.take ((m + 1) * 2)) = false) := hid (by rw [Hsn.out]; simp [h2])
                  rw [hfr]
                  clear h0 h1 h2 hfr
                  go_wp2_with fail
                  refine wp_region_quiet_lit (by kernel_rfl) (by kernel_rfl) ?_
                  iterate 28 (with_reducible refine wpQuiet_step (fun K hK => ?_); have HK := hid hK; clear hK; go_simp; (first | with_reducible refine HK.out _ ?_ | (rw [if_neg (by decide)]; with_reducible refine HK.out _ ?_)); clear HK K)
                  with_reducible refine wpQuiet_nil ?_
                  intro _ hw'
                  obtain ⟨nq, hw''⟩ := hw'
                  subst hw''
                  go_wp2_with fail
                  go_roundw
                  case rel => exact ⟨m + 1, by omega, by rw [He.out], by go_num, HO.out, HBx.out.trans ⟨rfl, rfl, rfl, Nat.le_refl _, fun _ _ => rfl⟩⟩
                  case measure => simp [intOf]; omega
                · have g2 : (v != x) = true := by simp [h2]
                  have He : Hid (decide (x ∉ ps.take ((m + 1) * 2)) = true) := hid (by rw [Hsn.out]; simp [h0, Ne.symm h1, Ne.symm h2])
                  rw [hfr]
                  clear h0 h1 h2 hfr
                  go_wp2_with fail
                  refine wp_region_quiet_lit (by kernel_rfl) (by kernel_rfl) ?_
                  iterate 28 (with_reducible refine wpQuiet_step (fun K hK => ?_); have HK := hid hK; clear hK; go_simp; (first | with_reducible refine HK.out _ ?_ | (rw [if_neg (by decide)]; with_reducible refine HK.out _ ?_)); clear HK K)
                  with_reducible refine wpQuiet_nil ?_
                  intro _ hw'
                  obtain ⟨nq, hw''⟩ := hw'
                  subst hw''
                  go_wp2_with fail
                  go_roundw
                  case rel => exact ⟨m + 1, by omega, by rw [He.out], by go_num, HO.out, HBx.out.trans ⟨rfl, rfl, rfl, Nat.le_refl _, fun _ _ => rfl⟩⟩
                  case measure => simp [intOf]; omega
          · obtain rfl : m = n := by omega
            have htk : ps.take (m * 2) = ps := List.take_of_length_le (by have := Hp.out; omega)
            have hsz := hBx.size
            simp only [World.size_alloc] at hsz
            have HBx := hid hBx
            have HO := hid hown
            rw [htk]
            clear htk hBx hBw hown
            by_cases hin : x ∉ ps
            · have HP := hid (Hp'.out true (by simp [hin]))
              have hdx : decide (x ∉ ps) = true := by simp [hin]
              rw [hdx]
              clear hin hdx
              go_wp2_with (at_builtin; refine append_int rfl rfl HO.out hsz (by omega) rfl rfl ?_; intro v' w2 hown2 hgrow2 hB2)
              go_roundw
              case rel => exact ⟨k + 1, by omega, by go_num, by rw [HP.out]; exact hown2, HBx.out.trans hB2⟩
              case measure => simp [intOf]; omega
            · have HP := hid (Hp'.out false (by simpa using hin))
              have hdx : decide (x ∉ ps) = false := by simpa using hin
              rw [hdx]
              clear hin hdx
              go_wp2_with fail
              go_roundw
              case rel => exact ⟨k + 1, by omega, by go_num, by rw [HP.out]; simpa using HO.out, HBx.out⟩
              case measure => simp [intOf]; omega
      · obtain rfl : k = fs.length := by omega
        rw [List.take_of_length_le (Nat.le_refl _)] at hown
        go_wp2
        go_ret
        exact ⟨_, rfl, ownsRow_base hown (Nat.le_succ _), HB0.out.trans (hB.mono (Nat.le_succ _))⟩

set_option maxRecDepth 100000 in
set_option maxHeartbeats 1000000 in
theorem pcode_spec (V : Int) (a0 : Option Addr) (cap : Nat) (fs : List Int) (a1 : Option Addr) (n cap1 : Nat) (ps : List Int) (w : World) (hx : SlI w w.heap.size a0 fs) (hx1 : SlI w w.heap.size a1 ps) (hl : fs.length ≤ 1048576) (hp : ps.length = 2 * n) (hn : n ≤ 1048576) :
    Calls Tryz.prog 18 #[.agg #[.int .i64 V, .slice a0 fs.length cap], .slice a1 n cap1, .slice none 0 0] w fun e w' => e = .returned (.int .i64 (pcodeR V fs n ps)) ∧ Below w.heap.size w w' := by
  have hB0 : Below w.heap.size w (w.alloc (.cells #[.int .i64 V, .slice a0 fs.length cap] 30)) := (Below.refl _ w).alloc (Nat.le_refl _) _
  have Hx := hid (hx.later hB0 hB0.size)
  have Hx0 := hid hx
  have Hy := hid hx1
  clear hx hx1
  rcases pcode_cases V fs n ps with ⟨hC, _, h0, _, h1⟩ | ⟨hC, _, h0, _, h1⟩ | ⟨hC, h0, _⟩
  · rw [h0]
    have HC := hid hC
    clear hC h0
    go_enter Tryz.func18, Tryz.ntmps18
    go_wp2_with fail
    refine (is_yes V a0 cap fs _ Hx.out hl HC.out).mono ?_
    rintro e w1 ⟨rfl, hB1⟩
    have HB1 := hid (hB0.trans (hB1.mono (by simp)))
    have k0 : w1.cell? ⟨w.heap.size, 0, none⟩ = some (.int .i64 V) := (hB1.cell (p := ⟨w.heap.size, 0, none⟩) (by simp)).trans (by simp [go_sem])
    have k1 : w1.cell? ⟨w.heap.size, 1, none⟩ = some (.slice a0 fs.length cap) := (hB1.cell (p := ⟨w.heap.size, 1, none⟩) (by simp)).trans (by simp [go_sem])
    have HI := hid (pis_any V a0 cap fs a1 n cap1 ps w1 (Hx0.out.later HB1.out HB1.out.size) (Hy.out.later HB1.out HB1.out.size) hl HC.out.range63 hp hn)
    rw [h1] at HI
    clear hB0 hB1 h1 hp
    go_wp2_with fail
    refine HI.out.mono ?_
    rintro e w2 ⟨rfl, hB2⟩
    go_wp2_with fail
    refine wp_loop_rounds 1 ?_; rw [rounds_succ]
    go_wp2_with fail
    go_ret
    exact ⟨rfl, HB1.out.trans (hB2.mono HB1.out.size)⟩
  · rw [h0]
    have HC := hid hC
    clear hC h0
    go_enter Tryz.func18, Tryz.ntmps18
    go_wp2_with fail
    refine (is_yes V a0 cap fs _ Hx.out hl HC.out).mono ?_
    rintro e w1 ⟨rfl, hB1⟩
    have HB1 := hid (hB0.trans (hB1.mono (by simp)))
    have k0 : w1.cell? ⟨w.heap.size, 0, none⟩ = some (.int .i64 V) := (hB1.cell (p := ⟨w.heap.size, 0, none⟩) (by simp)).trans (by simp [go_sem])
    have k1 : w1.cell? ⟨w.heap.size, 1, none⟩ = some (.slice a0 fs.length cap) := (hB1.cell (p := ⟨w.heap.size, 1, none⟩) (by simp)).trans (by simp [go_sem])
    have HI := hid (pis_any V a0 cap fs a1 n cap1 ps w1 (Hx0.out.later HB1.out HB1.out.size) (Hy.out.later HB1.out HB1.out.size) hl HC.out.range63 hp hn)
    rw [h1] at HI
    clear hB0 hB1 h1 hp
    go_wp2_with fail
    refine HI.out.mono ?_
    rintro e w2 ⟨rfl, hB2⟩
    go_wp2_with fail
    go_ret
    exact ⟨rfl, HB1.out.trans (hB2.mono HB1.out.size)⟩
  · rw [h0]
    clear h0
    go_enter Tryz.func18, Tryz.ntmps18
    go_wp2_with fail
    refine (is_no V a0 cap fs _ Hx.out hl hC).mono ?_
    rintro e w1 ⟨rfl, hB1⟩
    go_wp2_with fail
    go_ret
    exact ⟨rfl, hB0.trans (hB1.mono (by simp))⟩


theorem criticalFacesR_len (V : Int) (fs : List Int) (n : Nat) (ps : List Int) (h : fs.length ≤ 1048576) (_hp : ps.length = 2 * n) (_hn : n ≤ 1048576) : (criticalFacesR V fs n ps).1.length ≤ 1048576 := by
  unfold criticalFacesR
  split
  · exact Nat.le_trans (List.length_filter_le _ _) h
  · simp

end Go.Proofs.YtpdhnjdnlgnniaaGreat

/-! FacesReached, the model's. -/
namespace Go.Proofs.YtpdhnjdnlgnniaaGreat
open Go.RowKit

noncomputable def reachB (ps : List Int) (n : Nat) (a y : Int) : Bool := @decide (y = a ∨ Way ps n a y) (Classical.propDecidable _)
theorem reachB_true {ps : List Int} {n : Nat} {a y : Int} (h : y = a ∨ Way ps n a y) : reachB ps n a y = true := by unfold reachB; exact @decide_eq_true _ (Classical.propDecidable _) h
theorem reachB_false {ps : List Int} {n : Nat} {a y : Int} (h : ¬ (y = a ∨ Way ps n a y)) : reachB ps n a y = false := by unfold reachB; exact @decide_eq_false _ (Classical.propDecidable _) h
/-- The faces reached. -/
noncomputable def reachL (fs ps : List Int) (n : Nat) (a : Int) : List Int := fs.filter fun y => reachB ps n a y
noncomputable def code1R (V : Int) (fs : List Int) (n : Nat) (ps : List Int) (a : Int) : Int := if pcodeR V fs n ps = 0 then (if a ∈ fs then 0 else 2) else pcodeR V fs n ps
noncomputable def facesReachedR (V : Int) (fs : List Int) (n : Nat) (ps : List Int) (a : Int) : List Int × Int := if code1R V fs n ps a = 0 then (reachL fs ps n a, 0) else ([], code1R V fs n ps a)
theorem facesReachedR_len (V : Int) (fs : List Int) (n : Nat) (ps : List Int) (a : Int) (h : fs.length ≤ 1048576) (_hp : ps.length = 2 * n) (_hn : n ≤ 1048576) : (facesReachedR V fs n ps a).1.length ≤ 1048576 := by
  unfold facesReachedR
  split
  · exact Nat.le_trans (List.length_filter_le _ _) h
  · simp

theorem okTo_highs {V : Int} {fs ps : List Int} {n : Nat} (hC : IsC V fs) (h : OkTo fs ps n) : HighsB ps n := by
  intro a
  by_cases hex : ∃ i, i < n ∧ at0 ps (i * 2) = a
  · have hmin : ∃ i, (i < n ∧ at0 ps (i * 2) = a) ∧ ∀ j, j < i → ¬ (j < n ∧ at0 ps (j * 2) = a) := by
      obtain ⟨i, hi⟩ := hex
      induction i using Nat.strongRecOn with
      | _ i ih =>
        by_cases hj : ∃ j, j < i ∧ (j < n ∧ at0 ps (j * 2) = a)
        · obtain ⟨j, h1, h2⟩ := hj
          exact ih j h1 h2
        · exact ⟨i, hi, fun j h1 h2 => hj ⟨j, h1, h2⟩⟩
    obtain ⟨i, ⟨hi, ha⟩, hm⟩ := hmin
    rw [highOf_some hi ha (fun j hj e => hm j hj ⟨by omega, e⟩)]
    have hp := (h i hi).1
    unfold pairB at hp
    simp at hp
    have := hC.range63 _ hp.1.1.2
    omega
  · rw [highOf_none (fun j hj e => hex ⟨j, hj, e⟩)]
    omega

set_option maxRecDepth 1000000 in
set_option maxHeartbeats 2000000 in
theorem code1_spec (V : Int) (a0 : Option Addr) (cap : Nat) (fs : List Int) (a1 : Option Addr) (n cap1 : Nat) (ps : List Int) (a : Int) (bf : Nat) (w : World) (hx : SlI w w.heap.size a0 fs) (hx1 : SlI w w.heap.size a1 ps) (hl : fs.length ≤ 1048576) (hp : ps.length = 2 * n) (hn : n ≤ 1048576)
    (hbf : bf < w.heap.size) (hcf : w.cell? ⟨bf, 0, none⟩ = some (.int .i64 a)) :
    Calls Tryz.prog 18 #[.agg #[.int .i64 V, .slice a0 fs.length cap], .slice a1 n cap1, .slice (some ⟨bf, 0, none⟩) 1 1] w fun e w' => e = .returned (.int .i64 (code1R V fs n ps a)) ∧ Below w.heap.size w w' := by
  have hB0 : Below w.heap.size w (w.alloc (.cells #[.int .i64 V, .slice a0 fs.length cap] 30)) := (Below.refl _ w).alloc (Nat.le_refl _) _
  have Hx := hid (hx.later hB0 hB0.size)
  have Hx0 := hid hx
  have Hy := hid hx1
  clear hx hx1
  obtain ⟨E, hE⟩ : ∃ E, E = code1R V fs n ps a := ⟨_, rfl⟩
  rw [← hE]
  rcases pcode_cases V fs n ps with ⟨hC, _, h0, _, h1⟩ | ⟨hC, _, h0, _, h1⟩ | ⟨hC, h0, _⟩
  · have HC := hid hC
    have hE1 : E = if a ∈ fs then 0 else 2 := by rw [hE, code1R, if_pos h0]
    clear hC h0 hE
    go_enter Tryz.func18, Tryz.ntmps18
    go_wp2_with fail
    refine (is_yes V a0 cap fs _ Hx.out hl HC.out).mono ?_
    rintro e w1 ⟨rfl, hB1⟩
    have HB1 := hid (hB0.trans (hB1.mono (by simp)))
    have k0 : w1.cell? ⟨w.heap.size, 0, none⟩ = some (.int .i64 V) := (hB1.cell (p := ⟨w.heap.size, 0, none⟩) (by simp)).trans (by simp [go_sem])
    have k1 : w1.cell? ⟨w.heap.size, 1, none⟩ = some (.slice a0 fs.length cap) := (hB1.cell (p := ⟨w.heap.size, 1, none⟩) (by simp)).trans (by simp [go_sem])
    have hs1 : w.heap.size < w1.heap.size := by have := hB1.size; simp at this; omega
    have HI := hid (pis_any V a0 cap fs a1 n cap1 ps w1 (Hx0.out.later HB1.out HB1.out.size) (Hy.out.later HB1.out HB1.out.size) hl HC.out.range63 hp hn)
    rw [h1] at HI
    clear hB0 hB1 h1 hp
    go_wp2_with fail
    refine HI.out.mono ?_
    rintro e w2 ⟨rfl, hB2⟩
    have n0 : w2.cell? ⟨w.heap.size, 0, none⟩ = some (.int .i64 V) := (hB2.cell (p := ⟨w.heap.size, 0, none⟩) hs1).trans k0
    have n1 : w2.cell? ⟨w.heap.size, 1, none⟩ = some (.slice a0 fs.length cap) := (hB2.cell (p := ⟨w.heap.size, 1, none⟩) hs1).trans k1
    have HB2 := hid (HB1.out.trans (hB2.mono HB1.out.size))
    have n2 : w2.cell? ⟨bf, 0, none⟩ = some (.int .i64 a) := (HB2.out.cell (p := ⟨bf, 0, none⟩) hbf).trans hcf
    have hs2 : w.heap.size < w2.heap.size := Nat.lt_of_lt_of_le hs1 hB2.size
    have HB2d : Hid (Below w.heap.size w w2.drew) := hid (HB2.out.trans ⟨rfl, rfl, rfl, Nat.le_refl _, fun _ _ => rfl⟩)
    clear hB2 k0 k1 hcf
    by_cases ha : a ∈ fs
    · have He : Hid (E = 0) := hid (by rw [hE1, if_pos ha])
      have HA := hid (has_yes V a a0 cap fs w2.drew (Hx0.out.later HB2d.out HB2d.out.size) hl ha)
      clear hE1 ha
      go_wp2_with fail
      refine wp_loop_rounds 2 ?_
      rw [rounds_succ]
      go_wp2_with fail
      go_region_held3 (fun w' => w'.cell? ⟨w.heap.size, 0, none⟩ = some (.int .i64 V) ∧ w'.cell? ⟨w.heap.size, 1, none⟩ = some (.slice a0 fs.length cap) ∧ w'.cell? ⟨bf, 0, none⟩ = some (.int .i64 a)) (go_keep) (first
        | (go_at_call 30; refine HA.out.mono ?_; rintro e w3 ⟨rfl, hB3⟩; have m0 := (hB3.cell (p := ⟨w.heap.size, 0, none⟩) hs2).trans n0; have m1 := (hB3.cell (p := ⟨w.heap.size, 1, none⟩) hs2).trans n1; have m2 := (hB3.cell (p := ⟨bf, 0, none⟩) (Nat.lt_trans hbf hs2)).trans n2; have HB3 := hid hB3; clear hB3))
      all_goals
        have HB4 := hid (HB2d.out.trans (HB3.out.mono HB2d.out.size))
        go_wp2_with fail
        rw [rounds_succ]
        go_wp2_with fail
        go_ret
        exact ⟨ret_int (by rw [He.out]), HB4.out⟩
    · have He : Hid (E = 2) := hid (by rw [hE1, if_neg ha])
      have HA := hid (has_no V a a0 cap fs w2.drew (Hx0.out.later HB2d.out HB2d.out.size) hl ha)
      clear hE1 ha
      go_wp2_with fail
      refine wp_loop_rounds 2 ?_
      rw [rounds_succ]
      go_wp2_with fail
      go_region_held3 (fun w' => w'.cell? ⟨w.heap.size, 0, none⟩ = some (.int .i64 V) ∧ w'.cell? ⟨w.heap.size, 1, none⟩ = some (.slice a0 fs.length cap) ∧ w'.cell? ⟨bf, 0, none⟩ = some (.int .i64 a)) (go_keep) (first
        | (go_at_call 30; refine HA.out.mono ?_; rintro e w3 ⟨rfl, hB3⟩; have m0 := (hB3.cell (p := ⟨w.heap.size, 0, none⟩) hs2).trans n0; have m1 := (hB3.cell (p := ⟨w.heap.size, 1, none⟩) hs2).trans n1; have m2 := (hB3.cell (p := ⟨bf, 0, none⟩) (Nat.lt_trans hbf hs2)).trans n2; have HB3 := hid hB3; clear hB3))
      all_goals
        have HB4 := hid (HB2d.out.trans (HB3.out.mono HB2d.out.size))
        go_wp2_with fail
        go_ret
        exact ⟨ret_int (by rw [He.out]), HB4.out⟩
  · have He : Hid (E = 2) := hid (by rw [hE, code1R, if_neg (by rw [h0]; decide), h0])
    have HC := hid hC
    clear hC h0 hE
    go_enter Tryz.func18, Tryz.ntmps18
    go_wp2_with fail
    refine (is_yes V a0 cap fs _ Hx.out hl HC.out).mono ?_
    rintro e w1 ⟨rfl, hB1⟩
    have HB1 := hid (hB0.trans (hB1.mono (by simp)))
    have k0 : w1.cell? ⟨w.heap.size, 0, none⟩ = some (.int .i64 V) := (hB1.cell (p := ⟨w.heap.size, 0, none⟩) (by simp)).trans (by simp [go_sem])
    have k1 : w1.cell? ⟨w.heap.size, 1, none⟩ = some (.slice a0 fs.length cap) := (hB1.cell (p := ⟨w.heap.size, 1, none⟩) (by simp)).trans (by simp [go_sem])
    have HI := hid (pis_any V a0 cap fs a1 n cap1 ps w1 (Hx0.out.later HB1.out HB1.out.size) (Hy.out.later HB1.out HB1.out.size) hl HC.out.range63 hp hn)
    rw [h1] at HI
    clear hB0 hB1 h1 hp
    go_wp2_with fail
    refine HI.out.mono ?_
    rintro e w2 ⟨rfl, hB2⟩
    go_wp2_with fail
    go_ret
    exact ⟨ret_int (by rw [He.out]), HB1.out.trans (hB2.mono HB1.out.size)⟩
  · have He : Hid (E = 1) := hid (by rw [hE, code1R, if_neg (by rw [h0]; decide), h0])
    clear h0 hE
    go_enter Tryz.func18, Tryz.ntmps18
    go_wp2_with fail
    refine (is_no V a0 cap fs _ Hx.out hl hC).mono ?_
    rintro e w1 ⟨rfl, hB1⟩
    go_wp2_with fail
    go_ret
    exact ⟨ret_int (by rw [He.out]), hB0.trans (hB1.mono (by simp))⟩

end Go.Proofs.YtpdhnjdnlgnniaaGreat

/-! IsAcyclicPairing, the model's door. -/
namespace Go.Proofs.YtpdhnjdnlgnniaaGreat
open Go.RowKit

noncomputable def isAcyclicR (V : Int) (fs : List Int) (n : Nat) (ps : List Int) : Bool × Int := if pcodeR V fs n ps = 0 then (acyB ps n, 0) else (false, pcodeR V fs n ps)
theorem okTo_lows {V : Int} {fs ps : List Int} {n : Nat} (hC : IsC V fs) (h : OkTo fs ps n) : ∀ i, i < n → 0 ≤ at0 ps (i * 2) ∧ at0 ps (i * 2) < 64 := by
  intro i hi
  have hp := (h i hi).1
  unfold pairB at hp
  simp at hp
  have := hC.range63 _ hp.1.1.1
  omega
theorem bool_mono2 {fn : FuncId} {args : Array Value} {w : World} {B : Nat} {P : Program} {R : Bool × Int} {b : Bool} {c : Int} (hR : R = (b, c))
    (h : Calls P fn args w fun e w' => e = .returned (.tuple #[.bool b, .int .i64 c]) ∧ Below B w w') :
    Calls P fn args w fun e w' => e = .returned (.tuple #[.bool R.1, .int .i64 R.2]) ∧ Below B w w' := by
  subst hR
  exact h


end Go.Proofs.YtpdhnjdnlgnniaaGreat

/-! isAcyclic, and IsAcyclicPairing's door, the program's. -/
namespace Go.Proofs.YtpdhnjdnlgnniaaGreat
open Go.RowKit

theorem sub_len : ∀ (A B : List Nat), A.Nodup → (∀ x ∈ A, x ∈ B) → A.length ≤ B.length
  | [], _, _, _ => by simp
  | x :: A, B, hn, h => by
    obtain ⟨h1, h2⟩ := List.nodup_cons.1 hn
    have ih := sub_len A (B.erase x) h2 (fun y hy => (List.mem_erase_of_ne (fun e => h1 (by rw [← e]; exact hy))).2 (h y (List.mem_cons_of_mem _ hy)))
    have hx : x ∈ B := h x (by simp)
    have hl := List.length_erase_of_mem hx
    have hp : 0 < B.length := List.length_pos_of_mem hx
    simp only [List.length_cons]
    omega
/-- All pairs have settled exactly if there is no cycle. -/
theorem stl_all {ps : List Int} {n : Nat} {L : List Nat} (h : Stl ps n L) (hs : SatTo ps n n L) : NoCycle ps n ↔ L.length = n := by
  constructor
  · intro hc
    have hall := acyclic_settled hc hs
    have h1 := sub_len (List.range n) L List.nodup_range (fun x hx => hall x (by simpa using hx))
    rw [List.length_range] at h1
    have := h.len
    omega
  · intro hl
    refine settled_acyclic h.ord (fun i hi => Classical.byContradiction fun hn => ?_)
    have := nodup_le n (L ++ [i]) (by
      rw [List.nodup_append]
      exact ⟨h.nodup, by simp, fun a ha b hb => by simp at hb; subst hb; exact fun e => hn (e ▸ ha)⟩) (fun j hj => by
      rcases List.mem_append.1 hj with h1 | h1
      · exact h.lt j h1
      · simp at h1; omega)
    simp at this
    omega
theorem stl_acyB {ps : List Int} {n : Nat} {L : List Nat} (h : Stl ps n L) (hs : SatTo ps n n L) : ((L.length : Int) == (n : Int)) = acyB ps n := by
  by_cases hc : NoCycle ps n
  · rw [acyB_true hc]
    rw [(stl_all h hs).1 hc]
    simp
  · rw [acyB_false hc]
    have : L.length ≠ n := fun e => hc ((stl_all h hs).2 e)
    simp
    omega

set_option maxRecDepth 1000000 in
set_option maxHeartbeats 2000000 in
theorem isAcy_any (a1 : Option Addr) (n cap1 : Nat) (ps : List Int) (w : World) (hx1 : SlI w w.heap.size a1 ps) (hp : ps.length = 2 * n) (hn : n ≤ 1048576) (hw : ∀ x ∈ ps, (Lit.int .i64 x).wf = true) (hd : LowsApart ps n) (hh : HighsB ps n) :
    Calls Tryz.prog 36 #[.slice a1 n cap1] w fun e w' => e = .returned (.bool (acyB ps n)) ∧ Below w.heap.size w w' := by
  have HS := hid (callsIn_wide.1 (settled_in a1 n cap1 ps w hx1 hp hn hw hd hh))
  clear hx1 hp hw hd hh
  go_enter Tryz.func36, Tryz.ntmps36
  go_wp2_with (go_at_call 52; refine HS.out.mono ?_; rintro e w1 ⟨L, v, rfl, hS, hsat, hr⟩; obtain ⟨_, av, cp, rfl, _⟩ := pairs_form hr.1; rw [setP_len]; have he := stl_acyB hS hsat; have hB := hid hr.2; clear hS hsat hr)
  go_ret
  exact ⟨rfl, hB.out⟩


end Go.Proofs.YtpdhnjdnlgnniaaGreat

/-! The order of a pairing: groups put down one after the other, each when all faces below are there. It takes in all faces exactly if the pairing is acyclic. -/
namespace Go.Proofs.YtpdhnjdnlgnniaaGreat
open Go.RowKit

theorem clash_commO (a b c d : Int) : clashB a b c d = clashB c d a b := by
  cases h : clashB c d a b
  · rw [clash_iff] at h ⊢
    exact ⟨Ne.symm h.1, Ne.symm h.2.2.1, Ne.symm h.2.1, Ne.symm h.2.2.2⟩
  · cases h2 : clashB a b c d
    · rw [clash_iff] at h2
      have : clashB c d a b = false := clash_iff.2 ⟨Ne.symm h2.1, Ne.symm h2.2.2.1, Ne.symm h2.2.1, Ne.symm h2.2.2.2⟩
      rw [this] at h; cases h
    · rfl
theorem below_ones : ∀ f : Fin 64, (belowR f.val 63).all (fun y => decide (1 ≤ y ∧ y ≤ 63 ∧ ones y.toNat + 1 = ones f.val)) = true := by decide +kernel
theorem below_one {f y : Int} (hf : 0 ≤ f ∧ f < 64) (h : y ∈ belowR f.toNat 63) : 1 ≤ y ∧ y ≤ 63 ∧ ones y.toNat + 1 = ones f.toNat := by
  have := List.all_eq_true.1 (below_ones ⟨f.toNat, by omega⟩) y h
  simpa using this
theorem below_mem {V : Int} {fs : List Int} (hC : IsC V fs) {x y : Int} (hx : x ∈ fs) (h : y ∈ belowR x.toNat 63) : y ∈ fs := by
  obtain ⟨j, hj, rfl⟩ := List.getElem_of_mem hx
  refine isC_looks_below hC hj ?_
  rw [List.getElem?_eq_getElem hj]
  exact h

/-- The group of a face that is no high one. -/
def grpL (ps : List Int) (n : Nat) (f : Int) : List Int := if highOf ps n f = 0 then [f] else [f, highOf ps n f]
def isHighB (ps : List Int) (n : Nat) (f : Int) : Bool := (List.range n).any fun j => decide (at0 ps (j * 2 + 1) = f)
theorem isHighB_iff {ps : List Int} {n : Nat} {f : Int} : isHighB ps n f = true ↔ ∃ j, j < n ∧ at0 ps (j * 2 + 1) = f := by
  unfold isHighB
  simp
/-- The group can follow. -/
def readyB (ps : List Int) (n : Nat) (L : List Int) (f : Int) : Bool := !decide (f ∈ L) && !isHighB ps n f && (grpL ps n f).all fun m => (belowR m.toNat 63).all fun b => decide (b ∈ L) || decide (b = f)
def nextF (fs ps : List Int) (n : Nat) (L : List Int) : Option Int := fs.find? (readyB ps n L)
def stepO (fs ps : List Int) (n : Nat) (L : List Int) : List Int := match nextF fs ps n L with
  | some f => L ++ grpL ps n f
  | none => L
def ordN (fs ps : List Int) (n : Nat) : Nat → List Int
  | 0 => []
  | k + 1 => stepO fs ps n (ordN fs ps n k)

/-- What holds of the faces that have been put down. -/
structure InvO (fs ps : List Int) (n : Nat) (L : List Int) : Prop where
  nodup : L.Nodup
  sub : ∀ x ∈ L, x ∈ fs
  both : ∀ i, i < n → (at0 ps (i * 2) ∈ L ↔ at0 ps (i * 2 + 1) ∈ L)
  ord : ∃ L0, Ordered ps n L0 ∧ (∀ i ∈ L0, i < n) ∧ ∀ i, i < n → (at0 ps (i * 2) ∈ L ↔ i ∈ L0)

section
variable {V : Int} {fs ps : List Int} {n : Nat}

theorem pair_facts (hC : IsC V fs) (hO : OkTo fs ps n) {i : Nat} (hi : i < n) : at0 ps (i * 2) ∈ fs ∧ at0 ps (i * 2 + 1) ∈ fs ∧ ones (at0 ps (i * 2 + 1)).toNat = ones (at0 ps (i * 2)).toNat + 1 ∧ (1 ≤ at0 ps (i * 2) ∧ at0 ps (i * 2) ≤ 63) ∧ (1 ≤ at0 ps (i * 2 + 1) ∧ at0 ps (i * 2 + 1) ≤ 63) := by
  have h := (hO i hi).1
  unfold pairB at h
  simp at h
  exact ⟨h.1.1.1, h.1.1.2, h.2, hC.range63 _ h.1.1.1, hC.range63 _ h.1.1.2⟩
theorem clash_all (hO : OkTo fs ps n) {i j : Nat} (hi : i < n) (hj : j < n) (hij : i ≠ j) : clashB (at0 ps (i * 2)) (at0 ps (i * 2 + 1)) (at0 ps (j * 2)) (at0 ps (j * 2 + 1)) = false := by
  rcases Nat.lt_or_ge j i with h | h
  · exact (hO i hi).2.2 j h
  · rw [clash_commO]
    exact (hO j hj).2.2 i (by omega)
/-- No low face is a high one. -/
theorem low_not_high (hC : IsC V fs) (hO : OkTo fs ps n) {i j : Nat} (hi : i < n) (hj : j < n) : at0 ps (i * 2) ≠ at0 ps (j * 2 + 1) := by
  by_cases e : i = j
  · subst e
    intro h
    have := (pair_facts hC hO hi).2.2.1
    rw [← h] at this
    omega
  · have := clash_iff.1 (clash_all hO hi hj e)
    exact this.2.1
theorem high_inj (hO : OkTo fs ps n) {i j : Nat} (hi : i < n) (hj : j < n) (h : at0 ps (i * 2 + 1) = at0 ps (j * 2 + 1)) : i = j := Classical.byContradiction fun e => (clash_iff.1 (clash_all hO hi hj e)).2.2.2 h
theorem low_inj (hO : OkTo fs ps n) {i j : Nat} (hi : i < n) (hj : j < n) (h : at0 ps (i * 2) = at0 ps (j * 2)) : i = j := Classical.byContradiction fun e => (clash_iff.1 (clash_all hO hi hj e)).1 h
theorem high_low (_hC : IsC V fs) (hO : OkTo fs ps n) {i : Nat} (hi : i < n) : highOf ps n (at0 ps (i * 2)) = at0 ps (i * 2 + 1) :=
  highOf_some hi rfl (fun j hj e => absurd (low_inj hO (by omega) hi e) (by omega))
theorem grp_low (hC : IsC V fs) (hO : OkTo fs ps n) {i : Nat} (hi : i < n) : grpL ps n (at0 ps (i * 2)) = [at0 ps (i * 2), at0 ps (i * 2 + 1)] := by
  unfold grpL
  rw [high_low hC hO hi, if_neg (by have := (pair_facts hC hO hi).2.2.2.2; omega)]
theorem grp_crit {f : Int} (h : ∀ i, i < n → at0 ps (i * 2) ≠ f) : grpL ps n f = [f] := by
  unfold grpL
  rw [highOf_none h, if_pos rfl]
theorem step_mem (hC : IsC V fs) (hO : OkTo fs ps n) {i : Nat} (hi : i < n) {b : Int} : b ∈ nextL ps n (at0 ps (i * 2)) ↔ b ∈ belowR (at0 ps (i * 2 + 1)).toNat 63 ∧ b ≠ at0 ps (i * 2) := by
  unfold nextL
  rw [high_low hC hO hi, if_neg (by have := (pair_facts hC hO hi).2.2.2.2; omega)]
  simp

theorem ready_iff {L : List Int} {f : Int} : readyB ps n L f = true ↔ f ∉ L ∧ isHighB ps n f = false ∧ ∀ m ∈ grpL ps n f, ∀ b ∈ belowR m.toNat 63, b ∈ L ∨ b = f := by
  unfold readyB
  simp [List.all_eq_true, and_assoc]

theorem InvO.start (fs ps : List Int) (n : Nat) : InvO fs ps n [] := ⟨by simp, by simp, by simp, [], Ordered.nil ps n, by simp, by simp⟩
theorem InvO.step (hC : IsC V fs) (hO : OkTo fs ps n) {L : List Int} (h : InvO fs ps n L) {f : Int} (hf : f ∈ fs) (hr : readyB ps n L f = true) : InvO fs ps n (L ++ grpL ps n f) := by
  obtain ⟨r1, r2, r3⟩ := ready_iff.1 hr
  by_cases hex : ∃ i, i < n ∧ at0 ps (i * 2) = f
  · obtain ⟨i, hi, rfl⟩ := hex
    obtain ⟨m1, m2, m3, _, _⟩ := pair_facts hC hO hi
    have hne : at0 ps (i * 2) ≠ at0 ps (i * 2 + 1) := low_not_high hC hO hi hi
    have hhL : at0 ps (i * 2 + 1) ∉ L := fun e => r1 ((h.both i hi).2 e)
    rw [grp_low hC hO hi] at r3 ⊢
    obtain ⟨L0, o1, o2, o3⟩ := h.ord
    have hiL0 : i ∉ L0 := fun e => r1 ((o3 i hi).2 e)
    refine ⟨?_, ?_, ?_, L0 ++ [i], ?_, ?_, ?_⟩
    · rw [List.nodup_append]
      refine ⟨h.nodup, by simp [hne], ?_⟩
      intro a ha b hb e
      subst e
      simp at hb
      rcases hb with rfl | rfl
      · exact r1 ha
      · exact hhL ha
    · intro x hx
      rcases List.mem_append.1 hx with hx | hx
      · exact h.sub x hx
      · simp at hx
        rcases hx with rfl | rfl
        · exact m1
        · exact m2
    · intro j hj
      by_cases e : j = i
      · subst e; simp
      · have c := clash_iff.1 (clash_all hO hj hi e)
        have d1 := low_not_high hC hO hj hi
        have d2 := low_not_high hC hO hi hj
        simp only [List.mem_append, List.mem_cons, List.not_mem_nil, or_false]
        rw [h.both j hj]
        constructor
        · rintro (h1 | h1 | h1)
          · exact .inl h1
          · exact absurd h1 c.1
          · exact absurd h1 d1
        · rintro (h1 | h1 | h1)
          · exact .inl h1
          · exact absurd h1.symm d2
          · exact absurd h1 c.2.2.2
    · refine o1.snoc (fun j hj hs => ?_)
      unfold StepP at hs
      obtain ⟨s1, s2⟩ := (step_mem hC hO hi).1 hs
      rcases r3 _ (by simp) _ s1 with h1 | h1
      · exact (o3 j hj).1 h1
      · exact absurd h1 s2
    · intro j hj
      rcases List.mem_append.1 hj with hj | hj
      · exact o2 j hj
      · simp at hj; omega
    · intro j hj
      simp only [List.mem_append, List.mem_cons, List.not_mem_nil, or_false]
      rw [o3 j hj]
      constructor
      · rintro (h1 | h1 | h1)
        · exact .inl h1
        · exact .inr (low_inj hO hj hi h1)
        · exact absurd h1 (low_not_high hC hO hj hi)
      · rintro (h1 | h1)
        · exact .inl h1
        · subst h1; exact .inr (.inl rfl)
  · have hno : ∀ i, i < n → at0 ps (i * 2) ≠ f := fun i hi e => hex ⟨i, hi, e⟩
    have hnh : ∀ i, i < n → at0 ps (i * 2 + 1) ≠ f := fun i hi e => by
      have := isHighB_iff.2 ⟨i, hi, e⟩
      rw [r2] at this
      cases this
    rw [grp_crit hno]
    obtain ⟨L0, o1, o2, o3⟩ := h.ord
    refine ⟨?_, ?_, ?_, L0, o1, o2, ?_⟩
    · rw [List.nodup_append]
      exact ⟨h.nodup, by simp, fun a ha b hb e => by simp at hb; subst e; subst hb; exact r1 ha⟩
    · intro x hx
      rcases List.mem_append.1 hx with hx | hx
      · exact h.sub x hx
      · simp at hx; subst hx; exact hf
    · intro j hj
      simp only [List.mem_append, List.mem_cons, List.not_mem_nil, or_false]
      rw [h.both j hj]
      constructor
      · rintro (h1 | h1)
        · exact .inl h1
        · exact absurd h1 (hno j hj)
      · rintro (h1 | h1)
        · exact .inl h1
        · exact absurd h1 (hnh j hj)
    · intro j hj
      simp only [List.mem_append, List.mem_cons, List.not_mem_nil, or_false]
      rw [o3 j hj]
      exact ⟨fun h1 => h1.elim id (fun e => absurd e (hno j hj)), .inl⟩

/-- Among some pairs of an acyclic pairing there is one whose steps lead to none of them. -/
theorem last_pair (hc : NoCycle ps n) (T : Nat → Prop) {i0 : Nat} (h0 : i0 < n) (ht : T i0) : ∃ i, i < n ∧ T i ∧ ∀ j, j < n → StepP ps n i j → ¬ T j := by
  refine Classical.byContradiction fun hno => ?_
  have hL : ∀ i, i ∈ (List.range n).filter (fun i => @decide (¬ T i) (Classical.propDecidable _)) ↔ i < n ∧ ¬ T i := by
    intro i
    rw [List.mem_filter]
    simp
  have := acyclic_settled (L := (List.range n).filter (fun i => @decide (¬ T i) (Classical.propDecidable _))) hc (fun i hi hn => by
    have hTi : T i := Classical.byContradiction fun h => hn ((hL i).2 ⟨hi, h⟩)
    refine Classical.byContradiction fun hno2 => hno ⟨i, hi, hTi, fun j hj hs hTj => hno2 ⟨j, hj, hs, fun hm => ((hL j).1 hm).2 hTj⟩⟩) i0 h0
  exact ((hL i0).1 this).2 ht

/-- The least of some numbers of vertices. -/
theorem least_ones (S : Int → Prop) {f : Int} (hf : S f) : ∃ g, S g ∧ ∀ h, S h → ones g.toNat ≤ ones h.toNat := by
  obtain ⟨d, hd⟩ : ∃ d, d = ones f.toNat := ⟨_, rfl⟩
  induction d using Nat.strongRecOn generalizing f with
  | _ d ih =>
    by_cases hex : ∃ h, S h ∧ ones h.toNat < ones f.toNat
    · obtain ⟨h, hs, hlt⟩ := hex
      exact ih _ (by omega) hs rfl
    · exact ⟨f, hf, fun h hs => Nat.le_of_not_lt fun hlt => hex ⟨h, hs, hlt⟩⟩

/-- As long as faces are left, a group can follow, if the pairing is acyclic. -/
theorem ready_ex (hC : IsC V fs) (hO : OkTo fs ps n) (hc : NoCycle ps n) {L : List Int} (h : InvO fs ps n L) {x : Int} (hx : x ∈ fs) (hxL : x ∉ L) : ∃ f ∈ fs, readyB ps n L f = true := by
  have hS : ∃ f, f ∈ fs ∧ f ∉ L ∧ isHighB ps n f = false := by
    cases hb : isHighB ps n x
    · exact ⟨x, hx, hxL, hb⟩
    · obtain ⟨j, hj, rfl⟩ := isHighB_iff.1 hb
      refine ⟨at0 ps (j * 2), (pair_facts hC hO hj).1, fun e => hxL ((h.both j hj).1 e), ?_⟩
      cases hb2 : isHighB ps n (at0 ps (j * 2))
      · rfl
      · obtain ⟨k, hk, e⟩ := isHighB_iff.1 hb2
        exact absurd e.symm (low_not_high hC hO hj hk)
  obtain ⟨f0, hf0⟩ := hS
  obtain ⟨g, ⟨g1, g2, g3⟩, gmin⟩ := least_ones (fun f => f ∈ fs ∧ f ∉ L ∧ isHighB ps n f = false) hf0
  -- what is below a face and not there has an owner with few vertices
  have own : ∀ b, b ∈ fs → b ∉ L → (∃ j, j < n ∧ at0 ps (j * 2 + 1) = b ∧ ones b.toNat = ones (at0 ps (j * 2)).toNat + 1 ∧ ones g.toNat ≤ ones (at0 ps (j * 2)).toNat) ∨ (isHighB ps n b = false ∧ ones g.toNat ≤ ones b.toNat) := by
    intro b hb hbL
    cases hbh : isHighB ps n b
    · exact .inr ⟨rfl, gmin b ⟨hb, hbL, hbh⟩⟩
    · obtain ⟨j, hj, rfl⟩ := isHighB_iff.1 hbh
      refine .inl ⟨j, hj, rfl, (pair_facts hC hO hj).2.2.1, gmin _ ⟨(pair_facts hC hO hj).1, fun e => hbL ((h.both j hj).1 e), ?_⟩⟩
      cases hb2 : isHighB ps n (at0 ps (j * 2))
      · rfl
      · obtain ⟨k, hk, e⟩ := isHighB_iff.1 hb2
        exact absurd e.symm (low_not_high hC hO hj hk)
  have low : ∀ f, f ∈ fs → ones f.toNat = ones g.toNat → ∀ b ∈ belowR f.toNat 63, b ∈ L := by
    intro f hf he b hb
    have hr := hC.range63 f hf
    have hbo := below_one (by omega) hb
    refine Classical.byContradiction fun hbL => ?_
    rcases own b (below_mem hC hf hb) hbL with ⟨j, hj, _, e2, e3⟩ | ⟨_, e3⟩
    · omega
    · omega
  by_cases hcr : ∃ f, f ∈ fs ∧ f ∉ L ∧ isHighB ps n f = false ∧ ones f.toNat = ones g.toNat ∧ ∀ i, i < n → at0 ps (i * 2) ≠ f
  · obtain ⟨f, f1, f2, f3, f4, f5⟩ := hcr
    refine ⟨f, f1, ready_iff.2 ⟨f2, f3, ?_⟩⟩
    rw [grp_crit f5]
    intro m hm b hb
    simp at hm
    subst hm
    exact .inl (low m f1 f4 b hb)
  · have hgl : ∃ i, i < n ∧ at0 ps (i * 2) = g := Classical.byContradiction fun hno => hcr ⟨g, g1, g2, g3, rfl, fun i hi e => hno ⟨i, hi, e⟩⟩
    obtain ⟨i0, hi0, rfl⟩ := hgl
    obtain ⟨i, hi, ⟨t1, t2⟩, t3⟩ := last_pair hc (fun i => at0 ps (i * 2) ∉ L ∧ ones (at0 ps (i * 2)).toNat = ones (at0 ps (i0 * 2)).toNat) hi0 ⟨g2, rfl⟩
    obtain ⟨p1, p2, p3, _, p5⟩ := pair_facts hC hO hi
    refine ⟨at0 ps (i * 2), p1, ready_iff.2 ⟨t1, ?_, ?_⟩⟩
    · cases hb2 : isHighB ps n (at0 ps (i * 2))
      · rfl
      · obtain ⟨k, hk, e⟩ := isHighB_iff.1 hb2
        exact absurd e.symm (low_not_high hC hO hi hk)
    · rw [grp_low hC hO hi]
      intro m hm b hb
      simp at hm
      rcases hm with rfl | rfl
      · exact .inl (low _ p1 t2 b hb)
      · by_cases hbf : b = at0 ps (i * 2)
        · exact .inr hbf
        · refine .inl (Classical.byContradiction fun hbL => ?_)
          have hbo := below_one (by omega) hb
          rcases own b (below_mem hC p2 hb) hbL with ⟨j, hj, _, e2, e3⟩ | ⟨e1, e3⟩
          · omega
          · have hbm := below_mem hC p2 hb
            by_cases hlow : ∃ j, j < n ∧ at0 ps (j * 2) = b
            · obtain ⟨j, hj, rfl⟩ := hlow
              refine t3 j hj ?_ ⟨hbL, by omega⟩
              unfold StepP
              exact (step_mem hC hO hi).2 ⟨hb, hbf⟩
            · exact hcr ⟨b, hbm, hbL, e1, by omega, fun j hj e => hlow ⟨j, hj, e⟩⟩

end

section
variable {V : Int} {fs ps : List Int} {n : Nat}

theorem ordN_inv (hC : IsC V fs) (hO : OkTo fs ps n) : ∀ k, InvO fs ps n (ordN fs ps n k)
  | 0 => InvO.start fs ps n
  | k + 1 => by
    have ih := ordN_inv hC hO k
    show InvO fs ps n (stepO fs ps n (ordN fs ps n k))
    unfold stepO
    cases hf : nextF fs ps n (ordN fs ps n k) with
    | none => exact ih
    | some f =>
      unfold nextF at hf
      exact ih.step hC hO (List.mem_of_find?_eq_some hf) (List.find?_some hf)
theorem ordN_stay {k : Nat} (h : nextF fs ps n (ordN fs ps n k) = none) : ∀ d, ordN fs ps n (k + d) = ordN fs ps n k
  | 0 => rfl
  | d + 1 => by
    show stepO fs ps n (ordN fs ps n (k + d)) = _
    rw [ordN_stay h d]
    unfold stepO
    rw [h]
theorem sub_lenI : ∀ (A B : List Int), A.Nodup → (∀ x ∈ A, x ∈ B) → A.length ≤ B.length
  | [], _, _, _ => by simp
  | x :: A, B, hn, h => by
    obtain ⟨h1, h2⟩ := List.nodup_cons.1 hn
    have ih := sub_lenI A (B.erase x) h2 (fun y hy => (List.mem_erase_of_ne (fun e => h1 (by rw [← e]; exact hy))).2 (h y (List.mem_cons_of_mem _ hy)))
    have hx : x ∈ B := h x (by simp)
    have hl := List.length_erase_of_mem hx
    have hp : 0 < B.length := List.length_pos_of_mem hx
    simp only [List.length_cons]
    omega
theorem InvO.le {L : List Int} (h : InvO fs ps n L) : L.length ≤ fs.length := sub_lenI _ _ h.nodup h.sub
theorem grp_pos (ps : List Int) (n : Nat) (f : Int) : 1 ≤ (grpL ps n f).length := by
  unfold grpL
  split <;> simp
/-- Each step puts a face down. -/
theorem ordN_len (k : Nat) (h : ∀ j, j < k → nextF fs ps n (ordN fs ps n j) ≠ none) : k ≤ (ordN fs ps n k).length := by
  induction k with
  | zero => exact Nat.zero_le _
  | succ k ih =>
    have := ih (fun j hj => h j (by omega))
    have hk := h k (by omega)
    show k + 1 ≤ (stepO fs ps n (ordN fs ps n k)).length
    unfold stepO
    cases hf : nextF fs ps n (ordN fs ps n k) with
    | none => exact absurd hf hk
    | some f =>
      simp only [List.length_append]
      have := grp_pos ps n f
      omega
/-- The order. -/
def ordL (fs ps : List Int) (n : Nat) : List Int := ordN fs ps n fs.length
/-- Where no group can follow, the order is there. -/
theorem ord_end (hC : IsC V fs) (hO : OkTo fs ps n) {k : Nat} (hk : ∀ j, j < k → nextF fs ps n (ordN fs ps n j) ≠ none) (h : nextF fs ps n (ordN fs ps n k) = none) : ordN fs ps n k = ordL fs ps n := by
  have h1 := ordN_len k hk
  have h2 := (ordN_inv hC hO k).le
  have := ordN_stay h (fs.length - k)
  rw [show k + (fs.length - k) = fs.length by omega] at this
  exact this.symm
theorem find_none {L : List Int} (h : nextF fs ps n L = none) : ∀ f ∈ fs, readyB ps n L f = false := by
  unfold nextF at h
  intro f hf
  have := List.find?_eq_none.1 h f hf
  simpa using this
/-- All faces have found a place exactly if the pairing is acyclic. -/
theorem ord_all (hC : IsC V fs) (hO : OkTo fs ps n) {L : List Int} (hI : InvO fs ps n L) (h : nextF fs ps n L = none) : (L.length = fs.length ↔ NoCycle ps n) := by
  have hnd : fs.Nodup := hC.asc.imp (fun h => Int.ne_of_lt h)
  constructor
  · intro hl
    have hall : ∀ x ∈ fs, x ∈ L := fun x hx => Classical.byContradiction fun hn => by
      have := sub_lenI (x :: L) fs (List.nodup_cons.2 ⟨hn, hI.nodup⟩) (fun y hy => by
        rcases List.mem_cons.1 hy with rfl | hy
        · exact hx
        · exact hI.sub y hy)
      simp at this
      omega
    obtain ⟨L0, o1, o2, o3⟩ := hI.ord
    exact settled_acyclic o1 (fun i hi => (o3 i hi).1 (hall _ (pair_facts hC hO hi).1))
  · intro hc
    have hall : ∀ x ∈ fs, x ∈ L := fun x hx => Classical.byContradiction fun hn => by
      obtain ⟨f, hf, hr⟩ := ready_ex hC hO hc hI hx hn
      rw [find_none h f hf] at hr
      cases hr
    exact Nat.le_antisymm hI.le (sub_lenI _ _ hnd hall)
theorem ordL_none (hC : IsC V fs) (hO : OkTo fs ps n) : nextF fs ps n (ordL fs ps n) = none := by
  by_cases hex : ∃ k, k ≤ fs.length ∧ nextF fs ps n (ordN fs ps n k) = none
  · obtain ⟨k, hk, h⟩ := hex
    have e : ordL fs ps n = ordN fs ps n k := by
      have := ordN_stay h (fs.length - k)
      rwa [show k + (fs.length - k) = fs.length by omega] at this
    rw [e]
    exact h
  · have hno : ∀ j, j < fs.length + 1 → nextF fs ps n (ordN fs ps n j) ≠ none := fun j hj e => hex ⟨j, by omega, e⟩
    have h1 := ordN_len (fs.length + 1) hno
    have h2 := (ordN_inv hC hO (fs.length + 1)).le
    omega
theorem ordL_acy (hC : IsC V fs) (hO : OkTo fs ps n) : decide ((ordL fs ps n).length = fs.length) = acyB ps n := by
  have h := ord_all hC hO (ordN_inv hC hO fs.length) (ordL_none hC hO)
  by_cases hc : NoCycle ps n
  · rw [acyB_true hc]
    exact decide_eq_true (h.2 hc)
  · rw [acyB_false hc]
    exact decide_eq_false (fun e => hc (h.1 e))

end

end Go.Proofs.YtpdhnjdnlgnniaaGreat

/-! The order of a pairing as the program finds it: the groups that are left, and the first of them that can follow. -/
namespace Go.Proofs.YtpdhnjdnlgnniaaGreat
open Go.RowKit

/-- The faces, no high ones, whose groups are left. -/
def leftL (fs ps : List Int) (n : Nat) (L : List Int) : List Int := fs.filter fun f => !isHighB ps n f && !decide (f ∈ L)
/-- The program's test. -/
def canB (L g : List Int) : Bool := g.all fun m => (sidesF m.toNat).all fun s => decide (((s.val : Nat) : Int) ∈ L) || decide (((s.val : Nat) : Int) ∈ g)

theorem sides_mem {f : Nat} (hf : f < 64) {y : Int} : (∃ s ∈ sidesF f, ((s.val : Nat) : Int) = y) ↔ y ∈ belowR f 63 := by
  have h := sides_below ⟨f, hf⟩
  simp only at h
  rw [← List.mem_reverse, ← h]
  simp
theorem sides_allP {f : Nat} (hf : f < 64) (p : Int → Bool) : (sidesF f).all (fun s => p ((s.val : Nat) : Int)) = (belowR f 63).all p := by
  rw [Bool.eq_iff_iff, List.all_eq_true, List.all_eq_true]
  constructor
  · intro h y hy
    obtain ⟨s, hs, rfl⟩ := (sides_mem hf).2 hy
    exact h s hs
  · intro h s hs
    exact h _ ((sides_mem hf).1 ⟨s, hs, rfl⟩)

section
variable {V : Int} {fs ps : List Int} {n : Nat}

theorem leftL_mem {L : List Int} {f : Int} : f ∈ leftL fs ps n L ↔ f ∈ fs ∧ isHighB ps n f = false ∧ f ∉ L := by
  unfold leftL
  simp [List.mem_filter]
theorem grp_rngP (hC : IsC V fs) (hO : OkTo fs ps n) {f : Int} (hf : f ∈ fs) : ∀ m ∈ grpL ps n f, 1 ≤ m ∧ m ≤ 63 := by
  intro m hm
  by_cases hex : ∃ i, i < n ∧ at0 ps (i * 2) = f
  · obtain ⟨i, hi, rfl⟩ := hex
    rw [grp_low hC hO hi] at hm
    obtain ⟨_, _, _, h1, h2⟩ := pair_facts hC hO hi
    simp at hm
    rcases hm with rfl | rfl
    · exact h1
    · exact h2
  · rw [grp_crit (fun i hi e => hex ⟨i, hi, e⟩)] at hm
    simp at hm
    subst hm
    exact hC.range63 _ hf
theorem can_ready (hC : IsC V fs) (hO : OkTo fs ps n) {L : List Int} {f : Int} (hf : f ∈ leftL fs ps n L) : canB L (grpL ps n f) = readyB ps n L f := by
  obtain ⟨h1, h2, h3⟩ := leftL_mem.1 hf
  have hr := grp_rngP hC hO h1
  rw [Bool.eq_iff_iff, ready_iff]
  unfold canB
  rw [List.all_eq_true]
  have key : ∀ m ∈ grpL ps n f, ∀ b ∈ belowR m.toNat 63, (b ∈ grpL ps n f ↔ b = f) := by
    intro m hm b hb
    by_cases hex : ∃ i, i < n ∧ at0 ps (i * 2) = f
    · obtain ⟨i, hi, rfl⟩ := hex
      obtain ⟨_, _, hone, p4, p5⟩ := pair_facts hC hO hi
      have hmr := hr m hm
      rw [grp_low hC hO hi] at hm ⊢
      have hbo := below_one (by omega) hb
      simp at hm ⊢
      intro e
      subst e
      rcases hm with rfl | rfl
      · omega
      · omega
    · rw [grp_crit (fun i hi e => hex ⟨i, hi, e⟩)]
      simp
  constructor
  · intro h
    refine ⟨h3, h2, fun m hm b hb => ?_⟩
    have := h m hm
    rw [sides_allP (by have := hr m hm; omega) (fun y => decide (y ∈ L) || decide (y ∈ grpL ps n f))] at this
    have := List.all_eq_true.1 this b hb
    simp only [Bool.or_eq_true, decide_eq_true_eq] at this
    exact this.imp id (key m hm b hb).1
  · rintro ⟨_, _, h⟩ m hm
    rw [sides_allP (by have := hr m hm; omega) (fun y => decide (y ∈ L) || decide (y ∈ grpL ps n f)), List.all_eq_true]
    intro b hb
    simp only [Bool.or_eq_true, decide_eq_true_eq]
    exact (h m hm b hb).imp id (key m hm b hb).2

/-- The first of the groups that are left that can follow is the model's. -/
theorem left_find (hC : IsC V fs) (hO : OkTo fs ps n) (L : List Int) : (leftL fs ps n L).find? (fun f => canB L (grpL ps n f)) = nextF fs ps n L := by
  unfold nextF
  have h1 : (leftL fs ps n L).find? (fun f => canB L (grpL ps n f)) = (leftL fs ps n L).find? (readyB ps n L) := by
    have : ∀ (l : List Int), (∀ x ∈ l, canB L (grpL ps n x) = readyB ps n L x) → l.find? (fun f => canB L (grpL ps n f)) = l.find? (readyB ps n L) := by
      intro l
      induction l with
      | nil => intro _; rfl
      | cons x l ih =>
        intro h
        rw [List.find?_cons, List.find?_cons, h x (by simp), ih (fun y hy => h y (by simp [hy]))]
    exact this _ (fun x hx => can_ready hC hO hx)
  rw [h1]
  unfold leftL
  rw [List.find?_filter]
  congr 1
  funext f
  unfold readyB
  generalize ((grpL ps n f).all fun m => (belowR m.toNat 63).all fun b => decide (b ∈ L) || decide (b = f)) = X
  generalize isHighB ps n f = Y
  generalize decide (f ∈ L) = Z
  revert X Y Z
  decide

theorem filter_ne {R : List Int} (h : R.Nodup) {i : Nat} (hi : i < R.length) : R.filter (fun x => !decide (x = R[i]?.getD 0)) = R.take i ++ R.drop (i + 1) := by
  have hs := split_at hi
  obtain ⟨y, hy⟩ : ∃ y, y = R[i]?.getD 0 := ⟨_, rfl⟩
  rw [← hy] at hs ⊢
  obtain ⟨A, hA⟩ : ∃ A, A = R.take i := ⟨_, rfl⟩
  obtain ⟨B, hB⟩ : ∃ B, B = R.drop (i + 1) := ⟨_, rfl⟩
  rw [← hA, ← hB] at hs ⊢
  rw [hs] at h ⊢
  rw [List.nodup_append] at h
  obtain ⟨_, h2, h3⟩ := h
  rw [List.nodup_cons] at h2
  rw [List.filter_append, List.filter_cons, List.filter_eq_self.2, List.filter_eq_self.2]
  · simp
  · intro x hx
    have : x ≠ y := fun e => h2.1 (e ▸ hx)
    simpa using this
  · intro x hx
    have : x ≠ y := h3 x hx y (by simp)
    simpa using this

/-- What is left behind a step. -/
theorem left_step (hC : IsC V fs) (hO : OkTo fs ps n) {L : List Int} {i : Nat} (hi : i < (leftL fs ps n L).length) :
    leftL fs ps n (L ++ grpL ps n ((leftL fs ps n L)[i]?.getD 0)) = (leftL fs ps n L).take i ++ (leftL fs ps n L).drop (i + 1) := by
  have hnd : (leftL fs ps n L).Nodup := (hC.asc.imp (fun h => Int.ne_of_lt h)).filter _
  rw [← filter_ne hnd hi]
  obtain ⟨f, hf⟩ : ∃ f, f = (leftL fs ps n L)[i]?.getD 0 := ⟨_, rfl⟩
  have hm : f ∈ leftL fs ps n L := by rw [hf]; exact getD_mem hi
  rw [← hf]
  unfold leftL
  rw [List.filter_filter]
  refine List.filter_congr (fun x hx => ?_)
  obtain ⟨h1, h2, h3⟩ := leftL_mem.1 hm
  have key : isHighB ps n x = false → (x ∈ grpL ps n f ↔ x = f) := by
    intro hx0
    by_cases hex : ∃ j, j < n ∧ at0 ps (j * 2) = f
    · obtain ⟨j, hj, rfl⟩ := hex
      rw [grp_low hC hO hj]
      simp
      intro e
      subst e
      have := (isHighB_iff (ps := ps) (n := n) (f := at0 ps (j * 2 + 1))).2 ⟨j, hj, rfl⟩
      rw [hx0] at this
      cases this
    · rw [grp_crit (fun j hj e => hex ⟨j, hj, e⟩)]
      simp
  cases hh : isHighB ps n x
  · have hk := key hh
    by_cases hxf : x = f
    · subst hxf
      have hmem := hk.2 rfl
      simp [hmem]
    · have : x ∉ grpL ps n f := fun e => hxf (hk.1 e)
      simp [hxf, this]
  · simp
theorem left_nil {L : List Int} (h : leftL fs ps n L = []) : nextF fs ps n L = none := by
  unfold nextF
  rw [List.find?_eq_none]
  intro f hf hr
  obtain ⟨r1, r2, _⟩ := ready_iff.1 hr
  have : f ∈ leftL fs ps n L := leftL_mem.2 ⟨hf, r2, r1⟩
  rw [h] at this
  cases this
/-- As long as groups are left, one of them can follow. -/
theorem left_ex (hC : IsC V fs) (hO : OkTo fs ps n) (hc : NoCycle ps n) (k : Nat) (h : leftL fs ps n (ordN fs ps n k) ≠ []) :
    ∃ i, i < (leftL fs ps n (ordN fs ps n k)).length ∧ (∀ j, j < i → canB (ordN fs ps n k) (grpL ps n ((leftL fs ps n (ordN fs ps n k))[j]?.getD 0)) = false) ∧ canB (ordN fs ps n k) (grpL ps n ((leftL fs ps n (ordN fs ps n k))[i]?.getD 0)) = true ∧
      nextF fs ps n (ordN fs ps n k) = some ((leftL fs ps n (ordN fs ps n k))[i]?.getD 0) := by
  obtain ⟨L, hL⟩ : ∃ L, L = ordN fs ps n k := ⟨_, rfl⟩
  have hI := ordN_inv hC hO k
  rw [← hL] at h hI ⊢
  obtain ⟨R, hR⟩ : ∃ R, R = leftL fs ps n L := ⟨_, rfl⟩
  have hfind := left_find hC hO L
  have hex : ∃ f ∈ fs, readyB ps n L f = true := by
    rcases List.exists_mem_of_ne_nil _ h with ⟨x, hx⟩
    obtain ⟨h1, _, h3⟩ := leftL_mem.1 hx
    exact ready_ex hC hO hc hI h1 h3
  obtain ⟨f0, hf0, hr0⟩ := hex
  cases hn : nextF fs ps n L with
  | none =>
    unfold nextF at hn
    have := List.find?_eq_none.1 hn f0 hf0
    exact absurd hr0 this
  | some f =>
    rw [hn] at hfind
    rw [← hR] at hfind ⊢
    obtain ⟨hcan, i, hi, hif, hbe⟩ := List.find?_eq_some_iff_getElem.1 hfind
    refine ⟨i, hi, fun j hj => ?_, ?_, ?_⟩
    · have := hbe j hj
      rw [List.getElem?_eq_getElem (by omega)]
      simpa using this
    · rw [List.getElem?_eq_getElem hi, Option.getD_some, hif]
      exact hcan
    · rw [List.getElem?_eq_getElem hi, Option.getD_some, hif]
theorem ordN_next {k : Nat} {f : Int} (h : nextF fs ps n (ordN fs ps n k) = some f) : ordN fs ps n (k + 1) = ordN fs ps n k ++ grpL ps n f := by
  show stepO fs ps n (ordN fs ps n k) = _
  unfold stepO
  rw [h]
theorem left_zero : leftL fs ps n [] = fs.filter fun f => !isHighB ps n f := by
  unfold leftL
  congr 1
  funext f
  simp

end

end Go.Proofs.YtpdhnjdnlgnniaaGreat
