import Derived.Scope
import Derived.Maps.OwnSet
import Derived.Test.YtbaljngbmokiiaaMIsFlat1
import Derived.Test.YtbaljngbmokiiaaMIsFlat2
import Derived.Test.YtbaljngbmokiiaaMIsFlat3
import Derived.Test.YtbaljngbmokiiaaMIsFlat4
/-! settledPairs, walked. -/
namespace Go.Proofs.Ytbaljngbmokiiaa
open Go.RowKit Go.Shelf

attribute [local go_sem] Oper.semAt_some

/-- Ahead of a pass. -/
def StOut (w : World) (M B n cap1 : Nat) (a1 : Option Addr) (ps : List Int) (a' : Act) (W : World) : Prop :=
  ∃ (L : List Nat) (av : Option Addr) (cp : Nat) (b : Int) (Ds : List Nat) (us : Nat → Value), a' = { tmps := List.toArray ((.slice a1 n cap1) :: us 1 :: (.slice none 0 0) :: (.pointer (some ⟨B, 0, none⟩)) :: (.pointer (some ⟨B + 1 + 1, 0, none⟩)) :: (.slice av L.length cp) :: (.int .i64 b) :: us 7 :: us 8 :: us 9 :: us 10 :: us 11 :: (.slice a1 n cap1) :: (.map (some M)) :: (.map (some (B + 1))) :: us 15 :: us 16 :: us 17 :: us 18 :: us 19 :: us 20 :: us 21 :: us 22 :: us 23 :: us 24 :: us 25 :: us 26 :: us 27 :: us 28 :: us 29 :: us 30 :: us 31 :: us 32 :: us 33 :: us 34 :: us 35 :: us 36 :: us 37 :: us 38 :: us 39 :: us 40 :: us 41 :: us 42 :: us 43 :: us 44 :: us 45 :: us 46 :: us 47 :: us 48 :: us 49 :: us 50 :: us 51 :: us 52 :: us 53 :: us 54 :: us 55 :: []), defers := marks Ds } ∧
    Hid (SetW w W M B n ps L (.slice av L.length cp) Ds) ∧ Hid (Stl ps n L) ∧ -1 ≤ b ∧ b ≤ (L.length : Int) ∧ Hid (b = (L.length : Int) → SatTo ps n n L)
theorem stOut_of {w W : World} {M B n cap1 : Nat} {a1 : Option Addr} {ps : List Int} {L : List Nat} {av : Option Addr} {cp : Nat} {b : Int} {Ds : List Nat} (tm : Array Value) (ds : List Deferred) (hds : ds = marks Ds)
    (h : tm = List.toArray ((.slice a1 n cap1) :: tm.getD 1 undef :: (.slice none 0 0) :: (.pointer (some ⟨B, 0, none⟩)) :: (.pointer (some ⟨B + 1 + 1, 0, none⟩)) :: (.slice av L.length cp) :: (.int .i64 b) :: tm.getD 7 undef :: tm.getD 8 undef :: tm.getD 9 undef :: tm.getD 10 undef :: tm.getD 11 undef :: (.slice a1 n cap1) :: (.map (some M)) :: (.map (some (B + 1))) :: tm.getD 15 undef :: tm.getD 16 undef :: tm.getD 17 undef :: tm.getD 18 undef :: tm.getD 19 undef :: tm.getD 20 undef :: tm.getD 21 undef :: tm.getD 22 undef :: tm.getD 23 undef :: tm.getD 24 undef :: tm.getD 25 undef :: tm.getD 26 undef :: tm.getD 27 undef :: tm.getD 28 undef :: tm.getD 29 undef :: tm.getD 30 undef :: tm.getD 31 undef :: tm.getD 32 undef :: tm.getD 33 undef :: tm.getD 34 undef :: tm.getD 35 undef :: tm.getD 36 undef :: tm.getD 37 undef :: tm.getD 38 undef :: tm.getD 39 undef :: tm.getD 40 undef :: tm.getD 41 undef :: tm.getD 42 undef :: tm.getD 43 undef :: tm.getD 44 undef :: tm.getD 45 undef :: tm.getD 46 undef :: tm.getD 47 undef :: tm.getD 48 undef :: tm.getD 49 undef :: tm.getD 50 undef :: tm.getD 51 undef :: tm.getD 52 undef :: tm.getD 53 undef :: tm.getD 54 undef :: tm.getD 55 undef :: [])) (HW : Hid (SetW w W M B n ps L (.slice av L.length cp) Ds)) (HS : Hid (Stl ps n L)) (h1 : -1 ≤ b) (h2 : b ≤ (L.length : Int)) (h3 : Hid (b = (L.length : Int) → SatTo ps n n L)) :
    StOut w M B n cap1 a1 ps { tmps := tm, defers := ds } W :=
  ⟨L, av, cp, b, Ds, fun i => tm.getD i undef, by rw [hds]; exact congrArg (fun t => ({ tmps := t, defers := marks Ds } : Act)) h, HW, HS, h1, h2, h3⟩
/-- Within a pass, ahead of pair k. -/
def StIn (w : World) (M B n cap1 : Nat) (a1 : Option Addr) (ps : List Int) (b : Nat) (a' : Act) (W : World) : Prop :=
  ∃ (k : Nat) (L : List Nat) (av : Option Addr) (cp : Nat) (Ds : List Nat) (us : Nat → Value), a' = { tmps := List.toArray ((.slice a1 n cap1) :: us 1 :: (.slice none 0 0) :: (.pointer (some ⟨B, 0, none⟩)) :: (.pointer (some ⟨B + 1 + 1, 0, none⟩)) :: (.slice av L.length cp) :: (.int .i64 (b : Int)) :: us 7 :: us 8 :: us 9 :: us 10 :: us 11 :: (.slice a1 n cap1) :: (.map (some M)) :: (.map (some (B + 1))) :: us 15 :: us 16 :: us 17 :: us 18 :: us 19 :: us 20 :: (.slice a1 n cap1) :: (.int .i64 (n : Int)) :: (.int .i64 (k : Int)) :: us 24 :: us 25 :: us 26 :: us 27 :: us 28 :: us 29 :: us 30 :: us 31 :: us 32 :: us 33 :: us 34 :: us 35 :: us 36 :: us 37 :: us 38 :: us 39 :: us 40 :: us 41 :: us 42 :: us 43 :: us 44 :: us 45 :: us 46 :: us 47 :: us 48 :: us 49 :: us 50 :: us 51 :: us 52 :: us 53 :: us 54 :: us 55 :: []), defers := marks Ds } ∧
    Hid (SetW w W M B n ps L (.slice av L.length cp) Ds) ∧ Hid (Stl ps n L) ∧ k ≤ n ∧ b ≤ L.length ∧ Hid (b = L.length → SatTo ps n k L)
theorem stIn_of {w W : World} {M B n cap1 : Nat} {a1 : Option Addr} {ps : List Int} {L : List Nat} {av : Option Addr} {cp b k : Nat} {Ds : List Nat} (tm : Array Value) (ds : List Deferred) (hds : ds = marks Ds)
    (h : tm = List.toArray ((.slice a1 n cap1) :: tm.getD 1 undef :: (.slice none 0 0) :: (.pointer (some ⟨B, 0, none⟩)) :: (.pointer (some ⟨B + 1 + 1, 0, none⟩)) :: (.slice av L.length cp) :: (.int .i64 (b : Int)) :: tm.getD 7 undef :: tm.getD 8 undef :: tm.getD 9 undef :: tm.getD 10 undef :: tm.getD 11 undef :: (.slice a1 n cap1) :: (.map (some M)) :: (.map (some (B + 1))) :: tm.getD 15 undef :: tm.getD 16 undef :: tm.getD 17 undef :: tm.getD 18 undef :: tm.getD 19 undef :: tm.getD 20 undef :: (.slice a1 n cap1) :: (.int .i64 (n : Int)) :: (.int .i64 (k : Int)) :: tm.getD 24 undef :: tm.getD 25 undef :: tm.getD 26 undef :: tm.getD 27 undef :: tm.getD 28 undef :: tm.getD 29 undef :: tm.getD 30 undef :: tm.getD 31 undef :: tm.getD 32 undef :: tm.getD 33 undef :: tm.getD 34 undef :: tm.getD 35 undef :: tm.getD 36 undef :: tm.getD 37 undef :: tm.getD 38 undef :: tm.getD 39 undef :: tm.getD 40 undef :: tm.getD 41 undef :: tm.getD 42 undef :: tm.getD 43 undef :: tm.getD 44 undef :: tm.getD 45 undef :: tm.getD 46 undef :: tm.getD 47 undef :: tm.getD 48 undef :: tm.getD 49 undef :: tm.getD 50 undef :: tm.getD 51 undef :: tm.getD 52 undef :: tm.getD 53 undef :: tm.getD 54 undef :: tm.getD 55 undef :: [])) (HW : Hid (SetW w W M B n ps L (.slice av L.length cp) Ds)) (HS : Hid (Stl ps n L)) (h1 : k ≤ n) (h2 : b ≤ L.length) (h3 : Hid (b = L.length → SatTo ps n k L)) :
    StIn w M B n cap1 a1 ps b { tmps := tm, defers := ds } W :=
  ⟨k, L, av, cp, Ds, fun i => tm.getD i undef, by rw [hds]; exact congrArg (fun t => ({ tmps := t, defers := marks Ds } : Act)) h, HW, HS, h1, h2, h3⟩

theorem wpIn_scope_wide {n : Nat} {P : Program} {c : Code} {Q : Exit → Act → World → Prop} {a : Act} {w : World} (h : c.wpIn Fence.wide n P (Exit.noGoto Q) a w) : (Code.scope c).wpIn Fence.wide n P Q a w :=
  wpIn_wide.2 (wp_scope_straight (wpIn_wide.1 h))

set_option maxRecDepth 1000000 in
set_option maxHeartbeats 4000000 in
theorem settled_in (a1 : Option Addr) (n cap1 : Nat) (ps : List Int) (w : World) (hx1 : SlI w w.heap.size a1 ps) (hp : ps.length = 2 * n) (hn : n ≤ 1048576) (hw : ∀ x ∈ ps, (Lit.int .i64 x).wf = true) (hd : LowsApart ps n) (hh : HighsB ps n) :
    CallsIn Fence.wide 14 Try.prog 110 #[.slice a1 n cap1] w fun e w' => ∃ L v, e = .returned v ∧ Stl ps n L ∧ SatTo ps n n L ∧ ResP w w' v (setP ps L) := by
  have HLw := hid (lows_any a1 n cap1 ps w hx1 hp hn hw)
  have Hy := hid hx1
  have Hp := hid hp
  have Hw := hid hw
  have HD := hid hd
  have HH := hid hh
  have hmm := @run_makeMap Try.prog
  clear hx1 hp hw hd hh
  refine callsIn_of_wp_marks Try.func110 rfl trivial ?_ rfl
  simp only [Try.ntmps110, List.size_toArray, List.length_cons, List.length_nil, Nat.reduceAdd, Nat.reduceSub, Array.replicate_succ, Array.replicate_zero, List.push_toArray, List.append_toArray, List.nil_append, List.cons_append]
  gi_wp2_with (first
    | (refine ⟨trivial, ?_⟩; gi_at_call 171; refine (callsIn_wide.2 HLw.out).mono ?_; rintro e w1 ⟨rfl, hown, hB1⟩))
  clear hmm
  have hMB : w.heap.size < w1.heap.size := hown.lt
  have H0 : Hid (SetW w (((w1.alloc (.cells #[.map (some w.heap.size)] 167)).alloc (.map #[] 0)).alloc (.cells #[.map (some (w1.heap.size + 1))] 105)) w.heap.size w1.heap.size n ps [] (.slice none 0 0) []) := by
    have e3 := heap_alloc_new ((w1.alloc (.cells #[.map (some w.heap.size)] 167)).alloc (.map #[] 0)) (.cells #[.map (some (w1.heap.size + 1))] 105)
    rw [World.size_alloc, World.size_alloc] at e3
    have m0 := World.ownsMap_made (H := Unit) (w1.alloc (.cells #[.map (some w.heap.size)] 167)) Try.prog 55 (plainElem (H := Unit) Try.prog 4)
    rw [World.size_alloc] at m0
    exact hid {
      below := ((hB1.alloc (by omega) _).alloc (by simp; omega) _).alloc (by simp; omega) _
      lo := Nat.le_refl _
      mb := hMB
      lows := ((hown.alloc _).alloc _).alloc _
      b3 := (Below.heap_alloc _ _ _ (by simp; omega)).trans ((Below.heap_alloc _ _ _ (by simp)).trans (heap_alloc_new _ _))
      own := World.ownsMap.alloc m0 _
      b4 := e3
      row := World.ownsRow_nil _ _ _ _
      off := by simp
      nodup := by simp
      marks := by simp }
  obtain ⟨M, hM⟩ : ∃ M, M = w.heap.size := ⟨_, rfl⟩
  obtain ⟨B, hBd⟩ : ∃ B, B = w1.heap.size := ⟨_, rfl⟩
  have HMw := hid hM
  rw [← hM, ← hBd] at H0 ⊢
  clear hMB hown hB1 HLw hM hBd
  refine wpIn_loop (StOut w M B n cap1 a1 ps) (fun a' _ => ((n : Int) - intOf (a'.tmps.getD 6 undef)).toNat) ?start ?round
  case start => exact stOut_of (L := []) (Ds := []) _ _ rfl rfl H0 (hid (Stl.nil ps n)) (by decide) (by decide) (hid (fun h => by simp at h))
  case round =>
    rintro a' W ⟨L, av, cp, b, Ds, us, rfl, HW, HS, hb0, hb1, HSat⟩
    clear H0
    by_cases hlt : b < (L.length : Int)
    · clear HSat
      have hsz := HW.out.size
      have hLn := HS.out.len
      gi_wp2
      refine wpIn_scope_wide ?_
      gi_wp2
      refine wpIn_label ?_
      gi_wp2
      refine wpIn_loop (StIn w M B n cap1 a1 ps L.length) (fun a' _ => n - (intOf (a'.tmps.getD 23 undef)).toNat) ?start2 ?round2
      case start2 => exact stIn_of (k := 0) (L := L) (Ds := Ds) _ _ rfl rfl HW HS (Nat.zero_le _) (Nat.le_refl _) (hid (fun _ => SatTo.zero _ _ _))
      case round2 =>
        clear HW hsz
        rintro a' W ⟨k, L2, av, cp, Ds, us, rfl, HW, HS2, hk, hb, HSat⟩
        by_cases hlt2 : k < n
        · obtain ⟨lb, off, hlb, rfl, hc⟩ : ∃ b off, b < w.heap.size ∧ a1 = some ⟨b, off, none⟩ ∧ ∀ i, i < ps.length → w.cell? ⟨b, off + i, none⟩ = some (.int .i64 (ps[i]?.getD 0)) := by
            rcases Hy.out with h | h
            · have := Hp.out; rw [h] at this; simp at this; omega
            · exact h
          have hB := HW.out.below
          have hc2 : W.cell? ⟨lb, off + k * 2, none⟩ = some (.int .i64 (at0 ps (k * 2))) := (hB.cell (p := ⟨lb, off + k * 2, none⟩) hlb).trans (hc _ (by have := Hp.out; omega))
          have hc3 : W.cell? ⟨lb, off + k * 2 + 1, none⟩ = some (.int .i64 (at0 ps (k * 2 + 1))) := (hB.cell (p := ⟨lb, off + (k * 2 + 1), none⟩) hlb).trans (hc _ (by have := Hp.out; omega))
          have hwk := wf_pairAt Hp.out Hw.out hlt2
          have hlk := lookup_pair (HW.out.alloc (.cells #[.int .i64 (at0 ps (k * 2)), .int .i64 (at0 ps (k * 2 + 1))] 55)).own (wf_setP Hp.out Hw.out HS2.out.lt) hwk
          have hmem := mem_setP HD.out HS2.out.lt hlt2
          obtain ⟨x, hx⟩ : ∃ x, x = at0 ps (k * 2) := ⟨_, rfl⟩
          obtain ⟨y, hy⟩ : ∃ y, y = at0 ps (k * 2 + 1) := ⟨_, rfl⟩
          have Hxy : Hid (pairAt ps k = (x, y)) := hid (by rw [hx, hy]; rfl)
          have Hx := hid hx
          rw [show (pairAt ps k).1 = x by rw [Hxy.out], show (pairAt ps k).2 = y by rw [Hxy.out]] at hlk
          rw [← hx, ← hy] at hlk
          rw [← hx] at hc2
          rw [← hy] at hc3
          have c4 : ∀ o : Obj, (W.alloc o).cell? ⟨B + 1 + 1, 0, none⟩ = some (.map (some (B + 1))) := fun o => cell_alloc0 (box_cell HW.out.b4).1 o
          have c3 : ∀ o : Obj, (W.alloc o).cell? ⟨B, 0, none⟩ = some (.map (some M)) := fun o => cell_alloc0 (box_cell HW.out.b3).1 o
          have hi0 : (0 : Int) ≤ (k : Int) := by omega
          have hi1 : (k : Int) < (n : Int) := by omega
          have Hwx : Hid ((Lit.int .i64 x).wf = true) := hid (by rw [hx]; exact hwk.1)
          have Hwk : Hid (wfP (x, y)) := hid (by rw [← Hxy.out]; exact hwk)
          clear hx hy hc hB hwk
          by_cases hm : k ∈ L2
          · rw [decide_eq_true (hmem.2 hm)] at hlk
            have Hm := hid hm
            clear hm hmem
            gi_wp2
            exact ⟨stIn_of (k := k + 1) (L := L2) (Ds := Ds) _ _ rfl rfl (hid (HW.out.alloc _)) HS2 (by omega) hb (hid (fun h => (HSat.out h).skip (.inl Hm.out))), by simp [intOf]; omega⟩
          · rw [decide_eq_false (fun h => hm (hmem.1 h))] at hlk
            have Hm := hid hm
            clear hm hmem
            gi_wp2_with (first
              | (refine ⟨trivial, ?_⟩; gi_at_call 174; refine (stepsFrom_in _ M x _).mono ?_; rintro e w' ⟨rfl, rfl⟩))
            obtain ⟨W3, hW3⟩ : ∃ W3, W3 = ((W.alloc (.cells #[.int .i64 x, .int .i64 y] 55)).alloc (.cells #[.map (some M)] 167)).alloc (.cells #[.int .i64 x] 2) := ⟨_, rfl⟩
            have hs3 : W3.heap.size = W.heap.size + 3 := by rw [hW3]; simp
            have hpb : W3.heap[W.heap.size]? = some (.cells #[.int .i64 x, .int .i64 y] 55 (0, 0)) := by rw [hW3]; exact (Below.heap_alloc _ _ _ (by simp <;> omega)).trans ((Below.heap_alloc _ _ _ (by simp)).trans (heap_alloc_new _ _))
            have hbm : W3.heap[W.heap.size + 1]? = some (.cells #[.map (some M)] 167 (0, 0)) := by
              have := heap_alloc_new (W.alloc (.cells #[.int .i64 x, .int .i64 y] 55)) (.cells #[.map (some M)] 167)
              rw [World.size_alloc] at this
              rw [hW3]
              exact (Below.heap_alloc _ _ _ (by simp)).trans this
            have hbx : W3.heap[W.heap.size + 1 + 1]? = some (.cells #[.int .i64 x] 2 (0, 0)) := by
              have := heap_alloc_new ((W.alloc (.cells #[.int .i64 x, .int .i64 y] 55)).alloc (.cells #[.map (some M)] 167)) (.cells #[.int .i64 x] 2)
              rw [World.size_alloc, World.size_alloc] at this
              rw [hW3]
              exact this
            have HS3 : Hid (SetW w W3 M B n ps L2 (.slice av L2.length cp) Ds) := hid (by rw [hW3]; exact ((HW.out.alloc _).alloc _).alloc _)
            have HDs : Hid (∀ D ∈ Ds, D < W3.heap.size) := hid (fun D hD => by have := lt_of_get (HW.out.marks D hD).2; omega)
            have Hvb : Hid (∀ g, (Value.slice av L2.length cp).ownBlock = some g → g < W3.heap.size) := hid (fun g hg => by have := (HW.out.row.lt g hg).2; omega)
            have hsz := HW.out.size
            rw [← hW3]
            clear hW3 hlk c4 c3 hc2 hc3
            refine wpIn_rangeFunc_P rfl (by decide) (gf := 214) (lb := #[.pointer (some ⟨W.heap.size + 1, 0, none⟩), .pointer (some ⟨W.heap.size + 1 + 1, 0, none⟩)]) rfl trivial (enters_of Try.func214 (by kernel_rfl) rfl)
              (steps_P 13 (by decide) (W.heap.size + 1) (W.heap.size + 1 + 1) M n n ps x W3 hbm hbx HS3.out.lows HD.out HH.out Hwx.out) (by simp) (Below.refl _ _) (fun _ => rfl)
              (fun pre W' => SetW w W' M B n ps L2 (.slice av L2.length cp) Ds ∧ W'.heap[W.heap.size]? = some (.cells #[.int .i64 x, .int .i64 y] 55 (0, 0)) ∧ ∀ z ∈ pre, ∀ j, j < n → at0 ps (j * 2) = ((z : Fin 64).val : Int) → j ∈ L2)
              (fun c _ W' => c = .exit 3 ∧ SetW w W' M B n ps L2 (.slice av L2.length cp) Ds ∧ ∃ j, j < n ∧ StepP ps n k j ∧ j ∉ L2)
              (OwnIn.and (set_ownIn (by omega) HDs.out Hvb.out) (OwnIn.and (ownIn_block (β := List (Fin 64)) (fun _ => _) (by omega)) (ownIn_pure _ _ (fun (pre : List (Fin 64)) => ∀ z ∈ pre, ∀ j, j < n → at0 ps (j * 2) = (z.val : Int) → j ∈ L2))))
              (fun c => OwnIn.and (ownIn_pure _ _ (fun (_ : List (Fin 64)) => c = .exit 3)) (OwnIn.and (set_ownIn (by omega) HDs.out Hvb.out) (ownIn_pure _ _ (fun (_ : List (Fin 64)) => ∃ j, j < n ∧ StepP ps n k j ∧ j ∉ L2))))
              ⟨HS3.out, hpb, by simp⟩
              (fun z => { tmps := List.toArray ((.slice (some ⟨lb, off, none⟩) n cap1) :: us 1 :: (.slice none 0 0) :: (.pointer (some ⟨B, 0, none⟩)) :: (.pointer (some ⟨B + 1 + 1, 0, none⟩)) :: (.slice av L2.length cp) :: (.int .i64 (L.length : Int)) :: us 7 :: (.pointer (some ⟨W.heap.size, 0, none⟩)) :: (.int .i64 (z.val : Int)) :: us 10 :: us 11 :: (.slice (some ⟨lb, off, none⟩) n cap1) :: (.map (some M)) :: (.map (some (B + 1))) :: us 15 :: us 16 :: us 17 :: us 18 :: us 19 :: us 20 :: (.slice (some ⟨lb, off, none⟩) n cap1) :: (.int .i64 (n : Int)) :: (.int .i64 (k : Int)) :: (.bool true) :: (.pointer (some ⟨lb, off + k * 2, none⟩)) :: (.agg #[.int .i64 x, .int .i64 y]) :: (.map (some (B + 1))) :: (.agg #[.int .i64 x, .int .i64 y]) :: (.bool false) :: (.map (some M)) :: (.pointer (some ⟨W.heap.size, 0, none⟩)) :: (.int .i64 x) :: (.func (.func 214) #[] #[.pointer (some ⟨W.heap.size + 1, 0, none⟩), .pointer (some ⟨W.heap.size + 1 + 1, 0, none⟩)]) :: (.int .i64 (z.val : Int)) :: us 35 :: us 36 :: us 37 :: us 38 :: us 39 :: us 40 :: us 41 :: us 42 :: us 43 :: us 44 :: us 45 :: us 46 :: us 47 :: us 48 :: us 49 :: us 50 :: us 51 :: us 52 :: us 53 :: us 54 :: us 55 :: []), defers := [] }) ?assign ?body ?done ?stop
            case assign =>
              intro l z W4 K hK
              gi_wp2
              exact hK
            case body =>
              rintro l pre z W4 hpre hsz4 ⟨hS, hpb4, hok⟩
              clear HW HSat hpb hbm hbx HS3
              have hzw : (Lit.int .i64 (z.val : Int)).wf = true := WalkArith.wf_i64 (by have := z.isLt; omega)
              obtain ⟨q3, _⟩ := box_cell hS.b3
              have q4 : ∀ o : Obj, (W4.alloc o).cell? ⟨B + 1 + 1, 0, none⟩ = some (.map (some (B + 1))) := fun o => cell_alloc0 (box_cell hS.b4).1 o
              have Hstep : Hid (∀ j, at0 ps (j * 2) = (z.val : Int) → StepP ps n k j) := hid (fun j hj => by
                unfold StepP
                rw [← Hx.out, hj]
                exact (mem_stepsF HH.out x _).1 ⟨z, hpre.subset (by simp), rfl⟩)
              have Hok := hid hok
              have HSa := hid hS
              have Hpb4 := hid hpb4
              rcases lows_look2 hS.lows HD.out hzw with ⟨j, hj, hjz, hrun⟩ | ⟨hno, hrun⟩
              · obtain ⟨u, hu⟩ : ∃ u, u = at0 ps (j * 2 + 1) := ⟨_, rfl⟩
                have hpj : pairAt ps j = ((z.val : Int), u) := by unfold pairAt; rw [hjz, hu]
                have hlk := lookup_pair (hS.alloc (.cells #[.int .i64 (z.val : Int), .int .i64 u] 55)).own (wf_setP Hp.out Hw.out HS2.out.lt) (wf_pairAt Hp.out Hw.out hj)
                have hmem := mem_setP HD.out HS2.out.lt hj
                rw [hpj] at hlk hmem
                simp only at hlk
                rw [← hu] at hrun
                have Hjz := hid hjz
                have Hj := hid hj
                clear hS hpb4 hok hjz hu hpj hj
                by_cases hm : j ∈ L2
                · rw [decide_eq_true (hmem.2 hm)] at hlk
                  have Hmj := hid hm
                  clear hm hmem
                  gi_wp2
                  refine ⟨KeepP.new _ (by simp) (by omega), HSa.out.alloc _, (Below.heap_alloc _ _ _ (lt_of_get Hpb4.out)).trans Hpb4.out, fun z' hz' j' hj' he => ?_⟩
                  rcases List.mem_append.1 hz' with h | h
                  · exact Hok.out z' h j' hj' he
                  · simp at h
                    subst h
                    exact (lows_inj HD.out hj' Hj.out (he.trans Hjz.out.symm)) ▸ Hmj.out
                · rw [decide_eq_false (fun h => hm (hmem.1 h))] at hlk
                  have Hmj := hid hm
                  clear hm hmem
                  gi_wp2
                  exact ⟨KeepP.new _ (by simp) (by omega), rfl, HSa.out.alloc _, j, Hj.out, Hstep.out j Hjz.out, Hmj.out⟩
              · have Hno := hid hno
                clear hS hpb4 hok hno
                gi_wp2
                refine ⟨KeepP.new _ (by simp) (by omega), HSa.out.alloc _, (Below.heap_alloc _ _ _ (lt_of_get Hpb4.out)).trans Hpb4.out, fun z' hz' j' hj' he => ?_⟩
                rcases List.mem_append.1 hz' with h | h
                · exact Hok.out z' h j' hj' he
                · simp at h
                  subst h
                  exact absurd he (Hno.out j' hj')
            case done =>
              rintro W4 ⟨hS, hpb4, hok⟩ hD4
              have hS4 := hS.mark hD4 (by omega) (fun hm => by have := HDs.out _ hm; omega) (fun e => by have := Hvb.out _ e; omega)
              obtain ⟨L3, hL3⟩ : ∃ L3, L3 = L2 ++ [k] := ⟨_, rfl⟩
              have Hst : Hid (Stl ps n L3) := hid (by
                rw [hL3]
                refine HS2.out.snoc hlt2 Hm.out (fun j hj hs => ?_)
                unfold StepP at hs
                rw [← Hx.out] at hs
                obtain ⟨z, hz, he⟩ := (mem_stepsF HH.out x _).2 hs
                exact hok z hz j hj he)
              have hl2 := HS2.out.len
              have hl3 : L3.length = L2.length + 1 := by rw [hL3]; simp
              have he3 : (setP ps L2 ++ [(x, y)]).length = L3.length := by rw [hL3]; simp [setP]
              obtain ⟨W5, hrun5, hown5, hg5⟩ := World.ownsMap.update hS4.own keyedP Try.underlying105 (show L2.length < maxLen by unfold maxLen; omega) (keyOfP Hwk.out) (plainElem_bool Try.underlying4 true)
              have hpb5 : W5.heap[W.heap.size]? = some (.cells #[.int .i64 x, .int .i64 y] 55 (0, 0)) := (hg5.block _ (lt_of_get hpb4) (fun e => by injection e with e; omega)).trans hpb4
              have hrow5 := hS4.row.kept hg5 (by
                cases hv : (Value.slice av L2.length cp).ownBlock with
                | none => exact .inl rfl
                | some g => exact .inr (fun e => by have := (hS4.row.lt g hv).1; injection e with e; omega))
              obtain ⟨p40, p41, _, _⟩ := two_of hpb4
              obtain ⟨p50, p51, _, _⟩ := two_of hpb5
              obtain ⟨q4, _⟩ := box_cell hS4.b4
              have q4' : W4.cell? ⟨B + 1 + 1, 0, none⟩ = some (.map (some (B + 1))) := q4
              have hsz5 : B + 3 ≤ W5.heap.size := Nat.le_trans hS4.size hg5.size
              have Hr5 := hid hrow5
              have HS4 := hid hS4
              have Ho5 := hid hown5
              have Hg5 := hid hg5
              have hsl : (setP ps L2).length = L2.length := setP_len ps L2
              have He3 := hid he3
              have HL3 := hid hL3
              have Hl3 := hid hl3
              clear hl3 hS hS4 hok hD4 hpb4 hpb5 hrow5 hown5 hg5 he3 hL3 q4
              gi_wp2_with (first
                | (gi_at_builtin; refine append_pairIn rfl rfl Hr5.out (by omega) (by omega) (by first | rfl | (simp only [hsl]; rfl)) rfl ?_; intro v' w6 hr6 hg6 hat6; obtain ⟨_, av', cp', rfl, _⟩ := pairs_form hr6; rw [He3.out] at hr6 hat6 ⊢; have Hr6 := hid hr6; have Hg6 := hid hg6; have Hat6 := hid hat6; clear hr6 hg6 hat6))
              have h6 := HS4.out.put (i := k) (by rw [Hxy.out]; exact Ho5.out) Hg5.out (by rw [Hxy.out, He3.out]; exact Hr6.out) Hg6.out Hat6.out
              rw [← HL3.out, hs3] at h6
              exact ⟨stIn_of (k := k + 1) (L := L3) (Ds := (W.heap.size + 3) :: Ds) _ _ rfl rfl (hid h6) Hst (by omega) (by rw [Hl3.out]; omega) (hid (fun h => by rw [Hl3.out] at h; omega)), by simp [intOf]; omega⟩
            case stop =>
              rintro c pre W4 hpre ⟨rfl, hS, hj⟩ hD4
              have HS4 := hid (hS.mark hD4 (by omega) (fun hm => by have := HDs.out _ hm; omega) (fun e => by have := Hvb.out _ e; omega))
              have Hj := hid hj
              clear hS hj hD4
              gi_wp2
              exact ⟨stIn_of (k := k + 1) (L := L2) (Ds := W3.heap.size :: Ds) _ _ rfl rfl HS4 HS2 (by omega) hb (hid (fun h => (HSat.out h).skip (.inr Hj.out))), by simp [intOf]; omega⟩
        · obtain rfl : k = n := by omega
          clear hlt2
          gi_wp2
          simp only [Exit.noGoto]
          gi_wp2
          exact ⟨stOut_of (L := L2) (Ds := Ds) _ _ rfl rfl HW HS2 (by omega) (by omega) (hid (fun h => HSat.out (by omega))), by simp [intOf]; omega⟩
    · have hbL : b = (L.length : Int) := by omega
      have Hsat := hid (HSat.out hbL)
      clear HSat
      gi_wp2
      refine leaves_marks (by simp) Ds _ HW.out.nodup (fun D hD => (HW.out.marks D hD).2) (fun w' hw' => ?_)
      exact ⟨_, results_tmp rfl _ _ _, L, .slice av L.length cp, rfl, HS.out, Hsat.out, HW.out.leaves hw'⟩

end Go.Proofs.Ytbaljngbmokiiaa

/-! The critical faces, the program's. -/
namespace Go.Proofs.Ytbaljngbmokiiaa
open Go.RowKit

noncomputable def pcodeR (V : Int) (fs : List Int) (n : Nat) (ps : List Int) : Int := if isCB V fs then (if pairingB fs ps n then 0 else 2) else 1
def critL (fs ps : List Int) : List Int := fs.filter fun x => !decide (x ∈ ps)
noncomputable def criticalFacesR (V : Int) (fs : List Int) (n : Nat) (ps : List Int) : List Int × Int := if pcodeR V fs n ps = 0 then (critL fs ps, 0) else ([], pcodeR V fs n ps)

theorem pcode_cases (V : Int) (fs : List Int) (n : Nat) (ps : List Int) :
    (IsC V fs ∧ OkTo fs ps n ∧ pcodeR V fs n ps = 0 ∧ isPairingR V fs n ps = (true, 0) ∧ pairingB fs ps n = true) ∨ (IsC V fs ∧ ¬ OkTo fs ps n ∧ pcodeR V fs n ps = 2 ∧ isPairingR V fs n ps = (false, 0) ∧ pairingB fs ps n = false) ∨ (¬ IsC V fs ∧ pcodeR V fs n ps = 1 ∧ isPairingR V fs n ps = (false, 1)) := by
  unfold pcodeR isPairingR
  by_cases hC : IsC V fs
  · rw [isCB_true hC]
    by_cases ho : OkTo fs ps n
    · rw [pairingB_true ho]; exact .inl ⟨hC, ho, by simp, by simp, rfl⟩
    · rw [pairingB_false ho]; exact .inr (.inl ⟨hC, ho, by simp, by simp, rfl⟩)
  · rw [isCB_false hC]; exact .inr (.inr ⟨hC, by simp, by simp⟩)

set_option maxRecDepth 100000 in
set_option maxHeartbeats 1000000 in
theorem pcode_impl (V : Int) (a0 : Option Addr) (cap : Nat) (fs : List Int) (a1 : Option Addr) (n cap1 : Nat) (ps : List Int) (w : World) (hx : SlI w w.heap.size a0 fs) (hx1 : SlI w w.heap.size a1 ps) (hl : fs.length ≤ 1048576) (hp : ps.length = 2 * n) (hn : n ≤ 1048576) (hw : ∀ x ∈ ps, (Lit.int .i64 x).wf = true) :
    Calls Try.prog 92 #[.agg #[.int .i64 V, .slice a0 fs.length cap], .slice a1 n cap1] w fun e w' => e = .returned (.int .i64 (pcodeR V fs n ps)) ∧ Below w.heap.size w w' := by
  have hB0 : Below w.heap.size w (w.alloc (.cells #[.int .i64 V, .slice a0 fs.length cap] 26)) := (Below.refl _ w).alloc (Nat.le_refl _) _
  have HI := hid (implIsPairing V a0 cap fs a1 n cap1 ps _ (hx.later hB0 hB0.size) (hx1.later hB0 hB0.size) hl hp hn hw)
  clear hx hx1 hp hw
  rcases pcode_cases V fs n ps with ⟨_, _, h0, h1, _⟩ | ⟨_, _, h0, h1, _⟩ | ⟨_, h0, h1⟩
  all_goals
    rw [h1] at HI
    rw [h0]
    clear h0 h1
    go_enter Try.func92, Try.ntmps92
    go_wp2_with fail
    refine HI.out.mono ?_
    rintro e w1 ⟨rfl, hB1⟩
    go_wp2_with fail
    go_ret
    exact ⟨rfl, hB0.trans (hB1.mono (by simp))⟩

theorem critWanted (L : List Int) (bm b n : Nat) (x : Int) (w : World) (hx0 : 1 ≤ x) (hx1 : x ≤ 63) (hm : w.cell? ⟨bm, 0, none⟩ = some (.map (some b))) (hM : w.ownsMap Try.prog 2 (plainElem (H := Unit) Try.prog 4) b n (knownD L)) :
    Calls Try.prog 136 #[.int .i64 x, .pointer (some ⟨bm, 0, none⟩)] w fun e w' => e = .returned (.bool (!decide (x ∈ L))) ∧ Below w.heap.size w w' := by
  have hlook := lookup_known hM (p := x) (WalkArith.wf_i64 (by omega))
  clear hM
  obtain ⟨c, hc⟩ : ∃ c, c = decide (x ∈ L) := ⟨_, rfl⟩
  rw [← hc] at hlook ⊢
  clear hc
  cases c
  · go_enter Try.func136, Try.ntmps136
    go_wp2_with fail
    go_ret
    exact ⟨rfl, Below.refl _ _⟩
  · go_enter Try.func136, Try.ntmps136
    go_wp2_with fail
    go_ret
    exact ⟨rfl, Below.refl _ _⟩

theorem res_mono {P : Program} {f : FuncId} {args : Array Value} {w : World} {r : List Int × Int} {xs : List Int} {c : Int} (hr : r = (xs, c))
    (h : Calls P f args w fun e w' => ∃ v, e = .returned (.tuple #[v, .int .i64 c]) ∧ Res w w' v xs) : Calls P f args w fun e w' => ∃ v, e = .returned (.tuple #[v, .int .i64 r.2]) ∧ Res w w' v r.1 := by
  subst hr; exact h

/-- What the loop keeps: the map's variable, the map. -/
structure CrW (w1 wr : World) (L : List Int) : Prop where
  below : Below w1.heap.size w1 wr
  own : wr.ownsMap Try.prog 2 (plainElem (H := Unit) Try.prog 4) w1.heap.size L.length (knownD L)
  mbox : wr.heap[w1.heap.size + 1]? = some (.cells #[.map (some w1.heap.size)] 123 (0, 0))

set_option maxRecDepth 100000 in
set_option maxHeartbeats 4000000 in
theorem crit_ok (V : Int) (a0 : Option Addr) (cap : Nat) (fs : List Int) (a1 : Option Addr) (n cap1 : Nat) (ps : List Int) (w : World) (hx : SlI w w.heap.size a0 fs) (hx1 : SlI w w.heap.size a1 ps) (hl : fs.length ≤ 1048576) (hp : ps.length = 2 * n) (hn : n ≤ 1048576) (hw : ∀ x ∈ ps, (Lit.int .i64 x).wf = true)
    (hC : IsC V fs) (h0 : pcodeR V fs n ps = 0) :
    Calls Try.prog 79 #[.agg #[.int .i64 V, .slice a0 fs.length cap], .slice a1 n cap1] w fun e w' => ∃ v, e = .returned (.tuple #[v, .int .i64 0]) ∧ Res w w' v (critL fs ps) := by
  have hB0 : Below w.heap.size w (w.alloc (.cells #[.int .i64 V, .slice a0 fs.length cap] 26)) := (Below.refl _ w).alloc (Nat.le_refl _) _
  have HI := hid (pcode_impl V a0 cap fs a1 n cap1 ps _ (hx.later hB0 hB0.size) (hx1.later hB0 hB0.size) hl hp hn hw)
  rw [h0] at HI
  have Hx := hid hx
  have Hy := hid hx1
  have Hp := hid hp
  have Hw := hid hw
  have Hf := hid hC.range63
  have hmm := @run_makeMap Try.prog
  clear hx hx1 hp hw hC h0
  go_enter Try.func79, Try.ntmps79
  go_wp2_with fail
  refine HI.out.mono ?_
  rintro e w1 ⟨rfl, hB1⟩
  have HB1 := hid (hB0.trans (hB1.mono (by simp)))
  have q0 : w1.heap[w.heap.size]? = some (.cells #[.int .i64 V, .slice a0 fs.length cap] 26 (0, 0)) := (hB1.block _ (by simp)).trans (heap_alloc_new _ _)
  have Q0 := hid q0
  have hs1 : w.heap.size < w1.heap.size := by have := hB1.size; simp at this; omega
  have hF0 : CrW w1 ((w1.alloc (.map #[] 0)).alloc (.cells #[.map (some w1.heap.size)] 123)) [] := by
    have e3 := heap_alloc_new (w1.alloc (.map #[] 0)) (.cells #[.map (some w1.heap.size)] 123)
    rw [World.size_alloc] at e3
    exact ⟨((Below.refl _ w1).alloc (Nat.le_refl _) _).alloc (by simp) _, (World.ownsMap_made w1 Try.prog 2 (plainElem (H := Unit) Try.prog 4)).alloc _, e3⟩
  have HF0 := hid hF0
  clear hB0 hB1 q0 hF0
  go_wp2_with fail
  clear hmm
  go_loopw [19] (fun i wr => ∃ k : Nat, k ≤ n ∧ i = .int .i64 k ∧ CrW w1 wr (ps.take (k * 2))) (fun i _ => n - (intOf i).toNat)
  case atStart => exact ⟨0, Nat.zero_le _, rfl, by simpa using HF0.out⟩
  case round =>
    obtain ⟨k, hk, rfl, hcr⟩ := hrel
    have HC := hid hcr
    clear hcr HF0
    by_cases hlt : k < n
    · obtain ⟨b, off, hb, rfl, hc⟩ : ∃ b off, b < w.heap.size ∧ a1 = some ⟨b, off, none⟩ ∧ ∀ i, i < ps.length → w.cell? ⟨b, off + i, none⟩ = some (.int .i64 (ps[i]?.getD 0)) := by
        rcases Hy.out with h | h
        · have := Hp.out; rw [h] at this; simp at this; omega
        · exact h
      have hBw : Hid (Below w.heap.size w wr) := hid (HB1.out.trans (HC.out.below.mono (by omega)))
      have hc2 : wr.cell? ⟨b, off + k * 2, none⟩ = some (.int .i64 (at0 ps (k * 2))) := (hBw.out.cell (p := ⟨b, off + k * 2, none⟩) hb).trans (hc _ (by have := Hp.out; omega))
      have hc3 : wr.cell? ⟨b, off + k * 2 + 1, none⟩ = some (.int .i64 (at0 ps (k * 2 + 1))) := (hBw.out.cell (p := ⟨b, off + (k * 2 + 1), none⟩) hb).trans (hc _ (by have := Hp.out; omega))
      obtain ⟨x, hx⟩ : ∃ x, x = at0 ps (k * 2) := ⟨_, rfl⟩
      obtain ⟨y, hy⟩ : ∃ y, y = at0 ps (k * 2 + 1) := ⟨_, rfl⟩
      have hlen := Hp.out
      have hwx : (Lit.int .i64 x).wf = true := Hw.out x (by rw [hx]; exact getD_mem (by omega))
      have hwy : (Lit.int .i64 y).wf = true := Hw.out y (by rw [hy]; exact getD_mem (by omega))
      have Hsn : Hid (ps.take ((k + 1) * 2) = ps.take (k * 2) ++ [x] ++ [y]) := hid (by
        rw [show (k + 1) * 2 = k * 2 + 1 + 1 by omega, take_snoc (show k * 2 + 1 < ps.length by omega), take_snoc (show k * 2 < ps.length by omega), hx, hy]; rfl)
      have htl : (ps.take (k * 2)).length = k * 2 := by rw [List.length_take]; omega
      have Htl := hid htl
      rw [← hx] at hc2
      rw [← hy] at hc3
      have hmb : wr.cell? ⟨w1.heap.size + 1, 0, none⟩ = some (.map (some w1.heap.size)) := (box_cell HC.out.mbox).1
      have hsr : w1.heap.size + 1 < wr.heap.size := lt_get HC.out.mbox
      have hi0 : (0 : Int) ≤ (k : Int) := by omega
      have hi1 : (k : Int) < (n : Int) := by omega
      obtain ⟨wa, hrun1, hwa, hga⟩ := World.ownsMap.update (w := World.drew (wr.alloc (.cells #[.int .i64 x, .int .i64 y] 55))) (World.ownsMap.alloc HC.out.own _) (Maps.int_keyed Try.underlying2) Try.underlying123 (show (ps.take (k * 2)).length < maxLen by rw [htl]; unfold maxLen; omega) (Maps.keyOf_int_mk Try.underlying2 hwx) (plainElem_bool Try.underlying4 true)
      obtain ⟨wb, hrun2, hwb, hgb⟩ := World.ownsMap.update hwa (Maps.int_keyed Try.underlying2) Try.underlying123 (show (ps.take (k * 2)).length + 1 < maxLen by rw [htl]; unfold maxLen; omega) (Maps.keyOf_int_mk Try.underlying2 hwy) (plainElem_bool Try.underlying4 true)
      have hba : ∀ j, j ≠ w1.heap.size → j < wr.heap.size + 1 → wa.heap[j]? = (wr.alloc (.cells #[.int .i64 x, .int .i64 y] 55)).heap[j]? := fun j hj hlt => hga.block j (by show j < (wr.alloc _).heap.size; simp; omega) (by simpa using hj)
      have qa : wa.heap[wr.heap.size]? = some (.cells #[.int .i64 x, .int .i64 y] 55 (0, 0)) := (hba _ (by omega) (by omega)).trans (heap_alloc_new _ _)
      have qb : wb.heap[wr.heap.size]? = some (.cells #[.int .i64 x, .int .i64 y] 55 (0, 0)) := (hgb.block _ (lt_get qa) (by simp; omega)).trans qa
      have ma : wa.heap[w1.heap.size + 1]? = some (.cells #[.map (some w1.heap.size)] 123 (0, 0)) := (hba _ (by omega) (by omega)).trans ((Below.heap_alloc _ _ _ hsr).trans HC.out.mbox)
      have mb : wb.heap[w1.heap.size + 1]? = some (.cells #[.map (some w1.heap.size)] 123 (0, 0)) := (hgb.block _ (lt_get ma) (by simp)).trans ma
      obtain ⟨ca0, ca1, _, _⟩ := two_of qa
      obtain ⟨cb0, cb1, _, _⟩ := two_of qb
      have da := (box_cell ma).1
      have db := (box_cell mb).1
      have Hga := hid hga
      have Hgb := hid hgb
      have Hwb := hid hwb
      have Mb := hid mb
      clear hga hgb hwb hwa hba qa qb ma mb hx hy hc htl hlen
      go_wp2_with fail
      go_region_held3 (fun w' => w'.cell? ⟨wr.heap.size, 0, none⟩ = some (.int .i64 x) ∧ w'.cell? ⟨wr.heap.size, 1, none⟩ = some (.int .i64 y) ∧ w'.cell? ⟨w1.heap.size + 1, 0, none⟩ = some (.map (some w1.heap.size))) (go_keep) (first
        | (simp only [hrun1])
        | (simp only [hrun2]))
      go_wp2_with fail
      go_roundw
      case rel =>
        have hBx : Below w1.heap.size w1 wa := (HC.out.below.alloc HC.out.below.size _).grown (w := wr.alloc (.cells #[.int .i64 x, .int .i64 y] 55)) ⟨Hga.out.os, Hga.out.tape, Hga.out.output, Hga.out.size, Hga.out.block⟩ (by have := HC.out.below.size; simp; omega) (fun r e => by cases e; omega)
        refine ⟨k + 1, by omega, by go_num, hBx.grown Hgb.out hBx.size (fun r e => by cases e; omega), ?_, Mb.out⟩
        rw [Hsn.out, knownD_snoc, knownD_snoc, List.length_append, List.length_append]
        exact Hwb.out
      case measure => simp [intOf]; omega
    · obtain rfl : k = n := by omega
      have htk : ps.take (k * 2) = ps := List.take_of_length_le (by have := Hp.out; omega)
      rw [htk] at HC
      have hBw : Hid (Below w.heap.size w wr) := hid (HB1.out.trans (HC.out.below.mono (by omega)))
      have q0 : wr.heap[w.heap.size]? = some (.cells #[.int .i64 V, .slice a0 fs.length cap] 26 (0, 0)) := (HC.out.below.block _ hs1).trans Q0.out
      obtain ⟨k0, k1, _, _⟩ := two_of q0
      have HFW : Hid (Calls Try.prog 135 #[.agg #[.int .i64 V, .slice a0 fs.length cap], .func (.func 136) #[] #[.pointer (some ⟨w1.heap.size + 1, 0, none⟩)]] wr fun e w' => ∃ v, e = .returned v ∧ Res wr w' v (critL fs ps)) := hid (by
        unfold critL
        refine fw_any V _ cap fs wr 136 _ (fun x => !decide (x ∈ ps)) (Hx.out.later hBw.out hBw.out.size) hl (enters_of Try.func136 (by kernel_rfl) rfl) ?_
        intro W' x hW' hxm
        have hr := Hf.out x hxm
        have hkeep : wr.grownBy W' none := ⟨hW'.os, hW'.tape, hW'.output, hW'.size, fun k hk _ => hW'.block k hk⟩
        exact critWanted ps _ _ _ x W' hr.1 hr.2 ((hW'.cell (p := ⟨w1.heap.size + 1, 0, none⟩) (lt_get HC.out.mbox)).trans (box_cell HC.out.mbox).1) (HC.out.own.kept hkeep (by simp)))
      clear q0 htk HI
      go_wp2_with fail
      refine HFW.out.mono ?_
      rintro e w2 ⟨v, rfl, hr⟩
      go_wp2_with fail
      go_ret2
      exact ⟨v, rfl, ownsRow_base hr.1 hBw.out.size, hBw.out.trans (hr.2.mono hBw.out.size)⟩

set_option maxRecDepth 100000 in
set_option maxHeartbeats 1000000 in
theorem crit_bad (V : Int) (a0 : Option Addr) (cap : Nat) (fs : List Int) (a1 : Option Addr) (n cap1 : Nat) (ps : List Int) (w : World) (hx : SlI w w.heap.size a0 fs) (hx1 : SlI w w.heap.size a1 ps) (hl : fs.length ≤ 1048576) (hp : ps.length = 2 * n) (hn : n ≤ 1048576) (hw : ∀ x ∈ ps, (Lit.int .i64 x).wf = true)
    (c : Int) (hc : (c != 0) = true) (h0 : pcodeR V fs n ps = c) :
    Calls Try.prog 79 #[.agg #[.int .i64 V, .slice a0 fs.length cap], .slice a1 n cap1] w fun e w' => ∃ v, e = .returned (.tuple #[v, .int .i64 c]) ∧ Res w w' v [] := by
  have hB0 : Below w.heap.size w (w.alloc (.cells #[.int .i64 V, .slice a0 fs.length cap] 26)) := (Below.refl _ w).alloc (Nat.le_refl _) _
  have HI := hid (pcode_impl V a0 cap fs a1 n cap1 ps _ (hx.later hB0 hB0.size) (hx1.later hB0 hB0.size) hl hp hn hw)
  rw [h0] at HI
  clear hx hx1 hp hw h0
  go_enter Try.func79, Try.ntmps79
  go_wp2_with fail
  refine HI.out.mono ?_
  rintro e w1 ⟨rfl, hB1⟩
  go_wp2_with fail
  go_ret2
  exact ⟨_, rfl, res_nil _ _ (hB0.trans (hB1.mono (by simp)))⟩

theorem implCriticalFaces (V : Int) (a0 : Option Addr) (cap : Nat) (fs : List Int) (a1 : Option Addr) (n cap1 : Nat) (ps : List Int) (w : World) (hx : SlI w w.heap.size a0 fs) (hx1 : SlI w w.heap.size a1 ps) (hl : fs.length ≤ 1048576) (hp : ps.length = 2 * n) (hn : n ≤ 1048576) (hw : ∀ x ∈ ps, (Lit.int .i64 x).wf = true) :
    Calls Try.prog 79 #[.agg #[.int .i64 V, .slice a0 fs.length cap], .slice a1 n cap1] w fun e w' => ∃ v, e = .returned (.tuple #[v, .int .i64 (criticalFacesR V fs n ps).2]) ∧ Res w w' v (criticalFacesR V fs n ps).1 := by
  rcases pcode_cases V fs n ps with ⟨hC, _, h0, _, _⟩ | ⟨_, _, h0, _, _⟩ | ⟨_, h0, _⟩
  · exact res_mono (by unfold criticalFacesR; rw [h0, if_pos rfl]) (crit_ok V a0 cap fs a1 n cap1 ps w hx hx1 hl hp hn hw hC h0)
  · exact res_mono (by unfold criticalFacesR; rw [h0, if_neg (by decide)]) (crit_bad V a0 cap fs a1 n cap1 ps w hx hx1 hl hp hn hw 2 (by decide) h0)
  · exact res_mono (by unfold criticalFacesR; rw [h0, if_neg (by decide)]) (crit_bad V a0 cap fs a1 n cap1 ps w hx hx1 hl hp hn hw 1 (by decide) h0)

end Go.Proofs.Ytbaljngbmokiiaa

/-! The critical faces, the model's. -/
namespace Go.Proofs.Ytbaljngbmokiiaa
open Go.RowKit Go.Sort

set_option maxRecDepth 100000 in
set_option maxHeartbeats 8000000 in
theorem critS_any (V : Int) (a0 : Option Addr) (cap : Nat) (fs : List Int) (a1 : Option Addr) (n cap1 : Nat) (ps : List Int) (w : World) (hx : SlI w w.heap.size a0 fs) (hx1 : SlI w w.heap.size a1 ps) (hl : fs.length ≤ 1048576) (hp : ps.length = 2 * n) (hn : n ≤ 1048576) :
    Calls Try.prog 75 #[.agg #[.int .i64 V, .slice a0 fs.length cap], .slice a1 n cap1] w fun e w' => ∃ v, e = .returned v ∧ Res w w' v (critL fs ps) := by
  have hB0 : Below w.heap.size w (w.alloc (.cells #[.int .i64 V, .slice a0 fs.length cap] 26)) := (Below.refl _ w).alloc (Nat.le_refl _) _
  have hB00 := (hB0.alloc (by simp) (.cells #[] 2))
  have hown0 := World.ownsRow_made (base := w.heap.size + 1) (e := 2) (size := 1) (w.alloc (.cells #[.int .i64 V, .slice a0 fs.length cap] 26)) #[] 0 (by simp) (by simp [maxLen]) rfl
  rw [World.size_alloc] at hown0
  have Hown0 := hid hown0
  have HB0 := hid hB0
  have HB00 := hid hB00
  clear hown0 hB0 hB00
  rcases hx with rfl | ⟨b, off, hb, rfl, hc⟩
  · go_enter Try.func75, Try.ntmps75
    go_wp2
    refine wp_loop_rounds 1 ?_; rw [rounds_succ]
    go_wp2
    go_ret
    exact ⟨_, rfl, ownsRow_base (by simpa [critL] using Hown0.out) (Nat.le_succ _), HB00.out⟩
  · have Hc := hid hc
    have Hp := hid hp
    have Hy := hid hx1
    clear hc hp hx1
    go_enter Try.func75, Try.ntmps75
    go_wp2
    go_loopw [5, 6] (fun v i wr => ∃ k : Nat, k ≤ fs.length ∧ i = .int .i64 k ∧ wr.ownsRow (w.heap.size + 1) 2 1 v (critL (fs.take k) ps).length ((critL (fs.take k) ps).map (Value.int .i64)) ∧
        Below (w.heap.size + 1) (w.alloc (.cells #[.int .i64 V, .slice (some ⟨b, off, none⟩) fs.length cap] 26)) wr) (fun _ i _ => fs.length - (intOf i).toNat)
    case atStart => exact ⟨0, Nat.zero_le _, rfl, Hown0.out, (Below.refl _ _).alloc (by simp) _⟩
    case round =>
      obtain ⟨k, hk, rfl, hown, hB⟩ := hrel
      have c0 : wr.cell? ⟨w.heap.size, 0, none⟩ = some (.int .i64 V) := (hB.cell (p := ⟨w.heap.size, 0, none⟩) (by simp)).trans (by simp [go_sem])
      have c1 : wr.cell? ⟨w.heap.size, 1, none⟩ = some (.slice (some ⟨b, off, none⟩) fs.length cap) := (hB.cell (p := ⟨w.heap.size, 1, none⟩) (by simp)).trans (by simp [go_sem])
      by_cases hlt : k < fs.length
      · obtain ⟨x, hx⟩ : ∃ x, x = fs[k]?.getD 0 := ⟨_, rfl⟩
        have Hp' : Hid (∀ c, decide (x ∉ ps) = c → critL (fs.take (k + 1)) ps = critL (fs.take k) ps ++ (if c then [x] else [])) := hid (fun c hc => by
          unfold critL
          rw [take_snoc hlt, List.filter_append, ← hx]
          cases c <;> simpa using hc)
        have Hx := hid hx
        have hi0 : (0 : Int) ≤ (k : Int) := by omega
        have hi1 : (k : Int) < (fs.length : Int) := by omega
        have hfl : (critL (fs.take k) ps).length ≤ 1048576 := Nat.le_trans (List.length_filter_le _ _) (by simp; omega)
        have HB := hid hB
        have Hown := hid hown
        clear hx hB hown
        go_wp2
        clear c0 c1
        go_loopw [7, 8] (fun q j wx => ∃ m : Nat, m ≤ n ∧ q = .bool (decide (x ∉ ps.take (m * 2))) ∧ j = .int .i64 m ∧ wx.ownsRow (w.heap.size + 1) 2 1 u5 (critL (fs.take k) ps).length ((critL (fs.take k) ps).map (Value.int .i64)) ∧
            Below (w.heap.size + 1) (w.alloc (.cells #[.int .i64 V, .slice (some ⟨b, off, none⟩) fs.length cap] 26)) wx) (fun _ j _ => n - (intOf j).toNat)
        case atStart => exact ⟨0, Nat.zero_le _, by simp, rfl, Hown.out, HB.out⟩
        case round =>
          clear HB Hown
          obtain ⟨m, hm, rfl, rfl, hown, hBx⟩ := hrel
          have c0 : wr.cell? ⟨w.heap.size, 0, none⟩ = some (.int .i64 V) := (hBx.cell (p := ⟨w.heap.size, 0, none⟩) (by simp)).trans (by simp [go_sem])
          have c1 : wr.cell? ⟨w.heap.size, 1, none⟩ = some (.slice (some ⟨b, off, none⟩) fs.length cap) := (hBx.cell (p := ⟨w.heap.size, 1, none⟩) (by simp)).trans (by simp [go_sem])
          have hBw : Below w.heap.size w wr := HB0.out.trans (hBx.mono (Nat.le_succ _))
          have hck : wr.cell? ⟨b, off + k, none⟩ = some (.int .i64 x) := by rw [Hx.out]; exact (hBw.cell (p := ⟨b, off + k, none⟩) hb).trans (Hc.out k hlt)
          by_cases hltm : m < n
          · obtain ⟨b1, o1, hb1, rfl, hc1⟩ : ∃ b o, b < w.heap.size ∧ a1 = some ⟨b, o, none⟩ ∧ ∀ i, i < ps.length → w.cell? ⟨b, o + i, none⟩ = some (.int .i64 (ps[i]?.getD 0)) := by
              rcases Hy.out with h | h
              · have := Hp.out; rw [h] at this; simp at this; omega
              · exact h
            have hd2 : wr.cell? ⟨b1, o1 + m * 2, none⟩ = some (.int .i64 (at0 ps (m * 2))) := (hBw.cell (p := ⟨b1, o1 + m * 2, none⟩) hb1).trans (hc1 _ (by have := Hp.out; omega))
            have hd3 : wr.cell? ⟨b1, o1 + m * 2 + 1, none⟩ = some (.int .i64 (at0 ps (m * 2 + 1))) := (hBw.cell (p := ⟨b1, o1 + (m * 2 + 1), none⟩) hb1).trans (hc1 _ (by have := Hp.out; omega))
            obtain ⟨u, hu⟩ : ∃ u, u = at0 ps (m * 2) := ⟨_, rfl⟩
            obtain ⟨v, hv⟩ : ∃ v, v = at0 ps (m * 2 + 1) := ⟨_, rfl⟩
            have Hsn : Hid (ps.take ((m + 1) * 2) = ps.take (m * 2) ++ [u] ++ [v]) := hid (by
              have := Hp.out
              rw [show (m + 1) * 2 = m * 2 + 1 + 1 by omega, take_snoc (show m * 2 + 1 < ps.length by omega), take_snoc (show m * 2 < ps.length by omega), hu, hv]; rfl)
            rw [← hu] at hd2
            rw [← hv] at hd3
            have hm0 : (0 : Int) ≤ (m : Int) := by omega
            have hm1 : (m : Int) < (n : Int) := by omega
            have HBx := hid hBx
            have HO := hid hown
            clear hu hv hBx hBw hc1 hown
            by_cases h0 : x ∈ ps.take (m * 2)
            · have hfr : decide (x ∉ ps.take (m * 2)) = false := by simp [h0]
              have He : Hid (decide (x ∉ ps.take ((m + 1) * 2)) = false) := hid (by rw [Hsn.out]; simp [h0])
              rw [hfr]
              clear h0 hfr
              go_wp2_with fail
              refine wp_region_quiet_lit (by kernel_rfl) (by kernel_rfl) ?_
              iterate 28 (with_reducible refine wpQuiet_step (fun K hK => ?_); have HK := hid hK; clear hK; go_simp; (first | with_reducible refine HK.out _ ?_ | (rw [if_neg (by decide)]; with_reducible refine HK.out _ ?_)); clear HK K)
              with_reducible refine wpQuiet_nil ?_
              intro _ hw'
              obtain ⟨nq, hw''⟩ := hw'
              subst hw''
              go_wp2_with fail
              go_roundw
              case rel => exact ⟨m + 1, by omega, by rw [He.out], by go_num, HO.out, HBx.out.trans ⟨rfl, rfl, rfl, Nat.le_refl _, fun _ _ => rfl⟩⟩
              case measure => simp [intOf]; omega
            · have hfr : decide (x ∉ ps.take (m * 2)) = true := by simp [h0]
              by_cases h1 : u = x
              · have g1 : (u != x) = false := by simp [h1]
                have He : Hid (decide (x ∉ ps.take ((m + 1) * 2)) = false) := hid (by rw [Hsn.out]; simp [h1])
                rw [hfr]
                clear h0 h1 hfr
                go_wp2_with fail
                refine wp_region_quiet_lit (by kernel_rfl) (by kernel_rfl) ?_
                iterate 28 (with_reducible refine wpQuiet_step (fun K hK => ?_); have HK := hid hK; clear hK; go_simp; (first | with_reducible refine HK.out _ ?_ | (rw [if_neg (by decide)]; with_reducible refine HK.out _ ?_)); clear HK K)
                with_reducible refine wpQuiet_nil ?_
                intro _ hw'
                obtain ⟨nq, hw''⟩ := hw'
                subst hw''
                go_wp2_with fail
                go_roundw
                case rel => exact ⟨m + 1, by omega, by rw [He.out], by go_num, HO.out, HBx.out.trans ⟨rfl, rfl, rfl, Nat.le_refl _, fun _ _ => rfl⟩⟩
                case measure => simp [intOf]; omega
              · have g1 : (u != x) = true := by simp [h1]
                by_cases h2 : v = x
                · have g2 : (v != x) = false := by simp [h2]
                  have He : Hid (decide (x ∉ ps.take ((m + 1) * 2)) = false) := hid (by rw [Hsn.out]; simp [h2])
                  rw [hfr]
                  clear h0 h1 h2 hfr
                  go_wp2_with fail
                  refine wp_region_quiet_lit (by kernel_rfl) (by kernel_rfl) ?_
                  iterate 28 (with_reducible refine wpQuiet_step (fun K hK => ?_); have HK := hid hK; clear hK; go_simp; (first | with_reducible refine HK.out _ ?_ | (rw [if_neg (by decide)]; with_reducible refine HK.out _ ?_)); clear HK K)
                  with_reducible refine wpQuiet_nil ?_
                  intro _ hw'
                  obtain ⟨nq, hw''⟩ := hw'
                  subst hw''
                  go_wp2_with fail
                  go_roundw
                  case rel => exact ⟨m + 1, by omega, by rw [He.out], by go_num, HO.out, HBx.out.trans ⟨rfl, rfl, rfl, Nat.le_refl _, fun _ _ => rfl⟩⟩
                  case measure => simp [intOf]; omega
                · have g2 : (v != x) = true := by simp [h2]
                  have He : Hid (decide (x ∉ ps.take ((m + 1) * 2)) = true) := hid (by rw [Hsn.out]; simp [h0, Ne.symm h1, Ne.symm h2])
                  rw [hfr]
                  clear h0 h1 h2 hfr
                  go_wp2_with fail
                  refine wp_region_quiet_lit (by kernel_rfl) (by kernel_rfl) ?_
                  iterate 28 (with_reducible refine wpQuiet_step (fun K hK => ?_); have HK := hid hK; clear hK; go_simp; (first | with_reducible refine HK.out _ ?_ | (rw [if_neg (by decide)]; with_reducible refine HK.out _ ?_)); clear HK K)
                  with_reducible refine wpQuiet_nil ?_
                  intro _ hw'
                  obtain ⟨nq, hw''⟩ := hw'
                  subst hw''
                  go_wp2_with fail
                  go_roundw
                  case rel => exact ⟨m + 1, by omega, by rw [He.out], by go_num, HO.out, HBx.out.trans ⟨rfl, rfl, rfl, Nat.le_refl _, fun _ _ => rfl⟩⟩
                  case measure => simp [intOf]; omega
          · obtain rfl : m = n := by omega
            have htk : ps.take (m * 2) = ps := List.take_of_length_le (by have := Hp.out; omega)
            have hsz := hBx.size
            simp only [World.size_alloc] at hsz
            have HBx := hid hBx
            have HO := hid hown
            rw [htk]
            clear htk hBx hBw hown
            by_cases hin : x ∉ ps
            · have HP := hid (Hp'.out true (by simp [hin]))
              have hdx : decide (x ∉ ps) = true := by simp [hin]
              rw [hdx]
              clear hin hdx
              go_wp2_with (at_builtin; refine append_int rfl rfl HO.out hsz (by omega) rfl rfl ?_; intro v' w2 hown2 hgrow2 hB2)
              go_roundw
              case rel => exact ⟨k + 1, by omega, by go_num, by rw [HP.out]; exact hown2, HBx.out.trans hB2⟩
              case measure => simp [intOf]; omega
            · have HP := hid (Hp'.out false (by simpa using hin))
              have hdx : decide (x ∉ ps) = false := by simpa using hin
              rw [hdx]
              clear hin hdx
              go_wp2_with fail
              go_roundw
              case rel => exact ⟨k + 1, by omega, by go_num, by rw [HP.out]; simpa using HO.out, HBx.out⟩
              case measure => simp [intOf]; omega
      · obtain rfl : k = fs.length := by omega
        rw [List.take_of_length_le (Nat.le_refl _)] at hown
        go_wp2
        go_ret
        exact ⟨_, rfl, ownsRow_base hown (Nat.le_succ _), HB0.out.trans (hB.mono (Nat.le_succ _))⟩

set_option maxRecDepth 100000 in
set_option maxHeartbeats 1000000 in
theorem pcode_spec (V : Int) (a0 : Option Addr) (cap : Nat) (fs : List Int) (a1 : Option Addr) (n cap1 : Nat) (ps : List Int) (w : World) (hx : SlI w w.heap.size a0 fs) (hx1 : SlI w w.heap.size a1 ps) (hl : fs.length ≤ 1048576) (hp : ps.length = 2 * n) (hn : n ≤ 1048576) :
    Calls Try.prog 96 #[.agg #[.int .i64 V, .slice a0 fs.length cap], .slice a1 n cap1, .slice none 0 0] w fun e w' => e = .returned (.int .i64 (pcodeR V fs n ps)) ∧ Below w.heap.size w w' := by
  have hB0 : Below w.heap.size w (w.alloc (.cells #[.int .i64 V, .slice a0 fs.length cap] 26)) := (Below.refl _ w).alloc (Nat.le_refl _) _
  have Hx := hid (hx.later hB0 hB0.size)
  have Hx0 := hid hx
  have Hy := hid hx1
  clear hx hx1
  rcases pcode_cases V fs n ps with ⟨hC, _, h0, _, h1⟩ | ⟨hC, _, h0, _, h1⟩ | ⟨hC, h0, _⟩
  · rw [h0]
    have HC := hid hC
    clear hC h0
    go_enter Try.func96, Try.ntmps96
    go_wp2_with fail
    refine (is_yes V a0 cap fs _ Hx.out hl HC.out).mono ?_
    rintro e w1 ⟨rfl, hB1⟩
    have HB1 := hid (hB0.trans (hB1.mono (by simp)))
    have k0 : w1.cell? ⟨w.heap.size, 0, none⟩ = some (.int .i64 V) := (hB1.cell (p := ⟨w.heap.size, 0, none⟩) (by simp)).trans (by simp [go_sem])
    have k1 : w1.cell? ⟨w.heap.size, 1, none⟩ = some (.slice a0 fs.length cap) := (hB1.cell (p := ⟨w.heap.size, 1, none⟩) (by simp)).trans (by simp [go_sem])
    have HI := hid (pis_any V a0 cap fs a1 n cap1 ps w1 (Hx0.out.later HB1.out HB1.out.size) (Hy.out.later HB1.out HB1.out.size) hl HC.out.range63 hp hn)
    rw [h1] at HI
    clear hB0 hB1 h1 hp
    go_wp2_with fail
    refine HI.out.mono ?_
    rintro e w2 ⟨rfl, hB2⟩
    go_wp2_with fail
    refine wp_loop_rounds 1 ?_; rw [rounds_succ]
    go_wp2_with fail
    go_ret
    exact ⟨rfl, HB1.out.trans (hB2.mono HB1.out.size)⟩
  · rw [h0]
    have HC := hid hC
    clear hC h0
    go_enter Try.func96, Try.ntmps96
    go_wp2_with fail
    refine (is_yes V a0 cap fs _ Hx.out hl HC.out).mono ?_
    rintro e w1 ⟨rfl, hB1⟩
    have HB1 := hid (hB0.trans (hB1.mono (by simp)))
    have k0 : w1.cell? ⟨w.heap.size, 0, none⟩ = some (.int .i64 V) := (hB1.cell (p := ⟨w.heap.size, 0, none⟩) (by simp)).trans (by simp [go_sem])
    have k1 : w1.cell? ⟨w.heap.size, 1, none⟩ = some (.slice a0 fs.length cap) := (hB1.cell (p := ⟨w.heap.size, 1, none⟩) (by simp)).trans (by simp [go_sem])
    have HI := hid (pis_any V a0 cap fs a1 n cap1 ps w1 (Hx0.out.later HB1.out HB1.out.size) (Hy.out.later HB1.out HB1.out.size) hl HC.out.range63 hp hn)
    rw [h1] at HI
    clear hB0 hB1 h1 hp
    go_wp2_with fail
    refine HI.out.mono ?_
    rintro e w2 ⟨rfl, hB2⟩
    go_wp2_with fail
    go_ret
    exact ⟨rfl, HB1.out.trans (hB2.mono HB1.out.size)⟩
  · rw [h0]
    clear h0
    go_enter Try.func96, Try.ntmps96
    go_wp2_with fail
    refine (is_no V a0 cap fs _ Hx.out hl hC).mono ?_
    rintro e w1 ⟨rfl, hB1⟩
    go_wp2_with fail
    go_ret
    exact ⟨rfl, hB0.trans (hB1.mono (by simp))⟩


theorem criticalFacesR_len (V : Int) (fs : List Int) (n : Nat) (ps : List Int) (h : fs.length ≤ 1048576) (_hp : ps.length = 2 * n) (_hn : n ≤ 1048576) : (criticalFacesR V fs n ps).1.length ≤ 1048576 := by
  unfold criticalFacesR
  split
  · exact Nat.le_trans (List.length_filter_le _ _) h
  · simp

end Go.Proofs.Ytbaljngbmokiiaa

/-! FacesReached, the model's. -/
namespace Go.Proofs.Ytbaljngbmokiiaa
open Go.RowKit

noncomputable def reachB (ps : List Int) (n : Nat) (a y : Int) : Bool := @decide (y = a ∨ Way ps n a y) (Classical.propDecidable _)
theorem reachB_true {ps : List Int} {n : Nat} {a y : Int} (h : y = a ∨ Way ps n a y) : reachB ps n a y = true := by unfold reachB; exact @decide_eq_true _ (Classical.propDecidable _) h
theorem reachB_false {ps : List Int} {n : Nat} {a y : Int} (h : ¬ (y = a ∨ Way ps n a y)) : reachB ps n a y = false := by unfold reachB; exact @decide_eq_false _ (Classical.propDecidable _) h
/-- The faces reached. -/
noncomputable def reachL (fs ps : List Int) (n : Nat) (a : Int) : List Int := fs.filter fun y => reachB ps n a y
noncomputable def code1R (V : Int) (fs : List Int) (n : Nat) (ps : List Int) (a : Int) : Int := if pcodeR V fs n ps = 0 then (if a ∈ fs then 0 else 2) else pcodeR V fs n ps
noncomputable def facesReachedR (V : Int) (fs : List Int) (n : Nat) (ps : List Int) (a : Int) : List Int × Int := if code1R V fs n ps a = 0 then (reachL fs ps n a, 0) else ([], code1R V fs n ps a)
theorem facesReachedR_len (V : Int) (fs : List Int) (n : Nat) (ps : List Int) (a : Int) (h : fs.length ≤ 1048576) (_hp : ps.length = 2 * n) (_hn : n ≤ 1048576) : (facesReachedR V fs n ps a).1.length ≤ 1048576 := by
  unfold facesReachedR
  split
  · exact Nat.le_trans (List.length_filter_le _ _) h
  · simp

theorem okTo_highs {V : Int} {fs ps : List Int} {n : Nat} (hC : IsC V fs) (h : OkTo fs ps n) : HighsB ps n := by
  intro a
  by_cases hex : ∃ i, i < n ∧ at0 ps (i * 2) = a
  · have hmin : ∃ i, (i < n ∧ at0 ps (i * 2) = a) ∧ ∀ j, j < i → ¬ (j < n ∧ at0 ps (j * 2) = a) := by
      obtain ⟨i, hi⟩ := hex
      induction i using Nat.strongRecOn with
      | _ i ih =>
        by_cases hj : ∃ j, j < i ∧ (j < n ∧ at0 ps (j * 2) = a)
        · obtain ⟨j, h1, h2⟩ := hj
          exact ih j h1 h2
        · exact ⟨i, hi, fun j h1 h2 => hj ⟨j, h1, h2⟩⟩
    obtain ⟨i, ⟨hi, ha⟩, hm⟩ := hmin
    rw [highOf_some hi ha (fun j hj e => hm j hj ⟨by omega, e⟩)]
    have hp := (h i hi).1
    unfold pairB at hp
    simp at hp
    have := hC.range63 _ hp.1.1.2
    omega
  · rw [highOf_none (fun j hj e => hex ⟨j, hj, e⟩)]
    omega

set_option maxRecDepth 1000000 in
set_option maxHeartbeats 2000000 in
theorem code1_spec (V : Int) (a0 : Option Addr) (cap : Nat) (fs : List Int) (a1 : Option Addr) (n cap1 : Nat) (ps : List Int) (a : Int) (bf : Nat) (w : World) (hx : SlI w w.heap.size a0 fs) (hx1 : SlI w w.heap.size a1 ps) (hl : fs.length ≤ 1048576) (hp : ps.length = 2 * n) (hn : n ≤ 1048576)
    (hbf : bf < w.heap.size) (hcf : w.cell? ⟨bf, 0, none⟩ = some (.int .i64 a)) :
    Calls Try.prog 96 #[.agg #[.int .i64 V, .slice a0 fs.length cap], .slice a1 n cap1, .slice (some ⟨bf, 0, none⟩) 1 1] w fun e w' => e = .returned (.int .i64 (code1R V fs n ps a)) ∧ Below w.heap.size w w' := by
  have hB0 : Below w.heap.size w (w.alloc (.cells #[.int .i64 V, .slice a0 fs.length cap] 26)) := (Below.refl _ w).alloc (Nat.le_refl _) _
  have Hx := hid (hx.later hB0 hB0.size)
  have Hx0 := hid hx
  have Hy := hid hx1
  clear hx hx1
  obtain ⟨E, hE⟩ : ∃ E, E = code1R V fs n ps a := ⟨_, rfl⟩
  rw [← hE]
  rcases pcode_cases V fs n ps with ⟨hC, _, h0, _, h1⟩ | ⟨hC, _, h0, _, h1⟩ | ⟨hC, h0, _⟩
  · have HC := hid hC
    have hE1 : E = if a ∈ fs then 0 else 2 := by rw [hE, code1R, if_pos h0]
    clear hC h0 hE
    go_enter Try.func96, Try.ntmps96
    go_wp2_with fail
    refine (is_yes V a0 cap fs _ Hx.out hl HC.out).mono ?_
    rintro e w1 ⟨rfl, hB1⟩
    have HB1 := hid (hB0.trans (hB1.mono (by simp)))
    have k0 : w1.cell? ⟨w.heap.size, 0, none⟩ = some (.int .i64 V) := (hB1.cell (p := ⟨w.heap.size, 0, none⟩) (by simp)).trans (by simp [go_sem])
    have k1 : w1.cell? ⟨w.heap.size, 1, none⟩ = some (.slice a0 fs.length cap) := (hB1.cell (p := ⟨w.heap.size, 1, none⟩) (by simp)).trans (by simp [go_sem])
    have hs1 : w.heap.size < w1.heap.size := by have := hB1.size; simp at this; omega
    have HI := hid (pis_any V a0 cap fs a1 n cap1 ps w1 (Hx0.out.later HB1.out HB1.out.size) (Hy.out.later HB1.out HB1.out.size) hl HC.out.range63 hp hn)
    rw [h1] at HI
    clear hB0 hB1 h1 hp
    go_wp2_with fail
    refine HI.out.mono ?_
    rintro e w2 ⟨rfl, hB2⟩
    have n0 : w2.cell? ⟨w.heap.size, 0, none⟩ = some (.int .i64 V) := (hB2.cell (p := ⟨w.heap.size, 0, none⟩) hs1).trans k0
    have n1 : w2.cell? ⟨w.heap.size, 1, none⟩ = some (.slice a0 fs.length cap) := (hB2.cell (p := ⟨w.heap.size, 1, none⟩) hs1).trans k1
    have HB2 := hid (HB1.out.trans (hB2.mono HB1.out.size))
    have n2 : w2.cell? ⟨bf, 0, none⟩ = some (.int .i64 a) := (HB2.out.cell (p := ⟨bf, 0, none⟩) hbf).trans hcf
    have hs2 : w.heap.size < w2.heap.size := Nat.lt_of_lt_of_le hs1 hB2.size
    have HB2d : Hid (Below w.heap.size w w2.drew) := hid (HB2.out.trans ⟨rfl, rfl, rfl, Nat.le_refl _, fun _ _ => rfl⟩)
    clear hB2 k0 k1 hcf
    by_cases ha : a ∈ fs
    · have He : Hid (E = 0) := hid (by rw [hE1, if_pos ha])
      have HA := hid (has_yes V a a0 cap fs w2.drew (Hx0.out.later HB2d.out HB2d.out.size) hl ha)
      clear hE1 ha
      go_wp2_with fail
      refine wp_loop_rounds 2 ?_
      rw [rounds_succ]
      go_wp2_with fail
      go_region_held3 (fun w' => w'.cell? ⟨w.heap.size, 0, none⟩ = some (.int .i64 V) ∧ w'.cell? ⟨w.heap.size, 1, none⟩ = some (.slice a0 fs.length cap) ∧ w'.cell? ⟨bf, 0, none⟩ = some (.int .i64 a)) (go_keep) (first
        | (go_at_call 120; refine HA.out.mono ?_; rintro e w3 ⟨rfl, hB3⟩; have m0 := (hB3.cell (p := ⟨w.heap.size, 0, none⟩) hs2).trans n0; have m1 := (hB3.cell (p := ⟨w.heap.size, 1, none⟩) hs2).trans n1; have m2 := (hB3.cell (p := ⟨bf, 0, none⟩) (Nat.lt_trans hbf hs2)).trans n2; have HB3 := hid hB3; clear hB3))
      all_goals
        have HB4 := hid (HB2d.out.trans (HB3.out.mono HB2d.out.size))
        go_wp2_with fail
        rw [rounds_succ]
        go_wp2_with fail
        go_ret
        exact ⟨ret_int (by rw [He.out]), HB4.out⟩
    · have He : Hid (E = 2) := hid (by rw [hE1, if_neg ha])
      have HA := hid (has_no V a a0 cap fs w2.drew (Hx0.out.later HB2d.out HB2d.out.size) hl ha)
      clear hE1 ha
      go_wp2_with fail
      refine wp_loop_rounds 2 ?_
      rw [rounds_succ]
      go_wp2_with fail
      go_region_held3 (fun w' => w'.cell? ⟨w.heap.size, 0, none⟩ = some (.int .i64 V) ∧ w'.cell? ⟨w.heap.size, 1, none⟩ = some (.slice a0 fs.length cap) ∧ w'.cell? ⟨bf, 0, none⟩ = some (.int .i64 a)) (go_keep) (first
        | (go_at_call 120; refine HA.out.mono ?_; rintro e w3 ⟨rfl, hB3⟩; have m0 := (hB3.cell (p := ⟨w.heap.size, 0, none⟩) hs2).trans n0; have m1 := (hB3.cell (p := ⟨w.heap.size, 1, none⟩) hs2).trans n1; have m2 := (hB3.cell (p := ⟨bf, 0, none⟩) (Nat.lt_trans hbf hs2)).trans n2; have HB3 := hid hB3; clear hB3))
      all_goals
        have HB4 := hid (HB2d.out.trans (HB3.out.mono HB2d.out.size))
        go_wp2_with fail
        go_ret
        exact ⟨ret_int (by rw [He.out]), HB4.out⟩
  · have He : Hid (E = 2) := hid (by rw [hE, code1R, if_neg (by rw [h0]; decide), h0])
    have HC := hid hC
    clear hC h0 hE
    go_enter Try.func96, Try.ntmps96
    go_wp2_with fail
    refine (is_yes V a0 cap fs _ Hx.out hl HC.out).mono ?_
    rintro e w1 ⟨rfl, hB1⟩
    have HB1 := hid (hB0.trans (hB1.mono (by simp)))
    have k0 : w1.cell? ⟨w.heap.size, 0, none⟩ = some (.int .i64 V) := (hB1.cell (p := ⟨w.heap.size, 0, none⟩) (by simp)).trans (by simp [go_sem])
    have k1 : w1.cell? ⟨w.heap.size, 1, none⟩ = some (.slice a0 fs.length cap) := (hB1.cell (p := ⟨w.heap.size, 1, none⟩) (by simp)).trans (by simp [go_sem])
    have HI := hid (pis_any V a0 cap fs a1 n cap1 ps w1 (Hx0.out.later HB1.out HB1.out.size) (Hy.out.later HB1.out HB1.out.size) hl HC.out.range63 hp hn)
    rw [h1] at HI
    clear hB0 hB1 h1 hp
    go_wp2_with fail
    refine HI.out.mono ?_
    rintro e w2 ⟨rfl, hB2⟩
    go_wp2_with fail
    go_ret
    exact ⟨ret_int (by rw [He.out]), HB1.out.trans (hB2.mono HB1.out.size)⟩
  · have He : Hid (E = 1) := hid (by rw [hE, code1R, if_neg (by rw [h0]; decide), h0])
    clear h0 hE
    go_enter Try.func96, Try.ntmps96
    go_wp2_with fail
    refine (is_no V a0 cap fs _ Hx.out hl hC).mono ?_
    rintro e w1 ⟨rfl, hB1⟩
    go_wp2_with fail
    go_ret
    exact ⟨ret_int (by rw [He.out]), hB0.trans (hB1.mono (by simp))⟩

end Go.Proofs.Ytbaljngbmokiiaa

/-! IsAcyclicPairing, the model's door. -/
namespace Go.Proofs.Ytbaljngbmokiiaa
open Go.RowKit

noncomputable def isAcyclicR (V : Int) (fs : List Int) (n : Nat) (ps : List Int) : Bool × Int := if pcodeR V fs n ps = 0 then (acyB ps n, 0) else (false, pcodeR V fs n ps)
theorem okTo_lows {V : Int} {fs ps : List Int} {n : Nat} (hC : IsC V fs) (h : OkTo fs ps n) : ∀ i, i < n → 0 ≤ at0 ps (i * 2) ∧ at0 ps (i * 2) < 64 := by
  intro i hi
  have hp := (h i hi).1
  unfold pairB at hp
  simp at hp
  have := hC.range63 _ hp.1.1.1
  omega
theorem bool_mono2 {fn : FuncId} {args : Array Value} {w : World} {B : Nat} {P : Program} {R : Bool × Int} {b : Bool} {c : Int} (hR : R = (b, c))
    (h : Calls P fn args w fun e w' => e = .returned (.tuple #[.bool b, .int .i64 c]) ∧ Below B w w') :
    Calls P fn args w fun e w' => e = .returned (.tuple #[.bool R.1, .int .i64 R.2]) ∧ Below B w w' := by
  subst hR
  exact h


end Go.Proofs.Ytbaljngbmokiiaa

/-! isAcyclic, and IsAcyclicPairing's door, the program's. -/
namespace Go.Proofs.Ytbaljngbmokiiaa
open Go.RowKit

theorem sub_len : ∀ (A B : List Nat), A.Nodup → (∀ x ∈ A, x ∈ B) → A.length ≤ B.length
  | [], _, _, _ => by simp
  | x :: A, B, hn, h => by
    obtain ⟨h1, h2⟩ := List.nodup_cons.1 hn
    have ih := sub_len A (B.erase x) h2 (fun y hy => (List.mem_erase_of_ne (fun e => h1 (by rw [← e]; exact hy))).2 (h y (List.mem_cons_of_mem _ hy)))
    have hx : x ∈ B := h x (by simp)
    have hl := List.length_erase_of_mem hx
    have hp : 0 < B.length := List.length_pos_of_mem hx
    simp only [List.length_cons]
    omega
/-- All pairs have settled exactly if there is no cycle. -/
theorem stl_all {ps : List Int} {n : Nat} {L : List Nat} (h : Stl ps n L) (hs : SatTo ps n n L) : NoCycle ps n ↔ L.length = n := by
  constructor
  · intro hc
    have hall := acyclic_settled hc hs
    have h1 := sub_len (List.range n) L List.nodup_range (fun x hx => hall x (by simpa using hx))
    rw [List.length_range] at h1
    have := h.len
    omega
  · intro hl
    refine settled_acyclic h.ord (fun i hi => Classical.byContradiction fun hn => ?_)
    have := nodup_le n (L ++ [i]) (by
      rw [List.nodup_append]
      exact ⟨h.nodup, by simp, fun a ha b hb => by simp at hb; subst hb; exact fun e => hn (e ▸ ha)⟩) (fun j hj => by
      rcases List.mem_append.1 hj with h1 | h1
      · exact h.lt j h1
      · simp at h1; omega)
    simp at this
    omega
theorem stl_acyB {ps : List Int} {n : Nat} {L : List Nat} (h : Stl ps n L) (hs : SatTo ps n n L) : ((L.length : Int) == (n : Int)) = acyB ps n := by
  by_cases hc : NoCycle ps n
  · rw [acyB_true hc]
    rw [(stl_all h hs).1 hc]
    simp
  · rw [acyB_false hc]
    have : L.length ≠ n := fun e => hc ((stl_all h hs).2 e)
    simp
    omega

set_option maxRecDepth 1000000 in
set_option maxHeartbeats 2000000 in
theorem isAcy_any (a1 : Option Addr) (n cap1 : Nat) (ps : List Int) (w : World) (hx1 : SlI w w.heap.size a1 ps) (hp : ps.length = 2 * n) (hn : n ≤ 1048576) (hw : ∀ x ∈ ps, (Lit.int .i64 x).wf = true) (hd : LowsApart ps n) (hh : HighsB ps n) :
    Calls Try.prog 93 #[.slice a1 n cap1] w fun e w' => e = .returned (.bool (acyB ps n)) ∧ Below w.heap.size w w' := by
  have HS := hid (callsIn_wide.1 (settled_in a1 n cap1 ps w hx1 hp hn hw hd hh))
  clear hx1 hp hw hd hh
  go_enter Try.func93, Try.ntmps93
  go_wp2_with (go_at_call 110; refine HS.out.mono ?_; rintro e w1 ⟨L, v, rfl, hS, hsat, hr⟩; obtain ⟨_, av, cp, rfl, _⟩ := pairs_form hr.1; rw [setP_len]; have he := stl_acyB hS hsat; have hB := hid hr.2; clear hS hsat hr)
  go_ret
  exact ⟨rfl, hB.out⟩


end Go.Proofs.Ytbaljngbmokiiaa

/-! The number of gradient ways, the mathematics. -/
namespace Go.Proofs.Ytbaljngbmokiiaa
open Go.RowKit

/-- The number of ways from a to b with less than f steps. -/
def gwN (ps : List Int) (n : Nat) (b : Int) : Nat → Int → Int
  | 0, _ => 0
  | f + 1, a => (if a = b then 1 else 0) + ((nextL ps n a).map (gwN ps n b f)).sum
/-- The number of gradient ways from a to b, for an acyclic pairing. -/
def gw (ps : List Int) (n : Nat) (b a : Int) : Int := gwN ps n b (n + 2) a

theorem nextL_nil {ps : List Int} {n : Nat} {x : Int} (h : ∀ i, i < n → at0 ps (i * 2) ≠ x) : nextL ps n x = [] := by
  have := highOf_none (ps := ps) (n := n) (a := x) (fun i hi => h i hi)
  unfold nextL
  rw [if_pos this]

/-- How many pairs are reached from the low face of a pair. -/
noncomputable def rkP (ps : List Int) (n : Nat) (i : Nat) : Nat := (List.range n).countP fun k => wayB ps n (at0 ps (i * 2)) (at0 ps (k * 2))
theorem rkP_le (ps : List Int) (n i : Nat) : rkP ps n i ≤ n := by
  have := List.countP_le_length (p := fun k => wayB ps n (at0 ps (i * 2)) (at0 ps (k * 2))) (l := List.range n)
  simpa [rkP] using this
theorem rkP_lt {ps : List Int} {n : Nat} (hc : NoCycle ps n) {i j : Nat} (hj : j < n) (hs : StepP ps n i j) : rkP ps n j < rkP ps n i := by
  have hw : Way ps n (at0 ps (i * 2)) (at0 ps (j * 2)) := .one hs
  refine countP_lt (y := j) (fun k _ hk => ?_) (by simpa using hj) (wayB_true hw) (wayB_false (hc j hj))
  by_cases hw2 : Way ps n (at0 ps (j * 2)) (at0 ps (k * 2))
  · exact wayB_true (way_trans hw hw2)
  · rw [wayB_false hw2] at hk; cases hk

theorem gwN_low {ps : List Int} {n : Nat} (hc : NoCycle ps n) (b : Int) : ∀ (m i f g : Nat), rkP ps n i ≤ m → i < n → m + 2 ≤ f → m + 2 ≤ g → gwN ps n b f (at0 ps (i * 2)) = gwN ps n b g (at0 ps (i * 2)) := by
  intro m
  induction m using Nat.strongRecOn with
  | _ m ih =>
    intro i f g hm hi hf hg
    obtain ⟨f', rfl⟩ : ∃ f', f = f' + 1 := ⟨f - 1, by omega⟩
    obtain ⟨g', rfl⟩ : ∃ g', g = g' + 1 := ⟨g - 1, by omega⟩
    unfold gwN
    congr 2
    refine List.map_congr_left (fun y hy => ?_)
    by_cases hex : ∃ j, j < n ∧ at0 ps (j * 2) = y
    · obtain ⟨j, hj, rfl⟩ := hex
      have hlt := rkP_lt hc hj (show StepP ps n i j from hy)
      exact ih (rkP ps n j) (by omega) j f' g' (Nat.le_refl _) hj (by omega) (by omega)
    · obtain ⟨f'', rfl⟩ : ∃ f'', f' = f'' + 1 := ⟨f' - 1, by omega⟩
      obtain ⟨g'', rfl⟩ : ∃ g'', g' = g'' + 1 := ⟨g' - 1, by omega⟩
      have hnil := nextL_nil (fun i hi e => hex ⟨i, hi, e⟩)
      unfold gwN
      rw [hnil]
      rfl
theorem gwN_any {ps : List Int} {n : Nat} (hc : NoCycle ps n) (b : Int) (f : Nat) (hf : n + 2 ≤ f) (a : Int) : gwN ps n b f a = gw ps n b a := by
  unfold gw
  by_cases hex : ∃ j, j < n ∧ at0 ps (j * 2) = a
  · obtain ⟨j, hj, rfl⟩ := hex
    exact gwN_low hc b n j f (n + 2) (rkP_le ps n j) hj hf (Nat.le_refl _)
  · obtain ⟨f', rfl⟩ : ∃ f', f = f' + 1 := ⟨f - 1, by omega⟩
    have hnil := nextL_nil (fun i hi e => hex ⟨i, hi, e⟩)
    unfold gwN
    rw [hnil]
    rfl
/-- By a first step. -/
theorem gw_step {ps : List Int} {n : Nat} (hc : NoCycle ps n) (b a : Int) : gw ps n b a = (if a = b then 1 else 0) + ((nextL ps n a).map (gw ps n b)).sum := by
  rw [← gwN_any hc b (n + 2 + 1) (by omega) a]
  show (if a = b then 1 else 0) + ((nextL ps n a).map (gwN ps n b (n + 2))).sum = _
  rfl
theorem gw_none {ps : List Int} {n : Nat} {b x : Int} (h : ∀ i, i < n → at0 ps (i * 2) ≠ x) : gw ps n b x = if x = b then 1 else 0 := by
  unfold gw gwN
  rw [nextL_nil h]
  simp

theorem nextL_ne {ps : List Int} {n : Nat} {x y : Int} (h : y ∈ nextL ps n x) : y ≠ x := by
  unfold nextL at h
  split at h
  · simp at h
  · have := List.mem_filter.1 h
    simpa using this.2
theorem int_sum_reverse (l : List Int) : l.reverse.sum = l.sum := by
  induction l with
  | nil => rfl
  | cons x l ih => simp [ih, Int.add_comm]
/-- The steps in the program's order. -/
theorem gw_steps {ps : List Int} {n : Nat} (hh : HighsB ps n) (a : Int) (g : Int → Int) : ((stepsF ps n a).map fun z => g (z.val : Int)).sum = ((nextL ps n a).map g).sum := by
  unfold stepsF nextL
  split
  · rfl
  · have h := hh a
    have e := sides_below ⟨(highOf ps n a).toNat, by omega⟩
    simp only at e
    have e2 : (otherF a (sidesF (highOf ps n a).toNat)).map (fun z => (z.val : Int)) = ((belowR (highOf ps n a).toNat 63).filter fun y => decide (y ≠ a)).reverse := by
      rw [← List.filter_reverse, ← e]
      unfold otherF
      rw [List.filter_map]
      rfl
    have e3 : (otherF a (sidesF (highOf ps n a).toNat)).map (fun z => g (z.val : Int)) = (((belowR (highOf ps n a).toNat 63).filter fun y => decide (y ≠ a)).map g).reverse := by
      rw [← List.map_reverse, ← e2, List.map_map]
      rfl
    rw [e3, int_sum_reverse]

theorem wrap64_add (a b : Int) : wrap64 (wrap64 a + wrap64 b) = wrap64 (a + b) := by unfold wrap64; omega
theorem wrap64_wrap (a : Int) : wrap64 (wrap64 a) = wrap64 a := by unfold wrap64; omega

end Go.Proofs.Ytbaljngbmokiiaa

/-! A map of numbers to numbers, as a function: what is not in it counts as 0. -/
namespace Go.Proofs.Ytbaljngbmokiiaa
open Go.RowKit Go.Shelf Go.ChangeMaps

theorem wf_wrap (x : Int) : (Lit.int .i64 (wrap64 x)).wf = true := WalkArith.wf_i64 (by unfold wrap64; omega)
theorem zero_i64 (w : World) : (zeroValue 2).run Try.prog w = .ok (.int .i64 0) w := by kernel_rfl

/-- The map in block b, after at most N stores. -/
def CntM (W : World) (b N : Nat) (f : Int → Int) : Prop :=
  ∃ D : DataW Unit, Maps.IsMap D ∧ W.ownsMap Try.prog 2 (plainElem (H := Unit) Try.prog 2) b N D ∧ ∀ p, D.atKey (.int .i64 p) (.lit (.int .i64 0)) = .lit (.int .i64 (f p))
theorem CntM.made (w : World) : CntM (w.alloc (.map #[] 0)) w.heap.size 0 (fun _ => 0) :=
  ⟨_, Maps.isMap_empty, World.ownsMap_made w _ _ _, fun _ => rfl⟩
theorem CntM.lt {W : World} {b N : Nat} {f : Int → Int} (h : CntM W b N f) : b < W.heap.size := by
  obtain ⟨D, _, h1, _⟩ := h
  exact h1.lt
theorem CntM.kept {W W' : World} {b N : Nat} {f : Int → Int} (h : CntM W b N f) {row : Option Nat} (hg : W.grownBy W' row) (hn : some b ≠ row) : CntM W' b N f := by
  obtain ⟨D, h0, h1, h2⟩ := h
  exact ⟨D, h0, h1.kept hg hn, h2⟩
theorem CntM.alloc {W : World} {b N : Nat} {f : Int → Int} (h : CntM W b N f) (o : Obj) : CntM (W.alloc o) b N f := h.kept (World.grownBy_alloc W o none) (by simp)
set_option maxRecDepth 100000 in
theorem CntM.lookup {W : World} {b N : Nat} {f : Int → Int} (h : CntM W b N f) {p : Int} (hp : (Lit.int .i64 p).wf = true) :
    (Instr.lookup 86 (.map (some b)) (.int .i64 p) false).run Try.prog W = .ok (.int .i64 (f p)) W := by
  obtain ⟨D, h0, h1, h2⟩ := h
  obtain ⟨v, qs, hrun, hv⟩ := h1.lookup (Maps.int_keyed Try.underlying2) Try.underlying86 (zero_i64 W) (plainElem_int Try.underlying2 (show (Lit.int .i64 0).wf = true by decide)) (Maps.keyOf_int_mk Try.underlying2 hp)
  rw [h2] at hv
  obtain ⟨a, rfl, hz, _⟩ := plainElem_int_inv Try.underlying2 hv
  injection hz with hz _
  injection hz with hz
  injection hz with _ hz
  rw [hrun, hz]
theorem CntM.update {W : World} {b N : Nat} {f : Int → Int} (h : CntM W b N f) (hN : N < maxLen) {p x : Int} (hp : (Lit.int .i64 p).wf = true) (hx : (Lit.int .i64 x).wf = true) :
    ∃ W', (Instr.mapUpdate 86 (.map (some b)) (.int .i64 p) (.int .i64 x)).run Try.prog W = .ok () W' ∧ CntM W' b (N + 1) (fun q => if q = p then x else f q) ∧ W.grownBy W' (some b) ∧ W'.heap.size = W.heap.size := by
  obtain ⟨D, h0, h1, h2⟩ := h
  obtain ⟨W', hrun, ho, ht⟩ := World.ownsMap.store h1 (Maps.int_keyed Try.underlying2) Try.underlying86 hN (Maps.keyOf_int_mk Try.underlying2 hp) (plainElem_int Try.underlying2 hx)
  have hs : W'.heap.size = W.heap.size := by
    obtain ⟨es, c, es', c', hb, rfl⟩ := ht
    simp [setBlock]
  refine ⟨W', hrun, ⟨_, h0.put _ _, ho, fun q => ?_⟩, ?_, hs⟩
  · by_cases e : q = p
    · subst e
      rw [Maps.atKey_put_same h0 (show WideAt.IsKeyLit (.int .i64 q) from trivial)]
      simp
    · rw [Maps.atKey_put_other (by simpa using e), h2]
      simp [e]
  · obtain ⟨es, c, es', c', hb, rfl⟩ := ht
    exact ⟨rfl, rfl, rfl, by simp [setBlock], fun i _ hi => heap_setBlock_other hb _ (fun e => hi (by rw [e]))⟩

end Go.Proofs.Ytbaljngbmokiiaa

/-! CountGradientWays, the program's: what its map holds, pair by pair. -/
namespace Go.Proofs.Ytbaljngbmokiiaa
open Go.RowKit Go.Shelf

/-- The low face of a pair that does not stand among the first k settled ones. -/
def waitsB (ps : List Int) (n : Nat) (L : List Nat) (k : Nat) (p : Int) : Bool := (List.range n).any fun i => decide (at0 ps (i * 2) = p) && !(decide (i ∈ L.take k))
theorem waits_iff {ps : List Int} {n : Nat} {L : List Nat} {k : Nat} {p : Int} : waitsB ps n L k p = true ↔ ∃ i, i < n ∧ at0 ps (i * 2) = p ∧ i ∉ L.take k := by
  unfold waitsB
  rw [List.any_eq_true]
  simp
/-- The map's number at p behind the first k settled pairs. -/
def gwV (ps : List Int) (n : Nat) (b : Int) (L : List Nat) (k : Nat) (p : Int) : Int := if waitsB ps n L k p then (if p = b then 1 else 0) else wrap64 (gw ps n b p)
/-- .. and within the next one, whose low face is x, behind some steps. -/
def gwU (ps : List Int) (n : Nat) (b : Int) (L : List Nat) (k : Nat) (x : Int) (pre : List (Fin 64)) (p : Int) : Int :=
  if p = x then wrap64 ((if x = b then 1 else 0) + (pre.map fun z => gw ps n b (z.val : Int)).sum) else gwV ps n b L k p

theorem wrap64_01 (c : Prop) [Decidable c] : wrap64 (if c then 1 else 0) = if c then 1 else 0 := by split <;> simp [wrap64]
theorem gwV_zero (ps : List Int) (n : Nat) (b : Int) (L : List Nat) : gwV ps n b L 0 = fun p => if p = b then 1 else 0 := by
  funext p
  unfold gwV
  by_cases h : waitsB ps n L 0 p = true
  · rw [if_pos h]
  · rw [if_neg h, gw_none (fun i hi e => h (waits_iff.2 ⟨i, hi, e, by simp⟩)), wrap64_01]
theorem gwU_nil {ps : List Int} {n : Nat} {b : Int} {L : List Nat} (hS : Stl ps n L) {k : Nat} (hk : k < L.length) : gwU ps n b L k (at0 ps (L[k] * 2)) [] = gwV ps n b L k := by
  funext p
  unfold gwU
  by_cases h : p = at0 ps (L[k] * 2)
  · rw [if_pos h]
    have hw : waitsB ps n L k p = true := waits_iff.2 ⟨L[k], hS.lt _ (List.getElem_mem hk), h.symm, fun hm => by
      have hn := hS.nodup
      rw [← List.take_append_drop k L, List.nodup_append] at hn
      refine hn.2.2 _ hm _ ?_ rfl
      rw [List.drop_eq_getElem_cons hk]
      exact List.mem_cons_self⟩
    unfold gwV
    rw [if_pos hw, h]
    simp [wrap64_01]
  · rw [if_neg h]
/-- A step leads to a face whose ways are all known. -/
theorem gwU_next {ps : List Int} {n : Nat} {b : Int} {L : List Nat} (hS : Stl ps n L) {k : Nat} (hk : k < L.length) {y : Int} (hy : y ∈ nextL ps n (at0 ps (L[k] * 2))) (pre : List (Fin 64)) :
    gwU ps n b L k (at0 ps (L[k] * 2)) pre y = wrap64 (gw ps n b y) := by
  unfold gwU
  rw [if_neg (nextL_ne hy)]
  unfold gwV
  rw [if_neg]
  intro hw
  obtain ⟨j, hj, e, hn⟩ := waits_iff.1 hw
  refine hn (hS.ord (L.take k) L[k] (L.drop (k + 1)) ?_ j hj (by unfold StepP; rw [e]; exact hy))
  rw [← List.drop_eq_getElem_cons hk, List.take_append_drop]
theorem gwU_self (ps : List Int) (n : Nat) (b : Int) (L : List Nat) (k : Nat) (x : Int) (pre : List (Fin 64)) : gwU ps n b L k x pre x = wrap64 ((if x = b then 1 else 0) + (pre.map fun z => gw ps n b (z.val : Int)).sum) := by
  unfold gwU
  rw [if_pos rfl]
theorem gwU_snoc (ps : List Int) (n : Nat) (b : Int) (L : List Nat) (k : Nat) (x : Int) (pre : List (Fin 64)) (z : Fin 64) :
    (fun q => if q = x then wrap64 (gwU ps n b L k x pre x + wrap64 (gw ps n b (z.val : Int))) else gwU ps n b L k x pre q) = gwU ps n b L k x (pre ++ [z]) := by
  funext q
  by_cases h : q = x
  · subst h
    rw [if_pos rfl, gwU_self, gwU_self, wrap64_add]
    simp [Int.add_assoc]
  · rw [if_neg h]
    unfold gwU
    rw [if_neg h, if_neg h]
/-- All steps: the pair has settled. -/
theorem gwU_all {ps : List Int} {n : Nat} {b : Int} {L : List Nat} (hc : NoCycle ps n) (hh : HighsB ps n) (hd : LowsApart ps n) (hS : Stl ps n L) {k : Nat} (hk : k < L.length) :
    gwU ps n b L k (at0 ps (L[k] * 2)) (stepsF ps n (at0 ps (L[k] * 2))) = gwV ps n b L (k + 1) := by
  have ht : L.take (k + 1) = L.take k ++ [L[k]] := by rw [List.take_add_one, List.getElem?_eq_getElem hk]; rfl
  funext p
  unfold gwU
  by_cases h : p = at0 ps (L[k] * 2)
  · rw [if_pos h, gw_steps hh _ (gw ps n b), ← gw_step hc]
    unfold gwV
    rw [if_neg, h]
    intro hw
    obtain ⟨j, hj, e, hn⟩ := waits_iff.1 hw
    have := lows_inj hd hj (hS.lt _ (List.getElem_mem hk)) (e.trans h)
    exact hn (by rw [ht, this]; exact List.mem_append_right _ (List.mem_singleton.2 rfl))
  · rw [if_neg h]
    unfold gwV
    have he : waitsB ps n L k p = waitsB ps n L (k + 1) p := by
      rw [Bool.eq_iff_iff, waits_iff, waits_iff]
      constructor
      · rintro ⟨j, hj, e, hn⟩
        refine ⟨j, hj, e, fun hm => ?_⟩
        rw [ht] at hm
        rcases List.mem_append.1 hm with h1 | h1
        · exact hn h1
        · simp at h1
          exact h (by rw [← e, h1])
      · rintro ⟨j, hj, e, hn⟩
        exact ⟨j, hj, e, fun hm => hn (by rw [ht]; exact List.mem_append_left _ hm)⟩
    rw [he]
theorem gwV_all {ps : List Int} {n : Nat} {b : Int} {L : List Nat} (hall : ∀ i, i < n → i ∈ L) : gwV ps n b L L.length = fun p => wrap64 (gw ps n b p) := by
  funext p
  unfold gwV
  rw [if_neg]
  intro hw
  obtain ⟨j, hj, _, hn⟩ := waits_iff.1 hw
  exact hn (by rw [List.take_length]; exact hall j hj)
theorem steps_few (ps : List Int) (n : Nat) (a : Int) : (stepsF ps n a).length ≤ 6 := by
  rw [stepsF_hit]
  exact Nat.le_trans (List.length_filter_le _ _) (sides_len _ 6)

/-- What the walk keeps of the world: the map lies first, its box behind it. -/
structure GwW (w W : World) (N : Nat) (f : Int → Int) (Ds : List Nat) : Prop where
  below : Below w.heap.size w W
  cnt : CntM W w.heap.size N f
  b1 : W.heap[w.heap.size + 1]? = some (.cells #[.map (some w.heap.size)] 86 (0, 0))
  nodup : Ds.Nodup
  marks : ∀ D ∈ Ds, w.heap.size + 2 ≤ D ∧ W.heap[D]? = some (.deferred (some []))
theorem GwW.size {w W : World} {N : Nat} {f : Int → Int} {Ds : List Nat} (h : GwW w W N f Ds) : w.heap.size + 2 ≤ W.heap.size := by
  have := lt_of_get h.b1; omega
theorem GwW.turn {w W W' : World} {N : Nat} {f : Int → Int} {Ds : List Nat} (h : GwW w W N f Ds) {row : Option Nat} (hg : W.grownBy W' row) (hr : ∀ r, row = some r → w.heap.size + 2 ≤ r ∧ r ∉ Ds) : GwW w W' N f Ds where
  below := h.below.grown hg (by have := h.size; omega) (fun k e => by have := (hr k e).1; omega)
  cnt := h.cnt.kept hg (fun e => by have := (hr _ e.symm).1; omega)
  b1 := (hg.block _ (lt_of_get h.b1) (fun e => by have := (hr _ e.symm).1; omega)).trans h.b1
  nodup := h.nodup
  marks := fun D hD => ⟨(h.marks D hD).1, (hg.block _ (lt_of_get (h.marks D hD).2) (fun e => (hr _ e.symm).2 hD)).trans (h.marks D hD).2⟩
theorem GwW.alloc {w W : World} {N : Nat} {f : Int → Int} {Ds : List Nat} (h : GwW w W N f Ds) (o : Obj) : GwW w (W.alloc o) N f Ds := h.turn (World.grownBy_alloc W o none) (fun r e => by cases e)
theorem GwW.mark {w W : World} {N : Nat} {f : Int → Int} {Ds : List Nat} (h : GwW w W N f Ds) {D : Nat} (hD : W.heap[D]? = some (.deferred (some []))) (hb : w.heap.size + 2 ≤ D) (hn : D ∉ Ds) : GwW w W N f (D :: Ds) :=
  { h with
    nodup := List.nodup_cons.2 ⟨hn, h.nodup⟩
    marks := fun E hE => by
      rcases List.mem_cons.1 hE with rfl | hE
      · exact ⟨hb, hD⟩
      · exact h.marks E hE }
theorem CntM.mono {W : World} {b N N' : Nat} {f : Int → Int} (h : CntM W b N f) (hN : N ≤ N') : CntM W b N' f := by
  obtain ⟨D, h0, h1, h2⟩ := h
  exact ⟨D, h0, h1.mono hN, h2⟩
theorem GwW.mono {w W : World} {N N' : Nat} {f : Int → Int} {Ds : List Nat} (h : GwW w W N f Ds) (hN : N ≤ N') : GwW w W N' f Ds := { h with cnt := h.cnt.mono hN }
theorem GwW.put {w W W' : World} {N N' : Nat} {f g : Int → Int} {Ds : List Nat} (h : GwW w W N f Ds) (hc : CntM W' w.heap.size N' g) (hg : W.grownBy W' (some w.heap.size)) : GwW w W' N' g Ds where
  below := h.below.grown hg (by have := h.size; omega) (fun k e => by cases e; exact Nat.le_refl _)
  cnt := hc
  b1 := (hg.block _ (lt_of_get h.b1) (fun e => by injection e with e; omega)).trans h.b1
  nodup := h.nodup
  marks := fun D hD => ⟨(h.marks D hD).1, (hg.block _ (lt_of_get (h.marks D hD).2) (fun e => by injection e with e; have := (h.marks D hD).1; omega)).trans (h.marks D hD).2⟩
theorem gw_ownIn {β : Type} {w : World} {N : β → Nat} {f : β → Int → Int} {Ds : List Nat} {lo k : Nat} (hlo : w.heap.size + 2 ≤ lo) (hD : ∀ D ∈ Ds, D < lo) :
    OwnIn lo k (fun (p : β) W' => GwW w W' (N p) (f p) Ds) := by
  intro s A C row h hg hr
  refine h.turn hg (fun r e => ?_)
  obtain ⟨h1, _⟩ := hr r e
  exact ⟨by omega, fun hm => by have := hD r hm; omega⟩

end Go.Proofs.Ytbaljngbmokiiaa

/-! CountGradientWays, the program's. -/
namespace Go.Proofs.Ytbaljngbmokiiaa
open Go.RowKit Go.Shelf

attribute [local go_sem] Oper.semAt_some

theorem pairs_slI {w : World} {base e n : Nat} {v : Value} {L : List (Int × Int)} (h : w.ownsRow base e 2 v n ((flatP L).map (Value.int .i64))) :
    n = L.length ∧ ∃ a cap, v = .slice a L.length cap ∧ SlI w w.heap.size a (flatP L) := by
  have hl := h.1
  simp [flatP_len] at hl
  have hn : n = L.length := by omega
  refine ⟨hn, ?_⟩
  rcases h.2 with ⟨rfl, hn0⟩ | ⟨g, cap, cur, rfl, _, hg, _⟩
  · have : L = [] := List.eq_nil_of_length_eq_zero (by omega)
    subst this
    exact ⟨none, 0, rfl, .inl rfl⟩
  · refine ⟨_, cap, by rw [hn], .inr ⟨g, 0, (Array.getElem?_eq_some_iff.1 hg).1, rfl, fun i hi => ?_⟩⟩
    have := h.cells (g := g) rfl i (.int .i64 ((flatP L)[i]?.getD 0)) (by simp [hi])
    have hadd : (⟨g, 0, none⟩ : Addr).add i = ⟨g, i, none⟩ := by unfold Addr.add; split <;> simp_all
    rw [hadd] at this
    simpa using this

/-- Ahead of settled pair k. -/
def GwIn (w3 : World) (M C n c2 : Nat) (a2 : Option Addr) (a b : Int) (ps : List Int) (L : List Nat) (a' : Act) (W : World) : Prop :=
  ∃ (k : Nat) (Ds : List Nat) (us : Nat → Value), a' = { tmps := List.toArray (us 0 :: us 1 :: (.int .i64 a) :: us 3 :: us 4 :: us 5 :: us 6 :: us 7 :: us 8 :: us 9 :: us 10 :: us 11 :: (.map (some M)) :: (.pointer (some ⟨C + 1, 0, none⟩)) :: us 14 :: us 15 :: us 16 :: us 17 :: us 18 :: us 19 :: us 20 :: us 21 :: us 22 :: us 23 :: us 24 :: us 25 :: us 26 :: us 27 :: us 28 :: us 29 :: us 30 :: us 31 :: us 32 :: us 33 :: us 34 :: us 35 :: us 36 :: us 37 :: us 38 :: us 39 :: us 40 :: us 41 :: us 42 :: us 43 :: us 44 :: us 45 :: us 46 :: (.slice a2 n c2) :: (.int .i64 (n : Int)) :: (.int .i64 (k : Int)) :: us 50 :: us 51 :: us 52 :: us 53 :: us 54 :: us 55 :: us 56 :: us 57 :: us 58 :: us 59 :: us 60 :: us 61 :: us 62 :: us 63 :: us 64 :: us 65 :: us 66 :: us 67 :: us 68 :: us 69 :: []), defers := marks Ds } ∧ Hid (GwW w3 W (1 + 64 * k) (gwV ps n b L k) Ds) ∧ k ≤ n
theorem gwIn_of {w3 W : World} {M C n c2 : Nat} {a2 : Option Addr} {a b : Int} {ps : List Int} {L : List Nat} {k : Nat} {Ds : List Nat} (tm : Array Value) (ds : List Deferred) (hds : ds = marks Ds)
    (h : tm = List.toArray (tm.getD 0 undef :: tm.getD 1 undef :: (.int .i64 a) :: tm.getD 3 undef :: tm.getD 4 undef :: tm.getD 5 undef :: tm.getD 6 undef :: tm.getD 7 undef :: tm.getD 8 undef :: tm.getD 9 undef :: tm.getD 10 undef :: tm.getD 11 undef :: (.map (some M)) :: (.pointer (some ⟨C + 1, 0, none⟩)) :: tm.getD 14 undef :: tm.getD 15 undef :: tm.getD 16 undef :: tm.getD 17 undef :: tm.getD 18 undef :: tm.getD 19 undef :: tm.getD 20 undef :: tm.getD 21 undef :: tm.getD 22 undef :: tm.getD 23 undef :: tm.getD 24 undef :: tm.getD 25 undef :: tm.getD 26 undef :: tm.getD 27 undef :: tm.getD 28 undef :: tm.getD 29 undef :: tm.getD 30 undef :: tm.getD 31 undef :: tm.getD 32 undef :: tm.getD 33 undef :: tm.getD 34 undef :: tm.getD 35 undef :: tm.getD 36 undef :: tm.getD 37 undef :: tm.getD 38 undef :: tm.getD 39 undef :: tm.getD 40 undef :: tm.getD 41 undef :: tm.getD 42 undef :: tm.getD 43 undef :: tm.getD 44 undef :: tm.getD 45 undef :: tm.getD 46 undef :: (.slice a2 n c2) :: (.int .i64 (n : Int)) :: (.int .i64 (k : Int)) :: tm.getD 50 undef :: tm.getD 51 undef :: tm.getD 52 undef :: tm.getD 53 undef :: tm.getD 54 undef :: tm.getD 55 undef :: tm.getD 56 undef :: tm.getD 57 undef :: tm.getD 58 undef :: tm.getD 59 undef :: tm.getD 60 undef :: tm.getD 61 undef :: tm.getD 62 undef :: tm.getD 63 undef :: tm.getD 64 undef :: tm.getD 65 undef :: tm.getD 66 undef :: tm.getD 67 undef :: tm.getD 68 undef :: tm.getD 69 undef :: [])) (HW : Hid (GwW w3 W (1 + 64 * k) (gwV ps n b L k) Ds)) (h1 : k ≤ n) : GwIn w3 M C n c2 a2 a b ps L { tmps := tm, defers := ds } W :=
  ⟨k, Ds, fun i => tm.getD i undef, by rw [hds]; exact congrArg (fun t => ({ tmps := t, defers := marks Ds } : Act)) h, HW, h1⟩


end Go.Proofs.Ytbaljngbmokiiaa

/-! l02With: a pair is put into an ascending list. -/
namespace Go.Proofs.Ytbaljngbmokiiaa
open Go.RowKit

attribute [local go_sem] Oper.semAt_some

/-- The place of a pair: behind all that are not greater, from the end on. -/
def placeP (qs : List Int) (x y : Int) : Nat → Nat
  | 0 => 0
  | k + 1 => if lessP x y (at0 qs (k * 2)) (at0 qs (k * 2 + 1)) then placeP qs x y k else k + 1
theorem placeP_le (qs : List Int) (x y : Int) : ∀ n, placeP qs x y n ≤ n
  | 0 => Nat.le_refl _
  | k + 1 => by
    unfold placeP
    split
    · exact Nat.le_succ_of_le (placeP_le qs x y k)
    · exact Nat.le_refl _
/-- The list with the pair. -/
def insP (qs : List Int) (n : Nat) (x y : Int) : List Int := qs.take (2 * placeP qs x y n) ++ (x :: y :: qs.drop (2 * placeP qs x y n))
theorem insP_len {qs : List Int} {n : Nat} (h : qs.length = 2 * n) (x y : Int) : (insP qs n x y).length = 2 * (n + 1) := by
  have := placeP_le qs x y n
  unfold insP
  simp
  omega

theorem wp_append_run {P : Program} {o : Oper} {a : Act} {w w' : World} {K : Act → World → Prop} {Q : Exit → Act → World → Prop} {s y : Operand} {T : TypeId} (ho : o.op = .call { callee := .builtin .append, args := #[s, y], argTypes := #[T, T] })
    {v u v' : Value} (hs : a.eval s = v) (hy : a.eval y = u) (hr : (Builtin.append_ #[T, T] o.type #[v, u]).run P w = .ok v' w') (hK : K (a.put o.dst v') w') : o.wp P a w K Q := by
  unfold Oper.wp execOp
  simp only [ho, resolve, invoke, builtin, Sem.run_bind, Sem.run_pure, Result.andThen_ok, List.map_toArray, List.map_cons, List.map_nil, hs, hy, hr]
  exact hK
/-- 'append(row, list...)' of pairs, as a run. -/
theorem append_run {w : World} {base : Nat} {v : Value} {m : Nat} {xs ys : List Int} {ad : Addr} {l c : Nat} (hown : w.ownsRow base 55 2 v m (xs.map (Value.int .i64))) (hbase : base ≤ w.heap.size) (hm : m ≤ 1048576) (hl : l ≤ 1048576) (hys : ys.length = l * 2)
    (hc : ∀ j, j < l * 2 → w.cell? (ad.add j) = some (.int .i64 (ys[j]?.getD 0))) :
    ∃ v' w', (Builtin.append_ #[47, 47] 47 #[v, .slice (some ad) l c]).run Try.prog w = .ok v' w' ∧ w'.ownsRow base 55 2 v' (m + l) ((xs ++ ys).map (Value.int .i64)) ∧ w.grownBy w' v.ownBlock ∧ Below base w w' := by
  obtain ⟨i0, hi, hz0, hz1, hz2⟩ := info_parts info_pair
  obtain ⟨v', w', h1, h2, h3, _, _⟩ := run_append_own_at (P := Try.prog) (w := w) base 47 47 55 i0 (.agg #[.int .i64 0, .int .i64 0]) 2 16 Try.underlying47 hi hz0 hz1 hz2 rfl (by decide) v m (xs.map (Value.int .i64)) hown ad l c (ys.map (Value.int .i64)) (by simp [hys]) (fun j u hj => by
    have hjl : j < ys.length := by
      have := (List.getElem?_eq_some_iff.1 hj).1
      simpa using this
    have h := hc j (by omega)
    rw [List.getElem?_map, List.getElem?_eq_getElem hjl] at hj
    rw [List.getElem?_eq_getElem hjl] at h
    simp at hj h
    rw [h, hj]) (fun u hu => by
    obtain ⟨x, _, rfl⟩ := List.mem_map.1 hu
    rfl) (by unfold maxLen; omega) (by omega) hbase
  exact ⟨v', w', h1, by rw [List.map_append]; exact h2, h3, (Below.refl base w).grown h3 hbase (fun k hk => (hown.lt k hk).1)⟩
/-- A list of one pair. -/
theorem one_pair {w : World} {base : Nat} (hb : base ≤ w.heap.size) (x y : Int) : (w.alloc (.cells #[.int .i64 x, .int .i64 y] 55)).ownsRow base 55 2 (.slice (some ⟨w.heap.size, 0, none⟩) 1 1) 1 ([x, y].map (Value.int .i64)) :=
  ⟨by simp, .inr ⟨w.heap.size, 1, _, rfl, hb, heap_alloc_new w _, Nat.le_refl _, by decide, by simp, by simp⟩⟩

theorem wpList_append_run {P : Program} {ops : Array Oper} {rest : List Oper} {o : Oper} {a : Act} {w w' : World} {Q : Exit → Act → World → Prop} (hgd : o.guard = none) {s y : Operand} {T : TypeId} (ho : o.op = .call { callee := .builtin .append, args := #[s, y], argTypes := #[T, T] })
    {v u v' : Value} (hs : a.eval s = v) (hy : a.eval y = u) (hr : (Builtin.append_ #[T, T] o.type #[v, u]).run P w = .ok v' w') (hK : wpList P ops Q rest (a.put o.dst v') w') : wpList P ops Q (o :: rest) a w :=
  wpList_plain hgd fun _ hK' => wp_append_run ho hs hy hr (hK' _ _ hK)

theorem map_get {ys : List Int} {j : Nat} (h : j < ys.length) : (ys.map (Value.int .i64))[j]? = some (.int .i64 (ys[j]?.getD 0)) := by simp [h]

/-- At the loop's end. -/
def WhOut (B : Nat) (V : Int) (a0 : Option Addr) (l cap : Nat) (a1 : Option Addr) (n cap1 : Nat) (x y : Int) (P : Nat) (a' : Act) : Prop :=
  ∃ us : Nat → Value, a' = { tmps := List.toArray ((.agg #[.int .i64 V, .slice a0 l cap]) :: (.slice a1 n cap1) :: (.agg #[.int .i64 x, .int .i64 y]) :: (.pointer (some ⟨B, 0, none⟩)) :: us 4 :: (.pointer (some ⟨B + 1, 0, none⟩)) :: (.slice none 0 0) :: (.bool false) :: (.int .i64 (P : Int)) :: us 9 :: us 10 :: us 11 :: us 12 :: us 13 :: us 14 :: us 15 :: us 16 :: us 17 :: us 18 :: us 19 :: us 20 :: us 21 :: us 22 :: us 23 :: us 24 :: us 25 :: us 26 :: us 27 :: us 28 :: us 29 :: us 30 :: us 31 :: us 32 :: us 33 :: us 34 :: us 35 :: us 36 :: us 37 :: us 38 :: us 39 :: us 40 :: us 41 :: us 42 :: []), defers := [] }
theorem whOut_of {B : Nat} {V : Int} {a0 : Option Addr} {l cap : Nat} {a1 : Option Addr} {n cap1 : Nat} {x y : Int} {P : Nat} (tm : Array Value) (h : tm = List.toArray ((.agg #[.int .i64 V, .slice a0 l cap]) :: (.slice a1 n cap1) :: (.agg #[.int .i64 x, .int .i64 y]) :: (.pointer (some ⟨B, 0, none⟩)) :: tm.getD 4 undef :: (.pointer (some ⟨B + 1, 0, none⟩)) :: (.slice none 0 0) :: (.bool false) :: (.int .i64 (P : Int)) :: tm.getD 9 undef :: tm.getD 10 undef :: tm.getD 11 undef :: tm.getD 12 undef :: tm.getD 13 undef :: tm.getD 14 undef :: tm.getD 15 undef :: tm.getD 16 undef :: tm.getD 17 undef :: tm.getD 18 undef :: tm.getD 19 undef :: tm.getD 20 undef :: tm.getD 21 undef :: tm.getD 22 undef :: tm.getD 23 undef :: tm.getD 24 undef :: tm.getD 25 undef :: tm.getD 26 undef :: tm.getD 27 undef :: tm.getD 28 undef :: tm.getD 29 undef :: tm.getD 30 undef :: tm.getD 31 undef :: tm.getD 32 undef :: tm.getD 33 undef :: tm.getD 34 undef :: tm.getD 35 undef :: tm.getD 36 undef :: tm.getD 37 undef :: tm.getD 38 undef :: tm.getD 39 undef :: tm.getD 40 undef :: tm.getD 41 undef :: tm.getD 42 undef :: [])) : WhOut B V a0 l cap a1 n cap1 x y P { tmps := tm, defers := [] } :=
  ⟨fun i => tm.getD i undef, congrArg (fun t => ({ tmps := t, defers := [] } : Act)) h⟩

def WhQ (W0 : World) (B : Nat) (V : Int) (a0 : Option Addr) (l cap : Nat) (a1 : Option Addr) (n cap1 : Nat) (x y : Int) (P : Nat) : Exit → Act → World → Prop
  | .exit 0, a', wr => WhOut B V a0 l cap a1 n cap1 x y P a' ∧ Below W0.heap.size W0 wr
  | _, _, _ => False

set_option maxRecDepth 1000000 in
set_option maxHeartbeats 4000000 in
theorem with_any (V : Int) (a0 : Option Addr) (cap : Nat) (fs : List Int) (b off n cap1 : Nat) (qs : List Int) (x y : Int) (w : World) (hx : SlI w w.heap.size a0 fs) (hb : b < w.heap.size) (hcl : ∀ i, i < qs.length → w.cell? ⟨b, off + i, none⟩ = some (.int .i64 (qs[i]?.getD 0))) (hl : fs.length ≤ 1048576) (hf : ∀ x ∈ fs, 1 ≤ x ∧ x ≤ 63) (hp : qs.length = 2 * n) (hn : n + 1 ≤ 1048576) (hcap : n ≤ cap1) :
    Calls Try.prog 98 #[.agg #[.int .i64 V, .slice a0 fs.length cap], .slice (some ⟨b, off, none⟩) n cap1, .agg #[.int .i64 x, .int .i64 y]] w fun e w' => ∃ v, e = .returned (.tuple #[v, .bool (pairingB fs (insP qs n x y) (n + 1))]) ∧ w'.ownsRow w.heap.size 55 2 v (n + 1) ((insP qs n x y).map (Value.int .i64)) ∧ Below w.heap.size w w' := by
  obtain ⟨W0, hW0⟩ : ∃ W0, W0 = (w.alloc (.cells #[.int .i64 V, .slice a0 fs.length cap] 26)).alloc (.cells #[.int .i64 x, .int .i64 y] 55) := ⟨_, rfl⟩
  have hB0 : Below w.heap.size w W0 := by rw [hW0]; exact ((Below.refl _ w).alloc (Nat.le_refl _) _).alloc (by simp) _
  have hs0 : W0.heap.size = w.heap.size + 2 := by rw [hW0]; simp
  have hpb : W0.heap[w.heap.size + 1]? = some (.cells #[.int .i64 x, .int .i64 y] 55 (0, 0)) := by
    have := heap_alloc_new (w.alloc (.cells #[.int .i64 V, .slice a0 fs.length cap] 26)) (.cells #[.int .i64 x, .int .i64 y] 55)
    rw [World.size_alloc] at this
    rw [hW0]
    exact this
  have hk0 : W0.cell? ⟨w.heap.size, 0, none⟩ = some (.int .i64 V) := by rw [hW0]; simp [go_sem]
  have hk1 : W0.cell? ⟨w.heap.size, 1, none⟩ = some (.slice a0 fs.length cap) := by rw [hW0]; simp [go_sem]
  have Hcl := hid hcl
  have Hp := hid hp
  have HB0 := hid hB0
  have Hpb := hid hpb
  have Hk0 := hid hk0
  have Hk1 := hid hk1
  have Hx := hid hx
  obtain ⟨P, hP⟩ : ∃ P, P = placeP qs x y n := ⟨_, rfl⟩
  have HP := hid hP
  clear hx hcl hp hB0 hpb hk0 hk1 hP
  go_enter Try.func98, Try.ntmps98
  go_wp2_with fail
  rw [← hW0]
  clear hW0
  refine wp_mono (Q := WhQ W0 w.heap.size V a0 fs.length cap (some ⟨b, off, none⟩) n cap1 x y P) ?_ ?_
  · go_loopw [8] (fun i wr => ∃ k : Nat, k ≤ n ∧ i = .int .i64 k ∧ Hid (placeP qs x y k = P) ∧ Below W0.heap.size W0 wr) (fun i _ => (intOf i).toNat)
    case atStart => exact ⟨n, Nat.le_refl _, rfl, hid HP.out.symm, Below.refl _ _⟩
    case round =>
      obtain ⟨k, hk, rfl, Hk, hB⟩ := hrel
      rcases k with _ | k
      · have HB := hid hB
        have HP0 : Hid (P = 0) := hid Hk.out.symm
        clear hB
        go_wp2_with fail
        go_quiet (fail)
        go_wp2_with fail
        rw [HP0.out]
        exact ⟨whOut_of _ rfl, HB.out.trans (below_drewN (Below.refl _ wr) _)⟩
      · have hcl := Hcl.out
        have hBw := HB0.out.trans (hB.mono HB0.out.size)
        have hc2 : wr.cell? ⟨b, off + k * 2, none⟩ = some (.int .i64 (at0 qs (k * 2))) := (hBw.cell (p := ⟨b, off + k * 2, none⟩) hb).trans (hcl _ (by have := Hp.out; omega))
        have hc3 : wr.cell? ⟨b, off + k * 2 + 1, none⟩ = some (.int .i64 (at0 qs (k * 2 + 1))) := (hBw.cell (p := ⟨b, off + (k * 2 + 1), none⟩) hb).trans (hcl _ (by have := Hp.out; omega))
        obtain ⟨x', hx'⟩ : ∃ x, x = at0 qs (k * 2) := ⟨_, rfl⟩
        obtain ⟨y', hy'⟩ : ∃ y, y = at0 qs (k * 2 + 1) := ⟨_, rfl⟩
        rw [← hx'] at hc2
        rw [← hy'] at hc3
        obtain ⟨p0, p1, _, _⟩ := two_of ((hB.block _ (lt_of_get Hpb.out)).trans Hpb.out)
        obtain ⟨c, hcc⟩ : ∃ c, c = lessP x y x' y' := ⟨_, rfl⟩
        have HL := hid (less_any x y x' y' wr.drew)
        rw [← hcc] at HL
        have hi0 : (0 : Int) ≤ (k : Int) := by omega
        have hi1 : (k : Int) < (n : Int) := by omega
        have hpos : (0 : Int) < ((k + 1 : Nat) : Int) := by omega
        have hwr : IntKind.i64.wrap ((k : Int) + 1 - 1) = (k : Int) := by rw [IntKind.wrap_i64]; omega
        have hwr3 : IntKind.i64.wrap (k : Int) = (k : Int) := by rw [IntKind.wrap_i64]; omega
        have hwr2 : IntKind.i64.wrap (((k + 1 : Nat) : Int) - 1) = (k : Int) := by rw [IntKind.wrap_i64]; omega
        have HB := hid hB
        have Hxy : Hid (placeP qs x y (k + 1) = if c then placeP qs x y k else k + 1) := hid (by rw [hcc, hx', hy']; rfl)
        clear hcl hx' hy' hB hBw hcc
        go_wp2_with fail
        go_region_with (go_at_call 156; refine HL.out.mono ?_; rintro e w2 ⟨rfl, hB2⟩; have HB2 := hid hB2; clear hB2)
        all_goals
          have HB3 := hid (HB.out.trans (((below_drewN (Below.refl _ wr) 1).trans HB2.out).mono HB.out.size))
          cases c
          · have HP0 : Hid (P = k + 1) := hid (by rw [← Hk.out, Hxy.out]; rfl)
            go_wp2_with fail
            rw [HP0.out]
            exact ⟨whOut_of _ rfl, HB3.out⟩
          · have HP0 : Hid (placeP qs x y k = P) := hid (by rw [← Hk.out, Hxy.out]; rfl)
            go_wp2_with fail
            go_roundw
            case rel => exact ⟨k, by omega, by go_num, HP0, HB3.out⟩
            case measure => simp [intOf]
  · rintro e a' wr h
    cases e with
    | exit id =>
      rcases id with _ | id
      · obtain ⟨⟨us, rfl⟩, hB⟩ := h
        have hPn := placeP_le qs x y n
        rw [← HP.out] at hPn
        have hBw := HB0.out.trans (hB.mono HB0.out.size)
        obtain ⟨p0, p1, _, _⟩ := two_of ((hB.block _ (lt_of_get Hpb.out)).trans Hpb.out)
        have k0 := (hB.cell (p := ⟨w.heap.size, 0, none⟩) (by simp only; omega)).trans Hk0.out
        have k1 := (hB.cell (p := ⟨w.heap.size, 1, none⟩) (by simp only; omega)).trans Hk1.out
        have hi0 : (0 : Int) ≤ (P : Int) := by omega
        have hi1 : (P : Int) ≤ (n : Int) := by omega
        have hi2 : (n : Int) ≤ (cap1 : Int) := by omega
        have hi3 : (P : Int) ≤ (cap1 : Int) := by omega
        have HBw := hid hBw
        have Hi := hid hPn
        clear hBw hPn
        have hcl := Hcl.out
        · obtain ⟨ad, had, hadc⟩ : ∃ ad : Addr, (if cap1 = P then some (⟨b, off, none⟩ : Addr) else some ⟨b, off + P * 2, none⟩) = some ad ∧ ∀ W', Below w.heap.size w W' → ∀ j, j < (n - P) * 2 → W'.cell? (ad.add j) = some (.int .i64 ((qs.drop (2 * P))[j]?.getD 0)) := by
            by_cases hcp : cap1 = P
            · exact ⟨_, if_pos hcp, fun W' _ j hj => by have := Hi.out; omega⟩
            · refine ⟨_, if_neg hcp, fun W' h j hj => ?_⟩
              have hadd : (⟨b, off + P * 2, none⟩ : Addr).add j = ⟨b, off + (P * 2 + j), none⟩ := by unfold Addr.add; split <;> simp_all [Nat.add_assoc]
              rw [hadd, (h.cell (p := ⟨b, off + (P * 2 + j), none⟩) hb), hcl _ (by have := Hp.out; omega), List.getElem?_drop, Nat.mul_comm 2 P]
          have hW1 := one_pair (w := wr.drew) (base := wr.heap.size) (Nat.le_refl _) x y
          have hBd : Below wr.heap.size wr (wr.drew.alloc (.cells #[.int .i64 x, .int .i64 y] 55)) := (below_drewN (Below.refl _ wr) 1).alloc (Nat.le_refl _) _
          obtain ⟨v1, W2, hr1, hown1, hg1, hb1⟩ := append_run (l := n - P) (c := cap1 - P) (ys := qs.drop (2 * P)) hW1 hBd.size (by omega) (by omega) (by have := Hp.out; simp; omega) (hadc _ (HBw.out.trans (hBd.mono HBw.out.size)))
          have hB2 := hBd.trans hb1
          obtain ⟨g1, c1, rfl, hg1l⟩ : ∃ g c, v1 = .slice (some ⟨g, 0, none⟩) (1 + (n - P)) c ∧ g < W2.heap.size := by
            rcases hown1.2 with ⟨_, h0⟩ | ⟨g, cp, cur, h1, _, h2, _⟩
            · omega
            · exact ⟨g, cp, h1, lt_of_get h2⟩
          have hown0 := World.ownsRow_made (base := wr.heap.size) (e := 55) (size := 2) W2 #[] 0 hB2.size (by unfold maxLen; omega) rfl
          have hB3 : Below wr.heap.size wr (W2.alloc (.cells #[] 55)) := hB2.alloc hB2.size _
          obtain ⟨v4, W4, hr4, hown4, hg4, hb4⟩ := append_run (xs := []) (ad := ⟨b, off, none⟩) (l := P) (c := cap1) (ys := qs.take (2 * P)) hown0 hB3.size (by omega) (by omega) (by have := Hp.out; have := Hi.out; simp; omega) (fun j hj => by
            have hadd : (⟨b, off, none⟩ : Addr).add j = ⟨b, off + j, none⟩ := by unfold Addr.add; split <;> simp_all
            rw [hadd, ((HBw.out.trans (hB3.mono HBw.out.size)).cell (p := ⟨b, off + j, none⟩) hb), hcl _ (by have := Hp.out; have := Hi.out; omega), List.getElem?_take_of_lt (by omega)])
          have hB4 := hB3.trans hb4
          have hown1' := (hown1.alloc (.cells #[] 55)).kept hg4 (.inr (by intro e; simp [Value.ownBlock] at e; omega))
          obtain ⟨v5, W5, hr5, hown5, hg5, hb5⟩ := append_run (ad := ⟨g1, 0, none⟩) (l := 1 + (n - P)) (c := c1) (ys := [x, y] ++ qs.drop (2 * P)) hown4 hB4.size (by have := Hi.out; omega) (by omega) (by have := Hp.out; simp; omega) (fun j hj => hown1'.cells rfl j _ (map_get (by have := Hp.out; simp; omega)))
          have hB5 := hB4.trans hb5
          have hall : ([] ++ qs.take (2 * P)) ++ ([x, y] ++ qs.drop (2 * P)) = insP qs n x y := by unfold insP; rw [← HP.out]; simp
          rw [hall, show 0 + P + (1 + (n - P)) = n + 1 by have := Hi.out; omega] at hown5
          obtain ⟨g5, c5, rfl⟩ : ∃ g c, v5 = .slice (some ⟨g, 0, none⟩) (n + 1) c := by
            rcases hown5.2 with ⟨_, h0⟩ | ⟨g, cp, cur, h1, _, h2, _⟩
            · omega
            · exact ⟨g, cp, h1⟩
          have hBW5 := HBw.out.trans (hB5.mono HBw.out.size)
          have HI := hid (pis_any V a0 cap fs (some ⟨g5, 0, none⟩) (n + 1) c5 (insP qs n x y) W5 (Hx.out.later hBW5 hBW5.size) (flat_slI hown5) hl hf (insP_len Hp.out x y) hn)
          have q0 := (hB5.cell (p := ⟨w.heap.size, 0, none⟩) (by have := HBw.out.size; have := lt_of_get Hpb.out; have := hB.size; simp only; omega)).trans k0
          have q1 := (hB5.cell (p := ⟨w.heap.size, 1, none⟩) (by have := HBw.out.size; have := lt_of_get Hpb.out; have := hB.size; simp only; omega)).trans k1
          have Hown5 := hid (ownsRow_base hown5 HBw.out.size)
          have HBW5 := hid hBW5
          clear hown5 hB5 hBW5 hall hown1' hB4 hown4 hg4 hb4 hB3 hown0 hB2 hown1 hg1 hb1 hg5 hb5 hW1 hBd hadc
          simp only [Exit.inBlock, Exit.then]
          go_wp2_with fail
          refine wp_region_any (by kernel_rfl) ?_
          refine wpAny_take (i := 2) (v := ?_) rfl (by kernel_rfl) (by kernel_rfl) (by kernel_rfl) (fun _ _ _ h => h) (Or.inl ⟨by rfl, ?_⟩) ?_
          rotate_left
          · intro w; go_simp; rfl
          refine wpAny_take (i := 3) (v := ?_) rfl (by kernel_rfl) (by kernel_rfl) (by kernel_rfl) (fun _ _ _ h => h) (Or.inl ⟨by rfl, ?_⟩) ?_
          rotate_left
          · intro w; go_simp; rfl
          refine wpAny_take (i := 4) (v := ?_) rfl (by kernel_rfl) (by kernel_rfl) (by kernel_rfl) (fun _ _ _ h => h) (Or.inl ⟨by rfl, ?_⟩) ?_
          rotate_left
          · intro w; go_simp; rfl
          refine wpAny_ready (rs := [0]) (by kernel_rfl) (by simp) ?_
          refine AllReady.cons rfl (fun K hK => ?_) AllReady.nil
          go_simp
          refine hK _ _ ?_
          clear hK K
          refine wpAny_ready (rs := [1]) (by kernel_rfl) (by simp) ?_
          refine AllReady.cons rfl (fun K hK => ?_) AllReady.nil
          go_simp
          refine hK _ _ ?_
          clear hK K
          refine wpAny_ready (rs := [5]) (by kernel_rfl) (by simp) ?_
          refine AllReady.cons rfl (fun K hK => ?_) AllReady.nil
          rw [if_pos (by rfl)]
          refine wp_append_run rfl rfl (show _ = Value.slice (some ad) (n - P) (cap1 - P) from by first | exact congrArg (fun t => Value.slice t (n - P) (cap1 - P)) had | (rw [← had]; rfl)) hr1 ?_
          refine hK _ _ ?_
          clear hK K
          refine wpAny_ready (rs := [6]) (by kernel_rfl) (by simp) ?_
          refine AllReady.cons rfl (fun K hK => ?_) AllReady.nil
          go_simp
          refine hK _ _ ?_
          clear hK K
          refine wpAny_done (by kernel_rfl) ?_ _
          simp only [Exit.then]
          go_wp2_with (first
            | (at_builtin; first | (refine wpList_append_run rfl rfl rfl rfl hr4 ?_) | (refine wpList_append_run rfl rfl rfl rfl hr5 ?_))
            | (go_at_call 155; refine HI.out.mono ?_; rintro e w6 ⟨rfl, hB6⟩; have HB6 := hid hB6; clear hB6))
          go_ret2
          exact ⟨_, rfl, Hown5.out.kept (row := none) ⟨HB6.out.os, HB6.out.tape, HB6.out.output, HB6.out.size, fun k hk _ => HB6.out.block k hk⟩ (.inr (by simp [Value.ownBlock])), HBW5.out.trans (HB6.out.mono HBW5.out.size)⟩
      · exact h.elim
    | normal => exact h.elim
    | goto l => exact h.elim
    | ret => exact h.elim
    | panic ch => exact h.elim
    | outgrown => exact h.elim

end Go.Proofs.Ytbaljngbmokiiaa

/-! FacetsOf, the model's. -/
namespace Go.Proofs.Ytbaljngbmokiiaa
open Go.RowKit

/-- The faces with one vertex more than a face that have all of it. -/
def aboveL (fs : List Int) (f : Nat) : List Int := fs.filter fun x => decide (x.toNat &&& f = f ∧ ones x.toNat = ones f + 1)
/-- The facets. -/
def facetsL (fs : List Int) : List Int := fs.filter fun x => decide ((aboveL fs x.toNat).length = 0)

theorem pair_mono' {P : Program} {f : FuncId} {args : Array Value} {w : World} {r : List Int × Int} {xs : List Int} {c : Int} (hr : r = (xs, c))
    (h : Calls P f args w fun e w' => ∃ v, e = .returned (.tuple #[v, .int .i64 c]) ∧ Res w w' v xs) : Calls P f args w fun e w' => ∃ v, e = .returned (.tuple #[v, .int .i64 r.2]) ∧ Res w w' v r.1 := by
  subst hr; exact h

set_option maxHeartbeats 2000000 in
theorem above_any (V : Int) (a : Option Addr) (cap : Nat) (fs : List Int) (f : Nat) (w : World) (hx : SlI w w.heap.size a fs) (hl : fs.length ≤ 1048576) (hf : ∀ x ∈ fs, 1 ≤ x ∧ x ≤ 63) (hf64 : f < 64) :
    Calls Try.prog 129 #[.agg #[.int .i64 V, .slice a fs.length cap], .int .i64 (f : Int)] w fun e w' => ∃ v, e = .returned v ∧ Res w w' v (aboveL fs f) := by
  have hB0 : Below w.heap.size w (w.alloc (.cells #[.int .i64 V, .slice a fs.length cap] 26)) := (Below.refl _ w).alloc (Nat.le_refl _) _
  have hB00 := (hB0.alloc (by simp) (.cells #[] 2))
  have hown0 := World.ownsRow_made (base := w.heap.size + 1) (e := 2) (size := 1) (w.alloc (.cells #[.int .i64 V, .slice a fs.length cap] 26)) #[] 0 (by simp) (by simp [maxLen]) rfl
  rw [World.size_alloc] at hown0
  rcases hx with rfl | ⟨b, off, hb, rfl, hc⟩
  · have Hown0 := hid hown0
    clear hown0
    go_enter Try.func129, Try.ntmps129
    go_wp2
    refine wp_loop_rounds 1 ?_; rw [rounds_succ]
    go_wp2
    go_ret
    exact ⟨_, rfl, ownsRow_base (by simpa [aboveL] using Hown0.out) (Nat.le_succ _), hB00⟩
  · have Hc := hid hc
    have Hf := hid hf
    have Hown0 := hid hown0
    clear hc hf hown0
    go_enter Try.func129, Try.ntmps129
    go_wp2
    go_loopw [5, 6] (fun v i wr => ∃ k : Nat, k ≤ fs.length ∧ i = .int .i64 k ∧ wr.ownsRow (w.heap.size + 1) 2 1 v (aboveL (fs.take k) f).length ((aboveL (fs.take k) f).map (Value.int .i64)) ∧
        Below (w.heap.size + 1) (w.alloc (.cells #[.int .i64 V, .slice (some ⟨b, off, none⟩) fs.length cap] 26)) wr) (fun _ i _ => fs.length - (intOf i).toNat)
    case atStart => exact ⟨0, Nat.zero_le _, rfl, Hown0.out, (Below.refl _ _).alloc (by simp) _⟩
    case round =>
      obtain ⟨k, hk, rfl, hown, hB⟩ := hrel
      have c0 : wr.cell? ⟨w.heap.size, 0, none⟩ = some (.int .i64 V) := (hB.cell (p := ⟨w.heap.size, 0, none⟩) (by simp)).trans (by simp [go_sem])
      have c1 : wr.cell? ⟨w.heap.size, 1, none⟩ = some (.slice (some ⟨b, off, none⟩) fs.length cap) := (hB.cell (p := ⟨w.heap.size, 1, none⟩) (by simp)).trans (by simp [go_sem])
      have hBW := hB0.trans (hB.mono (by simp))
      have hsz := hB.size
      simp only [World.size_alloc] at hsz
      by_cases hlt : k < fs.length
      · obtain ⟨x, hx⟩ : ∃ x : Nat, (x : Int) = fs[k]?.getD 0 := ⟨(fs[k]?.getD 0).toNat, by have := Hf.out _ (getD_mem hlt); omega⟩
        have hx64 : x < 64 := by have := Hf.out _ (getD_mem hlt); omega
        have hck : wr.cell? ⟨b, off + k, none⟩ = some (.int .i64 (x : Int)) := by rw [hx]; exact (hBW.cell (p := ⟨b, off + k, none⟩) hb).trans (Hc.out k hlt)
        have hi0 : (0 : Int) ≤ (k : Int) := by omega
        have hi1 : (k : Int) < (fs.length : Int) := by omega
        have hfl : (aboveL (fs.take k) f).length ≤ 1048576 := Nat.le_trans (List.length_filter_le _ _) (by simp; omega)
        have Hp : Hid (∀ c, decide (x &&& f = f ∧ ones x = ones f + 1) = c → aboveL (fs.take (k + 1)) f = aboveL (fs.take k) f ++ (if c then [(x : Int)] else [])) := hid (fun c hc => by
          unfold aboveL
          rw [take_snoc hlt, List.filter_append, ← hx]
          cases c <;> simpa using hc)
        have hbits : bits BinOp.and IntKind.i64 (x : Int) (f : Int) = ((x &&& f : Nat) : Int) := (bits_nat .i64 6 (by decide) (fun n h0 h1 => by rw [IntKind.wrap_i64]; omega) x f (by omega) (by omega)).1
        clear hx hB0 hB00
        have ho := ones_le x
        have ho' := ones_le f
        by_cases hpx : x &&& f = f
        · have hd : (((x &&& f : Nat) : Int) == (f : Int)) = true := by simp; omega
          by_cases hox : ones x = ones f + 1
          · have hd2 : ((ones x : Int) == (ones f : Int) + 1) = true := by simp; omega
            have HP := hid (Hp.out true (decide_eq_true ⟨hpx, hox⟩))
            clear hpx hox Hp
            go_wp2_with (first
              | (go_at_call 71; refine (ones_any _ _ (by assumption)).mono ?_; rintro e w' ⟨rfl, rfl⟩)
              | (at_builtin; refine append_int rfl rfl hown hsz (by omega) rfl rfl ?_; intro v' w2 hown2 hgrow2 hB2))
            go_roundw
            case rel => exact ⟨k + 1, by omega, by go_num, by rw [HP.out]; exact hown2, hB.trans hB2⟩
            case measure => simp [intOf]; omega
          · have hd2 : ((ones x : Int) == (ones f : Int) + 1) = false := by simp; omega
            have HP := hid (Hp.out false (decide_eq_false (fun h => hox h.2)))
            clear hpx hox Hp
            go_wp2_with (first
              | (go_at_call 71; refine (ones_any _ _ (by assumption)).mono ?_; rintro e w' ⟨rfl, rfl⟩))
            go_roundw
            case rel => exact ⟨k + 1, by omega, by go_num, by rw [HP.out]; simpa using hown, hB⟩
            case measure => simp [intOf]; omega
        · have hd : (((x &&& f : Nat) : Int) == (f : Int)) = false := by simp; omega
          have HP := hid (Hp.out false (decide_eq_false (fun h => hpx h.1)))
          clear hpx Hp
          go_wp2_with fail
          go_roundw
          case rel => exact ⟨k + 1, by omega, by go_num, by rw [HP.out]; simpa using hown, hB⟩
          case measure => simp [intOf]; omega
      · go_wp2
        go_ret
        obtain rfl : k = fs.length := by omega
        rw [List.take_of_length_le (Nat.le_refl _)] at hown
        exact ⟨_, rfl, ownsRow_base hown (by omega), hBW⟩

/-- What FacetsOf hands back. -/
noncomputable def facetsOfR (V : Int) (fs : List Int) : List Int × Int := if isCB V fs then (facetsL fs, 0) else ([], 1)

theorem facetsOfR_len (V : Int) (fs : List Int) (h : fs.length ≤ 1048576) : (facetsOfR V fs).1.length ≤ 1048576 := by
  unfold facetsOfR
  split
  · exact Nat.le_trans (List.length_filter_le _ _) h
  · simp

end Go.Proofs.Ytbaljngbmokiiaa
