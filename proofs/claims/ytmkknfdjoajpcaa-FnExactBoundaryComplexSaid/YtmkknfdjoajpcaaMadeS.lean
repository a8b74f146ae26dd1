import Derived.Test.YtmkknfdjoajpcaaMade
import Derived.Test.YtmkknfdjoajpcaaDualS
/-! The complex made by some sets: the model's; ComplexOf. -/
namespace Go.Proofs.Ytmkknfdjoajpcaa
open Go.RowKit Go.Shelf

/-- What the model's loops keep of the world while they build a complex in block Bo, nothing being boxed. -/
structure OutN (w W : World) (V : Int) (Bo : Nat) (xs : List Int) (a : Option Addr) (c : Nat) : Prop where
  below : Below w.heap.size w W
  res : W.heap[w.heap.size]? = some (.cells #[.int .i64 0, .slice none 0 0] 26 (0, 0))
  out : W.heap[Bo]? = some (.cells #[.int .i64 V, .slice a xs.length c] 26 (0, 0))
  own : W.ownsRow w.heap.size 2 1 (.slice a xs.length c) xs.length (xs.map (Value.int .i64))
  bo : w.heap.size < Bo

theorem OutN.drewN {w W : World} {V : Int} {Bo : Nat} {xs : List Int} {a : Option Addr} {c : Nat} (h : OutN w W V Bo xs a c) (n : Nat) : OutN w (W.drewN n) V Bo xs a c :=
  ⟨⟨h.below.os, h.below.tape, h.below.output, h.below.size, h.below.block⟩, h.res, h.out, h.own, h.bo⟩

theorem OutN.step {w W w2 : World} {V : Int} {Bo : Nat} {xs : List Int} {a : Option Addr} {c : Nat} (h : OutN w W V Bo xs a c) {x : Int} {g cap : Nat} {o : Obj}
    (hown : w2.ownsRow w.heap.size 2 1 (.slice (some ⟨g, 0, none⟩) (xs ++ [x]).length cap) (xs ++ [x]).length ((xs ++ [x]).map (Value.int .i64))) (hg : (W.alloc o).grownBy w2 (Value.ownBlock (.slice a xs.length c))) :
    OutN w (w2.setCell ⟨Bo, 1, none⟩ (.slice (some ⟨g, 0, none⟩) (xs ++ [x]).length cap)) V Bo (xs ++ [x]) (some ⟨g, 0, none⟩) cap := by
  have hgr : W.grownBy w2 (Value.ownBlock (.slice a xs.length c)) := (World.grownBy_alloc W o _).trans hg
  have hbo := h.bo
  have r2 := (hgr.block _ (lt_get h.res) (row_ne h.own h.res (by decide))).trans h.res
  have o2 := (hgr.block _ (lt_get h.out) (row_ne h.own h.out (by decide))).trans h.out
  refine ⟨?_, ?_, ?_, ?_, h.bo⟩
  · exact (h.below.grown hgr h.below.size (fun k hk => (h.own.lt k hk).1)).setCell (p := ⟨Bo, 1, none⟩) (by simp only; omega) _
  · exact (Below.heap_setCell _ _ _ _ (by simp only; omega)).trans r2
  · simp only [World.setCell, Array.getElem?_modify, o2]
    simp
  · exact ownsRow_set hown (by
      have := row_ne hown o2 (by decide)
      exact fun e => this e.symm) _

theorem OutN.done {w W : World} {V : Int} {Bo : Nat} {xs : List Int} {a : Option Addr} {c : Nat} (h : OutN w W V Bo xs a c) (u v : Value) :
    Res w ((W.setCell ⟨w.heap.size, 0, none⟩ u).setCell ⟨w.heap.size, 1, none⟩ v) (.slice a xs.length c) xs := by
  have hn := row_ne h.own h.res (by decide)
  exact ⟨ownsRow_set (ownsRow_set h.own (fun e => hn e.symm) _) (fun e => hn e.symm) _, (h.below.setCell (p := ⟨w.heap.size, 0, none⟩) (by simp) _).setCell (p := ⟨w.heap.size, 1, none⟩) (by simp) _⟩

theorem OutN.mid {w W w2 : World} {V : Int} {Bo : Nat} {xs : List Int} {a : Option Addr} {c : Nat} (h : OutN w W V Bo xs a c) {o : Obj} (hg : (W.alloc o).grownBy w2 (Value.ownBlock (.slice a xs.length c))) :
    w2.cell? ⟨Bo, 1, none⟩ = some (.slice a xs.length c) ∧ w2.frozen? ⟨Bo, 1, none⟩ = false := by
  have hgr : W.grownBy w2 (Value.ownBlock (.slice a xs.length c)) := (World.grownBy_alloc _ o _).trans hg
  have o2 := (hgr.block _ (lt_get h.out) (row_ne h.own h.out (by decide))).trans h.out
  constructor <;> simp [World.cell?, World.frozen?, o2]

theorem OutN.start {w : World} {V : Int} : OutN w (((w.alloc (.cells #[.int .i64 0, .slice none 0 0] 26)).alloc (.cells #[] 2)).alloc (.cells #[.int .i64 V, .slice (some ⟨w.heap.size + 1, 0, none⟩) 0 0] 26)) V (w.heap.size + 1 + 1) [] (some ⟨w.heap.size + 1, 0, none⟩) 0 where
  below := (((Below.refl _ w).alloc (Nat.le_refl _) _).alloc (by simp) _).alloc (by simp <;> omega) _
  res := (Below.heap_alloc _ _ _ (by simp; omega)).trans ((Below.heap_alloc _ _ _ (by simp)).trans (heap_alloc_new _ _))
  out := new3 _ _ _ _
  own := by
    have h := World.ownsRow_made (base := w.heap.size) (e := 2) (size := 1) (w.alloc (.cells #[.int .i64 0, .slice none 0 0] 26)) #[] 0 (by simp) (by simp [maxLen]) rfl
    rw [World.size_alloc] at h
    exact h.alloc _
  bo := by omega

theorem madeP_take {xs : List Int} {f j : Nat} (hj : j < xs.length) (h : (xs.take j).any (fun s => decide ((f : Int).toNat &&& s.toNat = (f : Int).toNat)) = false) (c : Bool) (hc : decide (f &&& (xs[j]?.getD 0).toNat = f) = c) :
    (xs.take (j + 1)).any (fun s => decide ((f : Int).toNat &&& s.toNat = (f : Int).toNat)) = c := by
  rw [take_snoc hj, List.any_append, h]
  simpa using hc

theorem madeP_yes {xs : List Int} {f j : Nat} (hj : j < xs.length) (hc : f &&& (xs[j]?.getD 0).toNat = f) : madeP xs (f : Int) = true := by
  unfold madeP
  rw [List.any_eq_true]
  exact ⟨_, getD_mem hj, by simpa using hc⟩

set_option maxRecDepth 100000 in
set_option maxHeartbeats 4000000 in
theorem madeS_any (V : Int) (a0 : Option Addr) (cap : Nat) (xs : List Int) (w : World) (hx : SlI w w.heap.size a0 xs) (hl : xs.length ≤ 1048576) (h1 : 1 ≤ V) (h2 : V ≤ 6) (hr : ∀ x ∈ xs, 1 ≤ x ∧ x ≤ 63) :
    Calls Try.prog 83 #[.int .i64 V, .slice a0 xs.length cap] w fun e w' => ∃ v, e = .returned (.agg #[.int .i64 V, v]) ∧ Res w w' v (madeL V xs) := by
  obtain ⟨A, hA, hA1, hA2⟩ := allV_nat h1 h2
  have Hx := hid hx
  have HA := hid hA
  have Hf := hid hr
  have Hall : Hid (∀ W, Calls Try.prog 66 #[.int .i64 V] W fun e w' => e = .returned (.int .i64 (A : Int)) ∧ W = w') := hid (fun W => by rw [hA]; exact all_any V W (by omega) h2)
  clear hx hA hr
  go_enter Try.func83, Try.ntmps83
  go_wp2_with fail
  go_loopw [6] (fun i wr => ∃ (k : Nat) (a : Option Addr) (c : Nat), k ≤ A ∧ i = .int .i64 ((k : Int) + 1) ∧ OutN w wr V (w.heap.size + 1 + 1) (pickTo (madeP xs) k) a c) (fun i _ => A + 1 - (RowKit.intOf i).toNat)
  case atStart => exact ⟨0, some ⟨w.heap.size + 1, 0, none⟩, 0, Nat.zero_le _, rfl, OutN.start⟩
  case round =>
    obtain ⟨k, a, c, hk, rfl, hW⟩ := hrel
    have HW := hid hW
    obtain ⟨o0, o1, f0, f1⟩ := two_of hW.out
    have hbs := hW.below.size
    have hlen := pickTo_len (madeP xs) k
    clear hW
    by_cases hlt : k < A
    · have hd : decide ((k : Int) + 1 ≤ (A : Int)) = true := decide_eq_true (by omega)
      have Hs : Hid (∀ b : Bool, madeP xs ((k : Int) + 1) = b → pickTo (madeP xs) (k + 1) = pickTo (madeP xs) k ++ (if b then [(k : Int) + 1] else [])) := hid (fun b hb => by rw [← hb]; rfl)
      go_wp2_with fail
      refine (Hall.out _).mono ?_
      rintro e w1 ⟨rfl, rfl⟩
      go_wp2_with fail
      go_loop [7] (fun i => ∃ j : Nat, j ≤ xs.length ∧ i = .int .i64 j ∧ Hid ((xs.take j).any (fun s => decide (((k + 1 : Nat) : Int).toNat &&& s.toNat = ((k + 1 : Nat) : Int).toNat)) = false)) (fun i => xs.length - (RowKit.intOf i).toNat)
      case atStart => exact ⟨0, Nat.zero_le _, rfl, hid (by simp)⟩
      case round =>
        obtain ⟨j, hj, rfl, Hj⟩ := hrel
        by_cases hjl : j < xs.length
        · obtain ⟨b, off, hb, rfl, hc⟩ : ∃ b off, b < w.heap.size ∧ a0 = some ⟨b, off, none⟩ ∧ ∀ i, i < xs.length → w.cell? ⟨b, off + i, none⟩ = some (.int .i64 (xs[i]?.getD 0)) := by
            rcases Hx.out with rfl | h
            · simp at hjl
            · exact h
          have Hc := hid hc
          clear hc
          obtain ⟨x, hx⟩ : ∃ x : Nat, (x : Int) = xs[j]?.getD 0 := ⟨(xs[j]?.getD 0).toNat, by have := Hf.out _ (getD_mem hjl); omega⟩
          have hx64 : x < 64 := by have := Hf.out _ (getD_mem hjl); omega
          have hck : wr.cell? ⟨b, off + j, none⟩ = some (.int .i64 (x : Int)) := by rw [hx]; exact (HW.out.below.cell (p := ⟨b, off + j, none⟩) hb).trans (Hc.out j hjl)
          have hi0 : (0 : Int) ≤ (j : Int) := by omega
          have hi1 : (j : Int) < (xs.length : Int) := by omega
          have hxn : (xs[j]?.getD 0).toNat = x := by omega
          have hbits : bits BinOp.and IntKind.i64 ((k : Int) + 1) (x : Int) = (((k + 1) &&& x : Nat) : Int) := (bits_nat .i64 6 (by decide) (fun n h0 h1 => by rw [IntKind.wrap_i64]; omega) (k + 1) x (by omega) (by omega)).1
          have Hxn := hid hxn
          clear hx hxn
          by_cases hp : (k + 1) &&& x = k + 1
          · have hd2 : ((((k + 1) &&& x : Nat) : Int) == (k : Int) + 1) = true := by rw [hp]; simp
            have HP := hid ((Hs.out true (madeP_yes (f := k + 1) hjl (by rw [Hxn.out]; exact hp))).trans (by rw [if_pos rfl]))
            clear hp Hs Hj
            go_wp2_with (at_builtin; refine plain_append_new rfl rfl HW.out.own (by rfl) hbs (by omega) (by rfl) (by rfl) ?_; intro g cp w2 hown2 hgrow2; obtain ⟨o12, o22⟩ := HW.out.mid hgrow2)
            go_roundw
            case rel => exact ⟨k + 1, some ⟨g, 0, none⟩, cp, by omega, by go_num, by rw [HP.out]; simpa using HW.out.step hown2 hgrow2⟩
            case measure => simp [RowKit.intOf]; omega
          · have hd2 : ((((k + 1) &&& x : Nat) : Int) == (k : Int) + 1) = false := by simp; omega
            have He := hid (madeP_take (f := k + 1) hjl Hj.out false (by rw [Hxn.out]; exact decide_eq_false hp))
            clear hp Hs
            go_wp2_with fail
            go_round
            case rel => exact ⟨j + 1, by omega, by go_num, He.out⟩
            case measure => simp [RowKit.intOf]; omega
        · have hjn : j = xs.length := by omega
          have HP := hid (Hs.out false (by have h := Hj.out; rw [hjn, List.take_length] at h; exact h))
          go_wp2_with fail
          go_roundw
          case rel => exact ⟨k + 1, a, c, by omega, by go_num, by rw [HP.out, if_neg (by decide), List.append_nil]; exact HW.out⟩
          case measure => simp [RowKit.intOf]; omega
    · have hd : decide ((k : Int) + 1 ≤ (A : Int)) = false := decide_eq_false (by omega)
      have HE : Hid (pickTo (madeP xs) k = madeL V xs) := hid (by unfold madeL; rw [← HA.out, Int.toNat_natCast, show A = k by omega])
      obtain ⟨r0, r1, g0, g1⟩ := two_of HW.out.res
      go_wp2_with fail
      refine (Hall.out _).mono ?_
      rintro e w1 ⟨rfl, rfl⟩
      go_wp2_with fail
      (try simp only [Exit.inBlock, Exit.then])
      have R2 := two_of (two_set HW.out.res (.int .i64 V) (.slice a (pickTo (madeP xs) k).length c))
      refine done_cx1 (p := 4) (by kernel_rfl) rfl rfl R2.1 R2.2.1 ⟨_, rfl, ?_⟩
      rw [← HE.out]
      exact HW.out.done _ _

/-- What ComplexOf hands back. -/
def setsOk (V : Int) (xs : List Int) : Bool := xs.all fun x => decide (1 ≤ x) && decide (x ≤ allV V)
def complexOfR (V : Int) (xs : List Int) : Int × List Int × Int := if 1 ≤ V ∧ V ≤ 6 then (if xs.length ≤ 64 then (if setsOk V xs = true then (V, madeL V xs, 0) else (0, [], 2)) else (0, [], 2)) else (0, [], 2)

theorem complexOfR_len (V : Int) (xs : List Int) (_ : xs.length ≤ 1048576) : (complexOfR V xs).2.1.length ≤ 1048576 := by
  unfold complexOfR
  split
  · next h =>
    split
    · split
      · have h1 := allV_le h.2
        have h2 := pickTo_len (madeP xs) (allV V).toNat
        show (madeL V xs).length ≤ 1048576
        unfold madeL
        omega
      · simp
    · simp
  · simp

theorem setsOk_iff {V : Int} {xs : List Int} : setsOk V xs = true ↔ ∀ x ∈ xs, 1 ≤ x ∧ x ≤ allV V := by
  unfold setsOk
  rw [List.all_eq_true]
  simp

theorem bad_end {fn : Func} {a : Act} {w W : World} {p u : Tmp} {V : Int} {xs : List Int} (hR : complexOfR V xs = (0, [], 2)) (hr : fn.results = #[.cell p 26, .tmp u]) (hd : a.defers = []) (hp : a.tmps.getD p undef = .pointer (some ⟨w.heap.size, 0, none⟩)) (hu : a.tmps.getD u undef = .int .i64 2)
    (hb : W.heap[w.heap.size]? = some (.cells #[.int .i64 0, .slice none 0 0] 26 (0, 0))) (hB : Below w.heap.size w W) :
    bodyPost Try.prog fn (fun e w' => ∃ v, e = .returned (.tuple #[.agg #[.int .i64 (complexOfR V xs).1, v], .int .i64 (complexOfR V xs).2.2]) ∧ Res w w' v (complexOfR V xs).2.1) .ret a ((W.setCell ⟨w.heap.size, 0, none⟩ (.int .i64 0)).setCell ⟨w.heap.size, 1, none⟩ (.slice none 0 0)) := by
  rw [hR]
  have R3 := two_of (two_set hb (.int .i64 0) (.slice none 0 0))
  exact done_cx hr hd hp R3.1 R3.2.1 hu ⟨_, rfl, (res_nil _ _ hB).set2 hb (by decide) (Nat.le_refl _) _ _⟩

set_option maxRecDepth 100000 in
set_option maxHeartbeats 4000000 in
theorem specComplexOf (V : Int) (a : Option Addr) (cap : Nat) (xs : List Int) (w : World) (hx : SlI w w.heap.size a xs) (hl : xs.length ≤ 1048576) (_ : (Lit.int .i64 V).wf = true) :
    Calls Try.prog 46 #[.int .i64 V, .slice a xs.length cap] w fun e w' => ∃ v, e = .returned (.tuple #[.agg #[.int .i64 (complexOfR V xs).1, v], .int .i64 (complexOfR V xs).2.2]) ∧ Res w w' v (complexOfR V xs).2.1 := by
  have Hx := hid hx
  have hB1 : Below w.heap.size w (w.alloc (.cells #[.int .i64 0, .slice none 0 0] 26)) := (Below.refl _ w).alloc (Nat.le_refl _) _
  have HB1 := hid hB1
  obtain ⟨W, hW⟩ : ∃ W, W = w.alloc (.cells #[.int .i64 0, .slice none 0 0] 26) := ⟨_, rfl⟩
  have hb : Hid (W.heap[w.heap.size]? = some (.cells #[.int .i64 0, .slice none 0 0] 26 (0, 0))) := hid (by rw [hW]; exact heap_alloc_new _ _)
  have hBW : Hid (Below w.heap.size w W) := hid (by rw [hW]; exact hB1)
  have HW := hid hW
  obtain ⟨q0, q1, q2, q3⟩ := two_of hb.out
  clear hx hB1 hW
  by_cases hv : 1 ≤ V ∧ V ≤ 6
  · have h1 := hv.1
    have h2 := hv.2
    obtain ⟨A, hA, hA1, hA2⟩ := allV_nat h1 h2
    have Hall : Hid (∀ W, Calls Try.prog 66 #[.int .i64 V] W fun e w' => e = .returned (.int .i64 (A : Int)) ∧ W = w') := hid (fun W => by rw [hA]; exact all_any V W (by omega) h2)
    have HA := hid hA
    clear hA
    by_cases h64 : xs.length ≤ 64
    · have hd : decide ((64 : Int) < (xs.length : Int)) = false := decide_eq_false (by omega)
      go_enter Try.func46, Try.ntmps46
      go_wp2_with fail
      rw [← HW.out]
      refine (in_yes V 1 6 _ h1 h2).mono ?_
      rintro e w1 ⟨rfl, rfl⟩
      go_wp2_with fail
      go_loopw [6] (fun i wr => ∃ k : Nat, k ≤ xs.length ∧ i = .int .i64 k ∧ Hid (∀ x ∈ xs.take k, 1 ≤ x ∧ x ≤ (A : Int)) ∧ Hid (Below w.heap.size w wr ∧ wr.heap[w.heap.size]? = some (.cells #[.int .i64 0, .slice none 0 0] 26 (0, 0)))) (fun i _ => xs.length - (RowKit.intOf i).toNat)
      case atStart => exact ⟨0, Nat.zero_le _, rfl, hid (by simp), hid ⟨hBW.out, hb.out⟩⟩
      case round =>
        obtain ⟨k, hk, rfl, Hk, Hw⟩ := hrel
        by_cases hlt : k < xs.length
        · obtain ⟨b, off, hbb, rfl, hc⟩ : ∃ b off, b < w.heap.size ∧ a = some ⟨b, off, none⟩ ∧ ∀ i, i < xs.length → w.cell? ⟨b, off + i, none⟩ = some (.int .i64 (xs[i]?.getD 0)) := by
            rcases Hx.out with rfl | h
            · simp at hlt
            · exact h
          have Hc := hid hc
          clear hc
          obtain ⟨x, hx⟩ : ∃ x, x = xs[k]?.getD 0 := ⟨_, rfl⟩
          have hck : wr.cell? ⟨b, off + k, none⟩ = some (.int .i64 x) := by rw [hx]; exact (Hw.out.1.cell (p := ⟨b, off + k, none⟩) hbb).trans (Hc.out k hlt)
          have hi0 : (0 : Int) ≤ (k : Int) := by omega
          have hi1 : (k : Int) < (xs.length : Int) := by omega
          obtain ⟨r0, r1, g0, g1⟩ := two_of Hw.out.2
          have Hx1 := hid hx
          clear hx
          by_cases hin : 1 ≤ x ∧ x ≤ (A : Int)
          · have He : Hid (∀ y ∈ xs.take (k + 1), 1 ≤ y ∧ y ≤ (A : Int)) := hid (by
              rw [take_snoc hlt, ← Hx1.out]
              intro y hy
              rcases List.mem_append.1 hy with hy | hy
              · exact Hk.out y hy
              · simp at hy; rw [hy]; exact hin)
            have Hin := hid hin
            clear hin
            go_wp2_with fail
            go_quiet (first
              | (go_at_call 66; exact quiet_of_eq (Hall.out _))
              | (go_at_call 86; exact quiet_of_eq (in_yes x 1 A _ Hin.out.1 Hin.out.2)))
            go_wp2_with fail
            go_roundw
            case rel => exact ⟨k + 1, by omega, by go_num, He.out, hid ⟨⟨Hw.out.1.os, Hw.out.1.tape, Hw.out.1.output, Hw.out.1.size, Hw.out.1.block⟩, Hw.out.2⟩⟩
            case measure => simp [RowKit.intOf]; omega
          · have HR : Hid (complexOfR V xs = (0, [], 2)) := hid (by
              unfold complexOfR
              rw [if_pos ⟨h1, h2⟩, if_pos h64, if_neg]
              intro h
              have := setsOk_iff.1 h x (by rw [Hx1.out]; exact getD_mem hlt)
              rw [← HA.out] at this
              exact hin this)
            have Hin := hid hin
            clear hin
            go_wp2_with fail
            go_quiet (first
              | (go_at_call 66; exact quiet_of_eq (Hall.out _))
              | (go_at_call 86; exact quiet_of_eq (in_no x 1 A _ Hin.out)))
            go_wp2_with fail
            (try simp only [Exit.inBlock, Exit.then])
            exact bad_end (p := 4) (u := 5) HR.out (by kernel_rfl) rfl rfl rfl (by exact Hw.out.2) ⟨Hw.out.1.os, Hw.out.1.tape, Hw.out.1.output, Hw.out.1.size, Hw.out.1.block⟩
        · have hkn : k = xs.length := by omega
          have Hok : Hid (∀ x ∈ xs, 1 ≤ x ∧ x ≤ allV V) := hid (by
            have h := Hk.out
            rw [hkn, List.take_length, HA.out] at h
            exact h)
          have HR : Hid (complexOfR V xs = (V, madeL V xs, 0)) := hid (by
            unfold complexOfR
            rw [if_pos ⟨h1, h2⟩, if_pos h64, if_pos (setsOk_iff.2 Hok.out)])
          go_wp2_with fail
          refine (madeS_any V a cap xs wr (Hx.out.later Hw.out.1 Hw.out.1.size) hl h1 h2 (fun x hx => ⟨(Hok.out x hx).1, by have := (Hok.out x hx).2; have := HA.out; omega⟩)).mono ?_
          rintro e w2 ⟨v, rfl, hr⟩
          obtain ⟨_, av, cv, rfl, _⟩ := ownsRow_slI hr.1
          have k2 := (hr.2.block _ (lt_get Hw.out.2)).trans Hw.out.2
          obtain ⟨r0, r1, g0, g1⟩ := two_of k2
          have K2 := hid k2
          clear k2
          go_wp2_with fail
          (try simp only [Exit.inBlock, Exit.then])
          rw [HR.out]
          have R3 := two_of (two_set K2.out (.int .i64 V) (.slice av (madeL V xs).length cv))
          refine done_cx (p := 4) (u := 5) (by kernel_rfl) rfl rfl R3.1 R3.2.1 rfl ⟨_, rfl, ?_⟩
          exact (hr.later Hw.out.1).set2 K2.out (by decide) (Nat.le_refl _) _ _
    · have hd : decide ((64 : Int) < (xs.length : Int)) = true := decide_eq_true (by omega)
      have HR : Hid (complexOfR V xs = (0, [], 2)) := hid (by unfold complexOfR; rw [if_pos ⟨h1, h2⟩, if_neg h64])
      go_enter Try.func46, Try.ntmps46
      go_wp2_with fail
      rw [← HW.out]
      refine (in_yes V 1 6 _ h1 h2).mono ?_
      rintro e w1 ⟨rfl, rfl⟩
      go_wp2_with fail
      (try simp only [Exit.inBlock, Exit.then])
      exact bad_end (p := 4) (u := 5) HR.out (by kernel_rfl) rfl rfl rfl hb.out hBW.out
  · have HR : Hid (complexOfR V xs = (0, [], 2)) := hid (by unfold complexOfR; rw [if_neg hv])
    have Hv := hid hv
    clear hv
    go_enter Try.func46, Try.ntmps46
    go_wp2_with fail
    rw [← HW.out]
    refine (in_no V 1 6 _ Hv.out).mono ?_
    rintro e w1 ⟨rfl, rfl⟩
    go_wp2_with fail
    (try simp only [Exit.inBlock, Exit.then])
    exact bad_end (p := 4) (u := 5) HR.out (by kernel_rfl) rfl rfl rfl hb.out hBW.out

end Go.Proofs.Ytmkknfdjoajpcaa
