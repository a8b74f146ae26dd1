import Derived.Test.YtgefpllmelpahaaMF2
import Derived.Test.YtgefpllmelpahaaMF3
import Derived.Test.YtgefpllmelpahaaMF4
/-! FlipOf, the model's. -/
namespace Go.Proofs.Ytgefpllmelpahaa
open Go.RowKit

noncomputable def flipR (V : Int) (fs : List Int) (d : Int) : Int × List Int × Int := if isCB V fs then (if d ∈ fs then (if otherN fs d.toNat (missL V fs) = 0 then (0, [], 5) else (V, flipL V fs d.toNat (otherN fs d.toNat (missL V fs)).toNat, 0)) else (0, [], 2)) else (0, [], 1)
theorem flipL_len (V : Int) (fs : List Int) (f g : Nat) : (flipL V fs f g).length ≤ (allV V).toNat := by
  unfold flipL
  exact pickTo_len _ _
theorem flipR_len (V : Int) (fs : List Int) (d : Int) (_h : fs.length ≤ 1048576) : (flipR V fs d).2.1.length ≤ 1048576 := by
  unfold flipR
  split
  · rename_i hb
    have hC := isCB_iff.1 hb
    split
    · split
      · simp
      · refine Nat.le_trans (flipL_len ..) ?_
        have := allV_le hC.hi
        omega
    · simp
  · simp

/-- A complex that is being built in block Bo. -/
structure OutB (w W : World) (V : Int) (Bo : Nat) (xs : List Int) (a : Option Addr) (c : Nat) : Prop where
  below : Below w.heap.size w W
  out : W.heap[Bo]? = some (.cells #[.int .i64 V, .slice a xs.length c] 30 (0, 0))
  own : W.ownsRow w.heap.size 2 1 (.slice a xs.length c) xs.length (xs.map (Value.int .i64))
  bo : w.heap.size ≤ Bo
theorem OutB.later {w W W' : World} {V : Int} {Bo : Nat} {xs : List Int} {a : Option Addr} {c : Nat} (h : OutB w W V Bo xs a c) (hb : Below W.heap.size W W') : OutB w W' V Bo xs a c :=
  ⟨h.below.trans (hb.mono h.below.size), (hb.block _ (lt_get h.out)).trans h.out, ownsRow_below h.own hb (fun g hg => (h.own.lt g hg).2), h.bo⟩
theorem OutB.step {w W w2 : World} {V : Int} {Bo : Nat} {xs : List Int} {a : Option Addr} {c : Nat} (h : OutB w W V Bo xs a c) {x : Int} {g cap : Nat} {o : Obj}
    (hown : w2.ownsRow w.heap.size 2 1 (.slice (some ⟨g, 0, none⟩) (xs ++ [x]).length cap) (xs ++ [x]).length ((xs ++ [x]).map (Value.int .i64))) (hg : (W.alloc o).grownBy w2 (Value.ownBlock (.slice a xs.length c))) :
    OutB w (w2.setCell ⟨Bo, 1, none⟩ (.slice (some ⟨g, 0, none⟩) (xs ++ [x]).length cap)) V Bo (xs ++ [x]) (some ⟨g, 0, none⟩) cap := by
  have hgr : W.grownBy w2 (Value.ownBlock (.slice a xs.length c)) := (World.grownBy_alloc W o _).trans hg
  have hbo := h.bo
  have o2 := (hgr.block _ (lt_get h.out) (row_ne h.own h.out (by decide))).trans h.out
  refine ⟨?_, ?_, ?_, h.bo⟩
  · exact (h.below.grown hgr h.below.size (fun k hk => (h.own.lt k hk).1)).setCell (p := ⟨Bo, 1, none⟩) (by simp only; omega) _
  · simp only [World.setCell, Array.getElem?_modify, o2]
    simp
  · exact ownsRow_set hown (by
      have := row_ne hown o2 (by decide)
      exact fun e => this e.symm) _
theorem OutB.mid {w W w2 : World} {V : Int} {Bo : Nat} {xs : List Int} {a : Option Addr} {c : Nat} (h : OutB w W V Bo xs a c) {o : Obj} (hg : (W.alloc o).grownBy w2 (Value.ownBlock (.slice a xs.length c))) :
    w2.cell? ⟨Bo, 1, none⟩ = some (.slice a xs.length c) ∧ w2.frozen? ⟨Bo, 1, none⟩ = false := by
  have hgr : W.grownBy w2 (Value.ownBlock (.slice a xs.length c)) := (World.grownBy_alloc _ o _).trans hg
  have o2 := (hgr.block _ (lt_get h.out) (row_ne h.own h.out (by decide))).trans h.out
  constructor <;> simp [World.cell?, World.frozen?, o2]
theorem OutB.start {w : World} {V : Int} : OutB w ((w.alloc (.cells #[] 2)).alloc (.cells #[.int .i64 V, .slice (some ⟨w.heap.size, 0, none⟩) 0 0] 30)) V (w.heap.size + 1) [] (some ⟨w.heap.size, 0, none⟩) 0 where
  below := ((Below.refl _ w).alloc (Nat.le_refl _) _).alloc (by simp) _
  out := by have := heap_alloc_new (w.alloc (.cells #[] 2)) (.cells #[.int .i64 V, .slice (some ⟨w.heap.size, 0, none⟩) 0 0] 30); rwa [World.size_alloc] at this
  own := by
    have h := World.ownsRow_made (base := w.heap.size) (e := 2) (size := 1) w #[] 0 (Nat.le_refl _) (by simp [maxLen]) rfl
    exact h.alloc _
  bo := by omega

set_option maxRecDepth 100000 in
set_option maxHeartbeats 8000000 in
theorem flipS_ok (V : Int) (a0 : Option Addr) (cap : Nat) (fs : List Int) (f : Nat) (w : World) (hx : SlI w w.heap.size a0 fs) (hl : fs.length ≤ 1048576) (hC : IsC V fs) (hd : (f : Int) ∈ fs) (hf : f < 64) (g : Nat) (hg : otherN fs f (missL V fs) = (g : Int)) (hg1 : 1 ≤ g) (hg64 : g < 64) :
    Calls Try.prog 29 #[.agg #[.int .i64 V, .slice a0 fs.length cap], .int .i64 (f : Int)] w fun e w' => ∃ v, e = .returned (.tuple #[.agg #[.int .i64 V, v], .int .i64 0]) ∧ Res w w' v (flipL V fs f g) := by
  obtain ⟨A, hA, hA1, hA2⟩ := allV_nat hC.lo hC.hi
  have hVhi := hC.hi
  have hVlo := hC.lo
  have hB0 : Below w.heap.size w ((w.alloc (.cells #[.int .i64 V, .slice a0 fs.length cap] 30)).alloc (.cells #[.int .i64 0, .slice none 0 0] 30)) := ((Below.refl _ w).alloc (Nat.le_refl _) _).alloc (by simp) _
  have Hx := hid (hx.later hB0 (by simp <;> omega))
  have HC := hid hC
  have Hd := hid hd
  have HO := hid (fun W (h : Below w.heap.size w W) => other_any V a0 cap fs f W (hx.later h h.size) hl hC hf)
  rw [hg] at HO
  have HT := hid (fun W (h : Below w.heap.size w W) => take_any V a0 cap fs f W (hx.later h h.size) hl hC.range63 hf)
  have Hall : Hid (∀ W, Calls Try.prog 71 #[.int .i64 V] W fun e w' => e = .returned (.int .i64 (A : Int)) ∧ W = w') := hid (fun W => by rw [hA]; exact all_any V W (by omega) hVhi)
  have HA := hid hA
  have hg0 : ((g : Int) == 0) = false := by simp; omega
  clear hx hC hd hA hg
  go_enter Try.func29, Try.ntmps29
  go_wp2_with fail
  refine (face_yes V a0 cap fs _ _ Hx.out hl HC.out Hd.out).mono ?_
  rintro e w1 ⟨rfl, hB1⟩
  have q0 := (hB1.block w.heap.size (by simp <;> omega)).trans ((Below.heap_alloc _ (.cells #[.int .i64 0, .slice none 0 0] 30) _ (by simp)).trans (heap_alloc_new w (.cells #[.int .i64 V, .slice a0 fs.length cap] 30)))
  have r1 : w1.heap[w.heap.size + 1]? = some (.cells #[.int .i64 0, .slice none 0 0] 30 (0, 0)) := (hB1.block _ (by simp <;> omega)).trans (new2 _ _ _)
  have HB1 := hid (hB0.trans (hB1.mono (by simp <;> omega)))
  obtain ⟨k0, k1, _, _⟩ := two_of q0
  have Q1 := hid q0
  have R1 := hid r1
  clear hB0 hB1 q0 r1
  go_wp2_with fail
  refine (HO.out w1 HB1.out).mono ?_
  rintro e w2 ⟨rfl, hB2⟩
  have HB2 := hid (HB1.out.trans (hB2.mono HB1.out.size))
  have Q2 := hid ((hB2.block _ (lt_get Q1.out)).trans Q1.out)
  have R2 := hid ((hB2.block _ (lt_get R1.out)).trans R1.out)
  obtain ⟨m0, m1, _, _⟩ := two_of Q2.out
  clear hB2 k0 k1 Q1 R1 HB1
  go_wp2_with fail
  refine (HT.out w2 HB2.out).mono ?_
  rintro e w3 ⟨v3, rfl, hr3⟩
  obtain ⟨_, al, cl, rfl, hs3⟩ := ownsRow_slI hr3.1
  have HB3 := hid (HB2.out.trans (hr3.2.mono HB2.out.size))
  have Q3 := hid ((hr3.2.block _ (lt_get Q2.out)).trans Q2.out)
  have R3 := hid ((hr3.2.block _ (lt_get R2.out)).trans R2.out)
  obtain ⟨n0, n1, _, _⟩ := two_of Q3.out
  have HS3 := hid hs3
  have p0 := cell_alloc0 n0 (.cells #[.int .i64 V, .slice al (takeL fs f).length cl] 30)
  clear hr3 hs3 m0 m1 Q2 R2 HB2 HO HT
  go_wp2_with fail
  obtain ⟨wL, hwL⟩ : ∃ x, x = w3.alloc (.cells #[.int .i64 V, .slice al (takeL fs f).length cl] 30) := ⟨_, rfl⟩
  rw [← hwL]
  have hbL : Below w3.heap.size w3 wL := by rw [hwL]; exact (Below.refl _ _).alloc (Nat.le_refl _) _
  have hsL : w3.heap.size + 1 = wL.heap.size := by rw [hwL]; simp
  have HBL := hid (HB3.out.trans (hbL.mono HB3.out.size))
  have QL := hid ((hbL.block _ (lt_get Q3.out)).trans Q3.out)
  have RL := hid ((hbL.block _ (lt_get R3.out)).trans R3.out)
  have LL : Hid (wL.heap[w3.heap.size]? = some (.cells #[.int .i64 V, .slice al (takeL fs f).length cl] 30 (0, 0))) := hid (by rw [hwL]; exact heap_alloc_new _ _)
  have SL := hid (HS3.out.later hbL hbL.size)
  have hTl : (takeL fs f).length ≤ 1048576 := Nat.le_trans (List.length_filter_le _ _) hl
  rw [hsL]
  obtain ⟨b8, hb8⟩ : ∃ b, b = w3.heap.size := ⟨_, rfl⟩
  rw [← hb8] at LL ⊢
  clear hwL hbL hsL HS3 Q3 R3 n0 n1 p0 HB3 hb8
  go_loopw [10] (fun i wr => ∃ (k : Nat) (a : Option Addr) (c : Nat), k ≤ A ∧ i = .int .i64 ((k : Int) + 1) ∧ OutB wL wr V (wL.heap.size + 1) (pickTo (flipP fs f g) k) a c) (fun i _ => A + 1 - (intOf i).toNat)
  case atStart => exact ⟨0, _, 0, Nat.zero_le _, rfl, OutB.start⟩
  case round =>
    obtain ⟨k, a, c, hk, rfl, hW⟩ := hrel
    have HW := hid hW
    have hbs := hW.below.size
    obtain ⟨q0, q1, _, _⟩ := two_of ((hW.below.block _ (lt_get QL.out)).trans QL.out)
    obtain ⟨l0, l1, _, _⟩ := two_of ((hW.below.block _ (lt_get LL.out)).trans LL.out)
    have HSl := hid (SL.out.later hW.below hbs)
    have hlen := pickTo_len (flipP fs f g) k
    clear hW
    by_cases hlt : k < A
    · have hd : decide ((k : Int) + 1 ≤ (A : Int)) = true := decide_eq_true (by omega)
      have Hs : Hid (∀ b : Bool, flipP fs f g ((k : Int) + 1) = b → pickTo (flipP fs f g) (k + 1) = pickTo (flipP fs f g) k ++ (if b then [(k : Int) + 1] else [])) := hid (fun b hb => by rw [← hb]; rfl)
      have e1 : bits BinOp.and IntKind.i64 ((k : Int) + 1) (g : Int) = (((k + 1) &&& g : Nat) : Int) := (bits_nat .i64 6 (by decide) (fun n h0 h1 => by rw [IntKind.wrap_i64]; omega) (k + 1) g (by omega) (by omega)).1
      have e2 : bits BinOp.or IntKind.i64 (f : Int) (g : Int) = ((f ||| g : Nat) : Int) := (bits_nat .i64 6 (by decide) (fun n h0 h1 => by rw [IntKind.wrap_i64]; omega) f g (by omega) (by omega)).2
      have ho64 : f ||| g < 64 := Nat.or_lt_two_pow (n := 6) hf hg64
      have e3 : bits BinOp.and IntKind.i64 ((k : Int) + 1) ((f ||| g : Nat) : Int) = (((k + 1) &&& (f ||| g) : Nat) : Int) := (bits_nat .i64 6 (by decide) (fun n h0 h1 => by rw [IntKind.wrap_i64]; omega) (k + 1) (f ||| g) (by omega) (by omega)).1
      have e4 : bits BinOp.and IntKind.i64 ((k : Int) + 1) (f : Int) = (((k + 1) &&& f : Nat) : Int) := (bits_nat .i64 6 (by decide) (fun n h0 h1 => by rw [IntKind.wrap_i64]; omega) (k + 1) f (by omega) (by omega)).1
      have HF : Hid (flipP fs f g ((k : Int) + 1) = (decide ((k : Int) + 1 ∈ takeL fs f) || (decide ((k + 1) &&& g = g) && (decide ((k + 1) &&& (f ||| g) = k + 1) && !decide ((k + 1) &&& f = f))))) := hid rfl
      obtain ⟨u, hu⟩ : ∃ u, u = f ||| g := ⟨_, rfl⟩
      rw [← hu] at e2 e3 HF
      obtain ⟨p1, hp1⟩ : ∃ p, p = (k + 1) &&& g := ⟨_, rfl⟩
      rw [← hp1] at e1 HF
      obtain ⟨p2, hp2⟩ : ∃ p, p = (k + 1) &&& u := ⟨_, rfl⟩
      rw [← hp2] at e3 HF
      obtain ⟨p3, hp3⟩ : ∃ p, p = (k + 1) &&& f := ⟨_, rfl⟩
      rw [← hp3] at e4 HF
      have HH := hid (has_any V ((k : Int) + 1) al cl (takeL fs f) wr HSl.out hTl)
      obtain ⟨c1, hc1⟩ : ∃ c1, c1 = decide ((k : Int) + 1 ∈ takeL fs f) := ⟨_, rfl⟩
      rw [← hc1] at HH HF
      clear hu hp1 hp2 hp3 hc1 ho64 q1
      cases c1
      · by_cases g1 : p1 = g
        · have d1 : ((p1 : Int) == (g : Int)) = true := by simp [g1]
          by_cases g2 : p2 = k + 1
          · have d2 : ((p2 : Int) == (k : Int) + 1) = true := by simp [g2]
            by_cases g3 : p3 = f
            · have d3 : ((p3 : Int) != (f : Int)) = false := by simp [g3]
              have HP := hid (Hs.out false (by rw [HF.out, decide_eq_true g1, decide_eq_true g2, decide_eq_true g3]; rfl))
              clear HF Hs g1 g2 g3
              go_wp2_with fail
              refine (Hall.out _).mono ?_
              rintro e w4 ⟨rfl, rfl⟩
              go_wp2_with fail
              refine HH.out.mono ?_
              rintro e w5 ⟨rfl, hB5⟩
              have HW5 := hid (HW.out.later hB5)
              have hbs5 := HW5.out.below.size
              obtain ⟨o0, o1, f0, f1⟩ := two_of HW5.out.out
              clear hB5 q0 l0 l1 HH
              go_wp2_with fail
              go_roundw
              case rel => exact ⟨k + 1, a, c, by omega, by go_num, by rw [HP.out, if_neg (by decide), List.append_nil]; exact HW5.out⟩
              case measure => simp [intOf]; omega
            · have d3 : ((p3 : Int) != (f : Int)) = true := by simp; omega
              have HP := hid ((Hs.out true (by rw [HF.out, decide_eq_true g1, decide_eq_true g2, decide_eq_false g3]; rfl)).trans (by rw [if_pos rfl]))
              clear HF Hs g1 g2 g3
              go_wp2_with fail
              refine (Hall.out _).mono ?_
              rintro e w4 ⟨rfl, rfl⟩
              go_wp2_with fail
              refine HH.out.mono ?_
              rintro e w5 ⟨rfl, hB5⟩
              have HW5 := hid (HW.out.later hB5)
              have hbs5 := HW5.out.below.size
              obtain ⟨o0, o1, f0, f1⟩ := two_of HW5.out.out
              clear hB5 q0 l0 l1 HH
              go_wp2_with (at_builtin; refine plain_append_new rfl rfl HW5.out.own (by rfl) hbs5 (by omega) (by rfl) (by rfl) ?_; intro gg cp w6 hown6 hgrow6; obtain ⟨o12, o22⟩ := HW5.out.mid hgrow6)
              go_roundw
              case rel => exact ⟨k + 1, some ⟨gg, 0, none⟩, cp, by omega, by go_num, by rw [HP.out]; simpa using HW5.out.step hown6 hgrow6⟩
              case measure => simp [intOf]; omega
          · have d2 : ((p2 : Int) == (k : Int) + 1) = false := by simp; omega
            have HP := hid (Hs.out false (by rw [HF.out, decide_eq_true g1, decide_eq_false g2]; rfl))
            clear HF Hs g1 g2
            go_wp2_with fail
            refine (Hall.out _).mono ?_
            rintro e w4 ⟨rfl, rfl⟩
            go_wp2_with fail
            refine HH.out.mono ?_
            rintro e w5 ⟨rfl, hB5⟩
            have HW5 := hid (HW.out.later hB5)
            have hbs5 := HW5.out.below.size
            obtain ⟨o0, o1, f0, f1⟩ := two_of HW5.out.out
            clear hB5 q0 l0 l1 HH
            go_wp2_with fail
            go_roundw
            case rel => exact ⟨k + 1, a, c, by omega, by go_num, by rw [HP.out, if_neg (by decide), List.append_nil]; exact HW5.out⟩
            case measure => simp [intOf]; omega
        · have d1 : ((p1 : Int) == (g : Int)) = false := by simp; omega
          have HP := hid (Hs.out false (by rw [HF.out, decide_eq_false g1]; rfl))
          clear HF Hs g1
          go_wp2_with fail
          refine (Hall.out _).mono ?_
          rintro e w4 ⟨rfl, rfl⟩
          go_wp2_with fail
          refine HH.out.mono ?_
          rintro e w5 ⟨rfl, hB5⟩
          have HW5 := hid (HW.out.later hB5)
          have hbs5 := HW5.out.below.size
          obtain ⟨o0, o1, f0, f1⟩ := two_of HW5.out.out
          clear hB5 q0 l0 l1 HH
          go_wp2_with fail
          go_roundw
          case rel => exact ⟨k + 1, a, c, by omega, by go_num, by rw [HP.out, if_neg (by decide), List.append_nil]; exact HW5.out⟩
          case measure => simp [intOf]; omega
      · have HP := hid ((Hs.out true (by rw [HF.out]; rfl)).trans (by rw [if_pos rfl]))
        clear HF Hs
        go_wp2_with fail
        refine (Hall.out _).mono ?_
        rintro e w4 ⟨rfl, rfl⟩
        go_wp2_with fail
        refine HH.out.mono ?_
        rintro e w5 ⟨rfl, hB5⟩
        have HW5 := hid (HW.out.later hB5)
        have hbs5 := HW5.out.below.size
        obtain ⟨o0, o1, f0, f1⟩ := two_of HW5.out.out
        clear hB5 q0 l0 l1 HH
        go_wp2_with (at_builtin; refine plain_append_new rfl rfl HW5.out.own (by rfl) hbs5 (by omega) (by rfl) (by rfl) ?_; intro gg cp w6 hown6 hgrow6; obtain ⟨o12, o22⟩ := HW5.out.mid hgrow6)
        go_roundw
        case rel => exact ⟨k + 1, some ⟨gg, 0, none⟩, cp, by omega, by go_num, by rw [HP.out]; simpa using HW5.out.step hown6 hgrow6⟩
        case measure => simp [intOf]; omega
    · have hd : decide ((k : Int) + 1 ≤ (A : Int)) = false := decide_eq_false (by omega)
      have HE : Hid (pickTo (flipP fs f g) k = flipL V fs f g) := hid (by unfold flipL; rw [← HA.out, Int.toNat_natCast, show A = k by omega])
      have RW := hid ((HW.out.below.block _ (lt_get RL.out)).trans RL.out)
      have hRes : Res w wr (.slice a (pickTo (flipP fs f g) k).length c) (pickTo (flipP fs f g) k) := ⟨ownsRow_base HW.out.own HBL.out.size, HBL.out.trans (HW.out.below.mono HBL.out.size)⟩
      have HRes := hid hRes
      obtain ⟨r0, r1, s0, s1⟩ := two_of RW.out
      obtain ⟨o0, o1, _, _⟩ := two_of HW.out.out
      clear hRes
      go_wp2_with fail
      refine (Hall.out _).mono ?_
      rintro e w4 ⟨rfl, rfl⟩
      go_wp2_with fail
      (try simp only [Exit.inBlock, Exit.then])
      have R5 := two_of (two_set RW.out (.int .i64 V) (.slice a (pickTo (flipP fs f g) k).length c))
      rw [← HE.out]
      refine done_cx (p := 4) (u := 5) (by kernel_rfl) rfl rfl R5.1 R5.2.1 rfl ⟨_, rfl, ?_⟩
      exact HRes.out.set2 RW.out (by decide) (by omega) _ _

set_option maxRecDepth 100000 in
set_option maxHeartbeats 2000000 in
theorem specFlipOf (V : Int) (a : Option Addr) (cap : Nat) (fs : List Int) (d : Int) (_wd : (Lit.int .i64 d).wf = true) (w : World) (hx : SlI w w.heap.size a fs) (hl : fs.length ≤ 1048576) :
    Calls Try.prog 29 #[.agg #[.int .i64 V, .slice a fs.length cap], .int .i64 d] w fun e w' => ∃ v, e = .returned (.tuple #[.agg #[.int .i64 (flipR V fs d).1, v], .int .i64 (flipR V fs d).2.2]) ∧ Res w w' v (flipR V fs d).2.1 := by
  have hB0 : Below w.heap.size w ((w.alloc (.cells #[.int .i64 V, .slice a fs.length cap] 30)).alloc (.cells #[.int .i64 0, .slice none 0 0] 30)) := ((Below.refl _ w).alloc (Nat.le_refl _) _).alloc (by simp) _
  have Hx := hid (hx.later hB0 (by simp <;> omega))
  by_cases hC : IsC V fs
  · have HC := hid hC
    by_cases hd : d ∈ fs
    · have hdr := hC.range63 d hd
      obtain ⟨f, rfl⟩ : ∃ s : Nat, d = s := ⟨d.toNat, by omega⟩
      have hf : f < 64 := by omega
      by_cases hg0 : otherN fs f (missL V fs) = 0
      · refine cx_mono (show flipR V fs (f : Int) = (0, [], 5) by unfold flipR; rw [isCB_true hC, if_pos rfl, if_pos hd, Int.toNat_natCast, if_pos hg0]) ?_
        have Hd := hid hd
        have HO := hid (fun W (h : Below w.heap.size w W) => other_any V a cap fs f W (hx.later h h.size) hl hC hf)
        rw [hg0] at HO
        clear hC hd hx hg0
        go_enter Try.func29, Try.ntmps29
        go_wp2_with fail
        refine (face_yes V a cap fs _ _ Hx.out hl HC.out Hd.out).mono ?_
        rintro e w1 ⟨rfl, hB1⟩
        have q0 := (hB1.block w.heap.size (by simp <;> omega)).trans ((Below.heap_alloc _ (.cells #[.int .i64 0, .slice none 0 0] 30) _ (by simp)).trans (heap_alloc_new w (.cells #[.int .i64 V, .slice a fs.length cap] 30)))
        have r1 : w1.heap[w.heap.size + 1]? = some (.cells #[.int .i64 0, .slice none 0 0] 30 (0, 0)) := (hB1.block _ (by simp <;> omega)).trans (new2 _ _ _)
        have HB1 := hid (hB0.trans (hB1.mono (by simp <;> omega)))
        obtain ⟨k0, k1, _, _⟩ := two_of q0
        have R1 := hid r1
        clear hB0 hB1 q0 r1
        go_wp2_with fail
        refine (HO.out w1 HB1.out).mono ?_
        rintro e w2 ⟨rfl, hB2⟩
        have HB2 := hid (HB1.out.trans (hB2.mono HB1.out.size))
        have R2 := hid ((hB2.block _ (lt_get R1.out)).trans R1.out)
        obtain ⟨c0, c1, f0, f1⟩ := two_of R2.out
        clear hB2 k0 k1 R1 HB1
        go_wp2_with fail
        (try simp only [Exit.inBlock, Exit.then])
        have R3 := two_of (two_set R2.out (.int .i64 0) (.slice none 0 0))
        refine done_cx (p := 4) (u := 5) (by kernel_rfl) rfl rfl R3.1 R3.2.1 rfl ⟨_, rfl, ?_⟩
        exact (res_nil _ _ HB2.out).set2 R2.out (by decide) (by omega) _ _
      · obtain ⟨g, hg⟩ : ∃ g, g = otherN fs f (missL V fs) := ⟨_, rfl⟩
        have hgr : 1 ≤ g ∧ g ≤ 63 := by
          rw [hg]
          rw [← hg] at hg0
          unfold otherN at hg ⊢
          cases hq : (missL V fs).find? (fun g => servesB fs f g.toNat) with
          | none => rw [hq] at hg; exact absurd hg hg0
          | some y =>
            have hm := List.mem_of_find?_eq_some hq
            unfold missL at hm
            have := (mem_pickTo _).1 hm
            have hA := allV_le hC.hi
            simp only [Option.getD_some]
            omega
        obtain ⟨n, rfl⟩ : ∃ n : Nat, g = (n : Int) := ⟨g.toNat, by omega⟩
        refine cx_mono (show flipR V fs (f : Int) = (V, flipL V fs f n, 0) by unfold flipR; rw [isCB_true hC, if_pos rfl, if_pos hd, Int.toNat_natCast, if_neg hg0, ← hg, Int.toNat_natCast]) ?_
        exact flipS_ok V a cap fs f w hx hl hC hd hf n hg.symm (by omega) (by omega)
    · refine cx_mono (show flipR V fs d = (0, [], 2) by unfold flipR; rw [isCB_true hC, if_pos rfl, if_neg hd]) ?_
      clear hC
      go_enter Try.func29, Try.ntmps29
      go_wp2_with fail
      refine (face_no V a cap fs _ _ Hx.out hl HC.out hd).mono ?_
      rintro e w1 ⟨rfl, hB1⟩
      have r1 : w1.heap[w.heap.size + 1]? = some (.cells #[.int .i64 0, .slice none 0 0] 30 (0, 0)) := (hB1.block _ (by simp <;> omega)).trans (new2 _ _ _)
      have hB01 := hB0.trans (hB1.mono (by simp <;> omega))
      obtain ⟨c0, c1, f0, f1⟩ := two_of r1
      have R1 := hid r1
      clear r1
      go_wp2_with fail
      (try simp only [Exit.inBlock, Exit.then])
      have R3 := two_of (two_set R1.out (.int .i64 0) (.slice none 0 0))
      refine done_cx (p := 4) (u := 5) (by kernel_rfl) rfl rfl R3.1 R3.2.1 rfl ⟨_, rfl, ?_⟩
      exact (res_nil _ _ hB01).set2 R1.out (by decide) (by omega) _ _
  · refine cx_mono (show flipR V fs d = (0, [], 1) by unfold flipR; rw [isCB_false hC, if_neg (by simp)]) ?_
    go_enter Try.func29, Try.ntmps29
    go_wp2_with fail
    refine (face_bad V a cap fs _ _ Hx.out hl hC).mono ?_
    rintro e w1 ⟨rfl, hB1⟩
    have r1 : w1.heap[w.heap.size + 1]? = some (.cells #[.int .i64 0, .slice none 0 0] 30 (0, 0)) := (hB1.block _ (by simp <;> omega)).trans (new2 _ _ _)
    have hB01 := hB0.trans (hB1.mono (by simp <;> omega))
    obtain ⟨c0, c1, f0, f1⟩ := two_of r1
    have R1 := hid r1
    clear r1
    go_wp2_with fail
    (try simp only [Exit.inBlock, Exit.then])
    have R3 := two_of (two_set R1.out (.int .i64 0) (.slice none 0 0))
    refine done_cx (p := 4) (u := 5) (by kernel_rfl) rfl rfl R3.1 R3.2.1 rfl ⟨_, rfl, ?_⟩
    exact (res_nil _ _ hB01).set2 R1.out (by decide) (by omega) _ _

end Go.Proofs.Ytgefpllmelpahaa

/-! The signs of the sides of a face, the model's. -/
namespace Go.Proofs.Ytgefpllmelpahaa
open Go.RowKit

/-- The first j signs of a face with n + 1 vertices. -/
def sgTo (n j : Nat) : List Int := (List.range j).map fun i => 1 - 2 * (((n - i) % 2 : Nat) : Int)
def signL (f : Nat) : List Int := if ones f = 1 then [] else sgTo (ones f - 1) (ones f)
theorem sgTo_succ (n j : Nat) : sgTo n (j + 1) = sgTo n j ++ [1 - 2 * (((n - j) % 2 : Nat) : Int)] := by simp [sgTo, List.range_succ]
theorem sgTo_len (n j : Nat) : (sgTo n j).length = j := by simp [sgTo]

set_option maxRecDepth 100000 in
set_option maxHeartbeats 1000000 in
theorem signs_any (f : Nat) (w : World) (hf : f < 64) (h0 : f ≠ 0) :
    Calls Try.prog 234 #[.int .i64 (f : Int)] w fun e w' => ∃ v, e = .returned v ∧ Res w w' v (signL f) := by
  have hown0 := World.ownsRow_made (base := w.heap.size) (e := 2) (size := 1) w #[] 0 (by simp) (by simp [maxLen]) rfl
  have Hown0 := hid hown0
  have hop := ones_pos ⟨f, hf⟩ h0
  have ho := ones_le f
  obtain ⟨n, hn⟩ : ∃ n, ones f = n + 1 := ⟨ones f - 1, by have : 0 < ones f := hop; omega⟩
  have HO : Hid (∀ w, Calls Try.prog 130 #[.int .i64 (f : Int)] w fun e w' => e = .returned (.int .i64 ((n : Int) + 1)) ∧ w = w') := hid (fun w => (ones_any f w hf).mono fun _ _ ⟨he, hw⟩ => ⟨by rw [he, hn]; rfl, hw⟩)
  have hn5 : n ≤ 5 := by omega
  have hsg : signL f = if n = 0 then [] else sgTo n (n + 1) := by unfold signL; rw [hn]; simp
  rw [hsg]
  clear hown0 hop ho hn hsg
  by_cases hz : n = 0
  · subst hz
    go_enter Try.func234, Try.ntmps234
    go_wp2_with (go_at_call 130; refine (HO.out _).mono ?_; rintro e w' ⟨rfl, rfl⟩)
    go_ret
    exact ⟨_, rfl, by simpa using Hown0.out, (Below.refl _ w).alloc (Nat.le_refl _) _⟩
  · rw [if_neg hz]
    have hd : ((n : Int) == 0) = false := beq_eq_false_iff_ne.2 (by omega)
    clear hz
    go_enter Try.func234, Try.ntmps234
    go_wp2_with (go_at_call 130; refine (HO.out _).mono ?_; rintro e w' ⟨rfl, rfl⟩)
    go_loopw [3, 4] (fun v p wr => ∃ j : Nat, j ≤ n + 1 ∧ p = .int .i64 ((n : Int) - j) ∧ wr.ownsRow w.heap.size 2 1 v (sgTo n j).length ((sgTo n j).map (Value.int .i64)) ∧ Below w.heap.size w wr) (fun _ p _ => (intOf p + 1).toNat)
    case atStart => exact ⟨0, Nat.zero_le _, by simp, by simpa [sgTo] using Hown0.out, (Below.refl _ w).alloc (Nat.le_refl _) _⟩
    case round =>
      obtain ⟨j, hj, rfl, hown, hB⟩ := hrel
      have HB := hid hB
      have Hown := hid hown
      have Hsz := hid hB.size
      have hle := sgTo_len n j
      by_cases hjn : j = n + 1
      · subst hjn
        have e : (n : Int) - ((n + 1 : Nat) : Int) = -1 := by omega
        rw [e]
        clear e hown hB
        go_wp2
        go_ret
        exact ⟨_, rfl, Hown.out, HB.out⟩
      · obtain ⟨q, hq⟩ : ∃ q : Nat, n = q + j := ⟨n - j, by omega⟩
        have e : (n : Int) - (j : Int) = (q : Int) := by omega
        have He : Hid (((n : Int) - ((j + 1 : Nat) : Int)) = (q : Int) - 1) := hid (by omega)
        have hs := sgTo_succ n j
        rw [show n - j = q by omega] at hs
        rw [e]
        have hq0 : (0 : Int) ≤ (q : Int) := by omega
        have hqw : IntKind.i64.wrap ((q : Int) - 1) = (q : Int) - 1 := by rw [IntKind.wrap_i64]; omega
        have hmod : (q : Int).tmod 2 = ((q % 2 : Nat) : Int) := by rw [Int.tmod_eq_emod_of_nonneg (by omega)]; omega
        rcases Nat.mod_two_eq_zero_or_one q with h2 | h2
        · rw [h2] at hmod hs
          have Hs := hid hs
          clear e hown hB hs h2 hq
          have hmod' : (q : Int).tmod 2 = 0 := hmod
          clear hmod
          · skip
            go_wp2_with (at_builtin; refine append_int rfl rfl Hown.out Hsz.out (by omega) rfl rfl ?_; intro v' w2 hown2 hgrow2 hB2)
            go_roundw
            case rel => exact ⟨j + 1, by omega, by rw [He.out], by rw [Hs.out]; exact hown2, HB.out.trans hB2⟩
            case measure => simp [intOf] <;> omega
        · rw [h2] at hmod hs
          have Hs := hid hs
          clear e hown hB hs h2 hq
          have hmod' : (q : Int).tmod 2 = 1 := hmod
          clear hmod
          · skip
            go_wp2_with (at_builtin; refine append_int rfl rfl Hown.out Hsz.out (by omega) rfl rfl ?_; intro v' w2 hown2 hgrow2 hB2)
            go_roundw
            case rel => exact ⟨j + 1, by omega, by rw [He.out], by rw [Hs.out]; exact hown2, HB.out.trans hB2⟩
            case measure => simp [intOf] <;> omega

/-- What SignsOf hands back. -/
noncomputable def signsOfR (V : Int) (fs : List Int) (f : Int) : List Int × Int := if isCB V fs then (if f ∈ fs then (signL f.toNat, 0) else ([], 2)) else ([], 1)

theorem signsOfR_len (V : Int) (fs : List Int) (f : Int) (_h : fs.length ≤ 1048576) : (signsOfR V fs f).1.length ≤ 1048576 := by
  unfold signsOfR
  have := ones_le f.toNat
  split
  · split
    · unfold signL
      split
      · simp
      · simp only [sgTo_len]; omega
    · simp
  · simp

theorem sign_mono {P : Program} {fn : FuncId} {args : Array Value} {w : World} {r : List Int × Int} {xs : List Int} {c : Int} (hr : r = (xs, c))
    (h : Calls P fn args w fun e w' => ∃ v, e = .returned (.tuple #[v, .int .i64 c]) ∧ Res w w' v xs) : Calls P fn args w fun e w' => ∃ v, e = .returned (.tuple #[v, .int .i64 r.2]) ∧ Res w w' v r.1 := by
  subst hr; exact h

end Go.Proofs.Ytgefpllmelpahaa

/-! The sides of a face with their signs: an iterator over an iterator. -/
namespace Go.Proofs.Ytgefpllmelpahaa
open Go.RowKit Go.Shelf

attribute [local go_sem] Oper.semAt_some

theorem sides_P (n : Nat) (hn : 1 ≤ n) (B0 f : Nat) (hf : f < 64) (w : World) (hB : B0 < w.heap.size)
    (hc : w.heap[B0]? = some (.cells #[.int .i64 (f : Int)] 2 (0, 0))) :
    SeqStopsP Fence.wide n Try.prog 215 #[.pointer (some ⟨B0, 0, none⟩)] (fun x : Fin 64 => #[Value.int .i64 (x.val : Int)]) [B0] 0 (sidesF f) w :=
  fun l J Jx W hW hJ _ hY h0 => (sides1_in n hn l B0 f hf (fun pre W1 => J pre W1 ∧ W.heap.size ≤ W1.heap.size) Jx
    (fun pre x W1 hj hp => YieldAt.mono (hY pre x W1 hp hj.2 hj.1) (fun e W' ⟨hk, h⟩ => by
      rcases h with ⟨he, hj'⟩ | ⟨he, hj'⟩
      · exact .inl ⟨he, ⟨hj', Nat.le_trans hj.2 hk.size⟩, hk.same B0 (.inl (by simp))⟩
      · exact .inr ⟨he, hj'⟩))
    (fun pre W m h => ⟨hJ.drewN m h.1, h.2⟩) W ((hW.block B0 hB).trans hc) ⟨h0, Nat.le_refl _⟩).mono (by
      rintro e W' ⟨hv, ⟨ys, rfl, hj⟩ | ⟨pre, hp, hj⟩⟩
      · exact ⟨hv, .inl hj.1⟩
      · exact ⟨hv, .inr ⟨pre, hp, hj⟩⟩)

/-- Sides with their signs. -/
def sgN (j : Nat) : Int := if j % 2 = 0 then 1 else -1
def signedL : Nat → List (Fin 64) → List (Fin 64 × Int)
  | _, [] => []
  | j, x :: l => (x, sgN j) :: signedL (j + 1) l
theorem signedL_append (l l' : List (Fin 64)) : ∀ j, signedL j (l ++ l') = signedL j l ++ signedL (j + l.length) l' := by
  induction l with
  | nil => intro j; simp [signedL]
  | cons x l ih => intro j; simp [signedL, ih, Nat.add_assoc, Nat.add_comm 1]
theorem signedL_snoc (l : List (Fin 64)) (x : Fin 64) : signedL 0 (l ++ [x]) = signedL 0 l ++ [(x, sgN l.length)] := by rw [signedL_append]; simp [signedL]
theorem signedL_len (l : List (Fin 64)) : ∀ j, (signedL j l).length = l.length := by
  induction l with
  | nil => intro j; rfl
  | cons x l ih => intro j; simp [signedL, ih]
theorem signedL_prefix {l l' : List (Fin 64)} (h : l <+: l') : signedL 0 l <+: signedL 0 l' := by
  obtain ⟨t, rfl⟩ := h
  rw [signedL_append]
  exact List.prefix_append _ _
theorem sgN_succ (j : Nat) : sgN (j + 1) = -sgN j := by
  unfold sgN
  rcases Nat.mod_two_eq_zero_or_one j with h | h <;> simp [h, Nat.add_mod]
theorem sgN_abs (j : Nat) : -1 ≤ sgN j ∧ sgN j ≤ 1 := by unfold sgN; split <;> omega
theorem sgN_neg (j : Nat) : wrap64 (-sgN j) = sgN (j + 1) := by
  rw [sgN_succ]
  have := sgN_abs j
  exact IntWalk.wrap64_in _ ⟨by omega, by omega⟩
def signedF (f : Nat) : List (Fin 64 × Int) := signedL 0 (sidesF f)

set_option maxHeartbeats 1000000 in
/-- signedSides: its argument is boxed; the function value captures the box. -/
theorem signedSides_in (n : Nat) (x : Int) (w : World) :
    CallsIn Fence.wide n Try.prog 251 #[.int .i64 x] w fun e w' => e = .returned (.func (.func 273) #[] #[.pointer (some ⟨w.heap.size, 0, none⟩)]) ∧ w' = w.alloc (.cells #[.int .i64 x] 2) := by
  refine callsIn_of_wp Try.func251 rfl trivial ?_ rfl
  simp only [Try.ntmps251, List.size_toArray, List.length_cons, List.length_nil, Nat.reduceAdd, Nat.reduceSub, Array.replicate_succ, Array.replicate_zero, List.push_toArray, List.append_toArray, List.nil_append, List.cons_append]
  gi_wp2
  go_ret
  exact ⟨rfl, rfl⟩

theorem yieldAny {m : Nat} (m' : Nat) {P : Program} {l : Nat} {args : Array Value} {W : World} {R : Ending → World → Prop} (h : YieldAt Fence.wide m P l args W R) : YieldAt Fence.wide m' P l args W R := by
  obtain ⟨fn, tmps, assign, body, hy, hR⟩ := h
  exact ⟨fn, tmps, assign, body, hy, ⟨hR.1, fun c cs _ => hR.2 c cs (fun d hd => by cases hd)⟩⟩
theorem yieldRound {m l0 : Nat} {P : Program} {l : Nat} {args : Array Value} {W : World} {R : Ending → World → Prop} (h : YieldAt Fence.wide m P l args W R) : YieldAt (Fence.wide.inRound l0) m P l args W R := h

theorem shut_grown {Ds : List Nat} {D : Nat} {w w' : World} (h : Shut Ds w w') (hD : ∀ E ∈ Ds, E = D) : w.grownBy w' (some D) :=
  ⟨h.os, h.tape, h.output, by rw [h.size]; exact Nat.le_refl _, fun k _ hk => h.block k (fun hm => hk (by rw [hD k hm]))⟩

set_option maxRecDepth 100000 in
set_option maxHeartbeats 2000000 in
/-- Its iterator. -/
theorem signed_P (n : Nat) (hn : 4 ≤ n) (B0 f : Nat) (hf : f < 64) (w : World) (hB : B0 < w.heap.size)
    (hc : w.heap[B0]? = some (.cells #[.int .i64 (f : Int)] 2 (0, 0))) :
    SeqStopsP Fence.wide n Try.prog 273 #[.pointer (some ⟨B0, 0, none⟩)] (fun x : Fin 64 × Int => #[Value.int .i64 (x.1.val : Int), .int .i64 x.2]) [B0] 5 (signedF f) w := by
  intro l J Jx W hW hJ hJx hY h0
  have hcW := (hW.block B0 hB).trans hc
  have c0 := (box_cell hcW).1
  have hBW : B0 < W.heap.size := lt_of_get hcW
  have HY := hid hY
  have Hc := hid hcW
  have h1 : 1 ≤ n := by omega
  clear hY hc hcW
  show CallsIn Fence.wide n Try.prog 273 #[.func (.yield l) #[] #[], .pointer (some ⟨B0, 0, none⟩)] W _
  refine callsIn_of_wp_marks Try.func273 rfl trivial ?_ rfl
  simp only [Try.ntmps273, List.size_toArray, List.length_cons, List.length_nil, Nat.reduceAdd, Nat.reduceSub, Array.replicate_succ, Array.replicate_zero, List.push_toArray, List.append_toArray, List.nil_append, List.cons_append]
  gi_wp2_with (first
    | (refine ⟨trivial, ?_⟩; gi_at_call 154; refine (sides_in _ _ _).mono ?_; rintro e w' ⟨rfl, rfl⟩))
  have hb1 := heap_alloc_new W (.cells #[.func (.yield l) #[] #[]] 242)
  have hb2 := heap_alloc_new (W.alloc (.cells #[.func (.yield l) #[] #[]] 242)) (.cells #[.int .i64 1] 2)
  have hb3 := heap_alloc_new ((W.alloc (.cells #[.func (.yield l) #[] #[]] 242)).alloc (.cells #[.int .i64 1] 2)) (.cells #[.int .i64 (f : Int)] 2)
  rw [World.size_alloc] at hb2
  rw [World.size_alloc, World.size_alloc] at hb3
  have hJ3 := hJ.alloc (.cells #[.int .i64 (f : Int)] 2) (hJ.alloc (.cells #[.int .i64 1] 2) (hJ.alloc (.cells #[.func (.yield l) #[] #[]] 242) h0))
  refine wpIn_rangeFunc_P rfl h1 (gf := 215) (lb := #[.pointer (some ⟨W.heap.size + 1 + 1, 0, none⟩)]) rfl trivial (enters_of Try.func215 (by kernel_rfl) rfl)
    (sides_P (n - 1) (by omega) (W.heap.size + 1 + 1) f hf _ (by simp) hb3) (by simp) (Below.refl _ _) (fun _ => rfl)
    (fun pre W' => J (signedL 0 pre) W' ∧ W'.heap[W.heap.size]? = some (.cells #[.func (.yield l) #[] #[]] 242 (0, 0)) ∧ W'.heap[W.heap.size + 1]? = some (.cells #[.int .i64 (sgN pre.length)] 2 (0, 0)))
    (fun c _ W' => c = .ret ∧ ∃ q, q <+: signedF f ∧ Jx q W')
    (OwnIn.and ((hJ.map (signedL 0)).less (by simp <;> omega) (by simp <;> omega)) (OwnIn.and (ownIn_block (β := List (Fin 64)) (fun _ => _) (by simp <;> omega)) (ownIn_block (β := List (Fin 64)) (fun s => .cells #[.int .i64 (sgN s.length)] 2 (0, 0)) (by simp <;> omega))))
    (fun c s A B row hs hg hr => ⟨hs.1, by obtain ⟨q, hq, hx⟩ := hs.2; exact ⟨q, hq, (hJx.less (by simp <;> omega) (by simp <;> omega)) q A B row hx hg hr⟩⟩)
    ⟨hJ3, ?_, ?_⟩
    (fun x => { tmps := #[.func (.yield l) #[] #[], .pointer (some ⟨B0, 0, none⟩), .pointer (some ⟨W.heap.size, 0, none⟩), .pointer (some ⟨W.heap.size + 1, 0, none⟩), .int .i64 (x.val : Int), .int .i64 (f : Int), .func (.func 215) #[] #[.pointer (some ⟨W.heap.size + 1 + 1, 0, none⟩)], .int .i64 (x.val : Int), undef, undef, undef, undef, undef, undef, undef], defers := [] }) ?assign ?body ?done ?stop
  · exact (Below.heap_alloc _ _ _ (by simp <;> omega)).trans ((Below.heap_alloc _ _ _ (by simp <;> omega)).trans hb1)
  · exact (Below.heap_alloc _ _ _ (by simp <;> omega)).trans hb2
  case assign =>
    intro l' x W3 K hK
    gi_wp2
    exact hK
  case body =>
    rintro l' pre x W3 hpre hsz ⟨hj, hyb, hsb⟩
    simp only [World.size_alloc] at hsz
    have cy := (box_cell hyb).1
    obtain ⟨cs, fs⟩ := box_cell hsb
    have e : signedL 0 pre ++ [(x, sgN pre.length)] = signedL 0 (pre ++ [x]) := (signedL_snoc pre x).symm
    have hys := HY.out (signedL 0 pre) (x, sgN pre.length) W3 (by rw [e]; exact signedL_prefix hpre) (by omega) hj
    rw [e] at hys
    have hab := sgN_abs pre.length
    have Hpre := hid (signedL_prefix hpre)
    obtain ⟨sg, hsg⟩ : ∃ sg, sg = sgN pre.length := ⟨_, rfl⟩
    have Hneg : Hid (wrap64 (-sg) = sgN (pre ++ [x]).length) := hid (by rw [hsg, sgN_neg]; simp)
    rw [← hsg] at cs hab hys
    obtain ⟨hab0, hab1⟩ := hab
    have Hsb := hid hsb
    have Hyb := hid hyb
    clear e hsb hyb hsg hj hpre
    obtain ⟨fn, tmps, assign, body, hy, hR⟩ := yieldRound (l0 := l') (yieldAny (n - 1 - 1 - 1) hys)
    dsimp only at hy
    gi_wp2
    refine ⟨fun _ => by omega, hR.mono ?_⟩
    rintro e W4 ⟨hk, (⟨rfl, hj4⟩ | ⟨rfl, hx4⟩)⟩
    · have hsb4 := (hk.same (W.heap.size + 1) (.inr ⟨by omega, by omega⟩)).trans Hsb.out
      have hyb4 := (hk.same W.heap.size (.inr ⟨by omega, by omega⟩)).trans Hyb.out
      obtain ⟨cs4, fs4⟩ := box_cell hsb4
      have Hsb4 := hid hsb4
      have Hyb4 := hid hyb4
      have Hk := hid hk
      clear hsb4 hyb4 hk
      gi_wp2
      refine ⟨?_, ?_⟩
      · exact (Hk.out.less (fun b hb => by simp at hb; subst hb; exact .inr ⟨by omega, by omega⟩) (by simp <;> omega) (by simp <;> omega)).trans (KeepP.setCell _ _ _ _ (by simp <;> omega))
      · refine ⟨hJ _ W4 _ (some (W.heap.size + 1)) hj4 (grownBy_set W4 ⟨W.heap.size + 1, 0, none⟩ _) (fun r e => by cases e; exact ⟨by omega, .inl (by omega)⟩), (Below.heap_setCell _ _ _ _ (by simp)).trans Hyb4.out, ?_⟩
        have e := Hsb4.out
        simp only [World.setCell, Array.getElem?_modify, e]
        rw [sgN_neg]
        simp
    · gi_wp2
      exact ⟨hk.less (fun b hb => by simp at hb; subst hb; exact .inr ⟨by omega, by omega⟩) (by simp <;> omega) (by simp <;> omega), rfl, _, Hpre.out, hx4⟩
  case done =>
    rintro W3 ⟨hj, _, _⟩ hD
    simp only [World.size_alloc] at hD
    gi_wp2
    refine leaves_marks (by simp) [_] _ (by simp) (fun D hD' => by simp only [List.mem_singleton] at hD'; subst hD'; simp only [World.size_alloc]; exact hD) (fun w' hw' => ?_)
    exact ⟨_, results_none rfl _ _ _, ⟨_, rfl⟩, .inl (hJ _ W3 w' (some (W.heap.size + 3)) hj (shut_grown hw' (by simp)) (fun r e => by cases e; exact ⟨by omega, .inl (by omega)⟩))⟩
  case stop =>
    rintro c pre W3 hpre ⟨rfl, q, hq, hx⟩ hD
    simp only [World.size_alloc] at hD
    gi_wp2
    refine leaves_marks (by simp) [_] _ (by simp) (fun D hD' => by simp only [List.mem_singleton] at hD'; subst hD'; simp only [World.size_alloc]; exact hD) (fun w' hw' => ?_)
    exact ⟨_, results_none rfl _ _ _, ⟨_, rfl⟩, .inr ⟨q, hq, hJx _ W3 w' (some (W.heap.size + 3)) hx (shut_grown hw' (by simp)) (fun r e => by cases e; exact ⟨by omega, .inl (by omega)⟩)⟩⟩

end Go.Proofs.Ytgefpllmelpahaa

/-! flipped: a face flipped by a missing one; the program's. -/
namespace Go.Proofs.Ytgefpllmelpahaa
open Go.RowKit Go.Shelf

attribute [local go_sem] Oper.semAt_some

/-- 'append' of a number inside a fence; where the row lies afterwards. -/
theorem append_intF {F : Fence} {nF : Nat} {w : World} {ops : Array Oper} {rest : List Oper} {o : Oper} {a : Act} {Q : Exit → Act → World → Prop} (hgd : o.guard = none) {s y : Operand}
    (ho : o.op = .call { callee := .builtin .append, args := #[s, y], argTypes := #[22, 22] })
    {base : Nat} {v : Value} {L : List Int} {x : Int} (hown : w.ownsRow base 2 1 v L.length (L.map (Value.int .i64))) (hbase : base ≤ w.heap.size) (hl : L.length ≤ 1099511627776)
    (hs : a.eval s = v) (hy : a.eval y = .slice (some ⟨w.heap.size, 0, none⟩) 1 1)
    (hK : ∀ v' w', w'.ownsRow base 2 1 v' (L ++ [x]).length ((L ++ [x]).map (Value.int .i64)) → w.grownBy w' v.ownBlock → (v'.ownBlock = v.ownBlock ∨ ∃ k, v'.ownBlock = some k ∧ w.heap.size < k) → wpListIn F nF Try.prog ops Q rest (a.put o.dst v') w') :
    wpListIn F nF Try.prog ops Q (o :: rest) a (w.alloc (.cells #[.int .i64 x] 2)) := by
  obtain ⟨i0, hi, hz0, hz1, hz2⟩ := info_parts info_i64
  refine wpListIn_append_own_at _ hgd s y 22 ho base 2 i0 (.int .i64 0) 1 8 Try.underlying22 hi hz0 hz1 hz2 rfl (by decide) v _ _ hs (hown.alloc _) ⟨w.heap.size, 0, none⟩ 1 1 [.int .i64 x] hy rfl (cell_one_new _ _ _) (by simp [Value.oneCell']) (by unfold maxLen; omega) (by omega) (by simp; omega) ?_
  intro v' w1 hown1 hgrow1 _ hat
  refine hK v' w1 (by simpa using hown1) ((World.grownBy_alloc w _ _).trans hgrow1) ?_
  rcases hat with h | h
  · exact .inl h
  · exact .inr ⟨_, h, by simp⟩

/-- The worlds of flipped: its boxes, and the sets in the variable in block c7. -/
structure FpW (w W : World) (V : Int) (sl : Value) (f g : Int) (c7 : Nat) (v : Value) (xs : List Int) : Prop where
  below : Below w.heap.size w W
  k3 : W.heap[w.heap.size]? = some (.cells #[.int .i64 V, sl] 30 (0, 0))
  k4 : W.heap[w.heap.size + 1]? = some (.cells #[.int .i64 f] 2 (0, 0))
  k5 : W.heap[w.heap.size + 1 + 1]? = some (.cells #[.int .i64 g] 2 (0, 0))
  k6 : W.heap[w.heap.size + 1 + 1 + 1]? = some (.cells #[.int .i64 0, .slice none 0 0] 30 (0, 0))
  k7 : W.heap[c7]? = some (.cells #[v] 22 (0, 0))
  row : W.ownsRow (w.heap.size + 4) 2 1 v xs.length (xs.map (Value.int .i64))
  b7 : w.heap.size + 4 ≤ c7

theorem FpW.grown {w W W' : World} {V : Int} {sl : Value} {f g : Int} {c7 : Nat} {v : Value} {xs : List Int} (h : FpW w W V sl f g c7 v xs) {row : Option Nat} (hg : W.grownBy W' row) (hr : ∀ r, row = some r → w.heap.size + 4 ≤ r ∧ r ≠ c7 ∧ v.ownBlock ≠ some r) : FpW w W' V sl f g c7 v xs where
  below := h.below.grown hg h.below.size (fun r e => by have := (hr r e).1; omega)
  k3 := (hg.block _ (lt_get h.k3) (fun e => by have := (hr _ e.symm).1; omega)).trans h.k3
  k4 := (hg.block _ (lt_get h.k4) (fun e => by have := (hr _ e.symm).1; omega)).trans h.k4
  k5 := (hg.block _ (lt_get h.k5) (fun e => by have := (hr _ e.symm).1; omega)).trans h.k5
  k6 := (hg.block _ (lt_get h.k6) (fun e => by have := (hr _ e.symm).1; omega)).trans h.k6
  k7 := (hg.block _ (lt_get h.k7) (fun e => (hr _ e.symm).2.1 rfl)).trans h.k7
  row := h.row.kept hg (by
    cases hv : v.ownBlock with
    | none => exact .inl rfl
    | some g => exact .inr (fun e => (hr g e.symm).2.2 hv))
  b7 := h.b7
/-- One set more. -/
theorem FpW.step {w W W' : World} {V : Int} {sl : Value} {f g : Int} {c7 : Nat} {v v' : Value} {xs : List Int} {x : Int} (h : FpW w W V sl f g c7 v xs) (ho : W'.ownsRow (w.heap.size + 4) 2 1 v' (xs ++ [x]).length ((xs ++ [x]).map (Value.int .i64))) (hg : W.grownBy W' v.ownBlock) :
    FpW w (W'.setCell ⟨c7, 0, none⟩ v') V sl f g c7 v' (xs ++ [x]) := by
  have hne := row_ne h.row h.k7 (by decide)
  have hb := h.b7
  have hk : ∀ b o, b ≠ c7 → some b ≠ v.ownBlock → W.heap[b]? = some o → (W'.setCell ⟨c7, 0, none⟩ v').heap[b]? = some o := fun b o h1 h2 h3 =>
    (Below.heap_setCell _ _ _ _ (by simpa using h1)).trans ((hg.block _ (lt_get h3) h2).trans h3)
  have h7 := (hg.block _ (lt_get h.k7) hne).trans h.k7
  have hlow : ∀ b, b < w.heap.size + 4 → some b ≠ v.ownBlock := fun b hb e => by have := (h.row.lt b e.symm).1; omega
  refine ⟨(h.below.grown hg h.below.size (fun r e => by have := (h.row.lt r e).1; omega)).setCell (p := ⟨c7, 0, none⟩) (by simp only; omega) _, hk _ _ (by omega) (hlow _ (by omega)) h.k3, hk _ _ (by omega) (hlow _ (by omega)) h.k4, hk _ _ (by omega) (hlow _ (by omega)) h.k5, hk _ _ (by omega) (hlow _ (by omega)) h.k6, ?_, ?_, hb⟩
  · simp only [World.setCell, Array.getElem?_modify, h7]
    simp
  · exact ownsRow_set ho (by have := row_ne ho h7 (by decide); exact fun e => this e.symm) _

/-- What is held of the world while the sets are begun. -/
structure FpS (w W : World) (V : Int) (sl : Value) (f g : Int) : Prop where
  below : Below w.heap.size w W
  sz : w.heap.size + 4 ≤ W.heap.size
  k3 : W.heap[w.heap.size]? = some (.cells #[.int .i64 V, sl] 30 (0, 0))
  k4 : W.heap[w.heap.size + 1]? = some (.cells #[.int .i64 f] 2 (0, 0))
  k5 : W.heap[w.heap.size + 1 + 1]? = some (.cells #[.int .i64 g] 2 (0, 0))
  k6 : W.heap[w.heap.size + 1 + 1 + 1]? = some (.cells #[.int .i64 0, .slice none 0 0] 30 (0, 0))
theorem FpS.cells {w W : World} {V : Int} {sl : Value} {f g : Int} (h : FpS w W V sl f g) : W.cell? ⟨w.heap.size, 0, none⟩ = some (.int .i64 V) ∧ W.cell? ⟨w.heap.size, 1, none⟩ = some sl ∧ W.cell? ⟨w.heap.size + 1, 0, none⟩ = some (.int .i64 f) ∧ W.cell? ⟨w.heap.size + 1 + 1, 0, none⟩ = some (.int .i64 g) := by
  refine ⟨(two_of h.k3).1, (two_of h.k3).2.1, ?_, ?_⟩
  · simp [World.cell?, h.k4]
  · simp [World.cell?, h.k5]
theorem FpS.grown {w W W' : World} {V : Int} {sl : Value} {f g : Int} (h : FpS w W V sl f g) {row : Option Nat} (hg : W.grownBy W' row) (hr : ∀ r, row = some r → w.heap.size + 4 ≤ r) : FpS w W' V sl f g where
  below := h.below.grown hg h.below.size (fun r e => by have := (hr r e); omega)
  sz := Nat.le_trans h.sz hg.size
  k3 := (hg.block _ (lt_get h.k3) (fun e => by have := (hr _ e.symm); omega)).trans h.k3
  k4 := (hg.block _ (lt_get h.k4) (fun e => by have := (hr _ e.symm); omega)).trans h.k4
  k5 := (hg.block _ (lt_get h.k5) (fun e => by have := (hr _ e.symm); omega)).trans h.k5
  k6 := (hg.block _ (lt_get h.k6) (fun e => by have := (hr _ e.symm); omega)).trans h.k6
theorem FpS.later {w W W' : World} {V : Int} {sl : Value} {f g : Int} (h : FpS w W V sl f g) (hb : Below W.heap.size W W') : FpS w W' V sl f g where
  below := h.below.trans (hb.mono h.below.size)
  sz := Nat.le_trans h.sz hb.size
  k3 := (hb.block _ (lt_get h.k3)).trans h.k3
  k4 := (hb.block _ (lt_get h.k4)).trans h.k4
  k5 := (hb.block _ (lt_get h.k5)).trans h.k5
  k6 := (hb.block _ (lt_get h.k6)).trans h.k6
theorem FpS.startW (w : World) (V : Int) (sl : Value) (f g : Int) : FpS w ((((w.alloc (.cells #[.int .i64 V, sl] 30)).alloc (.cells #[.int .i64 f] 2)).alloc (.cells #[.int .i64 g] 2)).alloc (.cells #[.int .i64 0, .slice none 0 0] 30)) V sl f g where
  below := ((((Below.refl _ w).alloc (Nat.le_refl _) _).alloc (by simp) _).alloc (by simp <;> omega) _).alloc (by simp <;> omega) _
  sz := by simp
  k3 := (Below.heap_alloc _ _ _ (by simp <;> omega)).trans ((Below.heap_alloc _ _ _ (by simp <;> omega)).trans ((Below.heap_alloc _ _ _ (by simp)).trans (heap_alloc_new w _)))
  k4 := (Below.heap_alloc _ _ _ (by simp <;> omega)).trans ((Below.heap_alloc _ _ _ (by simp <;> omega)).trans (new2 _ _ _))
  k5 := (Below.heap_alloc _ _ _ (by simp <;> omega)).trans (new3 _ _ _ _)
  k6 := by
    have := heap_alloc_new (((w.alloc (.cells #[.int .i64 V, sl] 30)).alloc (.cells #[.int .i64 f] 2)).alloc (.cells #[.int .i64 g] 2)) (.cells #[.int .i64 0, .slice none 0 0] 30)
    simpa using this

theorem or_le_all {V : Int} {a b : Nat} (h1 : 1 ≤ V) (h2 : V ≤ 6) (ha : (a : Int) ≤ allV V) (hb : (b : Int) ≤ allV V) : ((a ||| b : Nat) : Int) ≤ allV V := by
  obtain ⟨n, rfl⟩ : ∃ n : Nat, V = (n : Int) := ⟨V.toNat, by omega⟩
  have e : allV (n : Int) = ((2 ^ n - 1 : Nat) : Int) := by
    have : n = 1 ∨ n = 2 ∨ n = 3 ∨ n = 4 ∨ n = 5 ∨ n = 6 := by omega
    rcases this with rfl | rfl | rfl | rfl | rfl | rfl <;> rfl
  have hp : 1 ≤ 2 ^ n := Nat.one_le_two_pow
  rw [e] at ha hb ⊢
  have := Nat.or_lt_two_pow (n := n) (x := a) (y := b) (by omega) (by omega)
  omega

theorem fpW_of {w W : World} {V : Int} {sl : Value} {f g : Int} {c7 : Nat} {v u : Value} {n : Nat} {xs : List Int} (hn : n = xs.length) (h : FpS w W V sl f g) (h7 : W.heap[c7]? = some (.cells #[u] 22 (0, 0))) (hb : w.heap.size + 4 ≤ c7) (hr : W.ownsRow (w.heap.size + 4) 2 1 v n (xs.map (Value.int .i64))) :
    FpW w (W.setCell ⟨c7, 0, none⟩ v) V sl f g c7 v xs where
  below := h.below.setCell (p := ⟨c7, 0, none⟩) (by simp only; omega) _
  k3 := (Below.heap_setCell _ _ _ _ (by simp only; omega)).trans h.k3
  k4 := (Below.heap_setCell _ _ _ _ (by simp only; omega)).trans h.k4
  k5 := (Below.heap_setCell _ _ _ _ (by simp only; omega)).trans h.k5
  k6 := (Below.heap_setCell _ _ _ _ (by simp only; omega)).trans h.k6
  k7 := by simp only [World.setCell, Array.getElem?_modify, h7]; simp
  row := by subst hn; exact ownsRow_set hr (by have := row_ne hr h7 (by decide); exact fun e => this e.symm) _
  b7 := hb

set_option maxRecDepth 100000 in
set_option maxHeartbeats 8000000 in
theorem flipped_in (V : Int) (a0 : Option Addr) (cap : Nat) (fs : List Int) (f g : Nat) (w : World) (hx : SlI w w.heap.size a0 fs) (hl : fs.length ≤ 1048576) (hC : IsC V fs) (hd : (f : Int) ∈ fs) (hf : f < 64) (hg1 : 1 ≤ g) (hgA : (g : Int) ≤ allV V) :
    CallsIn Fence.wide 10 Try.prog 77 #[.agg #[.int .i64 V, .slice a0 fs.length cap], .int .i64 (f : Int), .int .i64 (g : Int)] w fun e w' => ∃ v, e = .returned (.agg #[.int .i64 V, v]) ∧ Res w w' v (madeL V (flipSets fs f g)) := by
  have hg64 : g < 64 := by have := allV_le hC.hi; omega
  have HFw := hid (fun W (h : FpS w W V (.slice a0 fs.length cap) f g) => fwFlip V a0 cap fs f (w.heap.size + 1) W (hx.later h.below h.below.size) hl hC.range63 hf h.cells.2.2.1 (by have := h.sz; omega))
  have HC := hid hC
  have Hd := hid hd
  have Hle : Hid ((takeL fs f ++ [(g : Int)]).length = (takeL fs f).length + 1) := hid (by simp)
  have HTl : Hid ((takeL fs f).length ≤ 1048576) := hid (Nat.le_trans (List.length_filter_le _ _) hl)
  have HS := FpS.startW w V (.slice a0 fs.length cap) f g
  clear hC hx hd
  refine callsIn_of_wp_marks Try.func77 rfl trivial ?_ rfl
  simp only [Try.ntmps77, List.size_toArray, List.length_cons, List.length_nil, Nat.reduceAdd, Nat.reduceSub, Array.replicate_succ, Array.replicate_zero, List.push_toArray, List.append_toArray, List.nil_append, List.cons_append]
  gi_wp2
  obtain ⟨W0, hW0⟩ : ∃ W0, W0 = (((w.alloc (.cells #[.int .i64 V, .slice a0 fs.length cap] 30)).alloc (.cells #[.int .i64 (f : Int)] 2)).alloc (.cells #[.int .i64 (g : Int)] 2)).alloc (.cells #[.int .i64 0, .slice none 0 0] 30) := ⟨_, rfl⟩
  rw [← hW0] at HS ⊢
  clear hW0
  obtain ⟨x0, hx0⟩ : ∃ x, x = W0.drew := ⟨_, rfl⟩
  have HP0 : Hid (FpS w x0 V (.slice a0 fs.length cap) f g) := hid (by rw [hx0]; exact HS.later (Below.refl _ _).drew)
  refine wpIn_wide.2 (Code.wp_mono (Q := fun e a' W => e = .normal ∧ ∃ (c7 : Nat) (gg cp : Nat) (u11 u13 : Value), a' = { tmps := #[.agg #[.int .i64 V, .slice a0 fs.length cap], .int .i64 (f : Int), .int .i64 (g : Int), .pointer (some ⟨w.heap.size, 0, none⟩), .pointer (some ⟨w.heap.size + 1, 0, none⟩), .pointer (some ⟨w.heap.size + 1 + 1, 0, none⟩), .pointer (some ⟨w.heap.size + 1 + 1 + 1, 0, none⟩), .pointer (some ⟨c7, 0, none⟩), undef, .agg #[.int .i64 V, .slice a0 fs.length cap], .func (.func 153) #[] #[.pointer (some ⟨w.heap.size + 1, 0, none⟩)], u11, .int .i64 (g : Int), u13, .slice (some ⟨gg, 0, none⟩) ((takeL fs f).length + 1) cp, undef, undef, undef, undef, undef, undef, undef, undef, undef, undef, undef, undef, undef], defers := [] } ∧ Hid (FpW w W V (.slice a0 fs.length cap) f g c7 (.slice (some ⟨gg, 0, none⟩) ((takeL fs f).length + 1) cp) (takeL fs f ++ [(g : Int)]))) ?imp ?reg)
  case imp =>
    rintro e a' W ⟨rfl, c7, gg, cp, u11, u13, rfl, HW⟩
    clear HFw HP0
    obtain ⟨v, hv⟩ : ∃ v : Value, v = .slice (some ⟨gg, 0, none⟩) ((takeL fs f).length + 1) cp := ⟨_, rfl⟩
    rw [← hv] at HW ⊢
    clear hv
    obtain ⟨xs, hxs⟩ : ∃ xs, xs = takeL fs f ++ [(g : Int)] := ⟨_, rfl⟩
    have Hxs := hid hxs
    rw [← hxs] at HW
    clear hxs
    have q4 := (box_cell HW.out.k4).1
    gi_wp2_with (first
      | (refine ⟨trivial, ?_⟩; gi_at_call 154; refine (sides_in _ _ _).mono ?_; rintro e w' ⟨rfl, rfl⟩))
    obtain ⟨W1, hW1⟩ : ∃ W1, W1 = W.alloc (.cells #[.int .i64 (f : Int)] 2) := ⟨_, rfl⟩
    have hs1 : W1.heap.size = W.heap.size + 1 := by rw [hW1]; simp
    have hb1 : W1.heap[W.heap.size]? = some (.cells #[.int .i64 (f : Int)] 2 (0, 0)) := by rw [hW1]; exact heap_alloc_new _ _
    have hF1 : FpW w W1 V (.slice a0 fs.length cap) f g c7 v xs := by rw [hW1]; exact HW.out.grown (World.grownBy_alloc W _ none) (fun r e => by cases e)
    rw [← hW1]
    have hc7 : c7 < W.heap.size := lt_get HW.out.k7
    have hw4 : w.heap.size + 4 ≤ W.heap.size := by have := HW.out.b7; omega
    have hv0 : ∀ r, v.ownBlock = some r → r < W.heap.size ∨ W.heap.size + 3 ≤ r := fun r e => .inl (HW.out.row.lt r e).2
    have hxl : xs.length ≤ 1048577 := by have := HTl.out; rw [Hxs.out, Hle.out]; omega
    have hor : ∀ x : Fin 64, bits BinOp.or IntKind.i64 ((x.val : Nat) : Int) (g : Int) = ((x.val ||| g : Nat) : Int) := fun x => (bits_nat .i64 6 (by decide) (fun n h0 h1 => by rw [IntKind.wrap_i64]; omega) x.val g (by have := x.isLt; omega) (by omega)).2
    have Hor := hid hor
    have Hs1 := hid hs1
    clear hW1 hs1 q4 hor HW
    refine wpIn_rangeFunc_P rfl (by decide) (gf := 215) (lb := #[.pointer (some ⟨W.heap.size, 0, none⟩)]) rfl trivial (enters_of Try.func215 (by kernel_rfl) rfl)
      (sides_P 9 (by decide) W.heap.size f hf W1 (by have := Hs1.out; omega) hb1) (by have := Hs1.out; simp; omega) (Below.refl _ _) (fun _ => rfl)
      (fun pre W' => ∃ v, FpW w W' V (.slice a0 fs.length cap) f g c7 v (xs ++ pre.map fun s => ((s.val ||| g : Nat) : Int)) ∧ ∀ r, v.ownBlock = some r → r < W.heap.size ∨ W.heap.size + 3 ≤ r)
      (fun _ _ _ => False)
      (fun s A B row hs hg hr => by
        obtain ⟨v, h, hv⟩ := hs
        refine ⟨v, h.grown hg (fun r e => ?_), hv⟩
        obtain ⟨h1, h2⟩ := hr r e
        have hs1 := Hs1.out
        refine ⟨by omega, by omega, fun e2 => ?_⟩
        have h3 := hv r e2
        rcases h2 with h2 | ⟨o, ho, hc⟩
        · omega
        · rcases h.row.2 with ⟨hn, _⟩ | ⟨g', cp', cur, hv', _, hh, _⟩
          · rw [hn] at e2; simp [Value.ownBlock] at e2
          · rw [hv'] at e2; simp [Value.ownBlock] at e2; subst e2; rw [hh] at ho; cases ho; cases hc)
      (fun _ => ownIn_pure _ _ _)
      ⟨v, by simpa using hF1, hv0⟩
      (fun x => { tmps := #[.agg #[.int .i64 V, .slice a0 fs.length cap], .int .i64 (f : Int), .int .i64 (g : Int), .pointer (some ⟨w.heap.size, 0, none⟩), .pointer (some ⟨w.heap.size + 1, 0, none⟩), .pointer (some ⟨w.heap.size + 1 + 1, 0, none⟩), .pointer (some ⟨w.heap.size + 1 + 1 + 1, 0, none⟩), .pointer (some ⟨c7, 0, none⟩), .int .i64 (x.val : Int), .agg #[.int .i64 V, .slice a0 fs.length cap], .func (.func 153) #[] #[.pointer (some ⟨w.heap.size + 1, 0, none⟩)], u11, .int .i64 (g : Int), u13, v, .int .i64 (f : Int), .func (.func 215) #[] #[.pointer (some ⟨W.heap.size, 0, none⟩)], .int .i64 (x.val : Int), undef, undef, undef, undef, undef, undef, undef, undef, undef, undef], defers := [] }) ?assign ?body ?done ?stop
    case assign =>
      intro l x W3 K hK
      gi_wp2
      exact hK
    case body =>
      rintro l pre x W3 hpre hsz ⟨v3, hF3, hv3⟩
      have hs1 := Hs1.out
      obtain ⟨c7a, f7a⟩ := box_cell hF3.k7
      have c5a := (box_cell hF3.k5).1
      have hlen : (xs ++ pre.map fun s => ((s.val ||| g : Nat) : Int)).length ≤ 1099511627776 := by
        have h1 := hpre.length_le
        have h2 := sides_len f 6
        unfold sidesF at h1
        simp at h1 ⊢
        omega
      have hx := Hor.out x
      have HF3 := hid hF3
      have Hv3 := hid hv3
      have hbase : w.heap.size + 4 ≤ W3.heap.size := by omega
      obtain ⟨ys, hys⟩ : ∃ ys, ys = xs ++ pre.map fun s => ((s.val ||| g : Nat) : Int) := ⟨_, rfl⟩
      have Hys : Hid (xs ++ (pre ++ [x]).map (fun s => ((s.val ||| g : Nat) : Int)) = ys ++ [((x.val ||| g : Nat) : Int)]) := hid (by rw [hys]; simp)
      rw [← hys] at HF3 hlen
      clear hpre hF3 hv3 hys
      gi_wp2_with (gi_at_builtin; refine append_intF rfl rfl HF3.out.row hbase hlen rfl rfl ?_; intro v' w3 hown3 hgrow3 hat3; obtain ⟨_, an, cn, hv', _⟩ := ownsRow_slI hown3; subst hv'; have hk7 := (hgrow3.block _ (lt_get HF3.out.k7) (row_ne HF3.out.row HF3.out.k7 (by decide))).trans HF3.out.k7; obtain ⟨c7b, f7b⟩ := box_cell hk7; have Hown3 := hid hown3; have Hgrow3 := hid hgrow3; have Hat3 := hid hat3; clear hk7 hown3 hgrow3 hat3)
      have hlow := HF3.out.row.lt
      refine ⟨(KeepP.of_grownBy Hgrow3.out (by simp; omega) (by omega) (fun j e => ?_)).trans (KeepP.setCell _ _ _ _ (by simp; omega)), .slice an (ys.length + 1) cn, ?_, fun r e => ?_⟩
      · have h1 := Hv3.out j e
        simp
        omega
      · rw [Hys.out]
        have h1 := HF3.out.step Hown3.out Hgrow3.out
        simpa using h1
      · have e2 : (Value.slice an (ys ++ [((x.val ||| g : Nat) : Int)]).length cn).ownBlock = some r := by simpa using e
        rcases Hat3.out with h1 | ⟨k, h1, h2⟩
        · exact Hv3.out r (h1.symm.trans e2)
        · have : k = r := by rw [e2] at h1; injection h1 with h1; exact h1.symm
          omega
    case done =>
      rintro W3 ⟨v3, hF3, hv3⟩ hD
      obtain ⟨zs, hzs⟩ : ∃ zs, zs = xs ++ (sidesF f).map fun s => ((s.val ||| g : Nat) : Int) := ⟨_, rfl⟩
      have Hzs : Hid (zs = flipSets fs f g) := hid (by rw [hzs, Hxs.out]; rfl)
      rw [← hzs] at hF3
      have hs1 := Hs1.out
      obtain ⟨_, a3, c3, rfl, hs3⟩ := ownsRow_slI hF3.row
      have hC := HC.out
      have hzl : zs.length ≤ 1048576 := by
        have h2 := sides_len f 6
        have h3 := hC.len63
        have h4 : (takeL fs f).length ≤ fs.length := List.length_filter_le _ _
        rw [hzs, Hxs.out]
        unfold sidesF
        simp
        omega
      have hzr : ∀ z ∈ zs, 0 ≤ z ∧ z ≤ allV V := by
        intro z hz
        rw [hzs, Hxs.out] at hz
        rcases List.mem_append.1 hz with h | h
        · rcases List.mem_append.1 h with h | h
          · have h1 := (takeL_mem.1 h).1
            have := hC.range z h1
            omega
          · simp at h
            omega
        · obtain ⟨t, ht, rfl⟩ := List.mem_map.1 h
          have hss := sides_spec ⟨f, hf⟩
          simp only [List.all_eq_true, Bool.and_eq_true, decide_eq_true_eq] at hss
          obtain ⟨_, t1, _⟩ := hss t ht
          have hfr := hC.range _ Hd.out
          refine ⟨by omega, ?_⟩
          exact or_le_all hC.lo hC.hi (by have := and_le_left' _ _ t1; omega) hgA
      have HM := hid (made_any V a3 c3 zs W3 hs3 hzl hC.hi hzr)
      obtain ⟨q0, q1, _, _⟩ := two_of hF3.k3
      have c7a := (box_cell hF3.k7).1
      have HF3 := hid hF3
      have HD := hid hD
      clear hF3 hv3 hD hs3 hzr hzs hC
      gi_wp2_with (refine ⟨trivial, ?_⟩; gi_at_call 91; refine (callsIn_wide.2 HM.out).mono ?_; rintro e w4 ⟨_, rfl, hr4⟩; obtain ⟨_, a4, c4, rfl, _⟩ := ownsRow_slI hr4.1; obtain ⟨r0, r1, g0, g1'⟩ := two_of ((hr4.2.block _ (lt_get HF3.out.k6)).trans HF3.out.k6); have HR4 := hid hr4; clear hr4)
      have hD4 : w4.heap[W.heap.size + 1]? = some (.deferred (some [])) := by
        have h1 := HD.out
        rw [hs1] at h1
        exact (HR4.out.2.block _ (lt_get h1)).trans h1
      have k6 := (HR4.out.2.block _ (lt_get HF3.out.k6)).trans HF3.out.k6
      have k7 := two_set k6 (.int .i64 V) (.slice a4 (madeL V zs).length c4)
      have hb4 : Below w.heap.size w w4 := HF3.out.below.trans (HR4.out.2.mono HF3.out.below.size)
      have hmk : ∀ D ∈ [W.heap.size + 1], ((w4.setCell ⟨w.heap.size + 1 + 1 + 1, 0, none⟩ (.int .i64 V)).setCell ⟨w.heap.size + 1 + 1 + 1, 1, none⟩ (.slice a4 (madeL V zs).length c4)).heap[D]? = some (.deferred (some [])) := fun D hD => by
        simp only [List.mem_singleton] at hD
        subst hD
        rw [Below.heap_setCell _ _ _ _ (by show W.heap.size + 1 ≠ w.heap.size + 1 + 1 + 1; omega), Below.heap_setCell _ _ _ _ (by show W.heap.size + 1 ≠ w.heap.size + 1 + 1 + 1; omega)]
        exact hD4
      refine leaves_marks (by simp) [W.heap.size + 1] _ (by simp) hmk (fun w' hw' => ?_)
      have k8 := (hw'.block (w.heap.size + 1 + 1 + 1) (by simp; omega)).trans k7
      obtain ⟨s0, s1, _, _⟩ := two_of k8
      have hsh : Below w.heap.size ((w4.setCell ⟨w.heap.size + 1 + 1 + 1, 0, none⟩ (.int .i64 V)).setCell ⟨w.heap.size + 1 + 1 + 1, 1, none⟩ (.slice a4 (madeL V zs).length c4)) w' := hw'.below (fun D hD => by simp at hD; omega)
      have hres : Res w ((w4.setCell ⟨w.heap.size + 1 + 1 + 1, 0, none⟩ (.int .i64 V)).setCell ⟨w.heap.size + 1 + 1 + 1, 1, none⟩ (.slice a4 (madeL V zs).length c4)) (.slice a4 (madeL V zs).length c4) (madeL V zs) :=
        (HR4.out.later HF3.out.below).set2 k6 (by decide) (by omega) _ _
      have hown : w'.ownsRow w.heap.size 2 1 (.slice a4 (madeL V zs).length c4) (madeL V zs).length ((madeL V zs).map (Value.int .i64)) := by
        refine ⟨hres.1.1, ?_⟩
        rcases hres.1.2 with hn | ⟨g, cp, cur, he, hg, hh, rest⟩
        · exact .inl hn
        · refine .inr ⟨g, cp, cur, he, hg, (hw'.block g (fun hm => ?_)).trans hh, rest⟩
          rw [hmk g hm] at hh
          simp at hh
      rw [← Hzs.out]
      refine ⟨.agg #[.int .i64 V, .slice a4 (madeL V zs).length c4], ?_, _, rfl, hown, hres.2.trans hsh⟩
      simp [results, Try.results77, asAddr, load_cx s0 s1]
    case stop =>
      rintro c pre W3 hpre hF hD
      exact hF.elim
  case reg =>
  refine wp_region_noPanic ?_
  refine region_M 7 (fun W : World => W.cell? ⟨w.heap.size, 0, none⟩ = some (.int .i64 V) ∧ W.cell? ⟨w.heap.size, 1, none⟩ = some (.slice a0 fs.length cap) ∧ W.cell? ⟨w.heap.size + 1, 0, none⟩ = some (.int .i64 (f : Int)) ∧ W.cell? ⟨w.heap.size + 1 + 1, 0, none⟩ = some (.int .i64 (g : Int))) (by kernel_rfl) ?_
  rw [← hx0]
  clear hx0 HS
  refine anyM_take (i := 0) (v := .agg #[.int .i64 V, .slice a0 fs.length cap]) [7] rfl (by kernel_rfl) (fun _ _ _ h => h) (Or.inl ⟨by rfl, fun W hW => by (obtain ⟨hW0, hW1, hW2, hW3⟩ := hW; go_simp)⟩) HP0.out.cells ?_
  refine anyM_take (i := 1) (v := .func (.func 153) #[] #[.pointer (some ⟨w.heap.size + 1, 0, none⟩)]) [7] rfl (by kernel_rfl) (fun _ _ _ h => h) (Or.inl ⟨by rfl, fun W hW => by (obtain ⟨hW0, hW1, hW2, hW3⟩ := hW; go_simp)⟩) HP0.out.cells ?_
  refine anyM_take (i := 3) (v := .int .i64 (g : Int)) [7] rfl (by kernel_rfl) (fun _ _ _ h => h) (Or.inl ⟨by rfl, fun W hW => by (obtain ⟨hW0, hW1, hW2, hW3⟩ := hW; go_simp)⟩) HP0.out.cells ?_
  refine anyM_ready (rs := [2, 4, 6]) (by kernel_rfl) (by simp) ?_
  refine AllM.cons rfl (fun K hK => ?_) (AllM.cons rfl (fun K hK => ?_) (AllM.cons rfl (fun K hK => ?_) (AllM.nil)))
  · skip
    go_simp
    go_at_call 152
    refine (HFw.out _ HP0.out).mono ?_
    rintro e x1 ⟨_, rfl, hr⟩
    obtain ⟨_, av, cv, rfl, _⟩ := ownsRow_slI hr.1
    have HRw := hid (ownsRow_base (base' := w.heap.size + 4) hr.1 HP0.out.sz)
    have HP1 := hid (HP0.out.later hr.2)
    clear hr
    refine hK.out _ _ (fun _ => HP1.out.cells) ?_
    clear hK K
    refine anyM_ready (rs := [4, 6]) (by kernel_rfl) (by simp) ?_
    refine AllM.cons rfl (fun K hK => ?_) (AllM.cons rfl (fun K hK => ?_) (AllM.nil))
    · skip
      go_simp
      obtain ⟨x2, hx2⟩ : ∃ x, x = x1.alloc (.cells #[.int .i64 (g : Int)] 2) := ⟨_, rfl⟩
      rw [← hx2]
      have hbb : Below x1.heap.size x1 x2 := by rw [hx2]; exact (Below.refl _ _).alloc (Nat.le_refl _) _
      obtain ⟨sb, hsb⟩ : ∃ b, b = x1.heap.size := ⟨_, rfl⟩
      rw [← hsb]
      have Hsb : Hid (x2.cell? ⟨sb, 0, none⟩ = some (.int .i64 (g : Int))) := hid (by rw [hx2, hsb]; exact (box_cell (heap_alloc_new _ _)).1)
      have HP2 := hid (HP1.out.later hbb)
      have HRw := hid (ownsRow_below HRw.out hbb (fun g hg => (HRw.out.lt g hg).2))
      clear hbb hx2 hsb
      refine hK.out _ _ (fun _ => HP2.out.cells) ?_
      clear hK K
      refine anyM_ready (rs := [5, 6]) (by kernel_rfl) (by simp) ?_
      refine AllM.cons rfl (fun K hK => ?_) (AllM.cons rfl (fun K hK => ?_) (AllM.nil))
      · skip
        refine step_append_int rfl rfl HRw.out (by have := HP2.out.sz; omega) (by have := HTl.out; omega) rfl rfl (by rw [Addr.add_lit]; exact Hsb.out) ?_
        intro gg cp x3 hown hgr
        have hlt := HRw.out.lt
        have HP3 := hid (HP2.out.grown hgr (fun r e => (hlt r e).1))
        have hne := row_ne HRw.out HP2.out.k3 (by decide)
        have HRw := hid (by rw [Hle.out] at hown; exact hown)
        clear hown hgr hlt hne
        refine hK.out _ _ (fun _ => HP3.out.cells) ?_
        clear hK K
        refine anyM_ready (rs := [6]) (by kernel_rfl) (by simp) ?_
        refine AllM.cons rfl (fun K hK => ?_) (AllM.nil)
        go_simp
        obtain ⟨x4, hx4⟩ : ∃ x, x = x3.alloc (.cells #[.slice none 0 0] 22) := ⟨_, rfl⟩
        rw [← hx4]
        have hbb : Below x3.heap.size x3 x4 := by rw [hx4]; exact (Below.refl _ _).alloc (Nat.le_refl _) _
        obtain ⟨c7, hc7⟩ : ∃ b, b = x3.heap.size := ⟨_, rfl⟩
        rw [← hc7]
        have Hc7 : Hid (x4.heap[c7]? = some (.cells #[.slice none 0 0] 22 (0, 0))) := hid (by rw [hx4, hc7]; exact heap_alloc_new _ _)
        have Hb7 : Hid (w.heap.size + 4 ≤ c7) := hid (by rw [hc7]; exact HP3.out.sz)
        have HP4 := hid (HP3.out.later hbb)
        have HRw := hid (ownsRow_below HRw.out hbb (fun g hg => (HRw.out.lt g hg).2))
        clear hbb hx4 hc7
        refine hK.out _ _ (fun _ => HP4.out.cells) ?_
        clear hK K
        refine anyM_ready (rs := [7]) (by kernel_rfl) (by simp) ?_
        refine AllM.cons rfl (fun K hK => ?_) AllM.nil
        obtain ⟨z0, z1⟩ := box_cell Hc7.out
        go_simp
        refine hK.out _ _ (fun h => absurd rfl h) ?_
        clear hK K z0 z1
        refine anyM_done (by kernel_rfl) ?_ _
        exact ⟨rfl, c7, _, _, _, _, rfl, hid (fpW_of Hle.out.symm HP4.out Hc7.out Hb7.out HRw.out)⟩
      · skip
        go_simp
        obtain ⟨x3, hx3⟩ : ∃ x, x = x2.alloc (.cells #[.slice none 0 0] 22) := ⟨_, rfl⟩
        rw [← hx3]
        have hbb : Below x2.heap.size x2 x3 := by rw [hx3]; exact (Below.refl _ _).alloc (Nat.le_refl _) _
        obtain ⟨c7, hc7⟩ : ∃ b, b = x2.heap.size := ⟨_, rfl⟩
        rw [← hc7]
        have Hc7 : Hid (x3.heap[c7]? = some (.cells #[.slice none 0 0] 22 (0, 0))) := hid (by rw [hx3, hc7]; exact heap_alloc_new _ _)
        have Hb7 : Hid (w.heap.size + 4 ≤ c7) := hid (by rw [hc7]; exact HP2.out.sz)
        have HP3 := hid (HP2.out.later hbb)
        have HRw := hid (ownsRow_below HRw.out hbb (fun g hg => (HRw.out.lt g hg).2))
        have Hsb := hid ((hbb.cell (World.block_lt_of_cell? _ _ Hsb.out)).trans Hsb.out)
        clear hbb hx3 hc7
        refine hK.out _ _ (fun _ => HP3.out.cells) ?_
        clear hK K
        refine anyM_ready (rs := [5]) (by kernel_rfl) (by simp) ?_
        refine AllM.cons rfl (fun K hK => ?_) (AllM.nil)
        refine step_append_int rfl rfl HRw.out (by have := HP3.out.sz; omega) (by have := HTl.out; omega) rfl rfl (by rw [Addr.add_lit]; exact Hsb.out) ?_
        intro gg cp x4 hown hgr
        have hlt := HRw.out.lt
        have HP4 := hid (HP3.out.grown hgr (fun r e => (hlt r e).1))
        have hne := row_ne HRw.out Hc7.out (by decide)
        have Hc7 := hid ((hgr.block _ (lt_get Hc7.out) hne).trans Hc7.out)
        have HRw := hid (by rw [Hle.out] at hown; exact hown)
        clear hown hgr hlt hne
        refine hK.out _ _ (fun _ => HP4.out.cells) ?_
        clear hK K
        refine anyM_ready (rs := [7]) (by kernel_rfl) (by simp) ?_
        refine AllM.cons rfl (fun K hK => ?_) AllM.nil
        obtain ⟨z0, z1⟩ := box_cell Hc7.out
        go_simp
        refine hK.out _ _ (fun h => absurd rfl h) ?_
        clear hK K z0 z1
        refine anyM_done (by kernel_rfl) ?_ _
        exact ⟨rfl, c7, _, _, _, _, rfl, hid (fpW_of Hle.out.symm HP4.out Hc7.out Hb7.out HRw.out)⟩
    · skip
      go_simp
      obtain ⟨x2, hx2⟩ : ∃ x, x = x1.alloc (.cells #[.slice none 0 0] 22) := ⟨_, rfl⟩
      rw [← hx2]
      have hbb : Below x1.heap.size x1 x2 := by rw [hx2]; exact (Below.refl _ _).alloc (Nat.le_refl _) _
      obtain ⟨c7, hc7⟩ : ∃ b, b = x1.heap.size := ⟨_, rfl⟩
      rw [← hc7]
      have Hc7 : Hid (x2.heap[c7]? = some (.cells #[.slice none 0 0] 22 (0, 0))) := hid (by rw [hx2, hc7]; exact heap_alloc_new _ _)
      have Hb7 : Hid (w.heap.size + 4 ≤ c7) := hid (by rw [hc7]; exact HP1.out.sz)
      have HP2 := hid (HP1.out.later hbb)
      have HRw := hid (ownsRow_below HRw.out hbb (fun g hg => (HRw.out.lt g hg).2))
      clear hbb hx2 hc7
      refine hK.out _ _ (fun _ => HP2.out.cells) ?_
      clear hK K
      refine anyM_ready (rs := [4]) (by kernel_rfl) (by simp) ?_
      refine AllM.cons rfl (fun K hK => ?_) (AllM.nil)
      go_simp
      obtain ⟨x3, hx3⟩ : ∃ x, x = x2.alloc (.cells #[.int .i64 (g : Int)] 2) := ⟨_, rfl⟩
      rw [← hx3]
      have hbb : Below x2.heap.size x2 x3 := by rw [hx3]; exact (Below.refl _ _).alloc (Nat.le_refl _) _
      obtain ⟨sb, hsb⟩ : ∃ b, b = x2.heap.size := ⟨_, rfl⟩
      rw [← hsb]
      have Hsb : Hid (x3.cell? ⟨sb, 0, none⟩ = some (.int .i64 (g : Int))) := hid (by rw [hx3, hsb]; exact (box_cell (heap_alloc_new _ _)).1)
      have HP3 := hid (HP2.out.later hbb)
      have HRw := hid (ownsRow_below HRw.out hbb (fun g hg => (HRw.out.lt g hg).2))
      have Hc7 := hid ((hbb.block _ (lt_get Hc7.out)).trans Hc7.out)
      clear hbb hx3 hsb
      refine hK.out _ _ (fun _ => HP3.out.cells) ?_
      clear hK K
      refine anyM_ready (rs := [5]) (by kernel_rfl) (by simp) ?_
      refine AllM.cons rfl (fun K hK => ?_) (AllM.nil)
      refine step_append_int rfl rfl HRw.out (by have := HP3.out.sz; omega) (by have := HTl.out; omega) rfl rfl (by rw [Addr.add_lit]; exact Hsb.out) ?_
      intro gg cp x4 hown hgr
      have hlt := HRw.out.lt
      have HP4 := hid (HP3.out.grown hgr (fun r e => (hlt r e).1))
      have hne := row_ne HRw.out Hc7.out (by decide)
      have Hc7 := hid ((hgr.block _ (lt_get Hc7.out) hne).trans Hc7.out)
      have HRw := hid (by rw [Hle.out] at hown; exact hown)
      clear hown hgr hlt hne
      refine hK.out _ _ (fun _ => HP4.out.cells) ?_
      clear hK K
      refine anyM_ready (rs := [7]) (by kernel_rfl) (by simp) ?_
      refine AllM.cons rfl (fun K hK => ?_) AllM.nil
      obtain ⟨z0, z1⟩ := box_cell Hc7.out
      go_simp
      refine hK.out _ _ (fun h => absurd rfl h) ?_
      clear hK K z0 z1
      refine anyM_done (by kernel_rfl) ?_ _
      exact ⟨rfl, c7, _, _, _, _, rfl, hid (fpW_of Hle.out.symm HP4.out Hc7.out Hb7.out HRw.out)⟩
  · skip
    go_simp
    obtain ⟨x1, hx1⟩ : ∃ x, x = x0.alloc (.cells #[.int .i64 (g : Int)] 2) := ⟨_, rfl⟩
    rw [← hx1]
    have hbb : Below x0.heap.size x0 x1 := by rw [hx1]; exact (Below.refl _ _).alloc (Nat.le_refl _) _
    obtain ⟨sb, hsb⟩ : ∃ b, b = x0.heap.size := ⟨_, rfl⟩
    rw [← hsb]
    have Hsb : Hid (x1.cell? ⟨sb, 0, none⟩ = some (.int .i64 (g : Int))) := hid (by rw [hx1, hsb]; exact (box_cell (heap_alloc_new _ _)).1)
    have HP1 := hid (HP0.out.later hbb)
    clear hbb hx1 hsb
    refine hK.out _ _ (fun _ => HP1.out.cells) ?_
    clear hK K
    refine anyM_ready (rs := [2, 6]) (by kernel_rfl) (by simp) ?_
    refine AllM.cons rfl (fun K hK => ?_) (AllM.cons rfl (fun K hK => ?_) (AllM.nil))
    · skip
      go_simp
      go_at_call 152
      refine (HFw.out _ HP1.out).mono ?_
      rintro e x2 ⟨_, rfl, hr⟩
      obtain ⟨_, av, cv, rfl, _⟩ := ownsRow_slI hr.1
      have HRw := hid (ownsRow_base (base' := w.heap.size + 4) hr.1 HP1.out.sz)
      have HP2 := hid (HP1.out.later hr.2)
      have Hsb := hid ((hr.2.cell (World.block_lt_of_cell? _ _ Hsb.out)).trans Hsb.out)
      clear hr
      refine hK.out _ _ (fun _ => HP2.out.cells) ?_
      clear hK K
      refine anyM_ready (rs := [5, 6]) (by kernel_rfl) (by simp) ?_
      refine AllM.cons rfl (fun K hK => ?_) (AllM.cons rfl (fun K hK => ?_) (AllM.nil))
      · skip
        refine step_append_int rfl rfl HRw.out (by have := HP2.out.sz; omega) (by have := HTl.out; omega) rfl rfl (by rw [Addr.add_lit]; exact Hsb.out) ?_
        intro gg cp x3 hown hgr
        have hlt := HRw.out.lt
        have HP3 := hid (HP2.out.grown hgr (fun r e => (hlt r e).1))
        have hne := row_ne HRw.out HP2.out.k3 (by decide)
        have HRw := hid (by rw [Hle.out] at hown; exact hown)
        clear hown hgr hlt hne
        refine hK.out _ _ (fun _ => HP3.out.cells) ?_
        clear hK K
        refine anyM_ready (rs := [6]) (by kernel_rfl) (by simp) ?_
        refine AllM.cons rfl (fun K hK => ?_) (AllM.nil)
        go_simp
        obtain ⟨x4, hx4⟩ : ∃ x, x = x3.alloc (.cells #[.slice none 0 0] 22) := ⟨_, rfl⟩
        rw [← hx4]
        have hbb : Below x3.heap.size x3 x4 := by rw [hx4]; exact (Below.refl _ _).alloc (Nat.le_refl _) _
        obtain ⟨c7, hc7⟩ : ∃ b, b = x3.heap.size := ⟨_, rfl⟩
        rw [← hc7]
        have Hc7 : Hid (x4.heap[c7]? = some (.cells #[.slice none 0 0] 22 (0, 0))) := hid (by rw [hx4, hc7]; exact heap_alloc_new _ _)
        have Hb7 : Hid (w.heap.size + 4 ≤ c7) := hid (by rw [hc7]; exact HP3.out.sz)
        have HP4 := hid (HP3.out.later hbb)
        have HRw := hid (ownsRow_below HRw.out hbb (fun g hg => (HRw.out.lt g hg).2))
        clear hbb hx4 hc7
        refine hK.out _ _ (fun _ => HP4.out.cells) ?_
        clear hK K
        refine anyM_ready (rs := [7]) (by kernel_rfl) (by simp) ?_
        refine AllM.cons rfl (fun K hK => ?_) AllM.nil
        obtain ⟨z0, z1⟩ := box_cell Hc7.out
        go_simp
        refine hK.out _ _ (fun h => absurd rfl h) ?_
        clear hK K z0 z1
        refine anyM_done (by kernel_rfl) ?_ _
        exact ⟨rfl, c7, _, _, _, _, rfl, hid (fpW_of Hle.out.symm HP4.out Hc7.out Hb7.out HRw.out)⟩
      · skip
        go_simp
        obtain ⟨x3, hx3⟩ : ∃ x, x = x2.alloc (.cells #[.slice none 0 0] 22) := ⟨_, rfl⟩
        rw [← hx3]
        have hbb : Below x2.heap.size x2 x3 := by rw [hx3]; exact (Below.refl _ _).alloc (Nat.le_refl _) _
        obtain ⟨c7, hc7⟩ : ∃ b, b = x2.heap.size := ⟨_, rfl⟩
        rw [← hc7]
        have Hc7 : Hid (x3.heap[c7]? = some (.cells #[.slice none 0 0] 22 (0, 0))) := hid (by rw [hx3, hc7]; exact heap_alloc_new _ _)
        have Hb7 : Hid (w.heap.size + 4 ≤ c7) := hid (by rw [hc7]; exact HP2.out.sz)
        have HP3 := hid (HP2.out.later hbb)
        have HRw := hid (ownsRow_below HRw.out hbb (fun g hg => (HRw.out.lt g hg).2))
        have Hsb := hid ((hbb.cell (World.block_lt_of_cell? _ _ Hsb.out)).trans Hsb.out)
        clear hbb hx3 hc7
        refine hK.out _ _ (fun _ => HP3.out.cells) ?_
        clear hK K
        refine anyM_ready (rs := [5]) (by kernel_rfl) (by simp) ?_
        refine AllM.cons rfl (fun K hK => ?_) (AllM.nil)
        refine step_append_int rfl rfl HRw.out (by have := HP3.out.sz; omega) (by have := HTl.out; omega) rfl rfl (by rw [Addr.add_lit]; exact Hsb.out) ?_
        intro gg cp x4 hown hgr
        have hlt := HRw.out.lt
        have HP4 := hid (HP3.out.grown hgr (fun r e => (hlt r e).1))
        have hne := row_ne HRw.out Hc7.out (by decide)
        have Hc7 := hid ((hgr.block _ (lt_get Hc7.out) hne).trans Hc7.out)
        have HRw := hid (by rw [Hle.out] at hown; exact hown)
        clear hown hgr hlt hne
        refine hK.out _ _ (fun _ => HP4.out.cells) ?_
        clear hK K
        refine anyM_ready (rs := [7]) (by kernel_rfl) (by simp) ?_
        refine AllM.cons rfl (fun K hK => ?_) AllM.nil
        obtain ⟨z0, z1⟩ := box_cell Hc7.out
        go_simp
        refine hK.out _ _ (fun h => absurd rfl h) ?_
        clear hK K z0 z1
        refine anyM_done (by kernel_rfl) ?_ _
        exact ⟨rfl, c7, _, _, _, _, rfl, hid (fpW_of Hle.out.symm HP4.out Hc7.out Hb7.out HRw.out)⟩
    · skip
      go_simp
      obtain ⟨x2, hx2⟩ : ∃ x, x = x1.alloc (.cells #[.slice none 0 0] 22) := ⟨_, rfl⟩
      rw [← hx2]
      have hbb : Below x1.heap.size x1 x2 := by rw [hx2]; exact (Below.refl _ _).alloc (Nat.le_refl _) _
      obtain ⟨c7, hc7⟩ : ∃ b, b = x1.heap.size := ⟨_, rfl⟩
      rw [← hc7]
      have Hc7 : Hid (x2.heap[c7]? = some (.cells #[.slice none 0 0] 22 (0, 0))) := hid (by rw [hx2, hc7]; exact heap_alloc_new _ _)
      have Hb7 : Hid (w.heap.size + 4 ≤ c7) := hid (by rw [hc7]; exact HP1.out.sz)
      have HP2 := hid (HP1.out.later hbb)
      have Hsb := hid ((hbb.cell (World.block_lt_of_cell? _ _ Hsb.out)).trans Hsb.out)
      clear hbb hx2 hc7
      refine hK.out _ _ (fun _ => HP2.out.cells) ?_
      clear hK K
      refine anyM_ready (rs := [2]) (by kernel_rfl) (by simp) ?_
      refine AllM.cons rfl (fun K hK => ?_) (AllM.nil)
      go_simp
      go_at_call 152
      refine (HFw.out _ HP2.out).mono ?_
      rintro e x3 ⟨_, rfl, hr⟩
      obtain ⟨_, av, cv, rfl, _⟩ := ownsRow_slI hr.1
      have HRw := hid (ownsRow_base (base' := w.heap.size + 4) hr.1 HP2.out.sz)
      have HP3 := hid (HP2.out.later hr.2)
      have Hsb := hid ((hr.2.cell (World.block_lt_of_cell? _ _ Hsb.out)).trans Hsb.out)
      have Hc7 := hid ((hr.2.block _ (lt_get Hc7.out)).trans Hc7.out)
      clear hr
      refine hK.out _ _ (fun _ => HP3.out.cells) ?_
      clear hK K
      refine anyM_ready (rs := [5]) (by kernel_rfl) (by simp) ?_
      refine AllM.cons rfl (fun K hK => ?_) (AllM.nil)
      refine step_append_int rfl rfl HRw.out (by have := HP3.out.sz; omega) (by have := HTl.out; omega) rfl rfl (by rw [Addr.add_lit]; exact Hsb.out) ?_
      intro gg cp x4 hown hgr
      have hlt := HRw.out.lt
      have HP4 := hid (HP3.out.grown hgr (fun r e => (hlt r e).1))
      have hne := row_ne HRw.out Hc7.out (by decide)
      have Hc7 := hid ((hgr.block _ (lt_get Hc7.out) hne).trans Hc7.out)
      have HRw := hid (by rw [Hle.out] at hown; exact hown)
      clear hown hgr hlt hne
      refine hK.out _ _ (fun _ => HP4.out.cells) ?_
      clear hK K
      refine anyM_ready (rs := [7]) (by kernel_rfl) (by simp) ?_
      refine AllM.cons rfl (fun K hK => ?_) AllM.nil
      obtain ⟨z0, z1⟩ := box_cell Hc7.out
      go_simp
      refine hK.out _ _ (fun h => absurd rfl h) ?_
      clear hK K z0 z1
      refine anyM_done (by kernel_rfl) ?_ _
      exact ⟨rfl, c7, _, _, _, _, rfl, hid (fpW_of Hle.out.symm HP4.out Hc7.out Hb7.out HRw.out)⟩
  · skip
    go_simp
    obtain ⟨x1, hx1⟩ : ∃ x, x = x0.alloc (.cells #[.slice none 0 0] 22) := ⟨_, rfl⟩
    rw [← hx1]
    have hbb : Below x0.heap.size x0 x1 := by rw [hx1]; exact (Below.refl _ _).alloc (Nat.le_refl _) _
    obtain ⟨c7, hc7⟩ : ∃ b, b = x0.heap.size := ⟨_, rfl⟩
    rw [← hc7]
    have Hc7 : Hid (x1.heap[c7]? = some (.cells #[.slice none 0 0] 22 (0, 0))) := hid (by rw [hx1, hc7]; exact heap_alloc_new _ _)
    have Hb7 : Hid (w.heap.size + 4 ≤ c7) := hid (by rw [hc7]; exact HP0.out.sz)
    have HP1 := hid (HP0.out.later hbb)
    clear hbb hx1 hc7
    refine hK.out _ _ (fun _ => HP1.out.cells) ?_
    clear hK K
    refine anyM_ready (rs := [2, 4]) (by kernel_rfl) (by simp) ?_
    refine AllM.cons rfl (fun K hK => ?_) (AllM.cons rfl (fun K hK => ?_) (AllM.nil))
    · skip
      go_simp
      go_at_call 152
      refine (HFw.out _ HP1.out).mono ?_
      rintro e x2 ⟨_, rfl, hr⟩
      obtain ⟨_, av, cv, rfl, _⟩ := ownsRow_slI hr.1
      have HRw := hid (ownsRow_base (base' := w.heap.size + 4) hr.1 HP1.out.sz)
      have HP2 := hid (HP1.out.later hr.2)
      have Hc7 := hid ((hr.2.block _ (lt_get Hc7.out)).trans Hc7.out)
      clear hr
      refine hK.out _ _ (fun _ => HP2.out.cells) ?_
      clear hK K
      refine anyM_ready (rs := [4]) (by kernel_rfl) (by simp) ?_
      refine AllM.cons rfl (fun K hK => ?_) (AllM.nil)
      go_simp
      obtain ⟨x3, hx3⟩ : ∃ x, x = x2.alloc (.cells #[.int .i64 (g : Int)] 2) := ⟨_, rfl⟩
      rw [← hx3]
      have hbb : Below x2.heap.size x2 x3 := by rw [hx3]; exact (Below.refl _ _).alloc (Nat.le_refl _) _
      obtain ⟨sb, hsb⟩ : ∃ b, b = x2.heap.size := ⟨_, rfl⟩
      rw [← hsb]
      have Hsb : Hid (x3.cell? ⟨sb, 0, none⟩ = some (.int .i64 (g : Int))) := hid (by rw [hx3, hsb]; exact (box_cell (heap_alloc_new _ _)).1)
      have HP3 := hid (HP2.out.later hbb)
      have HRw := hid (ownsRow_below HRw.out hbb (fun g hg => (HRw.out.lt g hg).2))
      have Hc7 := hid ((hbb.block _ (lt_get Hc7.out)).trans Hc7.out)
      clear hbb hx3 hsb
      refine hK.out _ _ (fun _ => HP3.out.cells) ?_
      clear hK K
      refine anyM_ready (rs := [5]) (by kernel_rfl) (by simp) ?_
      refine AllM.cons rfl (fun K hK => ?_) (AllM.nil)
      refine step_append_int rfl rfl HRw.out (by have := HP3.out.sz; omega) (by have := HTl.out; omega) rfl rfl (by rw [Addr.add_lit]; exact Hsb.out) ?_
      intro gg cp x4 hown hgr
      have hlt := HRw.out.lt
      have HP4 := hid (HP3.out.grown hgr (fun r e => (hlt r e).1))
      have hne := row_ne HRw.out Hc7.out (by decide)
      have Hc7 := hid ((hgr.block _ (lt_get Hc7.out) hne).trans Hc7.out)
      have HRw := hid (by rw [Hle.out] at hown; exact hown)
      clear hown hgr hlt hne
      refine hK.out _ _ (fun _ => HP4.out.cells) ?_
      clear hK K
      refine anyM_ready (rs := [7]) (by kernel_rfl) (by simp) ?_
      refine AllM.cons rfl (fun K hK => ?_) AllM.nil
      obtain ⟨z0, z1⟩ := box_cell Hc7.out
      go_simp
      refine hK.out _ _ (fun h => absurd rfl h) ?_
      clear hK K z0 z1
      refine anyM_done (by kernel_rfl) ?_ _
      exact ⟨rfl, c7, _, _, _, _, rfl, hid (fpW_of Hle.out.symm HP4.out Hc7.out Hb7.out HRw.out)⟩
    · skip
      go_simp
      obtain ⟨x2, hx2⟩ : ∃ x, x = x1.alloc (.cells #[.int .i64 (g : Int)] 2) := ⟨_, rfl⟩
      rw [← hx2]
      have hbb : Below x1.heap.size x1 x2 := by rw [hx2]; exact (Below.refl _ _).alloc (Nat.le_refl _) _
      obtain ⟨sb, hsb⟩ : ∃ b, b = x1.heap.size := ⟨_, rfl⟩
      rw [← hsb]
      have Hsb : Hid (x2.cell? ⟨sb, 0, none⟩ = some (.int .i64 (g : Int))) := hid (by rw [hx2, hsb]; exact (box_cell (heap_alloc_new _ _)).1)
      have HP2 := hid (HP1.out.later hbb)
      have Hc7 := hid ((hbb.block _ (lt_get Hc7.out)).trans Hc7.out)
      clear hbb hx2 hsb
      refine hK.out _ _ (fun _ => HP2.out.cells) ?_
      clear hK K
      refine anyM_ready (rs := [2]) (by kernel_rfl) (by simp) ?_
      refine AllM.cons rfl (fun K hK => ?_) (AllM.nil)
      go_simp
      go_at_call 152
      refine (HFw.out _ HP2.out).mono ?_
      rintro e x3 ⟨_, rfl, hr⟩
      obtain ⟨_, av, cv, rfl, _⟩ := ownsRow_slI hr.1
      have HRw := hid (ownsRow_base (base' := w.heap.size + 4) hr.1 HP2.out.sz)
      have HP3 := hid (HP2.out.later hr.2)
      have Hsb := hid ((hr.2.cell (World.block_lt_of_cell? _ _ Hsb.out)).trans Hsb.out)
      have Hc7 := hid ((hr.2.block _ (lt_get Hc7.out)).trans Hc7.out)
      clear hr
      refine hK.out _ _ (fun _ => HP3.out.cells) ?_
      clear hK K
      refine anyM_ready (rs := [5]) (by kernel_rfl) (by simp) ?_
      refine AllM.cons rfl (fun K hK => ?_) (AllM.nil)
      refine step_append_int rfl rfl HRw.out (by have := HP3.out.sz; omega) (by have := HTl.out; omega) rfl rfl (by rw [Addr.add_lit]; exact Hsb.out) ?_
      intro gg cp x4 hown hgr
      have hlt := HRw.out.lt
      have HP4 := hid (HP3.out.grown hgr (fun r e => (hlt r e).1))
      have hne := row_ne HRw.out Hc7.out (by decide)
      have Hc7 := hid ((hgr.block _ (lt_get Hc7.out) hne).trans Hc7.out)
      have HRw := hid (by rw [Hle.out] at hown; exact hown)
      clear hown hgr hlt hne
      refine hK.out _ _ (fun _ => HP4.out.cells) ?_
      clear hK K
      refine anyM_ready (rs := [7]) (by kernel_rfl) (by simp) ?_
      refine AllM.cons rfl (fun K hK => ?_) AllM.nil
      obtain ⟨z0, z1⟩ := box_cell Hc7.out
      go_simp
      refine hK.out _ _ (fun h => absurd rfl h) ?_
      clear hK K z0 z1
      refine anyM_done (by kernel_rfl) ?_ _
      exact ⟨rfl, c7, _, _, _, _, rfl, hid (fpW_of Hle.out.symm HP4.out Hc7.out Hb7.out HRw.out)⟩

end Go.Proofs.Ytgefpllmelpahaa

/-! LinkOf, the whole. -/
namespace Go.Proofs.Ytgefpllmelpahaa
open Go.RowKit


theorem linkWanted (fs : List Int) (s : Nat) (hs : s < 64) (bm bd b n : Nat) (x : Int) (w : World) (hx0 : 1 ≤ x) (hx1 : x ≤ 63) (hm : w.cell? ⟨bm, 0, none⟩ = some (.map (some b))) (hd : w.cell? ⟨bd, 0, none⟩ = some (.int .i64 (s : Int))) (hM : MapW w b n fs) :
    Calls Try.prog 147 #[.int .i64 x, .pointer (some ⟨bd, 0, none⟩), .pointer (some ⟨bm, 0, none⟩)] w fun e w' => e = .returned (.bool (decide (x.toNat &&& s = 0) && decide (((x.toNat ||| s : Nat) : Int) ∈ fs))) ∧ Below w.heap.size w w' := by
  obtain ⟨f, rfl⟩ : ∃ f : Nat, x = f := ⟨x.toNat, by omega⟩
  have hf : f < 64 := by omega
  rw [Int.toNat_natCast]
  have hand : bits BinOp.and IntKind.i64 (f : Int) (s : Int) = ((f &&& s : Nat) : Int) := (bits_nat .i64 6 (by decide) (fun n h0 h1 => by rw [IntKind.wrap_i64]; omega) f s (by omega) (by omega)).1
  have hor : bits BinOp.or IntKind.i64 (f : Int) (s : Int) = ((f ||| s : Nat) : Int) := (bits_nat .i64 6 (by decide) (fun n h0 h1 => by rw [IntKind.wrap_i64]; omega) f s (by omega) (by omega)).2
  have ho64 : f ||| s < 2 ^ 6 := Nat.or_lt_two_pow (by omega) (by omega)
  have hlook := lookup_known hM (p := ((f ||| s : Nat) : Int)) (WalkArith.wf_i64 (by omega))
  clear hM
  by_cases hp : f &&& s = 0
  · have hg : (((f &&& s : Nat) : Int) == 0) = true := by simp [hp]
    have Hp := hid hp
    clear hp
    go_enter Try.func147, Try.ntmps147
    go_wp2_with fail
    go_ret
    exact ⟨ret_bool (by simp [Hp.out]), Below.refl _ _⟩
  · have hg : (((f &&& s : Nat) : Int) == 0) = false := by simp; omega
    have Hp := hid hp
    clear hp
    go_enter Try.func147, Try.ntmps147
    go_wp2_with fail
    go_ret
    exact ⟨ret_bool (by simp [Hp.out]), Below.refl _ _⟩

set_option maxHeartbeats 1000000 in
theorem implLinkOf (V : Int) (a : Option Addr) (cap : Nat) (fs : List Int) (d : Int) (wd : (Lit.int .i64 d).wf = true) (w : World) (hx : SlI w w.heap.size a fs) (hl : fs.length ≤ 1048576) :
    Calls Try.prog 73 #[.agg #[.int .i64 V, .slice a fs.length cap], .int .i64 d] w fun e w' => ∃ v, e = .returned (.tuple #[.agg #[.int .i64 (linkOfR V fs d).1, v], .int .i64 (linkOfR V fs d).2.2]) ∧ Res w w' v (linkOfR V fs d).2.1 := by
  have hB0 : Below w.heap.size w (((w.alloc (.cells #[.int .i64 V, .slice a fs.length cap] 30)).alloc (.cells #[.int .i64 d] 2)).alloc (.cells #[.int .i64 0, .slice none 0 0] 30)) := (((Below.refl _ w).alloc (Nat.le_refl _) _).alloc (by simp) _).alloc (by simp <;> omega) _
  have Hx := hid (hx.later hB0 (by simp <;> omega))
  by_cases hC : IsC V fs
  · have Hf := hid hC.range63
    have HC := hid hC
    by_cases hd : d ∈ fs
    · refine cx_mono (show linkOfR V fs d = (V, linkL fs d, 0) by unfold linkOfR; rw [isCB_true hC, if_pos rfl, if_pos hd]) ?_
      have hdr := hC.range63 d hd
      obtain ⟨s, rfl⟩ : ∃ s : Nat, d = s := ⟨d.toNat, by omega⟩
      have hs : s < 64 := by omega
      have Hd := hid hd
      clear hC hd wd
      go_enter Try.func73, Try.ntmps73
      go_wp2_with fail
      refine (fh_yes V a cap fs _ _ Hx.out hl HC.out Hd.out).mono ?_
      rintro e w1 ⟨b, rfl, ⟨n, hM⟩, hbw, hB1⟩
      have k0 : w1.cell? ⟨w.heap.size, 0, none⟩ = some (.int .i64 V) := (hB1.cell (p := ⟨w.heap.size, 0, none⟩) (by simp <;> omega)).trans (by simp [go_sem])
      have k1 : w1.cell? ⟨w.heap.size, 1, none⟩ = some (.slice a fs.length cap) := (hB1.cell (p := ⟨w.heap.size, 1, none⟩) (by simp <;> omega)).trans (by simp [go_sem])
      have k2 : w1.cell? ⟨w.heap.size + 1, 0, none⟩ = some (.int .i64 (s : Int)) := (hB1.cell (p := ⟨w.heap.size + 1, 0, none⟩) (by simp <;> omega)).trans (by simp [go_sem])
      have r1 : w1.heap[w.heap.size + 1 + 1]? = some (.cells #[.int .i64 0, .slice none 0 0] 30 (0, 0)) := (hB1.block _ (by simp <;> omega)).trans (new3 _ _ _ _)
      have hB01 := hB0.trans (hB1.mono (by simp <;> omega))
      have hx1 := hid (hx.later hB01 hB01.size)
      have R1 := hid r1
      have HM := hid hM
      have hlt := lt_get r1
      clear r1 hM hbw
      obtain ⟨W, hW⟩ : ∃ W, W = w1.alloc (.cells #[.map (some b)] 93) := ⟨_, rfl⟩
      have HW := hid hW
      have hWB : Hid (Below w1.heap.size w1 W) := hid (by rw [hW]; exact (Below.refl _ w1).alloc (Nat.le_refl _) _)
      have hWm : Hid (W.cell? ⟨w1.heap.size, 0, none⟩ = some (.map (some b)) ∧ w1.heap.size < W.heap.size) := hid (by rw [hW]; constructor <;> simp [go_sem])
      have j0 : ∀ (o : Obj), (w1.alloc o).cell? ⟨w.heap.size, 0, none⟩ = some (.int .i64 V) := cell_alloc_drew1 k0
      have j1 : ∀ (o : Obj), (w1.alloc o).cell? ⟨w.heap.size, 1, none⟩ = some (.slice a fs.length cap) := cell_alloc_drew1 k1
      clear hW k0 k1
      go_wp2_with fail
      rw [← HW.out]
      refine (cw_any V a cap fs _ 147 _ (linkL fs s) ?_).mono ?_
      · intro W' hW'
        have hW1 := hWB.out.trans (hW'.mono hWB.out.size)
        refine fw_any2 V a cap fs W' 147 _ _ (fun x => decide (x.toNat &&& s = 0) && decide (((x.toNat ||| s : Nat) : Int) ∈ fs)) (hx1.out.later hW1 hW1.size) hl (enters_of Try.func147 (by kernel_rfl) rfl) ?_
        intro W2 x hW2 hxm
        have := Hf.out x hxm
        have hs2 := hW1.size
        have hs3 := hW'.size
        have hm2 := hWm.out.2
        exact linkWanted fs s hs _ _ b n x W2 this.1 this.2
          ((hW2.cell (p := ⟨w1.heap.size, 0, none⟩) (by show w1.heap.size < W'.heap.size; omega)).trans ((hW'.cell (p := ⟨w1.heap.size, 0, none⟩) hm2).trans hWm.out.1))
          ((hW2.cell (p := ⟨w.heap.size + 1, 0, none⟩) (by show w.heap.size + 1 < W'.heap.size; omega)).trans ((hW1.cell (p := ⟨w.heap.size + 1, 0, none⟩) (by show w.heap.size + 1 < w1.heap.size; omega)).trans k2))
          ((HM.out.later hW1).later hW2)
      rintro e w2 ⟨v, rfl, hr⟩
      obtain ⟨_, av, cv, rfl, _⟩ := ownsRow_slI hr.1
      have R1W := (hWB.out.block _ (lt_get R1.out)).trans R1.out
      have r2 := (hr.2.block _ (lt_get R1W)).trans R1W
      obtain ⟨c0, c1, f0, f1⟩ := two_of r2
      have R2 := hid r2
      clear r2 R1W
      go_wp2_with fail
      (try simp only [Exit.inBlock, Exit.then])
      have R3 := two_of (two_set R2.out (.int .i64 V) (.slice av (linkL fs s).length cv))
      refine done_cx (p := 4) (u := 5) (by kernel_rfl) rfl rfl R3.1 R3.2.1 rfl ⟨_, rfl, ?_⟩
      exact ((hr.later hWB.out).later hB01).set2 R2.out (by decide) (by omega) _ _
    · refine cx_mono (show linkOfR V fs d = (0, [], 2) by unfold linkOfR; rw [isCB_true hC, if_pos rfl, if_neg hd]) ?_
      have Hd := hid hd
      clear hC hd
      go_enter Try.func73, Try.ntmps73
      go_wp2_with fail
      refine (fh_no V a cap fs _ _ Hx.out hl HC.out wd Hd.out).mono ?_
      rintro e w1 ⟨rfl, hB1⟩
      have r1 : w1.heap[w.heap.size + 1 + 1]? = some (.cells #[.int .i64 0, .slice none 0 0] 30 (0, 0)) := (hB1.block _ (by simp <;> omega)).trans (new3 _ _ _ _)
      have hB01 := hB0.trans (hB1.mono (by simp <;> omega))
      obtain ⟨c0, c1, f0, f1⟩ := two_alloc r1
      have R1 := hid r1
      clear r1
      go_wp2_with fail
      (try simp only [Exit.inBlock, Exit.then])
      have R2 := (Below.heap_alloc _ (.cells #[.map none] 93) _ (lt_get R1.out)).trans R1.out
      have R3 := two_of (two_set R2 (.int .i64 0) (.slice none 0 0))
      refine done_cx (p := 4) (u := 5) (by kernel_rfl) rfl rfl R3.1 R3.2.1 rfl ⟨_, rfl, ?_⟩
      exact (res_nil _ _ (hB01.alloc hB01.size _)).set2 R2 (by decide) (by omega) _ _
  · refine cx_mono (show linkOfR V fs d = (0, [], 1) by unfold linkOfR; rw [isCB_false hC, if_neg (by simp)]) ?_
    go_enter Try.func73, Try.ntmps73
    go_wp2_with fail
    refine (fh_bad V a cap fs _ _ Hx.out hl hC).mono ?_
    rintro e w1 ⟨rfl, hB1⟩
    have r1 : w1.heap[w.heap.size + 1 + 1]? = some (.cells #[.int .i64 0, .slice none 0 0] 30 (0, 0)) := (hB1.block _ (by simp <;> omega)).trans (new3 _ _ _ _)
    have hB01 := hB0.trans (hB1.mono (by simp <;> omega))
    obtain ⟨c0, c1, f0, f1⟩ := two_alloc r1
    have R1 := hid r1
    clear r1
    go_wp2_with fail
    (try simp only [Exit.inBlock, Exit.then])
    have R2 := (Below.heap_alloc _ (.cells #[.map none] 93) _ (lt_get R1.out)).trans R1.out
    have R3 := two_of (two_set R2 (.int .i64 0) (.slice none 0 0))
    refine done_cx (p := 4) (u := 5) (by kernel_rfl) rfl rfl R3.1 R3.2.1 rfl ⟨_, rfl, ?_⟩
    exact (res_nil _ _ (hB01.alloc hB01.size _)).set2 R2 (by decide) (by omega) _ _

end Go.Proofs.Ytgefpllmelpahaa

/-! FlipOf, the program's. -/
namespace Go.Proofs.Ytgefpllmelpahaa
open Go.RowKit

/-- What FlipOf's loop keeps: the link in block b6, the missing faces, its box, its result. -/
structure FlW (w W : World) (V : Int) (sl : Value) (bl : Nat) (al : Option Addr) (cl : Nat) (L : List Int) (am : Option Addr) (M : List Int) : Prop where
  ot : OtW w W V bl al cl L am M
  k2 : W.heap[w.heap.size]? = some (.cells #[.int .i64 V, sl] 30 (0, 0))
  k4 : W.heap[w.heap.size + 1]? = some (.cells #[.int .i64 0, .slice none 0 0] 30 (0, 0))
theorem FlW.later {w W W' : World} {V : Int} {sl : Value} {bl : Nat} {al : Option Addr} {cl : Nat} {L : List Int} {am : Option Addr} {M : List Int} (h : FlW w W V sl bl al cl L am M) (hb : Below W.heap.size W W') : FlW w W' V sl bl al cl L am M :=
  ⟨h.ot.later hb, (hb.block _ (lt_get h.k2)).trans h.k2, (hb.block _ (lt_get h.k4)).trans h.k4⟩
theorem missL_mem {V : Int} {fs : List Int} (hC : IsC V fs) {x : Int} (h : x ∈ missL V fs) : 1 ≤ x ∧ x ≤ allV V ∧ x ∉ fs := by
  unfold missL at h
  have h1 := (mem_pickTo _).1 h
  have hA := allV_nat hC.lo hC.hi
  obtain ⟨A, hA, _, _⟩ := hA
  refine ⟨h1.1, by omega, fun hm => ?_⟩
  have h2 := h1.2.2
  unfold missB at h2
  rw [show ((x.toNat : Nat) : Int) = x by omega, decide_eq_true hm] at h2
  simp at h2

set_option maxRecDepth 100000 in
set_option maxHeartbeats 8000000 in
theorem flipI_ok (V : Int) (a0 : Option Addr) (cap : Nat) (fs : List Int) (f : Nat) (w : World) (hx : SlI w w.heap.size a0 fs) (hl : fs.length ≤ 1048576) (hC : IsC V fs) (hd : (f : Int) ∈ fs) (hf : f < 64) :
    Calls Try.prog 30 #[.agg #[.int .i64 V, .slice a0 fs.length cap], .int .i64 (f : Int)] w fun e w' => ∃ v, e = .returned (.tuple #[.agg #[.int .i64 (flipR V fs f).1, v], .int .i64 (flipR V fs f).2.2]) ∧ Res w w' v (flipR V fs f).2.1 := by
  have hB0 : Below w.heap.size w ((w.alloc (.cells #[.int .i64 V, .slice a0 fs.length cap] 30)).alloc (.cells #[.int .i64 0, .slice none 0 0] 30)) := ((Below.refl _ w).alloc (Nat.le_refl _) _).alloc (by simp) _
  have HLk := hid (fun W (h : Below w.heap.size w W) => implLinkOf V a0 cap fs (f : Int) (WalkArith.wf_i64 (by omega)) W (hx.later h h.size) hl)
  rw [show linkOfR V fs (f : Int) = (V, linkL fs (f : Int), 0) by unfold linkOfR; rw [isCB_true hC, if_pos rfl, if_pos hd]] at HLk
  have HMs := hid (fun W (h : Below w.heap.size w W) => missFaces_any V a0 cap fs W (hx.later h h.size) hl hC.lo hC.hi)
  have HFl := hid (fun (g : Nat) W (h : Below w.heap.size w W) (h1 : 1 ≤ g) (h2 : (g : Int) ≤ allV V) => callsIn_wide.1 (flipped_in V a0 cap fs f g W (hx.later h h.size) hl hC hd hf h1 h2))
  have HMr : Hid (∀ g ∈ missL V fs, 1 ≤ g ∧ g ≤ allV V ∧ g ∉ fs) := hid (fun g hg => missL_mem hC hg)
  have hA63 := allV_le hC.hi
  have HMl : Hid ((missL V fs).length ≤ 1048576) := hid (by
    have := pickTo_len (fun x => missB fs x.toNat) (allV V).toNat
    unfold missL
    omega)
  have HLl : Hid ((linkL fs (f : Int)).length ≤ 1048576) := hid (Nat.le_trans (List.length_filter_le _ _) hl)
  have HRn : Hid (otherN fs f (missL V fs) = 0 → flipR V fs (f : Int) = (0, [], 5)) := hid (fun h => by unfold flipR; rw [isCB_true hC, if_pos rfl, if_pos hd, Int.toNat_natCast, if_pos h])
  have HRs : Hid (∀ g : Nat, 1 ≤ g → otherN fs f (missL V fs) = (g : Int) → flipR V fs (f : Int) = (V, flipL V fs f g, 0)) := hid (fun g h1 h => by unfold flipR; rw [isCB_true hC, if_pos rfl, if_pos hd, Int.toNat_natCast, if_neg (by rw [h]; omega), h, Int.toNat_natCast])
  have HSi := hid (fun (g : Nat) (h1 : 1 ≤ g) (h2 : g < 64) (h3 : (g : Int) ∉ fs) => serves_iff hC hd h1 h2 h3)
  have HFm := hid (fun (g : Nat) (h1 : 1 ≤ g) (h2 : g < 64) (h3 : g &&& f = 0) (h4 : linkL fs (f : Int) = properL g) => flip_made hC hd h1 h2 h3 h4)
  obtain ⟨M, hM⟩ : ∃ M, M = missL V fs := ⟨_, rfl⟩
  rw [← hM] at HMs HMr HMl HRn HRs
  obtain ⟨R, hR⟩ : ∃ R, R = flipR V fs (f : Int) := ⟨_, rfl⟩
  rw [← hR] at HRn HRs ⊢
  have HB0 := hid hB0
  clear hx hC hd hM hR hB0
  go_enter Try.func30, Try.ntmps30
  go_wp2_with fail
  refine (HLk.out _ HB0.out).mono ?_
  rintro e w1 ⟨v1, rfl, hr1⟩
  obtain ⟨_, al, cl, rfl, hs1⟩ := ownsRow_slI hr1.1
  have q2 := (hr1.2.block w.heap.size (by simp <;> omega)).trans ((Below.heap_alloc _ (.cells #[.int .i64 0, .slice none 0 0] 30) _ (by simp)).trans (heap_alloc_new w (.cells #[.int .i64 V, .slice a0 fs.length cap] 30)))
  have q4 : w1.heap[w.heap.size + 1]? = some (.cells #[.int .i64 0, .slice none 0 0] 30 (0, 0)) := (hr1.2.block _ (by simp <;> omega)).trans (new2 _ _ _)
  have HB1 := hid (HB0.out.trans (hr1.2.mono (by simp <;> omega)))
  have HS1 := hid hs1
  have Q2 := hid q2
  have Q4 := hid q4
  obtain ⟨k0, k1, _, _⟩ := two_of q2
  have n0 := cell_alloc0 k0 (.cells #[.int .i64 V, .slice al (linkL fs (f : Int)).length cl] 30)
  have n1 := cell_alloc0 k1 (.cells #[.int .i64 V, .slice al (linkL fs (f : Int)).length cl] 30)
  clear hr1 hs1 q2 q4 k0 k1
  go_wp2_with fail
  obtain ⟨w2, hw2⟩ : ∃ x, x = w1.alloc (.cells #[.int .i64 V, .slice al (linkL fs (f : Int)).length cl] 30) := ⟨_, rfl⟩
  rw [← hw2]
  have hb2 : Below w1.heap.size w1 w2 := by rw [hw2]; exact (Below.refl _ _).alloc (Nat.le_refl _) _
  have HB2 := hid (HB1.out.trans (hb2.mono HB1.out.size))
  have L2 : Hid (w2.heap[w1.heap.size]? = some (.cells #[.int .i64 V, .slice al (linkL fs (f : Int)).length cl] 30 (0, 0))) := hid (by rw [hw2]; exact heap_alloc_new _ _)
  have P2 := hid ((hb2.block _ (lt_get Q2.out)).trans Q2.out)
  have P4 := hid ((hb2.block _ (lt_get Q4.out)).trans Q4.out)
  have S2 := hid (HS1.out.later hb2 hb2.size)
  obtain ⟨b6, hb6⟩ : ∃ b, b = w1.heap.size := ⟨_, rfl⟩
  rw [← hb6] at L2 ⊢
  clear hw2 hb2 n0 n1 Q2 Q4 HB1 HS1 hb6
  refine (HMs.out w2 HB2.out).mono ?_
  rintro e w3 ⟨v3, rfl, hr3⟩
  obtain ⟨_, am, cm, rfl, hs3⟩ := ownsRow_slI hr3.1
  have HW : Hid (FlW w w3 V (.slice a0 fs.length cap) b6 al cl (linkL fs (f : Int)) am M) := hid ⟨⟨HB2.out.trans (hr3.2.mono HB2.out.size), (hr3.2.block _ (lt_get L2.out)).trans L2.out, S2.out.later hr3.2 hr3.2.size, hs3⟩, (hr3.2.block _ (lt_get P2.out)).trans P2.out, (hr3.2.block _ (lt_get P4.out)).trans P4.out⟩
  clear hr3 hs3 HB2 L2 P2 P4 S2 HB0
  go_wp2_with fail
  go_loopw [23] (fun i wr => ∃ k : Nat, k ≤ M.length ∧ i = .int .i64 k ∧ Hid (∀ j, j < k → servesB fs f (M[j]?.getD 0).toNat = false) ∧ Hid (FlW w wr V (.slice a0 fs.length cap) b6 al cl (linkL fs (f : Int)) am M)) (fun i _ => M.length - (intOf i).toNat)
  case atStart => exact ⟨0, Nat.zero_le _, rfl, hid (fun j hj => absurd hj (by omega)), HW⟩
  case round =>
    clear HW
    obtain ⟨k, hk, rfl, Hno, HW⟩ := hrel
    have hMl := HMl.out
    by_cases hlt : k < M.length
    · obtain ⟨b, off, hb, rfl, hc⟩ : ∃ b off, b < wr.heap.size ∧ am = some ⟨b, off, none⟩ ∧ ∀ i, i < M.length → wr.cell? ⟨b, off + i, none⟩ = some (.int .i64 (M[i]?.getD 0)) := by
        rcases HW.out.ot.miss with h | h
        · rw [h] at hlt; simp at hlt
        · exact h
      have hmr := HMr.out _ (getD_mem hlt)
      obtain ⟨g, hg⟩ : ∃ g : Nat, (g : Int) = M[k]?.getD 0 := ⟨(M[k]?.getD 0).toNat, by omega⟩
      rw [← hg] at hmr
      have hg64 : g < 64 := by omega
      have hg1 : 1 ≤ g := by omega
      have hck := hc k hlt
      rw [← hg] at hck
      have hi0 : (0 : Int) ≤ (k : Int) := by omega
      have hi1 : (k : Int) < (M.length : Int) := by omega
      have hiff := HSi.out g hg1 hg64 hmr.2.2
      obtain ⟨htk, htl⟩ := srtP_take hg1 hg64
      have HPr := hid (fun W => proper_any g hg1 hg64 W)
      rw [htk, htl] at HPr
      have HEq := hid (fun W ab d (h : SlI W W.heap.size al (linkL fs (f : Int))) (h2 : SlI W W.heap.size ab (properL g)) => eqIs_any al cl (linkL fs (f : Int)) ab d (properL g) W h h2 HLl.out)
      have hb1 : wr.drew.cell? ⟨b6, 1, none⟩ = some (.slice al (linkL fs (f : Int)).length cl) := (two_of HW.out.ot.box).2.1
      have hgA := hmr.2.1
      by_cases hs : linkL fs (f : Int) = properL g
      · have hd1 : decide (linkL fs (f : Int) = properL g) = true := decide_eq_true hs
        rw [hd1] at HEq
        have hsv := hiff.2 hs
        have hoth : otherN fs f M = (g : Int) := by rw [otherN_some hlt Hno.out (by rw [← hg]; exact hsv), hg]
        have Hans := hid (HRs.out g hg1 hoth)
        have hgf : g &&& f = 0 := by
          unfold servesB at hsv
          simp only [Bool.and_eq_true, decide_eq_true_eq] at hsv
          exact hsv.1
        have Hfm := hid (HFm.out g hg1 hg64 hgf hs)
        clear hg hc hiff htk htl hsv hoth hs hd1 hgf hmr
        go_wp2_with fail
        obtain ⟨x0, hx0⟩ : ∃ x, x = wr.drew := ⟨_, rfl⟩
        have HW0 : Hid (FlW w x0 V (.slice a0 fs.length cap) b6 al cl (linkL fs (f : Int)) (some ⟨b, off, none⟩) M) := hid (by rw [hx0]; exact HW.out.later (Below.refl _ wr).drew)
        rw [← hx0] at hb1
        refine region_M 4 (fun W : World => W.cell? ⟨b6, 1, none⟩ = some (.slice al (linkL fs (f : Int)).length cl)) (by kernel_rfl) ?_
        rw [← hx0]
        clear hx0
        refine anyM_take (i := 0) (v := .pointer (some ⟨b6, 1, none⟩)) [1, 4] rfl (by kernel_rfl) (fun _ _ _ h => h) (Or.inl ⟨by rfl, fun W hW => by go_simp⟩) hb1 ?_
        refine anyM_take (i := 1) (v := .slice al (linkL fs (f : Int)).length cl) [4] rfl (by kernel_rfl) (fun _ _ _ h => h) (Or.inl ⟨by rfl, fun W hW => by go_simp⟩) hb1 ?_
        refine anyM_take (i := 2) (v := .int .i64 (g : Int)) [3, 4] rfl (by kernel_rfl) (fun _ _ _ h => h) (Or.inl ⟨by rfl, fun W hW => by go_simp⟩) hb1 ?_
        refine anyM_ready (rs := [3]) (by kernel_rfl) (by simp) ?_
        refine AllM.cons rfl (fun K hK => ?_) AllM.nil
        go_simp
        go_at_call 76
        refine (HPr.out x0).mono ?_
        rintro e x1 ⟨ap, cp, rfl, hsp, hbp⟩
        have HW1 := hid (HW0.out.later hbp)
        have HSp := hid hsp
        clear hsp hbp
        refine hK.out _ _ (fun _ => (two_of HW1.out.ot.box).2.1) ?_
        clear hK K
        refine anyM_ready (rs := [4]) (by kernel_rfl) (by simp) ?_
        refine AllM.cons rfl (fun K hK => ?_) AllM.nil
        go_simp
        go_at_call 75
        refine (HEq.out x1 ap cp HW1.out.ot.link HSp.out).mono ?_
        rintro e x2 ⟨rfl, hb2⟩
        have HW2 := hid (HW1.out.later hb2)
        clear hb2
        refine hK.out _ _ (fun h => absurd rfl h) ?_
        clear hK K
        refine anyM_done (by kernel_rfl) ?_ _
        clear HW HW0 HW1 hb1 hck
        obtain ⟨k0, k1, _, _⟩ := two_of HW2.out.k2
        go_wp2_with fail
        refine (HFl.out g x2 HW2.out.ot.below hg1 hgA).mono ?_
        rintro e x3 ⟨v9, rfl, hr9⟩
        rw [Hfm.out] at hr9
        obtain ⟨_, a9, c9, rfl, _⟩ := ownsRow_slI hr9.1
        have hq4 := (hr9.2.block _ (lt_get HW2.out.k4)).trans HW2.out.k4
        obtain ⟨r0, r1, s0, s1⟩ := two_of hq4
        have Hq4 := hid hq4
        have Hr9 := hid (hr9.later HW2.out.ot.below)
        clear k0 k1 hq4 hr9
        go_wp2_with fail
        (try simp only [Exit.inBlock, Exit.then])
        have R5 := two_of (two_set Hq4.out (.int .i64 V) (.slice a9 (flipL V fs f g).length c9))
        rw [Hans.out]
        refine done_cx (p := 4) (u := 5) (by kernel_rfl) rfl rfl R5.1 R5.2.1 rfl ⟨_, rfl, ?_⟩
        exact Hr9.out.set2 Hq4.out (by decide) (by omega) _ _
      · have hd1 : decide (linkL fs (f : Int) = properL g) = false := decide_eq_false hs
        rw [hd1] at HEq
        have hsv : servesB fs f g = false := by
          cases hq : servesB fs f g
          · rfl
          · exact absurd (hiff.1 hq) hs
        have Hn : Hid (∀ j, j < k + 1 → servesB fs f (M[j]?.getD 0).toNat = false) := hid (fun j hj => by
          by_cases e : j = k
          · subst e; rw [← hg]; exact hsv
          · exact Hno.out j (by omega))
        clear hg hc hiff htk htl hsv hs hd1 hmr
        go_wp2_with fail
        obtain ⟨x0, hx0⟩ : ∃ x, x = wr.drew := ⟨_, rfl⟩
        have HW0 : Hid (FlW w x0 V (.slice a0 fs.length cap) b6 al cl (linkL fs (f : Int)) (some ⟨b, off, none⟩) M) := hid (by rw [hx0]; exact HW.out.later (Below.refl _ wr).drew)
        rw [← hx0] at hb1
        refine region_M 4 (fun W : World => W.cell? ⟨b6, 1, none⟩ = some (.slice al (linkL fs (f : Int)).length cl)) (by kernel_rfl) ?_
        rw [← hx0]
        clear hx0
        refine anyM_take (i := 0) (v := .pointer (some ⟨b6, 1, none⟩)) [1, 4] rfl (by kernel_rfl) (fun _ _ _ h => h) (Or.inl ⟨by rfl, fun W hW => by go_simp⟩) hb1 ?_
        refine anyM_take (i := 1) (v := .slice al (linkL fs (f : Int)).length cl) [4] rfl (by kernel_rfl) (fun _ _ _ h => h) (Or.inl ⟨by rfl, fun W hW => by go_simp⟩) hb1 ?_
        refine anyM_take (i := 2) (v := .int .i64 (g : Int)) [3, 4] rfl (by kernel_rfl) (fun _ _ _ h => h) (Or.inl ⟨by rfl, fun W hW => by go_simp⟩) hb1 ?_
        refine anyM_ready (rs := [3]) (by kernel_rfl) (by simp) ?_
        refine AllM.cons rfl (fun K hK => ?_) AllM.nil
        go_simp
        go_at_call 76
        refine (HPr.out x0).mono ?_
        rintro e x1 ⟨ap, cp, rfl, hsp, hbp⟩
        have HW1 := hid (HW0.out.later hbp)
        have HSp := hid hsp
        clear hsp hbp
        refine hK.out _ _ (fun _ => (two_of HW1.out.ot.box).2.1) ?_
        clear hK K
        refine anyM_ready (rs := [4]) (by kernel_rfl) (by simp) ?_
        refine AllM.cons rfl (fun K hK => ?_) AllM.nil
        go_simp
        go_at_call 75
        refine (HEq.out x1 ap cp HW1.out.ot.link HSp.out).mono ?_
        rintro e x2 ⟨rfl, hb2⟩
        have HW2 := hid (HW1.out.later hb2)
        clear hb2
        refine hK.out _ _ (fun h => absurd rfl h) ?_
        clear hK K
        refine anyM_done (by kernel_rfl) ?_ _
        clear HW HW0 HW1 hb1 hck
        go_wp2_with fail
        go_roundw
        case rel => exact ⟨k + 1, by omega, by go_num, Hn, HW2⟩
        case measure => simp [intOf]; omega
    · obtain rfl : k = M.length := by omega
      have Hans := hid (HRn.out (otherN_none Hno.out))
      obtain ⟨r0, r1, s0, s1⟩ := two_of HW.out.k4
      go_wp2_with fail
      (try simp only [Exit.inBlock, Exit.then])
      have R5 := two_of (two_set HW.out.k4 (.int .i64 0) (.slice none 0 0))
      rw [Hans.out]
      refine done_cx (p := 4) (u := 5) (by kernel_rfl) rfl rfl R5.1 R5.2.1 rfl ⟨_, rfl, ?_⟩
      exact (res_nil _ _ HW.out.ot.below).set2 HW.out.k4 (by decide) (by omega) _ _

set_option maxRecDepth 100000 in
set_option maxHeartbeats 2000000 in
theorem flipI_bad (V : Int) (a : Option Addr) (cap : Nat) (fs : List Int) (d : Int) (wd : (Lit.int .i64 d).wf = true) (w : World) (hx : SlI w w.heap.size a fs) (hl : fs.length ≤ 1048576) (c : Int) (hc0 : c ≠ 0) (hc : linkOfR V fs d = (0, [], c)) :
    Calls Try.prog 30 #[.agg #[.int .i64 V, .slice a fs.length cap], .int .i64 d] w fun e w' => ∃ v, e = .returned (.tuple #[.agg #[.int .i64 0, v], .int .i64 c]) ∧ Res w w' v [] := by
  have hB0 : Below w.heap.size w ((w.alloc (.cells #[.int .i64 V, .slice a fs.length cap] 30)).alloc (.cells #[.int .i64 0, .slice none 0 0] 30)) := ((Below.refl _ w).alloc (Nat.le_refl _) _).alloc (by simp) _
  have HLk := hid (implLinkOf V a cap fs d wd _ (hx.later hB0 hB0.size) hl)
  rw [hc] at HLk
  have hcn : (c != 0) = true := by simpa using hc0
  have HB0 := hid hB0
  clear hx hB0 hc hc0
  go_enter Try.func30, Try.ntmps30
  go_wp2_with fail
  refine HLk.out.mono ?_
  rintro e w1 ⟨v1, rfl, hr1⟩
  obtain ⟨_, al, cl, rfl, _⟩ := ownsRow_slI hr1.1
  have q4 : w1.heap[w.heap.size + 1]? = some (.cells #[.int .i64 0, .slice none 0 0] 30 (0, 0)) := (hr1.2.block _ (by simp <;> omega)).trans (new2 _ _ _)
  have hB1 := HB0.out.trans (hr1.2.mono (by simp <;> omega))
  have Q4 : Hid ((w1.alloc (.cells #[.int .i64 0, .slice al 0 cl] 30)).heap[w.heap.size + 1]? = some (.cells #[.int .i64 0, .slice none 0 0] 30 (0, 0))) := hid ((Below.heap_alloc _ _ _ (lt_get q4)).trans q4)
  obtain ⟨r0, r1, s0, s1⟩ := two_of Q4.out
  have HB2 := hid (hB1.alloc hB1.size (.cells #[.int .i64 0, .slice al 0 cl] 30))
  clear hr1 q4 hB1
  go_wp2_with fail
  (try simp only [Exit.inBlock, Exit.then])
  have R5 := two_of (two_set Q4.out (.int .i64 0) (.slice none 0 0))
  refine done_cx (p := 4) (u := 5) (by kernel_rfl) rfl rfl R5.1 R5.2.1 rfl ⟨_, rfl, ?_⟩
  exact (res_nil _ _ HB2.out).set2 Q4.out (by decide) (by omega) _ _

theorem implFlipOf (V : Int) (a : Option Addr) (cap : Nat) (fs : List Int) (d : Int) (wd : (Lit.int .i64 d).wf = true) (w : World) (hx : SlI w w.heap.size a fs) (hl : fs.length ≤ 1048576) :
    Calls Try.prog 30 #[.agg #[.int .i64 V, .slice a fs.length cap], .int .i64 d] w fun e w' => ∃ v, e = .returned (.tuple #[.agg #[.int .i64 (flipR V fs d).1, v], .int .i64 (flipR V fs d).2.2]) ∧ Res w w' v (flipR V fs d).2.1 := by
  by_cases hC : IsC V fs
  · by_cases hd : d ∈ fs
    · have hdr := hC.range63 d hd
      obtain ⟨f, rfl⟩ : ∃ s : Nat, d = s := ⟨d.toNat, by omega⟩
      exact flipI_ok V a cap fs f w hx hl hC hd (by omega)
    · exact cx_mono (show flipR V fs d = (0, [], 2) by unfold flipR; rw [isCB_true hC, if_pos rfl, if_neg hd]) (flipI_bad V a cap fs d wd w hx hl 2 (by decide) (by unfold linkOfR; rw [isCB_true hC, if_pos rfl, if_neg hd]))
  · exact cx_mono (show flipR V fs d = (0, [], 1) by unfold flipR; rw [isCB_false hC, if_neg (by simp)]) (flipI_bad V a cap fs d wd w hx hl 1 (by decide) (by unfold linkOfR; rw [isCB_false hC, if_neg (by simp)]))

end Go.Proofs.Ytgefpllmelpahaa
