import Derived.Test.YthmhdfhjjpfbfaaFill
import Derived.Test.YthmhdfhjjpfbfaaNewRows
import Derived.Test.YthmhdfhjjpfbfaaRankI
import Derived.Test.YthmhdfhjjpfbfaaFod
import Derived.Test.YthmhdfhjjpfbfaaMathL
import Derived.Deep.CutRange
import Derived.Deep.RegionHeld3
/-! boundaryRank: the program's rank of a dimension. -/
namespace Go.Proofs.Ythmhdfhjjpfbfaa
open Go.RowKit Go.Shelf

set_option maxRecDepth 1000000 in
set_option maxHeartbeats 1000000 in
theorem fill_nil (B R w cf cs : Nat) (ad : Ads) (p : Int) (S : List Int) (af as_ : Option Addr) (W : World) (hM : MatW W B R 0 w ad []) (hB : B ≤ W.heap.size) :
    CallsIn Fence.wide 10 Try.prog 127 #[.slice (some ⟨R, 0, none⟩) 0 0, .slice af 0 cf, .slice as_ w cs, .int .i64 p] W fun e W' => (∃ v, e = .returned v) ∧ MatW W' B R 0 w ad (([] : List Int).map fun f => bndRow S p (signedF f.toNat)) ∧ Below B W W' := by
  have hBl : Below B W (((W.alloc (.cells #[.slice (some ⟨R, 0, none⟩) 0 0] 107)).alloc (.cells #[.slice as_ w cs] 22)).alloc (.cells #[.int .i64 p] 2)) :=
    ((((Below.refl _ W).alloc (Nat.le_refl _) _).alloc (by simp) _).alloc (by simp <;> omega) _).mono hB
  have hk : (((W.alloc (.cells #[.slice (some ⟨R, 0, none⟩) 0 0] 107)).alloc (.cells #[.slice as_ w cs] 22)).alloc (.cells #[.int .i64 p] 2)).heap[R]? = W.heap[R]? :=
    (Below.heap_alloc _ _ _ (by have := hM.head.2; simp <;> omega)).trans ((Below.heap_alloc _ _ _ (by have := hM.head.2; simp <;> omega)).trans (Below.heap_alloc _ _ _ hM.head.2))
  have HM2 := hid (hM.keep (W' := ((W.alloc (.cells #[.slice (some ⟨R, 0, none⟩) 0 0] 107)).alloc (.cells #[.slice as_ w cs] 22)).alloc (.cells #[.int .i64 p] 2)) (by simp <;> omega) hk (fun i hi => by omega))
  have HBl := hid hBl
  clear hM hBl hk
  refine callsIn_of_wp_marks Try.func127 rfl trivial ?_ rfl
  simp only [Try.ntmps127, List.size_toArray, List.length_cons, List.length_nil, Nat.reduceAdd, Nat.reduceSub, Array.replicate_succ, Array.replicate_zero, List.push_toArray, List.append_toArray, List.nil_append, List.cons_append]
  gi_wp2
  refine wpIn_loop_rounds 1 ?_
  rw [roundsIn_succ]
  gi_wp2
  exact ⟨_, results_none rfl _ _ _, ⟨_, rfl⟩, HM2.out, HBl.out⟩

theorem fill_any (B R n w cf cs : Nat) (ad : Ads) (p : Int) (F S : List Int) (af as_ : Option Addr) (W : World) (hM : MatW W B R n w ad (List.replicate n (List.replicate w 0))) (hF : F.length = n) (hS : S.length = w)
    (xF : SlI W B af F) (xS : SlI W B as_ S) (hB : B ≤ W.heap.size) (hp : p = 2 ∨ p = 3) (hFr : ∀ x ∈ F, 1 ≤ x ∧ x ≤ 63) (hSa : S.Pairwise (· < ·)) (hS0 : ∀ s ∈ S, 0 ≤ s)
    (hsd : ∀ f ∈ F, ∀ x ∈ signedF f.toNat, ((x.1.val : Nat) : Int) ∈ S) (hn : n ≤ 1000) (hw : w ≤ 1000) :
    Calls Try.prog 127 #[.slice (some ⟨R, 0, none⟩) n n, .slice af n cf, .slice as_ w cs, .int .i64 p] W fun e W' => (∃ v, e = .returned v) ∧ MatW W' B R n w ad (F.map fun f => bndRow S p (signedF f.toNat)) ∧ Below B W W' := by
  rcases xF with rfl | ⟨b1, o1, hb, rfl, hc⟩
  · obtain rfl : n = 0 := by simpa using hF.symm
    exact callsIn_wide.1 (fill_nil B R w cf cs ad p S af as_ W hM hB)
  · exact callsIn_wide.1 (fill_in B R n w cf cs ad p F S b1 o1 as_ W hM hF hS hb hc xS hB hp hFr hSa hS0 hsd hn hw)

set_option maxRecDepth 1000000 in
set_option maxHeartbeats 2000000 in
theorem brank_any (V : Int) (a0 : Option Addr) (cap : Nat) (fs : List Int) (d p : Int) (w : World) (hx : SlI w w.heap.size a0 fs) (hl : fs.length ≤ 1048576) (hC : IsC V fs) (hp : p = 2 ∨ p = 3) (hd0 : -1 ≤ d) (hd1 : d ≤ 100) :
    Calls Try.prog 89 #[.agg #[.int .i64 V, .slice a0 fs.length cap], .int .i64 d, .int .i64 p] w fun e w' => e = .returned (.int .i64 (rankN fs d p : Int)) ∧ Below w.heap.size w w' := by
  have hB0 : Below w.heap.size w (w.alloc (.cells #[.int .i64 V, .slice a0 fs.length cap] 28)) := (Below.refl _ w).alloc (Nat.le_refl _) _
  have hBd := below_drewN hB0 1
  have h63 := hC.len63
  have HF := hid (fun dd w' (hw : Below w.heap.size w w') => fod_any V a0 cap fs dd w' (hx.later hw hw.size) hl hC.range63)
  have hsub : IntKind.i64.wrap (d - 1) = d - 1 := IntWalk.i64_in _ (by omega)
  have HBd := hid hBd
  have HC := hid hC
  have HP := hid hp
  have hF63 := ofDim_len fs d
  have hS63 := ofDim_len fs (d - 1)
  obtain ⟨E, hE⟩ : ∃ E, E = rankN fs d p := ⟨_, rfl⟩
  rw [← hE]
  have HE : Hid (E = elimR p (ofDim fs (d - 1)).length 0 0 ((ofDim fs d).map fun f => bndRow (ofDim fs (d - 1)) p (signedF f.toNat))) := hid hE
  clear hx hB0 hBd hC hp hE
  go_enter Try.func89, Try.ntmps89
  go_wp2_with fail
  go_cut [7, 8] from 10 to 16 (fun q1 q2 wx => ∃ (a1 a2 : Option Addr) (c1 c2 : Nat), q1 = .slice a1 (ofDim fs d).length c1 ∧ q2 = .slice a2 (ofDim fs (d - 1)).length c2 ∧ SlI wx wx.heap.size a1 (ofDim fs d) ∧ SlI wx wx.heap.size a2 (ofDim fs (d - 1)) ∧ Below w.heap.size w wx)
  case first =>
    go_region_with (first
      | (go_at_call 125; have hz := HB1.out; clear HB1; refine (HF.out _ w1 hz).mono ?_; rintro e w2 ⟨v2, rfl, hr2⟩; obtain ⟨_, a2, c2, rfl, s2⟩ := ownsRow_slI hr2.1; have S2 := hid s2; have HR2 := hid hr2; have HB2 := hid hz; clear s2 hr2 hz n0 n1)
      | (go_at_call 125; refine (HF.out _ _ HBd.out).mono ?_; rintro e w1 ⟨v1, rfl, hr1⟩; have hb1 : Below w.heap.size w w1 := HBd.out.trans (hr1.2.mono HBd.out.size); have n0 : w1.cell? ⟨w.heap.size, 0, none⟩ = some (.int .i64 V) := (hr1.2.cell (p := ⟨w.heap.size, 0, none⟩) (by simp)).trans (by simp [go_sem]); have n1 : w1.cell? ⟨w.heap.size, 1, none⟩ = some (.slice a0 fs.length cap) := (hr1.2.cell (p := ⟨w.heap.size, 1, none⟩) (by simp)).trans (by simp [go_sem]); obtain ⟨_, a1, c1, rfl, s1⟩ := ownsRow_slI hr1.1; have S1 := hid s1; have HB1 := hid hb1; clear hr1 hb1 s1))
    all_goals
      go_wp2_with fail
      go_meet
      case rel =>
        have hb2 := HB2.out.trans (HR2.out.2.mono HB2.out.size)
        have s1' := S1.out.later HR2.out.2 HR2.out.2.size
        first
        | exact ⟨a1, a2, c1, c2, rfl, rfl, s1', S2.out, hb2⟩
        | exact ⟨a2, a1, c2, c1, rfl, rfl, S2.out, s1', hb2⟩
  case rest =>
    obtain ⟨a1, a2, c1, c2, rfl, rfl, s1, s2, hb⟩ := hcut
    have hn63 : (ofDim fs d).length ≤ 1000 := by omega
    have hw63 : (ofDim fs (d - 1)).length ≤ 1000 := by omega
    have HG := hid (bndM_good (fs := fs) d HP.out)
    have HFr : Hid (∀ x ∈ ofDim fs d, 1 ≤ x ∧ x ≤ 63) := hid (fun x hx => HC.out.range63 x (ofDim_mem.1 hx).1)
    have HSa := hid (ofDim_asc HC.out.asc (d - 1))
    have HS0 : Hid (∀ s ∈ ofDim fs (d - 1), 0 ≤ s) := hid (fun x hx => by have := HC.out.range63 x (ofDim_mem.1 hx).1; omega)
    have HSd : Hid (∀ f ∈ ofDim fs d, ∀ x ∈ signedF f.toNat, ((x.1.val : Nat) : Int) ∈ ofDim fs (d - 1)) := hid (fun f hf x hx => side_in HC.out hf hx)
    have S1 := hid s1
    have S2 := hid s2
    have HB := hid hb
    have HG' : Hid (MatG p (ofDim fs d).length (ofDim fs (d - 1)).length ((ofDim fs d).map fun f => bndRow (ofDim fs (d - 1)) p (signedF f.toNat))) := HG
    clear s1 s2 hb HG hF63 hS63 hsub
    go_wp2_with fail
    refine (newRows_any (ofDim fs d).length (ofDim fs (d - 1)).length _ hn63 hw63).mono ?_
    rintro e w3 ⟨R, ad, rfl, hM, hB3⟩
    have HM := hid hM
    have HB3 := hid hB3
    clear hM hB3
    go_wp2_with fail
    refine (fill_any wc.heap.size R (ofDim fs d).length (ofDim fs (d - 1)).length c1 c2 ad p (ofDim fs d) (ofDim fs (d - 1)) a1 a2 w3 HM.out rfl rfl (S1.out.below HB3.out) (S2.out.below HB3.out) HB3.out.size HP.out HFr.out HSa.out HS0.out HSd.out hn63 hw63).mono ?_
    rintro e w4 ⟨⟨u, rfl⟩, hM4, hB4⟩
    have HM4 := hid hM4
    have HB4 := hid (HB3.out.trans hB4)
    clear hM4 hB4
    go_wp2_with fail
    refine (steps_any wc.heap.size R (ofDim fs d).length (ofDim fs (d - 1)).length (ofDim fs d).length ad p _ w4 HM4.out HG'.out HP.out (by omega) (by omega)).mono ?_
    rintro e w5 ⟨rfl, hB5⟩
    have HB5 := hid (HB.out.trans ((HB4.out.trans hB5).mono HB.out.size))
    clear hB5
    go_wp2_with fail
    go_ret
    exact ⟨ret_int (by rw [HE.out]), HB5.out⟩

end Go.Proofs.Ythmhdfhjjpfbfaa
