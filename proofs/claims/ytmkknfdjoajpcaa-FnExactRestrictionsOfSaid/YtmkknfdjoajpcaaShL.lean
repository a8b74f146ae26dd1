import Derived.Test.YtmkknfdjoajpcaaShE
import Derived.Test.YtmkknfdjoajpcaaAppAt
import Derived.Test.YtmkknfdjoajpcaaRev
/-! listed; RestrictionsOf. -/
namespace Go.Proofs.Ytmkknfdjoajpcaa
open Go.RowKit Go.Shelf Go.Sort

theorem grow_nilL (w : World) : grow w #[] = w := by cases w; simp [grow]

/-- slices.Reverse on a slice of the call's own. -/
theorem rev_ownL (base : Nat) (v : Value) (xs : List Int) (w : World) (hown : w.ownsRow base 2 1 v xs.length (xs.map (Value.int .i64))) (hl : xs.length ≤ 1048576) :
    Calls Try.prog 114 #[v] w fun e w' => (∃ u, e = .returned u) ∧ w'.ownsRow base 2 1 v xs.reverse.length (xs.reverse.map (Value.int .i64)) ∧ w.grownBy w' v.ownBlock := by
  rcases hown.2 with ⟨rfl, h0⟩ | ⟨g, cap, cur, rfl, hg, hh, h1, h2, h3, h4⟩
  · obtain rfl : xs = [] := List.eq_nil_of_length_eq_zero h0
    exact (rev_empty none 0 w).mono fun e w' ⟨hv, hw⟩ => ⟨hv, by rw [hw]; exact World.ownsRow_nil _ _ _ _, by rw [hw]; exact ⟨rfl, rfl, rfl, Nat.le_refl _, fun _ _ _ => rfl⟩⟩
  · have hH := holds_of_blockI hh (by simpa using h4)
    have := rev_arr g 0 cap xs.toArray w hH (by simp; omega)
    simp only [List.size_toArray] at this
    refine this.mono fun e w' ⟨hv, m, hw⟩ => ⟨hv, ?_, ?_⟩
    · have e1 : (xs.toArray.reverse) = xs.reverse.toArray := by simp
      have h := ownsRow_sortedI (n := m) (os := #[]) (ss := xs) (ts := xs.reverse) (by simp) hg hh h1 h2 h3
      rw [grow_nilL] at h
      rw [hw, e1, List.length_reverse]
      exact h
    · have h := grownBy_sortedI (w := w) (g := g) (n := m) (os := #[]) xs.toArray.reverse
      rw [grow_nilL] at h
      rw [hw]
      exact h

/-- Two rows lie apart. -/
def Apt (u v : Value) : Prop := ∀ g, u.ownBlock = some g → v.ownBlock ≠ some g
def fsL (L : List (Nat × Nat)) : List Int := L.map fun o => (o.1 : Int)
def rsL (L : List (Nat × Nat)) : List Int := L.map fun o => (o.2 : Int)
theorem kept_apt {W W' : World} {base : Nat} {u v : Value} {xs : List Int} (h : W.ownsRow base 2 1 u xs.length (xs.map (Value.int .i64))) (hg : W.grownBy W' v.ownBlock) (ha : Apt u v) : W'.ownsRow base 2 1 u xs.length (xs.map (Value.int .i64)) := by
  cases hu : u.ownBlock with
  | none => exact h.kept hg (.inl hu)
  | some g => exact h.kept hg (.inr (fun e => ha g hu (by rw [← e, hu])))
theorem Apt.symm {u v : Value} (h : Apt u v) : Apt v u := fun g hv hu => h g hu hv
theorem Apt.new {W : World} {base : Nat} {u v v' : Value} {xs : List Int} (h : Apt u v) (hu : W.ownsRow base 2 1 u xs.length (xs.map (Value.int .i64))) (hat : v'.ownBlock = v.ownBlock ∨ v'.ownBlock = some (W.heap.size + 1)) : Apt u v' := by
  intro g hg e
  rcases hat with h1 | h1
  · exact h g hg (by rw [← h1, e])
  · rw [h1] at e
    injection e with e
    have := (hu.lt g hg).2
    omega

set_option maxRecDepth 1000000 in
set_option maxHeartbeats 4000000 in
theorem listed_any (p : Option Addr) (L : List (Nat × Nat)) (w : World) (hc : ChainAt w p L) (hL : L.length ≤ 1048576) :
    Calls Try.prog 82 #[.pointer p] w fun e w' => ∃ v2 v3, e = .returned (.tuple #[v2, v3]) ∧ Res w w' v3 (rsL L).reverse := by
  have Hc := hid hc
  clear hc
  go_enter Try.func82, Try.ntmps82
  go_wp2_with fail
  go_loopg [2, 3, 4] L.length (fun n s2 s3 s4 wr => ∃ (pre rest : List (Nat × Nat)) (q : Option Addr), s4 = .pointer q ∧ Hid (L = pre ++ rest) ∧ rest.length ≤ n ∧ Hid (ChainAt w q rest) ∧ Hid (wr.ownsRow w.heap.size 2 1 s2 (fsL pre).length ((fsL pre).map (Value.int .i64))) ∧ Hid (wr.ownsRow w.heap.size 2 1 s3 (rsL pre).length ((rsL pre).map (Value.int .i64))) ∧ Hid (Apt s2 s3) ∧ Hid (Below w.heap.size w wr))
  case atStart => exact ⟨[], L, p, rfl, hid rfl, Nat.le_refl _, Hc, hid (World.ownsRow_nil _ _ _ _), hid (World.ownsRow_nil _ _ _ _), hid (fun g h => by simp [Value.ownBlock] at h), hid (Below.refl _ _)⟩
  case round =>
    obtain ⟨pre, rest, q, rfl, Hl, hn, Hq, H2, H3, Ha, HB⟩ := hrel
    have hf2 : (fsL pre).length ≤ 1048576 := by have := congrArg List.length Hl.out; simp [fsL] at this ⊢; omega
    have hf3 : (rsL pre).length ≤ 1048576 := by have := congrArg List.length Hl.out; simp [rsL] at this ⊢; omega
    have Hf2 := hid hf2
    have Hf3 := hid hf3
    cases rest with
    | nil =>
      obtain rfl : q = none := Hq.out
      have Hp : Hid (pre = L) := hid (by rw [Hl.out, List.append_nil])
      have HR2 := hid (rev_ownL w.heap.size _ (fsL pre) wr H2.out hf2)
      clear hf2 hf3 hn
      go_wp2_with fail
      refine HR2.out.mono ?_
      rintro e w3 ⟨⟨u2, rfl⟩, _, hg3⟩
      have HR3 := hid (rev_ownL w.heap.size _ (rsL pre) w3 (kept_apt H3.out hg3 Ha.out.symm) Hf3.out)
      have HB3 := hid (HB.out.grown hg3 HB.out.size (fun k hk => (H2.out.lt k hk).1))
      clear hg3
      go_wp2_with fail
      refine HR3.out.mono ?_
      rintro e w4 ⟨⟨u3, rfl⟩, hown4, hg4⟩
      have HB4 := hid (HB3.out.grown hg4 HB3.out.size (fun k hk => (H3.out.lt k hk).1))
      have Hown4 := hid hown4
      clear hg4 hown4
      go_wp2_with fail
      go_ret2
      exact ⟨_, _, rfl, by rw [← Hp.out]; exact Hown4.out, HB4.out⟩
    | cons o rest =>
      obtain ⟨o, ro⟩ := o
      obtain ⟨b, q', rfl, hbk, ho, hro, hch⟩ := Hq.out
      have Hbk := hid hbk
      obtain ⟨c0, c1, c2, _⟩ := three_of ((HB.out.block b (lt_of_get hbk)).trans hbk)
      have Hch := hid hch
      have hn0 := hid hn
      have hbz := HB.out.size
      have Hl2 : Hid (L = (pre ++ [(o, ro)]) ++ rest) := hid (by rw [Hl.out]; simp)
      have e2 : fsL (pre ++ [(o, ro)]) = fsL pre ++ [(o : Int)] := by simp [fsL]
      have e3 : rsL (pre ++ [(o, ro)]) = rsL pre ++ [(ro : Int)] := by simp [rsL]
      have E2 := hid e2
      have E3 := hid e3
      clear hbk hch hn e2 e3
      have hf3' := Hf3.out
      go_wp2_with (first
        | (at_builtin; refine app_at rfl rfl H2.out hbz (by omega) rfl rfl ?_; intro v2 w2 hown2 hgrow2 hat2 hB2; have HK3 := hid (kept_apt H3.out hgrow2 Ha.out.symm); have HA2 := hid (Ha.out.symm.new H3.out hat2).symm; have hk2 := (hB2.block b (lt_of_get Hbk.out)).trans ((HB.out.block b (lt_of_get Hbk.out)).trans Hbk.out); obtain ⟨_, c12, c22, _⟩ := three_of hk2; have Hk2 := hid hk2; have hbz2 := Nat.le_trans hbz hB2.size; have Hown2 := hid hown2; have HB2 := hid (HB.out.trans hB2); clear hown2 hgrow2 hat2 hB2 hk2)
        | (at_builtin; refine app_at rfl rfl HK3.out hbz2 (by omega) rfl rfl ?_; intro v3 w3 hown3 hgrow3 hat3 hB3; have HO2 := hid (kept_apt Hown2.out hgrow3 HA2.out); have HA3 := hid (HA2.out.new Hown2.out hat3); obtain ⟨_, _, c23, _⟩ := three_of ((hB3.block b (lt_of_get Hbk.out)).trans Hk2.out); have Hown3 := hid hown3; have HB3 := hid (HB2.out.trans hB3); clear hown3 hgrow3 hat3 hB3))
      go_roundg rest.length
      case measure => have h := hn0.out; simp at h; omega
      case rel => exact ⟨_, rest, q', rfl, Hl2, Nat.le_refl _, Hch, hid (by rw [E2.out]; exact HO2.out), hid (by rw [E3.out]; exact Hown3.out), HA3, HB3⟩

end Go.Proofs.Ytmkknfdjoajpcaa
