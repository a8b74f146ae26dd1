import Derived.Test.YtojnpacklcajpaaGen
import Derived.Conc.LoneCalls
/-! Communication in one goroutine, where nothing waits, inside a plain walk: a region that sends into a channel with room, or that receives from one that holds something or is closed. -/
namespace Go.Proofs.Ytojnpacklcajpaa
open Go.RowKit Go.Conc

/-- What a list of operations that is under way leads to. -/
def OpsTo (P : Program) (ops : Array Oper) (Q : Exit → Act → World → Prop) (l : List Nat) (a : Act) (w : World) : Prop :=
  ∀ (b : Frame) (k : List Item) (cs : List Frame), ∃ e a' w', Q e a' w' ∧ Arrives P (lone (b.at a (.inRegion ops l :: k)) cs w) b k cs e a' w'

section
variable {P : Program} {ops : Array Oper} {Q : Exit → Act → World → Prop} {a : Act} {w : World} {i : Nat} {rest : List Nat} {o : Oper}

theorem region_to {id : Nat} (h : OpsTo P ops Q (List.range ops.size) a w) : (Code.region id ops false).wp P Q a w :=
  fun b k cs => let ⟨e, a', w', q, r⟩ := h b k cs; ⟨e, a', w', q, .of_steps (.one step_region) r⟩

theorem opsTo_of_wp {l : List Nat} (h : wpOps P ops Q l a w) : OpsTo P ops Q l a w := fun b k cs => wp_ops l a w h b k cs

theorem opsTo_nil (h : Q .normal a w) : OpsTo P ops Q [] a w := opsTo_of_wp (by simpa only [wpOps] using h)

theorem opsTo_val {v : Value} {w' : World} (ho : ops[i]? = some o) (hw : Region.wanted o (yielded ops a.tmps) = true) (hr : (execOp a.eval o).run P w = .ok (.value v) w') (h : OpsTo P ops Q rest (a.put o.dst v) w') : OpsTo P ops Q (i :: rest) a w := by
  intro b k cs
  obtain ⟨e, a', w'', hq, harr⟩ := h b k cs
  refine ⟨e, a', w'', hq, .of_steps (.one (step_lone_go ?_)) harr⟩
  have hfin : (b.at a (.inRegion ops (i :: rest) :: k)).finish v = b.at (a.put o.dst v) (.inRegion ops rest :: k) := by rw [Frame.finish_at, ho]; rfl
  rw [stepG_op ho hw, ← hfin]
  simp [stepG.apply, hr]

/-- A communication is handed up to the machine, whatever kind of frame asks for it. -/
theorem comm_any {b : Frame} {k : List Item} {cs : List Frame} {cases : Array CommCase} {blocking : Bool} {shape : CommShape} {w' : World} (ho : ops[i]? = some o) (hw : Region.wanted o (yielded ops a.tmps) = true)
    (hr : (execOp a.eval o).run P w = .ok (.comm cases blocking shape) w') :
    ∃ es, stepG P true (G (b.at a (.inRegion ops (i :: rest) :: k)) cs) w = .comm (G (b.at a (.inRegion ops (i :: rest) :: k)) cs) cases blocking shape w' es := by
  by_cases hk : b.kind = .early
  · have hk' : (b.kind == CallKind.early) = true := by simpa using hk
    refine ⟨seen P b.fn #[], ?_⟩
    rw [stepG_oper ho hw]
    simp [stepG.apply, hr, G, Frame.at, hk', GStep.after]
  · exact ⟨_, stepG_comm ho hw hk hr⟩

theorem opsTo_send {c cap s r : Nat} {buf : Array Value} {v z : Value} {tm : Bool} (ho : ops[i]? = some o) (hw : Region.wanted o (yielded ops a.tmps) = true)
    (hr : (execOp a.eval o).run P w = .ok (.comm #[scase c v z] true .send) w) (hc : w.heap[c]? = some (.chan cap buf false s r tm)) (hroom : buf.size < cap)
    (h : OpsTo P ops Q rest (a.put o.dst undef) (w.setChan c cap (buf.push v) false (s + 1) r tm)) : OpsTo P ops Q (i :: rest) a w := by
  intro b k cs
  obtain ⟨e, a', w'', hq, harr⟩ := h b k cs
  obtain ⟨es, hst⟩ := comm_any (P := P) (b := b) (k := k) (cs := cs) (rest := rest) ho hw hr
  have hs := step_lone_send_room hst hc hroom
  rw [Frame.finish_at, ho] at hs
  exact ⟨e, a', w'', hq, .of_steps (.one hs) harr⟩

theorem opsTo_recv {c cap s r : Nat} {buf : Array Value} {z : Value} {tm closed ok : Bool} (ho : ops[i]? = some o) (hw : Region.wanted o (yielded ops a.tmps) = true)
    (hr : (execOp a.eval o).run P w = .ok (.comm #[rcase c z] true (.recv ok)) w) (hc : w.heap[c]? = some (.chan cap buf closed s r tm)) (hsome : 0 < buf.size)
    (h : OpsTo P ops Q rest (a.put o.dst (got ok (buf.getD 0 undef) true)) (w.setChan c cap (buf.extract 1 buf.size) closed s (r + 1) tm)) : OpsTo P ops Q (i :: rest) a w := by
  intro b k cs
  obtain ⟨e, a', w'', hq, harr⟩ := h b k cs
  obtain ⟨es, hst⟩ := comm_any (P := P) (b := b) (k := k) (cs := cs) (rest := rest) ho hw hr
  have hs := step_lone_recv_buf ok hst hc hsome
  rw [Frame.finish_at, ho] at hs
  exact ⟨e, a', w'', hq, .of_steps (.one hs) harr⟩

theorem opsTo_shut {c cap s r : Nat} {z : Value} {tm ok : Bool} (ho : ops[i]? = some o) (hw : Region.wanted o (yielded ops a.tmps) = true)
    (hr : (execOp a.eval o).run P w = .ok (.comm #[rcase c z] true (.recv ok)) w) (hc : w.heap[c]? = some (.chan cap #[] true s r tm))
    (h : OpsTo P ops Q rest (a.put o.dst (got ok z false)) w) : OpsTo P ops Q (i :: rest) a w := by
  intro b k cs
  obtain ⟨e, a', w'', hq, harr⟩ := h b k cs
  obtain ⟨es, hst⟩ := comm_any (P := P) (b := b) (k := k) (cs := cs) (rest := rest) ho hw hr
  have hs := step_lone_recv_shut ok hst hc
  rw [Frame.finish_at, ho] at hs
  exact ⟨e, a', w'', hq, .of_steps (.one hs) harr⟩
end

/-- A row stays where a channel turns. -/
theorem ownsRow_chan {w : World} {base e size n c cap s r cap' s' r' : Nat} {v : Value} {xs : List Value} {buf buf' : Array Value} {cl cl' tm tm' : Bool} (h : w.ownsRow base e size v n xs) (hc : w.heap[c]? = some (.chan cap buf cl s r tm)) : (w.setChan c cap' buf' cl' s' r' tm').ownsRow base e size v n xs := by
  refine ⟨h.1, ?_⟩
  rcases h.2 with hn | ⟨g, cp, cur, rfl, hb, hg, rest⟩
  · exact .inl hn
  · refine .inr ⟨g, cp, cur, rfl, hb, ?_, rest⟩
    have hne : c ≠ g := fun e => by rw [e, hg] at hc; cases hc
    simp only [World.setChan]
    rw [Array.getElem?_setIfInBounds_ne hne]
    exact hg

theorem row_ne_chan {w : World} {base e size n c cap s r : Nat} {v : Value} {xs : List Value} {buf : Array Value} {cl tm : Bool} (h : w.ownsRow base e size v n xs) (hc : w.heap[c]? = some (.chan cap buf cl s r tm)) : some c ≠ v.ownBlock := by
  intro he
  rcases h.2 with ⟨rfl, _⟩ | ⟨g, cp, cur, rfl, _, hg, _⟩
  · simp [Value.ownBlock] at he
  · simp [Value.ownBlock] at he
    subst he
    rw [hc] at hg
    cases hg

theorem cell_chan {w : World} {c cap s r cap' s' r' : Nat} {p : Addr} {u : Value} {buf buf' : Array Value} {cl cl' tm tm' : Bool} (h : w.cell? p = some u) (hc : w.heap[c]? = some (.chan cap buf cl s r tm)) : (w.setChan c cap' buf' cl' s' r' tm').cell? p = some u := by
  have hne : c ≠ p.block := fun e => by rw [e] at hc; simp [World.cell?, hc] at h
  have e : (w.setChan c cap' buf' cl' s' r' tm').heap[p.block]? = w.heap[p.block]? := by simp only [World.setChan]; rw [Array.getElem?_setIfInBounds_ne hne]
  unfold World.cell? at h ⊢
  rw [e]
  exact h

end Go.Proofs.Ytojnpacklcajpaa
