/-
  Regions in which one operation is a communication that this goroutine can carry out by itself: a send into a buffer with room; a select of one receive with a default. Over whatever program.
-/
import Derived.Conc.LoneCalls
import Derived.Conc.LoneSelect
import Derived.RegionTactic
namespace Go.Proofs.Ytlbachjhhjjmfaa.Mu
open Go Go.Conc

section
variable {P : Program} {ops : Array Oper} {Q : Exit → Act → World → Prop} {i : Nat} {rest : List Nat} {o : Oper} {a : Act} {w : World}

/-- From the middle of a region on, these operations being left: the machine comes to the region's end, or to wherever Q says. -/
def AtR (P : Program) (ops : Array Oper) (Q : Exit → Act → World → Prop) (l : List Nat) (a : Act) (w : World) : Prop :=
  ∀ (b : Frame) (k : List Item) (cs : List Frame), ∃ e a' w', Q e a' w' ∧ Arrives P (lone (b.at a (.inRegion ops l :: k)) cs w) b k cs e a' w'

theorem AtR.of_wp {l : List Nat} (h : wpOps P ops Q l a w) : AtR P ops Q l a w := wp_ops l a w h
theorem AtR.nil (h : Q .normal a w) : AtR P ops Q [] a w := wp_ops [] a w h
theorem AtR.region {id : Nat} (h : AtR P ops Q (List.range ops.size) a w) : (Code.region id ops false).wp P Q a w :=
  fun b k cs => let ⟨e, a', w', q, r⟩ := h b k cs; ⟨e, a', w', q, .of_steps (.one step_region) r⟩

/-- One step of the machine's, and on. -/
theorem AtR.step_ {a' : Act} {w' : World} (hs : ∀ (b : Frame) (k : List Item) (cs : List Frame), step P (lone (b.at a (.inRegion ops (i :: rest) :: k)) cs w) = .next (lone (b.at a' (.inRegion ops rest :: k)) cs w'))
    (h : AtR P ops Q rest a' w') : AtR P ops Q (i :: rest) a w := fun b k cs =>
  let ⟨e, a2, w2, q, r⟩ := h b k cs; ⟨e, a2, w2, q, .of_steps (.one (hs b k cs)) r⟩

theorem fin_at (ho : ops[i]? = some o) (b : Frame) (k : List Item) (v : Value) : (b.at a (.inRegion ops (i :: rest) :: k)).finish v = b.at (a.put o.dst v) (.inRegion ops rest :: k) := by
  rw [Frame.finish_at, ho]; rfl

/-- An operation that yields a value. -/
theorem AtR.value {v : Value} {w' : World} (ho : ops[i]? = some o) (hg : o.guard = none) (hr : (execOp a.eval o).run P w = .ok (.value v) w') (h : AtR P ops Q rest (a.put o.dst v) w') : AtR P ops Q (i :: rest) a w :=
  AtR.step_ (fun b k cs => step_lone_go (by rw [stepG_op ho (by simp [Region.wanted, hg]), ← fin_at ho]; simp [stepG.apply, hr])) h
/-- An operation that yields nothing. -/
theorem AtR.skip {w' : World} (ho : ops[i]? = some o) (hg : o.guard = none) (hr : (execOp a.eval o).run P w = .ok .skip w') (h : AtR P ops Q rest (a.put o.dst undef) w') : AtR P ops Q (i :: rest) a w :=
  AtR.step_ (fun b k cs => step_lone_go (by rw [stepG_op ho (by simp [Region.wanted, hg]), ← fin_at ho]; simp [stepG.apply, hr])) h

/-- What is asked of an operation that is no call: that it come to an end by a value, or by nothing. -/
def Oper.ends (P : Program) (o : Oper) (a : Act) (w : World) (K : Act → World → Prop) : Prop :=
  match (execOp a.eval o).run P w with
  | .ok (.value v) w' => K (a.put o.dst v) w'
  | .ok .skip w' => K (a.put o.dst undef) w'
  | _ => False
theorem AtR.ends (ho : ops[i]? = some o) (hg : o.guard = none) (h : Oper.ends P o a w (AtR P ops Q rest)) : AtR P ops Q (i :: rest) a w := by
  unfold Oper.ends at h
  split at h
  · rename_i v w' hr; exact AtR.value ho hg hr h
  · rename_i w' hr; exact AtR.skip ho hg hr h
  · exact h.elim

theorem stepG_comm_ {b : Frame} {k : List Item} {cs : List Frame} {cases : Array CommCase} {blocking : Bool} {shape : CommShape} {w' : World} (ho : ops[i]? = some o) (hg : o.guard = none) (hr : (execOp a.eval o).run P w = .ok (.comm cases blocking shape) w') :
    ∃ es, stepG P true (G (b.at a (.inRegion ops (i :: rest) :: k)) cs) w = .comm (G (b.at a (.inRegion ops (i :: rest) :: k)) cs) cases blocking shape w' es := by
  have h := stepG_op (P := P) (b := b) (k := k) (cs := cs) (w := w) (rest := rest) ho (by simp [Region.wanted, hg] : Region.wanted o (yielded ops a.tmps) = true)
  exact ⟨_, by
    unfold G
    rw [h]
    simp [stepG.apply, hr, GStep.after]
    rfl⟩

/-- A send into a buffer that has room. -/
theorem AtR.send {x y : Operand} {c cap s r : Nat} {buf : Array Value} {tm : Bool} {v : Value} (ho : ops[i]? = some o) (hg : o.guard = none) (hop : o.op = .send x y) (hx : a.eval x = .chan (some c)) (hy : a.eval y = v)
    (hc : w.heap[c]? = some (.chan cap buf false s r tm)) (hroom : buf.size < cap) (h : AtR P ops Q rest (a.put o.dst undef) (w.setChan c cap (buf.push v) false (s + 1) r tm)) : AtR P ops Q (i :: rest) a w :=
  AtR.step_ (fun b k cs => by
    obtain ⟨es, he⟩ := stepG_comm_ (P := P) (a := a) (b := b) (k := k) (cs := cs) (w := w) (w' := w) (rest := rest) (cases := #[scase c v (.tuple #[])]) (blocking := true) (shape := .send) ho hg (by simp [execOp, hop, hx, hy, scase])
    have hs := step_lone_send_room he hc hroom
    rw [fin_at ho] at hs
    exact hs) h

/-- A select of one receive, with a default: the buffer holds something. -/
theorem AtR.recv {x : Operand} {e : TypeId} {c cap s r : Nat} {buf : Array Value} {tm closed : Bool} {z : Value} (ho : ops[i]? = some o) (hg : o.guard = none) (hop : o.op = .select #[{ chan := x, send := none, elem := e }] false) (hx : a.eval x = .chan (some c))
    (hz : (zeroValue e).run P w = .ok z w) (hc : w.heap[c]? = some (.chan cap buf closed s r tm)) (hsome : 0 < buf.size) (h : AtR P ops Q rest (a.put o.dst (.tuple #[goInt 0, .bool true, buf.getD 0 undef])) (w.setChan c cap (buf.extract 1 buf.size) closed s (r + 1) tm)) : AtR P ops Q (i :: rest) a w :=
  AtR.step_ (fun b k cs => by
    obtain ⟨es, he⟩ := stepG_comm_ (P := P) (a := a) (b := b) (k := k) (cs := cs) (w := w) (w' := w) (rest := rest) (cases := #[rcase c z]) (blocking := false) (shape := .select) ho hg (by simp [execOp, hop, hx, hz, rcase])
    have hs := step_lone_select_recv_buf he hc hsome
    rw [fin_at ho] at hs
    exact hs) h

/-- .. : the buffer is empty: the default. -/
theorem AtR.default_ {x : Operand} {e : TypeId} {c cap s r : Nat} {tm : Bool} {z : Value} (ho : ops[i]? = some o) (hg : o.guard = none) (hop : o.op = .select #[{ chan := x, send := none, elem := e }] false) (hx : a.eval x = .chan (some c))
    (hz : (zeroValue e).run P w = .ok z w) (hc : w.heap[c]? = some (.chan cap #[] false s r tm)) (h : AtR P ops Q rest (a.put o.dst (.tuple #[goInt (-1), .bool false, z])) w) : AtR P ops Q (i :: rest) a w :=
  AtR.step_ (fun b k cs => by
    obtain ⟨es, he⟩ := stepG_comm_ (P := P) (a := a) (b := b) (k := k) (cs := cs) (w := w) (w' := w) (rest := rest) (cases := #[rcase c z]) (blocking := false) (shape := .select) ho hg (by simp [execOp, hop, hx, hz, rcase])
    have hs := step_lone_select_default he hc
    rw [fin_at ho] at hs
    exact hs) h

end

/-! ### A region that draws its order, one of its operations being a communication -/
section
variable {P : Program} {ops : Array Oper} {Q : Exit → Act → World → Prop} {md : Region.Mode}

def TakesR (P : Program) (ops : Array Oper) (Q : Exit → Act → World → Prop) (i : Nat) (K : Act → World → Prop) (a : Act) (w : World) : Prop :=
  ∀ rest, (∀ a w, K a w → AtR P ops Q rest a w) → AtR P ops Q (i :: rest) a w
def anyR (P : Program) (md : Region.Mode) (ops : Array Oper) (Q : Exit → Act → World → Prop) : Nat → Array Bool → Act → World → Prop
  | 0, listed, a, w => Region.ready md ops listed = [] ∧ Q .normal a w
  | fuel + 1, listed, a, w => (Region.ready md ops listed = [] → Q .normal a w) ∧ ∀ i ∈ Region.ready md ops listed, TakesR P ops Q i (anyR P md ops Q fuel (listed.setIfInBounds i true)) a w

theorem anyR_sound : ∀ (fuel t : Nat) (listed : Array Bool) (a : Act) (w : World), anyR P md ops Q fuel listed a w → AtR P ops Q (Region.linearise.go md ops fuel t listed []) a w := by
  intro fuel
  induction fuel with
  | zero => intro t listed a w h; simp only [Region.linearise.go, List.reverse_nil]; exact AtR.nil h.2
  | succ fuel ih =>
    intro t listed a w h
    obtain ⟨h0, h1⟩ := h
    simp only [Region.linearise.go]
    change AtR P ops Q (match (Region.ready md ops listed)[t % (Region.ready md ops listed).length]? with
      | some i => Region.linearise.go md ops fuel (t / (Region.ready md ops listed).length) (listed.setIfInBounds i true) [i]
      | none => [].reverse) a w
    cases hi : (Region.ready md ops listed)[t % (Region.ready md ops listed).length]? with
    | none =>
      have hnil : Region.ready md ops listed = [] := by
        rcases hr : Region.ready md ops listed with _ | ⟨x, xs⟩
        · rfl
        · rw [hr] at hi
          have hlt : t % (x :: xs).length < (x :: xs).length := Nat.mod_lt _ (by simp)
          rw [List.getElem?_eq_getElem hlt] at hi
          cases hi
      exact AtR.nil (h0 hnil)
    | some i =>
      simp only []
      rw [linearise_go_acc, List.reverse_singleton, List.singleton_append]
      exact h1 i (List.mem_of_getElem? hi) _ (fun a w h => ih _ _ a w h)

theorem wp_region_anyR {id : Nat} {a : Act} {w : World} (hm : P.follows .mixedOrders = true) (h : anyR P .any ops Q ops.size (Array.replicate ops.size false) a w.drew) : (Code.region id ops true).wp P Q a w := fun b k cs => by
  obtain ⟨e, a', w', q, r⟩ := anyR_sound ops.size (w.tape w.drawn (.order b.fn id)) _ a w.drew h b k cs
  refine ⟨e, a', w', q, .of_steps (.one ?_) r⟩
  rw [step_region_draw]
  simp only [Region.schedule, hm, Bool.true_or, if_true]
  rfl

def AllR (P : Program) (md : Region.Mode) (ops : Array Oper) (Q : Exit → Act → World → Prop) (fuel : Nat) (listed : Array Bool) (a : Act) (w : World) (rs : List Nat) : Prop :=
  ∀ i ∈ rs, TakesR P ops Q i (anyR P md ops Q fuel (listed.setIfInBounds i true)) a w
theorem AllR.nil {fuel : Nat} {listed : Array Bool} {a : Act} {w : World} : AllR P md ops Q fuel listed a w [] := fun _ h => by cases h
theorem AllR.cons {fuel : Nat} {listed : Array Bool} {a : Act} {w : World} {i : Nat} {rs : List Nat}
    (h : TakesR P ops Q i (anyR P md ops Q fuel (listed.setIfInBounds i true)) a w) (hs : AllR P md ops Q fuel listed a w rs) : AllR P md ops Q fuel listed a w (i :: rs) := fun j hj => by
  rcases List.mem_cons.1 hj with rfl | hj
  · exact h
  · exact hs j hj
theorem anyR_ready (rs : List Nat) {fuel : Nat} {listed : Array Bool} {a : Act} {w : World} (hr : Region.ready md ops listed = rs) (hne : rs ≠ []) (h : AllR P md ops Q fuel listed a w rs) : anyR P md ops Q (fuel + 1) listed a w :=
  ⟨fun h0 => absurd (hr ▸ h0) hne, hr ▸ h⟩
theorem anyR_done {listed : Array Bool} {a : Act} {w : World} (hr : Region.ready md ops listed = []) (h : Q .normal a w) : ∀ fuel, anyR P md ops Q fuel listed a w
  | 0 => ⟨hr, h⟩
  | _ + 1 => ⟨fun _ => h, by rw [hr]; simp⟩
theorem TakesR.ends {i : Nat} {o : Oper} {K : Act → World → Prop} {a : Act} {w : World} (ho : ops[i]? = some o) (hg : o.guard = none) (h : ∀ K' : Act → World → Prop, (∀ a w, K a w → K' a w) → Oper.ends P o a w K') : TakesR P ops Q i K a w :=
  fun _ hK => AtR.ends ho hg (h _ hK)
theorem AtR.pure {i : Nat} {rest : List Nat} {o : Oper} {a : Act} {w : World} {v : Value} (ho : ops[i]? = some o) (hg : o.guard = none) (hr : (execOp a.eval o).run P w = .ok (.value v) w) (h : AtR P ops Q rest (a.put o.dst v) w) : AtR P ops Q (i :: rest) a w := AtR.value ho hg hr h
theorem TakesR.pure {i : Nat} {o : Oper} {K : Act → World → Prop} {a : Act} {w : World} {v : Value} (ho : ops[i]? = some o) (hg : o.guard = none) (hr : (execOp a.eval o).run P w = .ok (.value v) w) (h : K (a.put o.dst v) w) : TakesR P ops Q i K a w :=
  fun _ hK => AtR.value ho hg hr (hK _ _ h)
theorem TakesR.send {i : Nat} {o : Oper} {K : Act → World → Prop} {a : Act} {w : World} {x y : Operand} {c cap s r : Nat} {buf : Array Value} {tm : Bool} {v : Value} (ho : ops[i]? = some o) (hg : o.guard = none) (hop : o.op = .send x y) (hx : a.eval x = .chan (some c)) (hy : a.eval y = v)
    (hc : w.heap[c]? = some (.chan cap buf false s r tm)) (hroom : buf.size < cap) (h : K (a.put o.dst undef) (w.setChan c cap (buf.push v) false (s + 1) r tm)) : TakesR P ops Q i K a w :=
  fun _ hK => AtR.send ho hg hop hx hy hc hroom (hK _ _ h)
end
end Go.Proofs.Ytlbachjhhjjmfaa.Mu

