/-
  A region that draws its order and ends in operations whose order is forced (stores): what stands ahead of them is gone through by the laws of what is held; they themselves by the list. Over whatever program.
  A region that draws its order and makes memory: gone through by what is known of each operation's value, whatever order is picked; each operation's step is shown once. What stands from n on comes in a forced order and is walked as a list. Over whatever program.
  The solver of layer 4, as it lies in memory; newSolver's first region.
  newSolver, walked.
-/
import Derived.OrdersHeld
import Derived.StillTail
import Derived.Deep.RegionHeld3
import Derived.Test.YtlbachjhhjjmfaaMem
import Derived.Test.YtlbachjhhjjmfaaArrs
import Derived.Laws.Entries
namespace Go.Proofs.Ytlbachjhhjjmfaa.Mu
open Go

section
variable {P : Program} {ops : Array Oper} {Q : Exit → Act → World → Prop} {md : Region.Mode} {S : World → Prop}

/-- Whatever order is picked for the first n operations, and S holds behind each of them; then L. -/
def wpT (P : Program) (md : Region.Mode) (ops : Array Oper) (Q : Exit → Act → World → Prop) (S : World → Prop) (n : Nat) (L : Array Bool → Act → World → Prop) : Nat → Array Bool → Act → World → Prop
  | 0, listed, a, w => L listed a w
  | f + 1, listed, a, w => Region.ready md ops listed ≠ [] ∧ ∀ i ∈ Region.ready md ops listed, i < n ∧ wpOp P ops Q i (fun a' w' => S w' ∧ wpT P md ops Q S n L f (listed.setIfInBounds i true) a' w') a w

theorem wpAny_of_T {n g : Nat} {L : Array Bool → Act → World → Prop} (hL : ∀ listed a w, L listed a w → wpAny P md ops Q g listed a w) :
    ∀ (f : Nat) (listed : Array Bool) (a : Act) (w : World), wpT P md ops Q S n L f listed a w → wpAny P md ops Q (f + g) listed a w
  | 0, listed, a, w, h => by rw [Nat.zero_add]; exact hL _ _ _ h
  | f + 1, listed, a, w, h => by
    rw [show f + 1 + g = (f + g) + 1 by omega]
    exact ⟨fun h0 => absurd h0 h.1, fun i hi => wpOp_mono (fun a' w' h' => wpAny_of_T hL f _ a' w' h'.2) (h.2 i hi).2⟩

theorem wpT_first {n i : Nat} {oi : Oper} {v : Value} {L : Array Bool → Act → World → Prop} (hi : ops[i]? = some oi) (hsel : ∀ (j : Nat) (o : Oper) cs b, ops[j]? = some o → o.op ≠ .select cs b)
    (hQ : ∀ c a w, Q (.panic c) (a.put oi.dst v) w → Q (.panic c) a w) (hs : Region.sinkB md ops n = true) (hc : Region.chainB md ops n = true) (hn : n < ops.size) (hin : i < n)
    (hdone : ∀ listed a w, L listed a w → ∀ j ∈ Region.ready md ops listed, n ≤ j) :
    ∀ (f : Nat) (listed : Array Bool) (a : Act) (w : World), HeadInv md ops n listed →
      (∀ j oj, ops[j]? = some oj → j ≠ i → listed.getD j true = false → (∀ e ∈ oj.after, Region.binds md e = true → e.on ≠ i) → oi.apart ops oj = true) →
      i ∈ Region.ready md ops listed → YieldsIf P ops S oi v a → S w →
      wpT P md ops Q S n L f (listed.setIfInBounds i true) (a.put oi.dst v) w → wpT P md ops Q S n L (f + 1) listed a w := by
  intro f
  induction f with
  | zero =>
    intro listed a w inv _ hr hy hS H
    have hun := (mem_ready.1 hr).1
    refine ⟨fun h => (by rw [h] at hr; cases hr), fun j hj => ?_⟩
    have hjn : j < n := by
      rcases Nat.lt_or_ge j n with h | h
      · exact h
      · exact absurd hj (tail_waits hs hc hn inv _ i rfl hin hun j h)
    refine ⟨hjn, ?_⟩
    by_cases hji : j = i
    · subst hji; exact hy.wpOp hi hS ⟨hS, H⟩
    · have := hdone _ _ _ H j (ready_mono hj hji)
      omega
  | succ f ih =>
    intro listed a w inv hfree hr hy hS H
    have hun := (mem_ready.1 hr).1
    refine ⟨fun h => (by rw [h] at hr; cases hr), fun j hj => ?_⟩
    have hjn : j < n := by
      rcases Nat.lt_or_ge j n with h | h
      · exact h
      · exact absurd hj (tail_waits hs hc hn inv _ i rfl hin hun j h)
    refine ⟨hjn, ?_⟩
    by_cases hji : j = i
    · subst hji; exact hy.wpOp hi hS ⟨hS, H⟩
    · have h1 := (H.2 j (ready_mono hj hji)).2
      obtain ⟨hjun, oj, hoj, hall⟩ := mem_ready.1 hj
      have hnot : ∀ e ∈ oj.after, Region.binds md e = true → e.on ≠ i := fun e he hb heq => by
        have h1 := hall e he hb
        rw [heq, getD_both hun] at h1
        cases h1
      have h2 := wpOp_putIf hoj (hfree j oj hoj hji hjun hnot) (fun cs b => hsel i oi cs b hi) (fun cs b => hsel j oj cs b hoj) hQ hy h1
      have hfree' : ∀ k ok, ops[k]? = some ok → k ≠ i → (listed.setIfInBounds j true).getD k true = false →
          (∀ e ∈ ok.after, Region.binds md e = true → e.on ≠ i) → oi.apart ops ok = true := fun k ok hk hki hkun hno => by
        refine hfree k ok hk hki ?_ hno
        by_cases hjk : j = k
        · subst hjk; exact hjun
        · rw [getD_set_ne true hjk] at hkun; exact hkun
      refine wpOp_mono (fun a' w' h3 => ⟨h3.2.1, ih (listed.setIfInBounds j true) a' w' (inv.set hj hjn) hfree' (ready_mono hr (Ne.symm hji)) h3.1 h3.2.1 ?_⟩) h2
      rw [Array.setIfInBounds_comm _ _ hji]
      exact h3.2.2

/-- What is asked of a region so cut at n: checked by the kernel. -/
def tailB (md : Region.Mode) (ops : Array Oper) (n : Nat) : Bool := Region.noSelect ops && decide (n < ops.size) && Region.sinkB md ops n && Region.chainB md ops n
def headB (md : Region.Mode) (ops : Array Oper) (n : Nat) (listed : Array Bool) : Bool :=
  decide (listed.size = ops.size) && (List.range ops.size).all fun j => (((ops[j]?).map fun o => !listed.getD j false || o.after.all fun e => !Region.binds md e || listed.getD e.on false).getD true) && (decide (j < n) || !listed.getD j true)
theorem headB_spec {n : Nat} {listed : Array Bool} (h : headB md ops n listed = true) : HeadInv md ops n listed := by
  unfold headB at h
  simp only [Bool.and_eq_true, decide_eq_true_eq, List.all_eq_true, List.mem_range] at h
  obtain ⟨h0, h1⟩ := h
  refine ⟨h0, fun j oj hj hl e he hb => ?_, fun t ht ht' => ?_⟩
  · have := (h1 j (Array.getElem?_eq_some_iff.1 hj).1).1
    rw [hj] at this
    simp only [Option.map_some, Option.getD_some, hl, Bool.not_true, Bool.false_or] at this
    have := Array.all_eq_true'.1 this e he
    simpa [hb] using this
  · have := (h1 t ht').2
    simp only [Bool.or_eq_true, decide_eq_true_eq, Bool.not_eq_true'] at this
    rcases this with h | h
    · omega
    · exact h

/-- The walk of such a region: the operations from n on are walked as a list. -/
def LT (P : Program) (l : List Oper) (Q : Exit → Act → World → Prop) (n : Nat) (listed : Array Bool) (a : Act) (w : World) : Prop :=
  Region.seqB .any l.toArray (l.length - n) n listed = true ∧ wpList P l.toArray Q (l.drop n) a w
theorem wp_region_T {id : Nat} {a : Act} {w : World} {l : List Oper} (n : Nat) (hm : P.follows .mixedOrders = true) (hB : tailB .any l.toArray n = true)
    (h : S w.drew → wpT P .any l.toArray Q S n (LT P l Q n) n (Array.replicate l.length false) a w.drew) (hS : S w.drew) : (Code.region id l.toArray true).wp P Q a w := by
  simp only [tailB, Bool.and_eq_true, decide_eq_true_eq] at hB
  obtain ⟨⟨⟨_, hn⟩, _⟩, _⟩ := hB
  have hn' : n < l.length := by simpa using hn
  refine wp_region_any hm ?_
  have hdl : (l.drop n).length = l.length - n := by simp
  have := wpAny_of_T (Q := Q) (g := l.length - n) (fun listed a' w' hL => by
    have := wpAny_of_seq (md := .any) (Q' := Q) (l.drop n) n listed a' w' (fun j => by simp [List.getElem?_drop]) (by rw [hdl]; exact hL.1) hL.2
    rwa [hdl] at this) _ _ _ _ (h hS)
  rw [show n + (l.length - n) = l.length by omega] at this
  simpa using this
theorem wpT_take {l : List Oper} {n i : Nat} {oi : Oper} {v : Value} {f : Nat} {listed : Array Bool} {a : Act} {w : World} (hi : l.toArray[i]? = some oi) (hB : tailB .any l.toArray n = true) (hf : Region.free .any l.toArray listed i = true)
    (hr : (Region.ready .any l.toArray listed).contains i = true) (hin : i < n) (hh : headB .any l.toArray n listed = true) (hQ : ∀ c a w, Q (.panic c) (a.put oi.dst v) w → Q (.panic c) a w) (hy : YieldsIf P l.toArray S oi v a) (hS : S w)
    (h : wpT P .any l.toArray Q S n (LT P l Q n) f (listed.setIfInBounds i true) (a.put oi.dst v) w) : wpT P .any l.toArray Q S n (LT P l Q n) (f + 1) listed a w := by
  simp only [tailB, Bool.and_eq_true, decide_eq_true_eq] at hB
  obtain ⟨⟨⟨hsel, hn⟩, hs⟩, hc⟩ := hB
  exact wpT_first hi (Region.noSelect_spec hsel) hQ hs hc hn hin (fun listed' a' w' hL => seqB_ready hL.1) f listed a w (headB_spec hh) (Region.free_spec hi hf) (by simpa using hr) hy hS h
theorem wpT_one {l : List Oper} {n i : Nat} {oi : Oper} {f : Nat} {listed : Array Bool} {a : Act} {w : World} (hi : l.toArray[i]? = some oi) (hg : oi.guard = none) (hr : Region.ready .any l.toArray listed = [i]) (hin : i < n)
    (h : ∀ K : Act → World → Prop, (∀ a w, S w → wpT P .any l.toArray Q S n (LT P l Q n) f (listed.setIfInBounds i true) a w → K a w) → Oper.wp P oi a w K Q) : wpT P .any l.toArray Q S n (LT P l Q n) (f + 1) listed a w :=
  ⟨by rw [hr]; simp, fun j hj => by
    rw [hr] at hj
    have hj' : j = i := by simpa using hj
    subst hj'
    refine ⟨hin, wpOp_step hi fun K' hK' => ?_⟩
    rw [if_pos (by simp [Region.wanted, hg])]
    exact h K' fun a w hS hT => hK' a w ⟨hS, hT⟩⟩
theorem wpT_tail {l : List Oper} {n : Nat} {listed : Array Bool} {a : Act} {w : World} (hr : Region.seqB .any l.toArray (l.length - n) n listed = true) (h : wpList P l.toArray Q (l.drop n) a w) : wpT P .any l.toArray Q S n (LT P l Q n) 0 listed a w := ⟨hr, h⟩
end
end Go.Proofs.Ytlbachjhhjjmfaa.Mu
namespace Go.Proofs.Ytlbachjhhjjmfaa.Mu
open Go

/-- How many of the first n are not listed yet. -/
def cnt : Nat → Array Bool → Nat
  | 0, _ => 0
  | n + 1, l => cnt n l + if l.getD n true then 0 else 1
theorem cnt_same {n i : Nat} {l : Array Bool} (h : n ≤ i) : cnt n (l.setIfInBounds i true) = cnt n l := by
  induction n with
  | zero => rfl
  | succ n ih => simp only [cnt]; rw [ih (by omega), getD_set_ne true (by omega)]
theorem cnt_set {n i : Nat} {l : Array Bool} (h : i < n) (hs : i < l.size) (hu : l.getD i true = false) : cnt n (l.setIfInBounds i true) + 1 = cnt n l := by
  induction n with
  | zero => omega
  | succ n ih =>
    simp only [cnt]
    by_cases e : i = n
    · subst e
      rw [cnt_same (Nat.le_refl _), hu]
      simp [hs]
    · have := ih (by omega)
      rw [getD_set_ne true e]
      omega
theorem cnt_zero {n : Nat} {l : Array Bool} (h : cnt n l = 0) : ∀ i, i < n → l.getD i true = true := by
  induction n with
  | zero => intro i hi; omega
  | succ n ih =>
    simp only [cnt] at h
    intro i hi
    by_cases e : i = n
    · subst e
      by_cases hb : l.getD i true = true
      · exact hb
      · rw [if_neg hb] at h; omega
    · exact ih (by omega) i (by omega)
theorem cnt_pos {n : Nat} {l : Array Bool} (h : 0 < cnt n l) : ∃ i, i < n ∧ l.getD i true = false := by
  induction n with
  | zero => simp [cnt] at h
  | succ n ih =>
    simp only [cnt] at h
    by_cases hb : l.getD n true = true
    · rw [if_pos hb] at h
      obtain ⟨i, hi, hu⟩ := ih (by omega)
      exact ⟨i, by omega, hu⟩
    · exact ⟨n, by omega, by simpa using hb⟩
theorem cnt_le (n : Nat) (l : Array Bool) : cnt n l ≤ n := by
  induction n with
  | zero => simp [cnt]
  | succ n ih => simp only [cnt]; split <;> omega
theorem cnt_new {n m : Nat} (h : n ≤ m) : cnt n (Array.replicate m false) = n := by
  induction n with
  | zero => rfl
  | succ n ih => simp only [cnt]; rw [ih (by omega), getD_in (by simp; omega) (getD_replicate_false _ _)]; simp

/-- Each of the first n waits for none but such as stand ahead of it. -/
def fwdB (ops : Array Oper) (n : Nat) : Bool := (List.range n).all fun i => ((ops[i]?).map fun o => o.after.all fun e => !Region.binds .any e || decide (e.on < i)).getD false
theorem fwd_ready {ops : Array Oper} {n i : Nat} {listed : Array Bool} (h : fwdB ops n = true) (hi : i < n) (hu : listed.getD i true = false) (hl : ∀ j, j < i → listed.getD j true = true) (hsz : n ≤ listed.size) : i ∈ Region.ready .any ops listed := by
  have h1 := List.all_eq_true.1 h i (List.mem_range.2 hi)
  cases ho : ops[i]? with
  | none => rw [ho] at h1; cases h1
  | some o =>
    rw [ho] at h1
    simp only [Option.map_some, Option.getD_some] at h1
    refine mem_ready.2 ⟨hu, o, ho, fun e he hb => ?_⟩
    have h2 := Array.all_eq_true'.1 h1 e he
    rw [hb] at h2
    simp only [Bool.not_true, Bool.false_or, decide_eq_true_eq] at h2
    have h3 := hl e.on h2
    have h4 : e.on < listed.size := by omega
    simp [h4] at h3 ⊢; exact h3

section
variable {P : Program} {Q : Exit → Act → World → Prop}

theorem wpAny_invT {l : List Oper} {n : Nat} (I : Array Bool → Act → World → Prop) (hB : tailB .any l.toArray n = true) (hf : fwdB l.toArray n = true) (hq : Region.seqB .any l.toArray (l.length - n) n (Array.replicate n true ++ Array.replicate (l.length - n) false) = true)
    (hstep : ∀ listed a w i, HeadInv .any l.toArray n listed → I listed a w → i < n → listed.getD i true = false → i ∈ Region.ready .any l.toArray listed → wpOp P l.toArray Q i (I (listed.setIfInBounds i true)) a w)
    (hend : ∀ listed a w, I listed a w → (∀ i, i < n → listed.getD i false = true) → wpList P l.toArray Q (l.drop n) a w) :
    ∀ (c : Nat) (listed : Array Bool) (a : Act) (w : World), cnt n listed = c → HeadInv .any l.toArray n listed → I listed a w → wpAny P .any l.toArray Q (c + (l.length - n)) listed a w := by
  simp only [tailB, Bool.and_eq_true, decide_eq_true_eq] at hB
  obtain ⟨⟨⟨_, hn⟩, hs⟩, hc⟩ := hB
  have hn' : n < l.length := by simpa using hn
  intro c
  induction c with
  | zero =>
    intro listed a w hc0 inv hI
    have hall := cnt_zero hc0
    have hsz : listed.size = l.length := by simpa using inv.size
    have e : listed = Array.replicate n true ++ Array.replicate (l.length - n) false := by
      apply Array.ext
      · simp [hsz]; omega
      · intro i h1 h2
        by_cases hi : i < n
        · have := hall i hi
          rw [Array.getElem_append_left (by simpa using hi)]
          simpa [h1] using this
        · have := inv.tail i (by omega) (by simpa [hsz] using h1)
          rw [Array.getElem_append_right (by simp; omega)]
          simpa [h1] using this
    have hdl : (l.drop n).length = l.length - n := by simp
    have h := wpAny_of_seq (md := .any) (Q' := Q) (l.drop n) n listed a w (fun j => by simp [List.getElem?_drop]) (by rw [hdl, e]; exact hq) (hend listed a w hI fun i hi => by
      have h1 := hall i hi
      have h2 : i < listed.size := by omega
      simp [h2] at h1 ⊢; exact h1)
    rw [hdl] at h
    rw [Nat.zero_add]; exact h
  | succ c ih =>
    intro listed a w hcc inv hI
    obtain ⟨i0, hi0, hu0⟩ := cnt_pos (show 0 < cnt n listed by omega)
    have hnot := tail_waits hs hc hn inv _ i0 rfl hi0 hu0
    rw [show c + 1 + (l.length - n) = (c + (l.length - n)) + 1 by omega]
    refine ⟨fun hr => ?_, fun i hi => ?_⟩
    · -- the first that is not listed is ready
      exfalso
      have hmin : ∃ i, i < n ∧ listed.getD i true = false ∧ ∀ j, j < i → listed.getD j true = true := by
        have key : ∀ m, (∃ i, i < m ∧ listed.getD i true = false) → ∃ i, i < m ∧ listed.getD i true = false ∧ ∀ j, j < i → listed.getD j true = true := by
          intro m
          induction m with
          | zero => rintro ⟨i, hi, _⟩; omega
          | succ m ihm =>
            rintro ⟨i, hi, hu⟩
            by_cases hex : ∃ i, i < m ∧ listed.getD i true = false
            · obtain ⟨i, hi, h⟩ := ihm hex
              exact ⟨i, by omega, h⟩
            · obtain rfl : i = m := by
                by_cases e : i = m
                · exact e
                · exact absurd ⟨i, by omega, hu⟩ hex
              refine ⟨i, hi, hu, fun j hj => ?_⟩
              by_cases hb : listed.getD j true = true
              · exact hb
              · exact absurd ⟨j, hj, by simpa using hb⟩ hex
        exact key n ⟨i0, hi0, hu0⟩
      obtain ⟨i, hi, hu, hless⟩ := hmin
      have h := fwd_ready hf hi hu hless (by have := inv.size; simp at this; omega)
      rw [hr] at h; cases h
    · have hin : i < n := by
        rcases Nat.lt_or_ge i n with h | h
        · exact h
        · exact absurd hi (hnot i h)
      have hun := (mem_ready.1 hi).1
      have hsz : i < listed.size := by have := inv.size; simp at this; omega
      refine wpOp_mono (fun a' w' h' => ih _ a' w' ?_ (inv.set hi hin) h') (hstep listed a w i inv hI hin hun hi)
      have := cnt_set hin hsz hun
      omega

/-- Which operation writes this slot. -/
def slotAt (ops : Array Oper) (s : Nat) : Option Nat := (List.range ops.size).find? fun i => ((ops[i]?).bind (·.dst)) == some s
/-- Each operation writes a slot of its own. -/
def slotsB (ops : Array Oper) (size : Nat) : Bool := (List.range ops.size).all fun i => match (ops[i]?).bind (·.dst) with
  | some d => (slotAt ops d == some i) && decide (d < size)
  | none => true
theorem slots_spec {ops : Array Oper} {size i d : Nat} (h : slotsB ops size = true) (hd : (ops[i]?).bind (·.dst) = some d) : slotAt ops d = some i ∧ d < size := by
  have hi : i < ops.size := by
    rcases Nat.lt_or_ge i ops.size with h' | h'
    · exact h'
    · rw [Array.getElem?_eq_none h'] at hd; cases hd
  have := List.all_eq_true.1 h i (List.mem_range.2 hi)
  rw [hd] at this
  simpa using this

def Filled (ops : Array Oper) (listed : Array Bool) (V : Nat → Value) (a0 a : Act) : Prop :=
  a.defers = a0.defers ∧ a.tmps.size = a0.tmps.size ∧ ∀ s, s < a0.tmps.size → a.tmps.getD s undef = match slotAt ops s with
    | some i => if listed.getD i false then V i else a0.tmps.getD s undef
    | none => a0.tmps.getD s undef
theorem Filled.eval {ops : Array Oper} {listed : Array Bool} {V : Nat → Value} {a0 a : Act} (h : Filled ops listed V a0 a) (hB : slotsB ops a0.tmps.size = true) {i d : Nat} (hi : listed.getD i false = true) (hd : (ops[i]?).bind (·.dst) = some d) : a.eval (.tmp d) = V i := by
  obtain ⟨h1, h2⟩ := slots_spec hB hd
  show a.tmps.getD d undef = V i
  rw [h.2.2 d h2, h1]
  simp only [hi, if_true]
theorem Filled.par {ops : Array Oper} {listed : Array Bool} {V : Nat → Value} {a0 a : Act} (h : Filled ops listed V a0 a) {s : Nat} (hs : slotAt ops s = none) (hlt : s < a0.tmps.size) : a.eval (.tmp s) = a0.eval (.tmp s) := by
  show a.tmps.getD s undef = a0.tmps.getD s undef
  rw [h.2.2 s hlt, hs]
theorem Filled.put {ops : Array Oper} {listed : Array Bool} {V : Nat → Value} {a0 a : Act} {i : Nat} {o : Oper} (h : Filled ops listed V a0 a) (hB : slotsB ops a0.tmps.size = true) (ho : ops[i]? = some o) (hsz : i < listed.size) (v : Value) :
    Filled ops (listed.setIfInBounds i true) (fun j => if j = i then v else V j) a0 (a.put o.dst v) := by
  have hset : ∀ j, (listed.setIfInBounds i true).getD j false = if j = i then true else listed.getD j false := fun j => by
    by_cases e : j = i
    · subst e; simp [hsz]
    · rw [getD_set_ne false (fun e' => e e'.symm), if_neg e]
  cases hd : o.dst with
  | none =>
    refine ⟨h.1, h.2.1, fun s hs => ?_⟩
    show a.tmps.getD s undef = _
    rw [h.2.2 s hs]
    cases hk : slotAt ops s with
    | none => rfl
    | some k =>
      have hne : k ≠ i := by
        rintro rfl
        have := List.find?_some hk
        simp [ho, hd] at this
      simp only [hset, if_neg hne]
  | some d =>
    obtain ⟨h1, h2⟩ := slots_spec hB (show (ops[i]?).bind (·.dst) = some d by rw [ho]; exact hd)
    refine ⟨h.1, by show (a.tmps.setIfInBounds d v).size = _; rw [Array.size_setIfInBounds]; exact h.2.1, fun s hs => ?_⟩
    show (a.tmps.setIfInBounds d v).getD s undef = _
    by_cases e : s = d
    · subst e
      rw [h1]
      have : s < a.tmps.size := by rw [h.2.1]; exact hs
      simp [hset, this]
    · rw [Array.getD_eq_getD_getElem?, Array.getElem?_setIfInBounds_ne (fun e' => e e'.symm), ← Array.getD_eq_getD_getElem?, h.2.2 s hs]
      cases hk : slotAt ops s with
      | none => rfl
      | some k =>
        have hne : k ≠ i := by
          rintro rfl
          have := List.find?_some hk
          simp [ho, hd] at this
          exact e this.symm
        simp only [hset, if_neg hne]
/-- The slots behind the first n operations. -/
def finA (ops : Array Oper) (n : Nat) (V : Nat → Value) (a0 : Act) : Act :=
  { tmps := ((List.range a0.tmps.size).map fun s => match slotAt ops s with
      | some i => if i < n then V i else a0.tmps.getD s undef
      | none => a0.tmps.getD s undef).toArray, defers := a0.defers }
theorem Filled.fin {ops : Array Oper} {listed : Array Bool} {V : Nat → Value} {a0 a : Act} {n : Nat} (h : Filled ops listed V a0 a) (hall : ∀ i, i < n → listed.getD i false = true) (htail : ∀ i, n ≤ i → listed.getD i false = false) : a = finA ops n V a0 := by
  obtain ⟨h1, h2, h3⟩ := h
  cases a with
  | mk tmps defers =>
    simp only at h1 h2 h3
    subst h1
    unfold finA
    congr 1
    apply Array.ext
    · simp [h2]
    · intro s hs1 hs2
      have := h3 s (by omega)
      rw [Array.getD_eq_getD_getElem?, Array.getElem?_eq_getElem hs1, Option.getD_some] at this
      rw [this]
      simp only [List.getElem_toArray, List.getElem_map, List.getElem_range]
      cases hk : slotAt ops s with
      | none => rfl
      | some k =>
        by_cases hkn : k < n
        · simp only [hall k hkn, if_true, if_pos hkn]
        · simp only [htail k (by omega), Bool.false_eq_true, if_false, if_neg hkn]

/-- The world has grown: what is known is known still. -/
def ext (own : Nat → Nat) (w : World) (i : Nat) : Nat → Nat := fun x => if x < w.heap.size then own x else i

theorem wp_region_inv {id : Nat} {l : List Oper} (n : Nat) (a0 : Act) (w0 : World) (F : Nat → Value → World → (Nat → Nat) → Prop) (hm : P.follows .mixedOrders = true) (hB : tailB .any l.toArray n = true) (hf : fwdB l.toArray n = true) (hsl : slotsB l.toArray a0.tmps.size = true)
    (hq : Region.seqB .any l.toArray (l.length - n) n (Array.replicate n true ++ Array.replicate (l.length - n) false) = true)
    (hmono : ∀ i v w w' own own', i < n → F i v w own → Bel w w' → (∀ x, x < w.heap.size → own' x = own x) → F i v w' own')
    (hstep : ∀ i o, i < n → l.toArray[i]? = some o → ∀ (a : Act) (w : World) (own : Nat → Nat) (V : Nat → Value), Bel w0.drew w →
      (∀ e ∈ o.after, Region.binds .any e = true → F e.on (V e.on) w own ∧ ∀ d, (l.toArray[e.on]?).bind (·.dst) = some d → a.eval (.tmp d) = V e.on) → (∀ s, s < a0.tmps.size → slotAt l.toArray s = none → a.eval (.tmp s) = a0.eval (.tmp s)) →
      ∀ K : Act → World → Prop, (∀ v w', Bel w w' → F i v w' (ext own w i) → K (a.put o.dst v) w') → o.guard = none ∧ Oper.wp P o a w K Q)
    (hend : ∀ (V : Nat → Value) (w : World) (own : Nat → Nat), Bel w0.drew w → (∀ i, i < n → F i (V i) w own) → wpList P l.toArray Q (l.drop n) (finA l.toArray n V a0) w) :
    (Code.region id l.toArray true).wp P Q a0 w0 := by
  have hn' : n < l.length := by
    simp only [tailB, Bool.and_eq_true, decide_eq_true_eq] at hB
    simpa using hB.1.1.2
  refine wp_region_any hm ?_
  have inv0 : HeadInv .any l.toArray n (Array.replicate l.length false) :=
    ⟨by simp, fun j oj _ hl => (by rw [getD_replicate_false] at hl; cases hl), fun t _ ht => getD_in (by simpa using ht) (getD_replicate_false _ _)⟩
  have key := wpAny_invT (P := P) (Q := Q) (l := l) (n := n) (fun listed a w => listed.size = l.length ∧ (∀ t, n ≤ t → listed.getD t false = false) ∧ Bel w0.drew w ∧ ∃ (V : Nat → Value) (own : Nat → Nat), Filled l.toArray listed V a0 a ∧ ∀ i, i < n → listed.getD i false = true → F i (V i) w own) hB hf hq ?_ ?_ n (Array.replicate l.length false) a0 w0.drew (cnt_new (by omega)) inv0 ⟨by simp, fun t _ => getD_replicate_false _ _, Bel.refl _, fun _ => undef, fun _ => 0, ⟨rfl, rfl, fun s hs => by cases slotAt l.toArray s <;> simp only [getD_replicate_false, Bool.false_eq_true, if_false]⟩, fun i _ hi => by rw [getD_replicate_false] at hi; cases hi⟩
  · have e : n + (l.length - n) = l.length := by omega
    rw [e] at key
    simpa using key
  · rintro listed a w i inv ⟨hsz, htl, hbel, V, own, hfill, hF⟩ hin hun hr
    obtain ⟨_, o, ho, hall⟩ := mem_ready.1 hr
    have hK := hstep i o hin ho a w own V hbel (fun e he hb => by
      have hl := hall e he hb
      have hen : e.on < n := by
        rcases Nat.lt_or_ge e.on n with h | h
        · exact h
        · rw [htl _ h] at hl; cases hl
      exact ⟨hF _ hen hl, fun d hd => hfill.eval hsl hl hd⟩) (fun s hs hn => hfill.par hn hs)
      (fun a' w' => (listed.setIfInBounds i true).size = l.length ∧ (∀ t, n ≤ t → (listed.setIfInBounds i true).getD t false = false) ∧ Bel w0.drew w' ∧ ∃ (V : Nat → Value) (own : Nat → Nat), Filled l.toArray (listed.setIfInBounds i true) V a0 a' ∧ ∀ j, j < n → (listed.setIfInBounds i true).getD j false = true → F j (V j) w' own)
      (fun v w' hb hFi => ⟨by simpa using hsz, fun t ht => by rw [getD_set_ne false (by omega)]; exact htl t ht, hbel.on hb, fun j => if j = i then v else V j, ext own w i, hfill.put hsl ho (by omega) v, fun j hj hl => by
        by_cases e : j = i
        · subst e; simp only [if_true]; exact hFi
        · simp only [if_neg e]
          rw [getD_set_ne false (fun e' => e e'.symm)] at hl
          exact hmono j _ w w' own _ hj (hF j hj hl) hb (fun x hx => by simp [ext, hx])⟩)
    unfold wpOp
    simp only [ho]
    rw [if_pos (by simp [Region.wanted, hK.1])]
    exact .inl hK.2
  · rintro listed a w ⟨hsz, htl, hbel, V, own, hfill, hF⟩ hall
    rw [hfill.fin hall htl]
    exact hend V w own hbel fun i hi => hF i hi (hall i hi)
end
end Go.Proofs.Ytlbachjhhjjmfaa.Mu
namespace Go.Proofs.Ytlbachjhhjjmfaa.Mu
open Go.ChangeShapes Go.WideShapes Go.ChangeAt Go.RowKit

theorem wp_val {P : Program} {o : Oper} {a : Act} {w w' : World} {K : Act → World → Prop} {Q : Exit → Act → World → Prop} {v : Value} (h : (execOp a.eval o).run P w = .ok (.value v) w') (hk : K (a.put o.dst v) w') : Oper.wp P o a w K Q := by
  unfold Oper.wp; rw [h]; exact hk

/-- The arrays of a new solver, each in a block of its own. -/
structure NewA (w : World) (own : Nat → Nat) (base A0 n len gf gn ga gb gc : Nat) : Prop where
  hf : Arr .i64 w gf 3 (List.replicate n (-1))
  hn : Arr .i64 w gn 3 (List.replicate len 0)
  ha : Arr .u8 w ga 30 (List.replicate n 1)
  hb : Arr .i64 w gb 3 (List.replicate n 0)
  hc : w.heap[gc]? = some (.chan n #[] false 0 0 false)
  of : own gf = 3 ∧ own gn = 6 ∧ own ga = 9 ∧ own gb = 11 ∧ own gc = 13
  lo : base ≤ gf ∧ base ≤ gn ∧ base ≤ ga ∧ base ≤ gb ∧ base ≤ gc
def cellsS (A : Option Addr) (len cap n gf gn ga gb gc : Nat) : Array Value := #[.slice A len cap, .slice (some ⟨gf, 0, none⟩) n n, .slice (some ⟨gn, 0, none⟩) len len, .slice (some ⟨ga, 0, none⟩) n n, .slice (some ⟨gb, 0, none⟩) n n, .chan (some gc)]

def specN (base n len cap : Nat) (A : Option Addr) (i : Nat) (v : Value) (w : World) (own : Nat → Nat) : Prop :=
  match i with
  | 0 => v = .slice A len cap
  | 1 => ∃ g, v = .slice (some ⟨g, 0, none⟩) 1 1 ∧ Arr .i64 w g 3 [-1]
  | 2 => v = .int .i64 n
  | 3 => ∃ g, v = .slice (some ⟨g, 0, none⟩) n n ∧ Arr .i64 w g 3 (List.replicate n (-1)) ∧ base ≤ g ∧ own g = 3
  | 4 => v = .slice A len cap
  | 5 => v = .int .i64 len
  | 6 => ∃ g, v = .slice (some ⟨g, 0, none⟩) len len ∧ Arr .i64 w g 3 (List.replicate len 0) ∧ base ≤ g ∧ own g = 6
  | 7 => ∃ g, v = .slice (some ⟨g, 0, none⟩) 1 1 ∧ Arr .u8 w g 30 [1]
  | 8 => v = .int .i64 n
  | 9 => ∃ g, v = .slice (some ⟨g, 0, none⟩) n n ∧ Arr .u8 w g 30 (List.replicate n 1) ∧ base ≤ g ∧ own g = 9
  | 10 => v = .int .i64 n
  | 11 => ∃ g, v = .slice (some ⟨g, 0, none⟩) n n ∧ Arr .i64 w g 3 (List.replicate n 0) ∧ base ≤ g ∧ own g = 11
  | 12 => v = .int .i64 n
  | 13 => ∃ g, v = .chan (some g) ∧ w.heap[g]? = some (.chan n #[] false 0 0 false) ∧ base ≤ g ∧ own g = 13
  | 14 => ∃ gf gn ga gb gc, v = .agg (cellsS A len cap n gf gn ga gb gc) ∧ NewA w own base 0 n len gf gn ga gb gc
  | 15 => ∃ gs gf gn ga gb gc, v = .pointer (some ⟨gs, 0, none⟩) ∧ w.heap[gs]? = some (.cells (cellsS A len cap n gf gn ga gb gc) 90 (0, 0)) ∧ NewA w own base 0 n len gf gn ga gb gc ∧ base ≤ gs ∧ own gs = 15
  | 16 => ∃ g, v = .pointer (some ⟨g, 0, none⟩) ∧ w.heap[g]? = some (.cells #[.pointer none] 84 (0, 0)) ∧ base ≤ g ∧ own g = 16
  | _ => True

theorem blk_lt {w : World} {g : Nat} {o : Obj} (h : w.heap[g]? = some o) : g < w.heap.size := (Array.getElem?_eq_some_iff.1 h).1
theorem NewA.mono {w w' : World} {own own' : Nat → Nat} {base A0 n len gf gn ga gb gc : Nat} (h : NewA w own base A0 n len gf gn ga gb gc) (hb : Bel w w') (ho : ∀ x, x < w.heap.size → own' x = own x) : NewA w' own' base A0 n len gf gn ga gb gc :=
  ⟨h.hf.bel hb, h.hn.bel hb, h.ha.bel hb, h.hb.bel hb, hb.blk h.hc, ⟨(ho _ h.hf.lt).trans h.of.1, (ho _ h.hn.lt).trans h.of.2.1, (ho _ h.ha.lt).trans h.of.2.2.1, (ho _ h.hb.lt).trans h.of.2.2.2.1, (ho _ (blk_lt h.hc)).trans h.of.2.2.2.2⟩, h.lo⟩
theorem specN_mono {base n len cap : Nat} {A : Option Addr} (i : Nat) (v : Value) (w w' : World) (own own' : Nat → Nat) (hi : i < 17) (h : specN base n len cap A i v w own) (hb : Bel w w') (ho : ∀ x, x < w.heap.size → own' x = own x) : specN base n len cap A i v w' own' := by
  match i, hi, h with
  | 0, _, h => exact h
  | 1, _, ⟨g, e, h⟩ => exact ⟨g, e, h.bel hb⟩
  | 2, _, h => exact h
  | 3, _, ⟨g, e, h, l, o⟩ => exact ⟨g, e, h.bel hb, l, (ho _ h.lt).trans o⟩
  | 4, _, h => exact h
  | 5, _, h => exact h
  | 6, _, ⟨g, e, h, l, o⟩ => exact ⟨g, e, h.bel hb, l, (ho _ h.lt).trans o⟩
  | 7, _, ⟨g, e, h⟩ => exact ⟨g, e, h.bel hb⟩
  | 8, _, h => exact h
  | 9, _, ⟨g, e, h, l, o⟩ => exact ⟨g, e, h.bel hb, l, (ho _ h.lt).trans o⟩
  | 10, _, h => exact h
  | 11, _, ⟨g, e, h, l, o⟩ => exact ⟨g, e, h.bel hb, l, (ho _ h.lt).trans o⟩
  | 12, _, h => exact h
  | 13, _, ⟨g, e, h, l, o⟩ => exact ⟨g, e, hb.blk h, l, (ho _ (blk_lt h)).trans o⟩
  | 14, _, ⟨a, b, c, d, f, e, h⟩ => exact ⟨a, b, c, d, f, e, h.mono hb ho⟩
  | 15, _, ⟨s, a, b, c, d, f, e, h1, h, l, o⟩ => exact ⟨s, a, b, c, d, f, e, hb.blk h1, h.mono hb ho, l, (ho _ (blk_lt h1)).trans o⟩
  | 16, _, ⟨g, e, h, l, o⟩ => exact ⟨g, e, hb.blk h, l, (ho _ (blk_lt h)).trans o⟩
  | k + 17, hi, _ => exact absurd hi (by omega)

def regN : List Oper := [
  { dst := some 10, op := Op.move (Operand.tmp 2), type := 37, pos := "least.go:66", after := #[], guard := none },
  { dst := some 11, op := Op.buildSlice 22 1 #[(0, Operand.const (Value.int IntKind.i64 (-1)))], type := 22, pos := "least.go:66", after := #[], guard := none },
  { dst := some 12, op := Op.move (Operand.tmp 0), type := 3, pos := "least.go:66", after := #[], guard := none },
  { dst := some 13, op := Op.call { callee := Callee.value (Operand.func 69), args := #[Operand.tmp 11, Operand.tmp 12], argTypes := #[22, 3] }, type := 22, pos := "least.go:68", after := #[{ on := 1, ground := Ground.data }, { on := 2, ground := Ground.data }], guard := none },
  { dst := some 14, op := Op.move (Operand.tmp 2), type := 37, pos := "least.go:66", after := #[], guard := none },
  { dst := some 15, op := Op.call { callee := Callee.builtin Builtin.len, args := #[Operand.tmp 14], argTypes := #[37] }, type := 3, pos := "least.go:66", after := #[{ on := 4, ground := Ground.data }], guard := none },
  { dst := some 16, op := Op.makeSlice 22 (Operand.tmp 15) (Operand.tmp 15), type := 22, pos := "least.go:66", after := #[{ on := 5, ground := Ground.data }, { on := 5, ground := Ground.data }], guard := none },
  { dst := some 17, op := Op.buildSlice 23 1 #[(0, Operand.const (Value.int IntKind.u8 1))], type := 23, pos := "least.go:66", after := #[], guard := none },
  { dst := some 18, op := Op.move (Operand.tmp 0), type := 3, pos := "least.go:66", after := #[], guard := none },
  { dst := some 19, op := Op.call { callee := Callee.value (Operand.func 22), args := #[Operand.tmp 17, Operand.tmp 18], argTypes := #[23, 3] }, type := 23, pos := "least.go:70", after := #[{ on := 7, ground := Ground.data }, { on := 8, ground := Ground.data }, { on := 3, ground := Ground.chain }], guard := none },
  { dst := some 20, op := Op.move (Operand.tmp 0), type := 3, pos := "least.go:66", after := #[], guard := none },
  { dst := some 21, op := Op.makeSlice 22 (Operand.tmp 20) (Operand.tmp 20), type := 22, pos := "least.go:66", after := #[{ on := 10, ground := Ground.data }, { on := 10, ground := Ground.data }], guard := none },
  { dst := some 22, op := Op.move (Operand.tmp 0), type := 3, pos := "least.go:66", after := #[], guard := none },
  { dst := some 23, op := Op.makeChan 88 (Operand.tmp 22), type := 88, pos := "least.go:66", after := #[{ on := 12, ground := Ground.data }], guard := none },
  { dst := some 24, op := Op.build 90 #[(0, Operand.tmp 10), (1, Operand.tmp 13), (2, Operand.tmp 16), (3, Operand.tmp 19), (4, Operand.tmp 21), (5, Operand.tmp 23)], type := 90, pos := "least.go:66", after := #[{ on := 0, ground := Ground.data }, { on := 3, ground := Ground.data }, { on := 6, ground := Ground.data }, { on := 9, ground := Ground.data }, { on := 11, ground := Ground.data }, { on := 13, ground := Ground.data }], guard := none },
  { dst := some 25, op := Op.box 90 (Operand.tmp 24), type := 84, pos := "least.go:66", after := #[{ on := 14, ground := Ground.data }], guard := none },
  { dst := some 7, op := Op.alloc 84, type := 0, pos := "least.go:66", after := #[], guard := none },
  { dst := none, op := Op.store 84 (Operand.tmp 7) (Operand.tmp 25), type := 0, pos := "least.go:66", after := #[{ on := 16, ground := Ground.data }, { on := 15, ground := Ground.data }, { on := 9, ground := Ground.chain }, { on := 0, ground := Ground.phase }, { on := 1, ground := Ground.phase }, { on := 2, ground := Ground.phase }, { on := 3, ground := Ground.phase }, { on := 4, ground := Ground.phase }, { on := 5, ground := Ground.phase }, { on := 6, ground := Ground.phase }, { on := 7, ground := Ground.phase }, { on := 8, ground := Ground.phase }, { on := 9, ground := Ground.phase }, { on := 10, ground := Ground.phase }, { on := 11, ground := Ground.phase }, { on := 12, ground := Ground.phase }, { on := 13, ground := Ground.phase }, { on := 14, ground := Ground.phase }, { on := 15, ground := Ground.phase }, { on := 16, ground := Ground.phase }], guard := none }]

theorem regN_tail : tailB .any regN.toArray 17 = true := by kernel_rfl
theorem regN_fwd : fwdB regN.toArray 17 = true := by kernel_rfl
theorem regN_slots : slotsB regN.toArray 63 = true := by kernel_rfl
theorem regN_seq : Region.seqB .any regN.toArray (regN.length - 17) 17 (Array.replicate 17 true ++ Array.replicate (regN.length - 17) false) = true := by kernel_rfl
theorem mk_int (k : Nat) (hk : k ≤ 1048576) (W : World) : (Instr.makeSlice 22 (.int .i64 (k : Int)) (.int .i64 (k : Int))).run Try.prog W = .ok (.slice (some ⟨W.heap.size, 0, none⟩) k k) (W.alloc (.cells (madeCells #[.int .i64 0] k) 3)) :=
  run_make_row' (P := Try.prog) 22 3 (.int .i64 0) 8 Try.underlying22 info_i64 rfl .i64 .i64 k (by omega) (by omega) W
theorem mk_chan (k : Nat) (hk : k ≤ 1048576) (W : World) : (Instr.makeChan 88 (.int .i64 (k : Int))).run Try.prog W = .ok (.chan (some W.heap.size)) (W.alloc (.chan k #[] false 0 0 false)) := by
  have h1 : ¬ (k : Int) < 0 := by omega
  have h2 : Try.t3.bytes = 8 := by kernel_rfl
  simp [Instr.makeChan, go_sem, h1, h2]
  omega

def actN (n len cap : Nat) (lowA A : Option Addr) (ln lk : Nat) (V : Nat → Value) : Act :=
  { tmps := #[.int .i64 n, .slice lowA ln lk, .slice A len cap, undef, undef, undef, .pointer none, V 16, undef, undef, V 0, V 1, V 2, V 3, V 4, V 5, V 6, V 7, V 8, V 9, V 10, V 11, V 12, V 13, V 14, V 15,
      undef, undef, undef, undef, undef, undef, undef, undef, undef, undef, undef, undef, undef, undef, undef, undef, undef, undef, undef, undef, undef, undef, undef, undef, undef, undef, undef, undef, undef, undef, undef, undef, undef, undef, undef, undef, undef], defers := [] }

set_option maxRecDepth 100000 in
set_option maxHeartbeats 4000000 in
theorem regN_any {id : Nat} (n len cap : Nat) (lowA A : Option Addr) (ln lk : Nat) (hn : n ≤ 1048576) (hl : len ≤ 1048576) (w : World) (Q : Exit → Act → World → Prop)
    (hend : ∀ (V : Nat → Value) (w' : World) (own : Nat → Nat), Bel w.drew w' → (∀ i, i < 17 → specN w.heap.size n len cap A i (V i) w' own) → wpList Try.prog regN.toArray Q (regN.drop 17) (actN n len cap lowA A ln lk V) w') :
    (Code.region id regN.toArray true).wp Try.prog Q (actN n len cap lowA A ln lk fun _ => undef) w := by
  refine wp_region_inv (l := regN) 17 (actN n len cap lowA A ln lk fun _ => undef) w (specN w.heap.size n len cap A) (by kernel_rfl) regN_tail regN_fwd regN_slots regN_seq (fun i v w w' own own' hi h hb ho => specN_mono i v w w' own own' hi h hb ho) ?_ ?_
  · intro i o hi ho a W own V hbel hdep hpar K hK
    have p0 : a.eval (.tmp 0) = .int .i64 n := hpar 0 (by show 0 < 63; decide) (by kernel_rfl)
    have p2 : a.eval (.tmp 2) = .slice A len cap := hpar 2 (by show 2 < 63; decide) (by kernel_rfl)
    match i, hi, ho, hK with
    | 0, _, ho, hK =>
      simp only [regN, List.getElem?_toArray, List.getElem?_cons_zero, Option.some.injEq] at ho
      subst ho
      exact ⟨rfl, wp_val (v := .slice A len cap) (w' := W) (by rw [← p2]; rfl) (hK _ _ (Bel.refl _) rfl)⟩
    | 1, _, ho, hK =>
      simp only [regN, List.getElem?_toArray, List.getElem?_cons_zero, List.getElem?_cons_succ, Option.some.injEq] at ho
      subst ho
      exact ⟨rfl, wp_val (v := .slice (some ⟨W.heap.size, 0, none⟩) 1 1) (w' := W.alloc (.cells #[.int .i64 (-1)] 3)) (by simp [execOp, go_sem, Act.eval]) (hK _ _ ((Bel.refl _).alloc _) ⟨_, rfl, blk1 W _⟩)⟩
    | 2, _, ho, hK =>
      simp only [regN, List.getElem?_toArray, List.getElem?_cons_zero, List.getElem?_cons_succ, Option.some.injEq] at ho
      subst ho
      exact ⟨rfl, wp_val (v := .int .i64 n) (w' := W) (by rw [← p0]; rfl) (hK _ _ (Bel.refl _) rfl)⟩
    | 3, _, ho, hK =>
      simp only [regN, List.getElem?_toArray, List.getElem?_cons_zero, List.getElem?_cons_succ, Option.some.injEq] at ho
      subst ho
      obtain ⟨⟨g, f1, hg⟩, d1⟩ := hdep ⟨1, .data⟩ (by simp) rfl
      have e11 : a.eval (.tmp 11) = .slice (some ⟨g, 0, none⟩) 1 1 := (d1 11 rfl).trans f1
      have e11' : a.tmps[11]?.getD undef = .slice (some ⟨g, 0, none⟩) 1 1 := by have h := e11; simp only [Act.eval, Array.getD_eq_getD_getElem?] at h; exact h
      obtain ⟨f2, d2⟩ := hdep ⟨2, .data⟩ (by simp) rfl
      have e12 : a.eval (.tmp 12) = .int .i64 n := (d2 12 rfl).trans f2
      have e12' : a.tmps[12]?.getD undef = .int .i64 n := by have h := e12; simp only [Act.eval, Array.getD_eq_getD_getElem?] at h; exact h
      refine ⟨rfl, ?_⟩
      have hrun : ∀ o : Oper, o.op = .call { callee := .value (.func 69), args := #[.tmp 11, .tmp 12], argTypes := #[22, 3] } → (execOp a.eval o).run Try.prog W = .ok (.enter 69 #[.slice (some ⟨g, 0, none⟩) 1 1, .int .i64 n]) W := fun o ho => by simp [execOp, ho, resolve, invoke, go_sem, e11', e12']
      unfold Oper.wp
      rw [hrun _ rfl]
      refine (repeatI_any g n (-1) hn W hg).mono ?_
      rintro e w' ⟨rfl, hr, hb⟩
      exact hK _ _ hb ⟨_, rfl, hr, hbel.size, by simp [ext]⟩
    | 4, _, ho, hK =>
      simp only [regN, List.getElem?_toArray, List.getElem?_cons_zero, List.getElem?_cons_succ, Option.some.injEq] at ho
      subst ho
      exact ⟨rfl, wp_val (v := .slice A len cap) (w' := W) (by rw [← p2]; rfl) (hK _ _ (Bel.refl _) rfl)⟩
    | 5, _, ho, hK =>
      simp only [regN, List.getElem?_toArray, List.getElem?_cons_zero, List.getElem?_cons_succ, Option.some.injEq] at ho
      subst ho
      obtain ⟨f4, d4⟩ := hdep ⟨4, .data⟩ (by simp) rfl
      have e14 : a.eval (.tmp 14) = .slice A len cap := (d4 14 rfl).trans f4
      have e14' : a.tmps[14]?.getD undef = .slice A len cap := by have h := e14; simp only [Act.eval, Array.getD_eq_getD_getElem?] at h; exact h
      exact ⟨rfl, wp_val (v := .int .i64 len) (w' := W) (by simp [go_sem, e14']) (hK _ _ (Bel.refl _) rfl)⟩
    | 6, _, ho, hK =>
      simp only [regN, List.getElem?_toArray, List.getElem?_cons_zero, List.getElem?_cons_succ, Option.some.injEq] at ho
      subst ho
      obtain ⟨f5, d5⟩ := hdep ⟨5, .data⟩ (by simp) rfl
      have e15 : a.eval (.tmp 15) = .int .i64 len := (d5 15 rfl).trans f5
      have e15' : a.tmps[15]?.getD undef = .int .i64 len := by have h := e15; simp only [Act.eval, Array.getD_eq_getD_getElem?] at h; exact h
      exact ⟨rfl, wp_val (v := .slice (some ⟨W.heap.size, 0, none⟩) len len) (w' := W.alloc (.cells (madeCells #[.int .i64 0] len) 3)) (by simp [execOp, e15, mk_int len hl, Result.andThen]) (hK _ _ ((Bel.refl _).alloc _) ⟨_, rfl, Arr.made W _ len 0, hbel.size, by simp [ext]⟩)⟩
    | 7, _, ho, hK =>
      simp only [regN, List.getElem?_toArray, List.getElem?_cons_zero, List.getElem?_cons_succ, Option.some.injEq] at ho
      subst ho
      exact ⟨rfl, wp_val (v := .slice (some ⟨W.heap.size, 0, none⟩) 1 1) (w' := W.alloc (.cells #[.int .u8 1] 30)) (by simp [execOp, go_sem, Act.eval]) (hK _ _ ((Bel.refl _).alloc _) ⟨_, rfl, blk1 W _⟩)⟩
    | 8, _, ho, hK =>
      simp only [regN, List.getElem?_toArray, List.getElem?_cons_zero, List.getElem?_cons_succ, Option.some.injEq] at ho
      subst ho
      exact ⟨rfl, wp_val (v := .int .i64 n) (w' := W) (by rw [← p0]; rfl) (hK _ _ (Bel.refl _) rfl)⟩
    | 9, _, ho, hK =>
      simp only [regN, List.getElem?_toArray, List.getElem?_cons_zero, List.getElem?_cons_succ, Option.some.injEq] at ho
      subst ho
      obtain ⟨⟨g, f7, hg⟩, d7⟩ := hdep ⟨7, .data⟩ (by simp) rfl
      have e17 : a.eval (.tmp 17) = .slice (some ⟨g, 0, none⟩) 1 1 := (d7 17 rfl).trans f7
      have e17' : a.tmps[17]?.getD undef = .slice (some ⟨g, 0, none⟩) 1 1 := by have h := e17; simp only [Act.eval, Array.getD_eq_getD_getElem?] at h; exact h
      obtain ⟨f8, d8⟩ := hdep ⟨8, .data⟩ (by simp) rfl
      have e18 : a.eval (.tmp 18) = .int .i64 n := (d8 18 rfl).trans f8
      have e18' : a.tmps[18]?.getD undef = .int .i64 n := by have h := e18; simp only [Act.eval, Array.getD_eq_getD_getElem?] at h; exact h
      refine ⟨rfl, ?_⟩
      have hrun : ∀ o : Oper, o.op = .call { callee := .value (.func 22), args := #[.tmp 17, .tmp 18], argTypes := #[23, 3] } → (execOp a.eval o).run Try.prog W = .ok (.enter 22 #[.slice (some ⟨g, 0, none⟩) 1 1, .int .i64 n]) W := fun o ho => by simp [execOp, ho, resolve, invoke, go_sem, e17', e18']
      unfold Oper.wp
      rw [hrun _ rfl]
      refine (repeatM_any g n 1 hn W hg).mono ?_
      rintro e w' ⟨rfl, hr, hb⟩
      exact hK _ _ hb ⟨_, rfl, hr, hbel.size, by simp [ext]⟩
    | 10, _, ho, hK =>
      simp only [regN, List.getElem?_toArray, List.getElem?_cons_zero, List.getElem?_cons_succ, Option.some.injEq] at ho
      subst ho
      exact ⟨rfl, wp_val (v := .int .i64 n) (w' := W) (by rw [← p0]; rfl) (hK _ _ (Bel.refl _) rfl)⟩
    | 11, _, ho, hK =>
      simp only [regN, List.getElem?_toArray, List.getElem?_cons_zero, List.getElem?_cons_succ, Option.some.injEq] at ho
      subst ho
      obtain ⟨f10, d10⟩ := hdep ⟨10, .data⟩ (by simp) rfl
      have e20 : a.eval (.tmp 20) = .int .i64 n := (d10 20 rfl).trans f10
      have e20' : a.tmps[20]?.getD undef = .int .i64 n := by have h := e20; simp only [Act.eval, Array.getD_eq_getD_getElem?] at h; exact h
      exact ⟨rfl, wp_val (v := .slice (some ⟨W.heap.size, 0, none⟩) n n) (w' := W.alloc (.cells (madeCells #[.int .i64 0] n) 3)) (by simp [execOp, e20, mk_int n hn, Result.andThen]) (hK _ _ ((Bel.refl _).alloc _) ⟨_, rfl, Arr.made W _ n 0, hbel.size, by simp [ext]⟩)⟩
    | 12, _, ho, hK =>
      simp only [regN, List.getElem?_toArray, List.getElem?_cons_zero, List.getElem?_cons_succ, Option.some.injEq] at ho
      subst ho
      exact ⟨rfl, wp_val (v := .int .i64 n) (w' := W) (by rw [← p0]; rfl) (hK _ _ (Bel.refl _) rfl)⟩
    | 13, _, ho, hK =>
      simp only [regN, List.getElem?_toArray, List.getElem?_cons_zero, List.getElem?_cons_succ, Option.some.injEq] at ho
      subst ho
      obtain ⟨f12, d12⟩ := hdep ⟨12, .data⟩ (by simp) rfl
      have e22 : a.eval (.tmp 22) = .int .i64 n := (d12 22 rfl).trans f12
      have e22' : a.tmps[22]?.getD undef = .int .i64 n := by have h := e22; simp only [Act.eval, Array.getD_eq_getD_getElem?] at h; exact h
      exact ⟨rfl, wp_val (v := .chan (some W.heap.size)) (w' := W.alloc (.chan n #[] false 0 0 false)) (by simp [execOp, e22, mk_chan n hn, Result.andThen]) (hK _ _ ((Bel.refl _).alloc _) ⟨_, rfl, blk1 W _, hbel.size, by simp [ext]⟩)⟩
    | 14, _, ho, hK =>
      simp only [regN, List.getElem?_toArray, List.getElem?_cons_zero, List.getElem?_cons_succ, Option.some.injEq] at ho
      subst ho
      obtain ⟨f0, d0⟩ := hdep ⟨0, .data⟩ (by simp) rfl
      have e10 : a.eval (.tmp 10) = .slice A len cap := (d0 10 rfl).trans f0
      have e10' : a.tmps[10]?.getD undef = .slice A len cap := by have h := e10; simp only [Act.eval, Array.getD_eq_getD_getElem?] at h; exact h
      obtain ⟨⟨gf, f3, hgf, lgf, ogf⟩, d3⟩ := hdep ⟨3, .data⟩ (by simp) rfl
      have e13 : a.eval (.tmp 13) = .slice (some ⟨gf, 0, none⟩) n n := (d3 13 rfl).trans f3
      have e13' : a.tmps[13]?.getD undef = .slice (some ⟨gf, 0, none⟩) n n := by have h := e13; simp only [Act.eval, Array.getD_eq_getD_getElem?] at h; exact h
      obtain ⟨⟨gn, f6, hgn, lgn, ogn⟩, d6⟩ := hdep ⟨6, .data⟩ (by simp) rfl
      have e16 : a.eval (.tmp 16) = .slice (some ⟨gn, 0, none⟩) len len := (d6 16 rfl).trans f6
      have e16' : a.tmps[16]?.getD undef = .slice (some ⟨gn, 0, none⟩) len len := by have h := e16; simp only [Act.eval, Array.getD_eq_getD_getElem?] at h; exact h
      obtain ⟨⟨ga, f9, hga, lga, oga⟩, d9⟩ := hdep ⟨9, .data⟩ (by simp) rfl
      have e19 : a.eval (.tmp 19) = .slice (some ⟨ga, 0, none⟩) n n := (d9 19 rfl).trans f9
      have e19' : a.tmps[19]?.getD undef = .slice (some ⟨ga, 0, none⟩) n n := by have h := e19; simp only [Act.eval, Array.getD_eq_getD_getElem?] at h; exact h
      obtain ⟨⟨gb, f11, hgb, lgb, ogb⟩, d11⟩ := hdep ⟨11, .data⟩ (by simp) rfl
      have e21 : a.eval (.tmp 21) = .slice (some ⟨gb, 0, none⟩) n n := (d11 21 rfl).trans f11
      have e21' : a.tmps[21]?.getD undef = .slice (some ⟨gb, 0, none⟩) n n := by have h := e21; simp only [Act.eval, Array.getD_eq_getD_getElem?] at h; exact h
      obtain ⟨⟨gc, f13, hgc, lgc, ogc⟩, d13⟩ := hdep ⟨13, .data⟩ (by simp) rfl
      have e23 : a.eval (.tmp 23) = .chan (some gc) := (d13 23 rfl).trans f13
      have e23' : a.tmps[23]?.getD undef = .chan (some gc) := by have h := e23; simp only [Act.eval, Array.getD_eq_getD_getElem?] at h; exact h
      have hown : ∀ x, x < W.heap.size → ext own W 14 x = own x := fun x hx => by simp [ext, hx]
      exact ⟨rfl, wp_val (v := .agg (cellsS A len cap n gf gn ga gb gc)) (w' := W) (by simp [execOp, go_sem, e10', e13', e16', e19', e21', e23', cellsS]) (hK _ _ (Bel.refl _) ⟨gf, gn, ga, gb, gc, rfl, NewA.mono ⟨hgf, hgn, hga, hgb, hgc, ⟨ogf, ogn, oga, ogb, ogc⟩, ⟨lgf, lgn, lga, lgb, lgc⟩⟩ (Bel.refl _) hown⟩)⟩
    | 15, _, ho, hK =>
      simp only [regN, List.getElem?_toArray, List.getElem?_cons_zero, List.getElem?_cons_succ, Option.some.injEq] at ho
      subst ho
      obtain ⟨⟨gf, gn, ga, gb, gc, f14, hN⟩, d14⟩ := hdep ⟨14, .data⟩ (by simp) rfl
      have e24 : a.eval (.tmp 24) = .agg (cellsS A len cap n gf gn ga gb gc) := (d14 24 rfl).trans f14
      have e24' : a.tmps[24]?.getD undef = .agg (cellsS A len cap n gf gn ga gb gc) := by have h := e24; simp only [Act.eval, Array.getD_eq_getD_getElem?] at h; exact h
      have hown : ∀ x, x < W.heap.size → ext own W 15 x = own x := fun x hx => by simp [ext, hx]
      exact ⟨rfl, wp_val (v := .pointer (some ⟨W.heap.size, 0, none⟩)) (w' := W.alloc (.cells (cellsS A len cap n gf gn ga gb gc) 90)) (by simp [execOp, go_sem, e24', cellsS]) (hK _ _ ((Bel.refl _).alloc _) ⟨_, gf, gn, ga, gb, gc, rfl, blk1 W _, hN.mono ((Bel.refl _).alloc _) hown, hbel.size, by simp [ext]⟩)⟩
    | 16, _, ho, hK =>
      simp only [regN, List.getElem?_toArray, List.getElem?_cons_zero, List.getElem?_cons_succ, Option.some.injEq] at ho
      subst ho
      exact ⟨rfl, wp_val (v := .pointer (some ⟨W.heap.size, 0, none⟩)) (w' := W.alloc (.cells #[.pointer none] 84)) (by simp [execOp, go_sem]) (hK _ _ ((Bel.refl _).alloc _) ⟨_, rfl, blk1 W _, hbel.size, by simp [ext]⟩)⟩
    | k + 17, hi, _, _ => exact absurd hi (by omega)
  · intro V w' own hb hF
    have e : finA regN.toArray 17 V (actN n len cap lowA A ln lk fun _ => undef) = actN n len cap lowA A ln lk V := by kernel_rfl
    rw [e]
    exact hend V w' own hb hF
end Go.Proofs.Ytlbachjhhjjmfaa.Mu
namespace Go.Proofs.Ytlbachjhhjjmfaa.Mu
open Go.ChangeShapes Go.WideShapes Go.ChangeAt Go.RowKit Go.Shelf

attribute [local go_sem] Oper.semAt_some

/-- A solver as it lies in memory, but for its channel. -/
structure Sol (w : World) (s gf gn ga gb gc : Nat) (A : Option Addr) (len cap n : Nat) (F N G B : List Int) : Prop where
  hs : w.heap[s]? = some (.cells (cellsS A len cap n gf gn ga gb gc) 90 (0, 0))
  hf : Arr .i64 w gf 3 F
  hn : Arr .i64 w gn 3 N
  ha : Arr .u8 w ga 30 G
  hb : Arr .i64 w gb 3 B
/-- Its blocks are its own, and apart. -/
def Dist (base s gf gn ga gb gc : Nat) : Prop :=
  (base ≤ s ∧ base ≤ gf ∧ base ≤ gn ∧ base ≤ ga ∧ base ≤ gb ∧ base ≤ gc) ∧ (s ≠ gf ∧ s ≠ gn ∧ s ≠ ga ∧ s ≠ gb ∧ s ≠ gc) ∧ (gf ≠ gn ∧ gf ≠ ga ∧ gf ≠ gb ∧ gf ≠ gc) ∧ (gn ≠ ga ∧ gn ≠ gb ∧ gn ≠ gc) ∧ (ga ≠ gb ∧ ga ≠ gc) ∧ gb ≠ gc
def stepFN (p : List Int × List Int) (x : Nat × Iq) : List Int × List Int := if x.2.m = 0 then (p.1.set x.2.v.toNat x.1, p.2.set x.1 (p.1[x.2.v.toNat]?.getD 0)) else p
def foldFN (n len : Nat) (ys : List (Nat × Iq)) : List Int × List Int := ys.foldl stepFN (List.replicate n (-1), List.replicate len 0)

theorem step_len (p : List Int × List Int) (x : Nat × Iq) : (stepFN p x).1.length = p.1.length ∧ (stepFN p x).2.length = p.2.length := by
  unfold stepFN; split <;> simp
theorem fold_len (n len : Nat) (ys : List (Nat × Iq)) : (foldFN n len ys).1.length = n ∧ (foldFN n len ys).2.length = len := by
  have key : ∀ (ys : List (Nat × Iq)) (p : List Int × List Int), (ys.foldl stepFN p).1.length = p.1.length ∧ (ys.foldl stepFN p).2.length = p.2.length := by
    intro ys
    induction ys with
    | nil => intro p; exact ⟨rfl, rfl⟩
    | cons y ys ih => intro p; obtain ⟨a, b⟩ := ih (stepFN p y); obtain ⟨c, d⟩ := step_len p y; exact ⟨a.trans c, b.trans d⟩
  have h := key ys (List.replicate n (-1), List.replicate len 0)
  simp only [List.length_replicate] at h
  exact h
def actR (n len cap : Nat) (lowA A : Option Addr) (ln lk : Nat) (V : Nat → Value) (ll : Int) (g7 gs ga bx : Nat) (u8 u9 u34 u35 : Value) : Act :=
  { tmps := #[.int .i64 n, .slice lowA ln lk, .slice A len cap, undef, undef, undef, .pointer none, .pointer (some ⟨g7, 0, none⟩), u8, u9, V 0, V 1, V 2, V 3, V 4, V 5, V 6, V 7, V 8, V 9, V 10, V 11, V 12, V 13, V 14, .pointer (some ⟨gs, 0, none⟩),
      .pointer (some ⟨gs, 0, none⟩), .pointer (some ⟨gs, 0, none⟩), .pointer (some ⟨gs, 3, none⟩), .slice (some ⟨ga, 0, none⟩) n n, .slice lowA ln lk, .int .i64 ll, .slice A len cap, .func (.func 84) #[] #[.pointer (some ⟨bx, 0, none⟩)], u34, u35, undef, undef, undef, undef, undef, undef, undef, undef, undef, undef, undef, undef, undef, undef, undef, undef, undef, undef, undef, undef, undef, undef, undef, undef, undef, undef, undef], defers := [] }
def agg4 (x : Iq) : Value := .agg #[.int .i64 x.v, .int .u8 x.m, .int .u8 x.c, .int .i64 x.r]

def NewPost (n len cap : Nat) (A : Option Addr) (xs : List Iq) (low : List Int) (w : World) (e : Ending) (w' : World) : Prop :=
  ∃ s gf gn ga gb gc, e = .returned (.pointer (some ⟨s, 0, none⟩)) ∧ Dist w.heap.size s gf gn ga gb gc ∧ Sol w' s gf gn ga gb gc A len cap n (foldFN n len (backL xs len)).1 (foldFN n len (backL xs len)).2 (if low.length = 0 then List.replicate n 1 else low) (List.replicate n 0) ∧ w'.heap[gc]? = some (.chan n #[] false 0 0 false) ∧ Bel w w'

set_option maxRecDepth 100000 in
set_option maxHeartbeats 4000000 in
theorem newSolver_any (n len cap : Nat) (lowA A : Option Addr) (ln lk : Nat) (low : List Int) (xs : List Iq) (hn : n ≤ 1048576) (hl : len ≤ 1048576) (w : World) (hlow : RI .u8 w w.heap.size lowA ln low) (hln : ln = 0 ∨ ln = n) (hq : RQ w w.heap.size A len xs) (hv : ∀ x ∈ xs, x.m = 0 → 0 ≤ x.v ∧ x.v < n) :
    Calls Try.prog 45 #[.int .i64 n, .slice lowA ln lk, .slice A len cap] w (NewPost n len cap A xs low w) := by
  have HLOW := Lib.hid hlow
  have HQ := Lib.hid hq
  have HV := Lib.hid hv
  clear hlow hq hv
  refine (callsIn_wide (n := 6)).1 ?_
  refine callsIn_of_wp_marks Try.func45 rfl trivial ?_ rfl
  refine wpIn_wide.2 ?_
  simp only [Try.ntmps45, List.size_toArray, List.length_cons, List.length_nil, Nat.reduceAdd, Nat.reduceSub, Array.replicate_succ, Array.replicate_zero, List.push_toArray, List.append_toArray, List.nil_append, List.cons_append]
  go_wp2_with fail
  refine regN_any n len cap lowA A ln lk hn hl w _ ?_
  intro V w1 own hb1 hF
  have HL := Lib.hid HLOW.out.len
  have hmin : low.length = Nat.min ln n := by rw [← HL.out]; rcases hln with h | h <;> rw [h] <;> simp
  have hfit : 0 + low.length ≤ (List.replicate n (1 : Int)).length := by rw [← HL.out, List.length_replicate]; rcases hln with h | h <;> omega
  have hspl : splice (List.replicate n (1 : Int)) 0 low = if low.length = 0 then List.replicate n 1 else low := by
    unfold splice
    by_cases h0 : low.length = 0
    · rw [if_pos h0, List.eq_nil_of_length_eq_zero h0]; simp
    · have := HL.out
      rw [if_neg h0]
      simp only [List.take_zero, List.nil_append, Nat.zero_add]
      rw [List.drop_eq_nil_of_le (by simp; omega), List.append_nil]
  obtain ⟨gs, gf, gn, ga, gb, gc, e15, hS, hA, ls, os⟩ := hF 15 (by omega)
  obtain ⟨g7, e16, h7, l7, o7⟩ := hF 16 (by omega)
  simp only [regN, List.drop_succ_cons, List.drop_zero, actN, e15, e16]
  have HD : Hid (Dist w.heap.size gs gf gn ga gb gc ∧ (g7 ≠ gs ∧ g7 ≠ gf ∧ g7 ≠ gn ∧ g7 ≠ ga ∧ g7 ≠ gb ∧ g7 ≠ gc) ∧ w.heap.size ≤ g7) := Lib.hid (by
    obtain ⟨o1, o2, o3, o4, o5⟩ := hA.of
    obtain ⟨l1, l2, l3, l4, l5⟩ := hA.lo
    have key : ∀ {x y : Nat} {i j : Nat}, own x = i → own y = j → i ≠ j → x ≠ y := fun h1 h2 h3 e => h3 (by rw [← h1, ← h2, e])
    exact ⟨⟨⟨ls, l1, l2, l3, l4, l5⟩, ⟨key os o1 (by decide), key os o2 (by decide), key os o3 (by decide), key os o4 (by decide), key os o5 (by decide)⟩, ⟨key o1 o2 (by decide), key o1 o3 (by decide), key o1 o4 (by decide), key o1 o5 (by decide)⟩, ⟨key o2 o3 (by decide), key o2 o4 (by decide), key o2 o5 (by decide)⟩, ⟨key o3 o4 (by decide), key o3 o5 (by decide)⟩, key o4 o5 (by decide)⟩, ⟨key o7 os (by decide), key o7 o1 (by decide), key o7 o2 (by decide), key o7 o3 (by decide), key o7 o4 (by decide), key o7 o5 (by decide)⟩, l7⟩)
  obtain ⟨⟨⟨_, _, _, da1, _, _⟩, ⟨d1, d2, d3, d4, d5⟩, ⟨d6, d7, d8, d9⟩, ⟨d10, d11, d12⟩, ⟨d13, d14⟩, d15⟩, ⟨k1, k2, k3, k4, k5, k6⟩, k7⟩ := HD.out
  have HS0 : Hid (Sol w1 gs gf gn ga gb gc A len cap n (List.replicate n (-1)) (List.replicate len 0) (List.replicate n 1) (List.replicate n 0)) := Lib.hid ⟨hS, hA.hf, hA.hn, hA.ha, hA.hb⟩
  have HC0 := Lib.hid hA.hc
  have HB1 := Lib.hid (show Bel w w1 from (Bel.refl w).drew.on hb1)
  obtain ⟨b7, f7⟩ : w1.cell? ⟨g7, 0, none⟩ = some (.pointer none) ∧ w1.frozen? ⟨g7, 0, none⟩ = false := by simp [World.cell?, World.frozen?, h7]
  clear hF hb1 hA hS
  -- the store into the variable
  have HS1 : Hid (Sol (w1.setCell ⟨g7, 0, none⟩ (.pointer (some ⟨gs, 0, none⟩))) gs gf gn ga gb gc A len cap n (List.replicate n (-1)) (List.replicate len 0) (List.replicate n 1) (List.replicate n 0)) := Lib.hid ⟨blk_off HS0.out.hs (by simpa using k1) _, HS0.out.hf.off (by simpa using k2) _, HS0.out.hn.off (by simpa using k3) _, HS0.out.ha.off (by simpa using k4) _, HS0.out.hb.off (by simpa using k5) _⟩
  have HC1 := Lib.hid (blk_off HC0.out (p := ⟨g7, 0, none⟩) (by simpa using k6) (.pointer (some ⟨gs, 0, none⟩)))
  have H71 : Hid ((w1.setCell ⟨g7, 0, none⟩ (.pointer (some ⟨gs, 0, none⟩))).heap[g7]? = some (.cells #[.pointer (some ⟨gs, 0, none⟩)] 84 (0, 0))) := Lib.hid (heap_setCell_same w1 g7 0 _ _ _ h7)
  have HB2 : Hid (Bel w (w1.setCell ⟨g7, 0, none⟩ (.pointer (some ⟨gs, 0, none⟩)))) := Lib.hid (HB1.out.set_ k7 _)
  obtain ⟨w2, hw2⟩ : ∃ w2, w2 = w1.setCell ⟨g7, 0, none⟩ (.pointer (some ⟨gs, 0, none⟩)) := ⟨_, rfl⟩
  rw [← hw2] at HS1 HC1 H71 HB2
  obtain ⟨w3, hcp, ha3, hg3⟩ := copy_arr (P := Try.prog) 23 30 3 Try.underlying23 sz_mu8 ga 0 n n lowA ln lk (List.replicate n 1) low w2 HS1.out.ha hmin (fun hp => by
    obtain ⟨b, o, e, hb, hc⟩ := (HLOW.out.bel HB2.out).at_ (by rw [HL.out]; exact hp)
    exact ⟨b, o, e, fun j hj => hc j (by rw [HL.out]; exact hj)⟩) hfit
  rw [hw2] at hcp
  have HS3 : Hid (Sol w3 gs gf gn ga gb gc A len cap n (List.replicate n (-1)) (List.replicate len 0) (if low.length = 0 then List.replicate n 1 else low) (List.replicate n 0)) := Lib.hid (by
    rw [hspl] at ha3
    have far : ∀ g o, w2.heap[g]? = some o → g ≠ ga → w3.heap[g]? = some o := fun g o h hne => blk_far hg3 h (fun e => hne (by cases e; rfl))
    exact ⟨far _ _ HS1.out.hs d3, far _ _ HS1.out.hf d7, far _ _ HS1.out.hn d10, ha3, far _ _ HS1.out.hb fun e => d13 e.symm⟩)
  obtain ⟨G0, hG0⟩ : ∃ G0, G0 = if low.length = 0 then List.replicate n (1 : Int) else low := ⟨_, rfl⟩
  have HG0 := Lib.hid hG0
  rw [← hG0] at HS3
  clear hG0
  have HC3 := Lib.hid (blk_far hg3 HC1.out (fun e => d14 (Option.some.inj e).symm))
  have H73 := Lib.hid (blk_far hg3 H71.out (fun e => k4 (Option.some.inj e)))
  have HB3 : Hid (Bel w w3) := Lib.hid (Below.grown HB2.out hg3 HB2.out.size (fun k hk => by cases hk; exact da1))
  obtain ⟨b7', _⟩ : w2.cell? ⟨g7, 0, none⟩ = some (.pointer (some ⟨gs, 0, none⟩)) ∧ w2.frozen? ⟨g7, 0, none⟩ = false := by simp [World.cell?, World.frozen?, H71.out]
  have b3 : w2.cell? ⟨gs, 3, none⟩ = some (.slice (some ⟨ga, 0, none⟩) n n) := by simp [World.cell?, HS1.out.hs, cellsS]
  rw [hw2] at b7' b3
  clear ha3 hg3 d1 d2 d3 d4 d5 d6 d7 d8 d9 d10 d11 d12 d13 d14 d15 k1 k2 k3 k4 k5 k6 k7 da1 h7 e15 e16 ls os l7 o7 hw2 hmin hfit hspl
  go_wp2_with fail
  refine (back_any A len cap _).mono ?_
  clear b7 f7 b7' b3 hcp
  rintro e w4 ⟨rfl, rfl⟩
  go_wp2_with fail
  have HS4 : Hid (Sol (w3.alloc (.cells #[.slice A len cap] 37)) gs gf gn ga gb gc A len cap n (List.replicate n (-1)) (List.replicate len 0) G0 (List.replicate n 0)) := Lib.hid (by
    have hb := (Bel.refl w3).alloc (.cells #[.slice A len cap] 37)
    exact ⟨hb.blk HS3.out.hs, HS3.out.hf.bel hb, HS3.out.hn.bel hb, HS3.out.ha.bel hb, HS3.out.hb.bel hb⟩)
  have HC4 := Lib.hid (((Bel.refl w3).alloc (.cells #[.slice A len cap] 37)).blk HC3.out)
  have H74 := Lib.hid (((Bel.refl w3).alloc (.cells #[.slice A len cap] 37)).blk H73.out)
  have HB4 := Lib.hid (HB3.out.alloc (.cells #[.slice A len cap] 37))
  have HBX := Lib.hid (blk1 w3 (.cells #[.slice A len cap] 37))
  have hx1 : w3.heap.size + 1 = (w3.alloc (.cells #[.slice A len cap] 37)).heap.size := by simp
  obtain ⟨w4, hw4⟩ : ∃ w4, w4 = w3.alloc (.cells #[.slice A len cap] 37) := ⟨_, rfl⟩
  rw [← hw4] at HS4 HC4 H74 HB4 HBX hx1 ⊢
  have hsz3 : w.heap.size ≤ w3.heap.size := HB3.out.size
  obtain ⟨bx, hbx⟩ : ∃ bx, bx = w3.heap.size := ⟨_, rfl⟩
  have HBD : Hid (gs < bx ∧ gf < bx ∧ gn < bx ∧ ga < bx ∧ gb < bx ∧ gc < bx ∧ g7 < bx) := Lib.hid (by rw [hbx]; exact ⟨blk_lt HS3.out.hs, HS3.out.hf.lt, HS3.out.hn.lt, HS3.out.ha.lt, HS3.out.hb.lt, blk_lt HC3.out, blk_lt H73.out⟩)
  rw [← hbx] at HBX hx1 hsz3 ⊢
  clear hw4 hbx HS3 HC3 H73 HB3
  have hlts : gs < w4.heap.size ∧ gf < w4.heap.size ∧ gn < w4.heap.size ∧ ga < w4.heap.size ∧ gb < w4.heap.size ∧ gc < w4.heap.size ∧ g7 < w4.heap.size ∧ bx < w4.heap.size := ⟨blk_lt HS4.out.hs, HS4.out.hf.lt, HS4.out.hn.lt, HS4.out.ha.lt, HS4.out.hb.lt, blk_lt HC4.out, blk_lt H74.out, blk_lt HBX.out⟩
  have HLT := Lib.hid hlts
  have hbase : w.heap.size ≤ w4.heap.size := HB4.out.size
  refine (wpIn_wide (n := 5)).1 ?_
  show Code.wpIn _ _ _ _ _ (actR n len cap lowA A ln lk V low.length g7 gs ga bx undef undef undef undef) _
  refine wpIn_rangeFunc_ownH (α := Item len n) (w := w4) (w0 := w4) rfl (by omega) (gf := 84) (lb := #[.pointer (some ⟨bx, 0, none⟩)]) rfl trivial (enters_of Try.func84 (by kernel_rfl) rfl)
    (back_stops bx w.heap.size len cap n A xs hl HV.out (fun W W' => W'.heap[bx]? = W.heap[bx]? ∧ Below w.heap.size W W') (fun _ _ h => h) w4 HLT.out.2.2.2.2.2.2.2 hbase HBX.out ((HQ.out.keep fun b o hb => HB4.out.cell (p := ⟨b, o, none⟩) hb)))
    (fun h k => ⟨k.1.trans h.1, h.2.trans k.2⟩) (fun W l o o' hl' h1 h2 h3 => ⟨World.putObj_heap_other (fun e => by have := HLT.out.2.2.2.2.2.2.2; omega), belowK_b hbase W l o o' hl' h1 h2 h3⟩) (Below.refl _ _) (fun _ => rfl)
    (fun pre W => (Sol W gs gf gn ga gb gc A len cap n (foldFN n len (pre.map (·.1))).1 (foldFN n len (pre.map (·.1))).2 G0 (List.replicate n 0) ∧ W.heap[gc]? = some (.chan n #[] false 0 0 false) ∧ W.heap[g7]? = some (.cells #[.pointer (some ⟨gs, 0, none⟩)] 84 (0, 0)) ∧ W.heap[bx]? = some (.cells #[.slice A len cap] 37 (0, 0))) ∧ Below w.heap.size w W ∧ w4.heap.size ≤ W.heap.size)
    (fun _ _ _ => False) ?hI (fun _ _ _ _ _ h _ _ => h) ⟨⟨HS4.out, HC4.out, H74.out, HBX.out⟩, HB4.out, Nat.le_refl _⟩
    (fun x a' W => ∃ Bx, w4.heap.size ≤ Bx ∧ W.heap[Bx]? = some (.cells #[.int .i64 x.1.2.v, .int .u8 x.1.2.m, .int .u8 x.1.2.c, .int .i64 x.1.2.r] 34 (0, 0)) ∧ a' = actR n len cap lowA A ln lk V low.length g7 gs ga bx (.int .i64 x.1.1) (.pointer (some ⟨Bx, 0, none⟩)) (.int .i64 x.1.1) (agg4 x.1.2)) ?hAx ?hassign ?hbody ?hdone (fun _ _ _ _ _ _ h _ => h.elim)
  case hI =>
    rintro pre W W' row ⟨⟨hs, h1, h2, h3⟩, hb, hz⟩ hg hr
    have far : ∀ g o, W.heap[g]? = some o → g < w4.heap.size → W'.heap[g]? = some o := fun g o h hlt => blk_far hg h (fun e => by have := (hr g e.symm).1; omega)
    obtain ⟨t1, t2, t3, t4, t5, t6, t7, t8⟩ := HLT.out
    exact ⟨⟨⟨far _ _ hs.hs t1, far _ _ hs.hf t2, far _ _ hs.hn t3, far _ _ hs.ha t4, far _ _ hs.hb t5⟩, far _ _ h1 t6, far _ _ h2 t7, far _ _ h3 t8⟩, hb.grown hg hb.size (fun k e => Nat.le_trans hbase (hr k e).1), Nat.le_trans hz hg.size⟩
  case hAx =>
    rintro x a' u W W' row ⟨Bx, hB, hc, rfl⟩ hg hr
    exact ⟨Bx, hB, blk_far hg hc (fun e => by
      obtain ⟨_, o, ho, hno⟩ := hr Bx e.symm
      rw [hc] at ho
      cases ho
      cases hno), rfl⟩
  case hassign =>
    rintro l pre x W K ⟨⟨hs, h1, h2, h3⟩, hb, hz⟩ hK
    have hbb := (Bel.refl W).alloc (.cells #[.int .i64 x.1.2.v, .int .u8 x.1.2.m, .int .u8 x.1.2.c, .int .i64 x.1.2.r] 34)
    have hI2 := hK (actR n len cap lowA A ln lk V low.length g7 gs ga bx (.int .i64 x.1.1) (.pointer (some ⟨W.heap.size, 0, none⟩)) (.int .i64 x.1.1) (agg4 x.1.2)) (W.alloc (.cells #[.int .i64 x.1.2.v, .int .u8 x.1.2.m, .int .u8 x.1.2.c, .int .i64 x.1.2.r] 34)) ((KeepsOthers.alloc _ _).from _) ⟨hbb.block bx (blk_lt h3), Below.mono hbb hb.size⟩
      ⟨⟨⟨hbb.blk hs.hs, hs.hf.bel hbb, hs.hn.bel hbb, hs.ha.bel hbb, hs.hb.bel hbb⟩, hbb.blk h1, hbb.blk h2, hbb.blk h3⟩, hb.trans (Below.mono hbb hb.size), Nat.le_trans hz hbb.size⟩ ⟨W.heap.size, hz, blk1 W _, rfl⟩
    have HK := Lib.hid hI2
    clear hI2 hK hs h1 h2 h3 hb hz hbb
    simp only [actR, encQ]
    gi_wp2
    exact HK.out
  case hbody =>
    rintro l pre x a' W hl' ⟨r, hr⟩ ⟨⟨hs, h1, h2, h3⟩, hb, hz⟩ ⟨Bx, hBx, hcell, rfl⟩ hlt
    obtain ⟨c0, c1, c2, c3⟩ := cells4 hcell
    have HSW := Lib.hid hs
    have HCW := Lib.hid h1
    have H7W := Lib.hid h2
    have HXW := Lib.hid h3
    have HBW := Lib.hid hb
    have HZW := Lib.hid hz
    have HCE := Lib.hid hcell
    clear hs h1 h2 h3 hb hz hcell hr
    obtain ⟨bm, hbm⟩ : ∃ b, (x.1.2.m == 0) = b := ⟨_, rfl⟩
    have HBM := Lib.hid hbm
    have HH : Hid (∀ W, Calls Try.prog 68 #[.agg #[.int .i64 x.1.2.v, .int .u8 x.1.2.m, .int .u8 x.1.2.c, .int .i64 x.1.2.r]] W fun e w' => e = .returned (.bool bm) ∧ Bel W w') := Lib.hid fun W => by
      have h := hasLeft_any x.1.2 W; rw [hbm] at h; exact h
    clear hbm
    have efold : foldFN n len ((pre ++ [x]).map (·.1)) = stepFN (foldFN n len (pre.map (·.1))) x.1 := by simp [foldFN]
    obtain ⟨FN, hFN⟩ : ∃ FN, FN = foldFN n len (pre.map (·.1)) := ⟨_, rfl⟩
    rw [← hFN] at HSW efold
    have HLEN : Hid (FN.1.length = n ∧ FN.2.length = len) := Lib.hid (by rw [hFN]; exact fold_len n len _)
    clear hFN
    have HEF := Lib.hid efold
    clear efold
    cases bm
    all_goals
      simp only [actR, agg4]
      gi_wp2_with (refine ⟨trivial, ?_⟩; gi_at_call 68; refine (CallsIn.inRound l (callsIn_wide.2 (HH.out _))).mono ?_; rintro e w5 ⟨rfl, hb5⟩; (have HB5 := Lib.hid hb5); clear hb5 c0 c1 c2 c3)
      have HS5 : Hid (Sol w5 gs gf gn ga gb gc A len cap n FN.1 FN.2 G0 (List.replicate n 0)) := Lib.hid ⟨HB5.out.blk HSW.out.hs, HSW.out.hf.bel HB5.out, HSW.out.hn.bel HB5.out, HSW.out.ha.bel HB5.out, HSW.out.hb.bel HB5.out⟩
      have HC5 := Lib.hid (HB5.out.blk HCW.out)
      have H75 := Lib.hid (HB5.out.blk H7W.out)
      have HX5 := Lib.hid (HB5.out.blk HXW.out)
      have HBW5 : Hid (Below w.heap.size w w5) := Lib.hid (HBW.out.trans (Below.mono HB5.out HBW.out.size))
      have HK5 : Hid (KeepsFrom w4.heap.size W w5) := Lib.hid (KeepsFrom.of_grownBy (row := none) ⟨HB5.out.os, HB5.out.tape, HB5.out.output, HB5.out.size, fun k hk _ => HB5.out.block k hk⟩ (fun j e => by cases e))
      have HXE : Hid (w5.heap[bx]? = W.heap[bx]?) := Lib.hid (HB5.out.block bx (blk_lt HXW.out))
      have HKB : Hid (Below w.heap.size W w5) := Lib.hid (Below.mono HB5.out HBW.out.size)
      have HZ5 : Hid (w4.heap.size ≤ w5.heap.size) := Lib.hid (Nat.le_trans HZW.out HB5.out.size)
    · have hm : ¬ x.1.2.m = 0 := by have := HBM.out; simpa using this
      have hfin : Sol w5 gs gf gn ga gb gc A len cap n (foldFN n len ((pre ++ [x]).map (·.1))).1 (foldFN n len ((pre ++ [x]).map (·.1))).2 G0 (List.replicate n 0) := by
        rw [HEF.out]
        unfold stepFN
        rw [if_neg hm]
        exact HS5.out
      have HFIN := Lib.hid hfin
      clear hm hfin
      exact ⟨HK5.out, ⟨HXE.out, HKB.out⟩, ⟨⟨HFIN.out, HC5.out, H75.out, HX5.out⟩, HBW5.out, HZ5.out⟩⟩
    · have hm : x.1.2.m = 0 := by have := HBM.out; simpa using this
      obtain ⟨v0, v1⟩ := x.2.2 hm
      have xlt := x.2.1
      have q7 : w5.cell? ⟨g7, 0, none⟩ = some (.pointer (some ⟨gs, 0, none⟩)) := by simp [World.cell?, H75.out]
      have q1 : w5.cell? ⟨gs, 1, none⟩ = some (.slice (some ⟨gf, 0, none⟩) n n) := by simp [World.cell?, HS5.out.hs, cellsS]
      have q2 : w5.cell? ⟨gs, 2, none⟩ = some (.slice (some ⟨gn, 0, none⟩) len len) := by simp [World.cell?, HS5.out.hs, cellsS]
      have qx : w5.cell? ⟨Bx, 0, none⟩ = some (.int .i64 x.1.2.v) := by simp [World.cell?, HB5.out.blk HCE.out]
      have qf := HS5.out.hf.cell (j := x.1.2.v.toNat) (by have := HLEN.out.1; omega)
      have qff := HS5.out.hf.frozen x.1.2.v.toNat
      have qn := HS5.out.hn.cell (j := x.1.1) (by have := HLEN.out.2; omega)
      have qnf := HS5.out.hn.frozen x.1.1
      have i1 : ((x.1.1 : Nat) : Int) < (len : Int) := by omega
      have i2 : (0 : Int) ≤ ((x.1.1 : Nat) : Int) := by omega
      obtain ⟨y, hy⟩ : ∃ y, y = FN.1[x.1.2.v.toNat]?.getD 0 := ⟨_, rfl⟩
      rw [← hy] at qf
      have n1 : gf ≠ gn := HD.out.1.2.2.1.1
      have hfin : Sol ((w5.setCell ⟨gn, x.1.1, none⟩ (.int .i64 y)).setCell ⟨gf, x.1.2.v.toNat, none⟩ (.int .i64 x.1.1)) gs gf gn ga gb gc A len cap n (foldFN n len ((pre ++ [x]).map (·.1))).1 (foldFN n len ((pre ++ [x]).map (·.1))).2 G0 (List.replicate n 0) := by
        rw [HEF.out]
        unfold stepFN
        rw [if_pos hm, ← hy]
        exact ⟨blk_off (blk_off HS5.out.hs (fun e => HD.out.1.2.1.2.1 e.symm) _) (fun e => HD.out.1.2.1.1 e.symm) _, (HS5.out.hf.off (fun e => n1 e.symm) _).set_ _ _, (HS5.out.hn.set_ _ _).off n1 _, (HS5.out.ha.off HD.out.1.2.2.2.1.1 _).off HD.out.1.2.2.1.2.1 _, (HS5.out.hb.off HD.out.1.2.2.2.1.2.1 _).off HD.out.1.2.2.1.2.2.1 _⟩
      have HFIN := Lib.hid hfin
      have HC6 := Lib.hid (blk_off (blk_off HC5.out (p := ⟨gn, x.1.1, none⟩) HD.out.1.2.2.2.1.2.2 (.int .i64 y)) (p := ⟨gf, x.1.2.v.toNat, none⟩) HD.out.1.2.2.1.2.2.2 (.int .i64 x.1.1))
      have H76 := Lib.hid (blk_off (blk_off H75.out (p := ⟨gn, x.1.1, none⟩) (fun e => HD.out.2.1.2.2.1 e.symm) (.int .i64 y)) (p := ⟨gf, x.1.2.v.toNat, none⟩) (fun e => HD.out.2.1.2.1 e.symm) (.int .i64 x.1.1))
      have HX6 := Lib.hid (blk_off (blk_off HX5.out (p := ⟨gn, x.1.1, none⟩) (Nat.ne_of_lt HBD.out.2.2.1) (.int .i64 y)) (p := ⟨gf, x.1.2.v.toNat, none⟩) (Nat.ne_of_lt HBD.out.2.1) (.int .i64 x.1.1))
      have HKB6 : Hid (Below w.heap.size W ((w5.setCell ⟨gn, x.1.1, none⟩ (.int .i64 y)).setCell ⟨gf, x.1.2.v.toNat, none⟩ (.int .i64 x.1.1))) := Lib.hid ((HKB.out.setCell (p := ⟨gn, x.1.1, none⟩) HD.out.1.1.2.2.1 _).setCell (p := ⟨gf, x.1.2.v.toNat, none⟩) HD.out.1.1.2.1 _)
      have HK6 : Hid (KeepsFrom w4.heap.size W ((w5.setCell ⟨gn, x.1.1, none⟩ (.int .i64 y)).setCell ⟨gf, x.1.2.v.toNat, none⟩ (.int .i64 x.1.1))) := Lib.hid ((HK5.out.trans ((KeepsOthers.setCell _ _ _).from _)).trans ((KeepsOthers.setCell _ _ _).from _))
      have hBne : Bx ≠ gn ∧ Bx ≠ gf := ⟨fun e => by have := HLT.out.2.2.1; omega, fun e => by have := HLT.out.2.1; omega⟩
      have hS1 : (w5.setCell ⟨gn, x.1.1, none⟩ (.int .i64 y)).cell? ⟨g7, 0, none⟩ = some (.pointer (some ⟨gs, 0, none⟩)) ∧ (w5.setCell ⟨gn, x.1.1, none⟩ (.int .i64 y)).cell? ⟨gs, 1, none⟩ = some (.slice (some ⟨gf, 0, none⟩) n n) ∧ (w5.setCell ⟨gn, x.1.1, none⟩ (.int .i64 y)).cell? ⟨gs, 2, none⟩ = some (.slice (some ⟨gn, 0, none⟩) len len) ∧ (w5.setCell ⟨gn, x.1.1, none⟩ (.int .i64 y)).cell? ⟨Bx, 0, none⟩ = some (.int .i64 x.1.2.v) :=
        ⟨(World.cell?_setCell_far _ _ _ _ (fun e => HD.out.2.1.2.2.1 e.symm)).trans q7, (World.cell?_setCell_far _ _ _ _ (fun e => HD.out.1.2.1.2.1 e.symm)).trans q1, (World.cell?_setCell_far _ _ _ _ (fun e => HD.out.1.2.1.2.1 e.symm)).trans q2, (World.cell?_setCell_far _ _ _ _ (fun e => hBne.1 e.symm)).trans qx⟩
      have hS2 : ((w5.setCell ⟨gn, x.1.1, none⟩ (.int .i64 y)).setCell ⟨gf, x.1.2.v.toNat, none⟩ (.int .i64 x.1.1)).cell? ⟨g7, 0, none⟩ = some (.pointer (some ⟨gs, 0, none⟩)) ∧ ((w5.setCell ⟨gn, x.1.1, none⟩ (.int .i64 y)).setCell ⟨gf, x.1.2.v.toNat, none⟩ (.int .i64 x.1.1)).cell? ⟨gs, 1, none⟩ = some (.slice (some ⟨gf, 0, none⟩) n n) ∧ ((w5.setCell ⟨gn, x.1.1, none⟩ (.int .i64 y)).setCell ⟨gf, x.1.2.v.toNat, none⟩ (.int .i64 x.1.1)).cell? ⟨gs, 2, none⟩ = some (.slice (some ⟨gn, 0, none⟩) len len) ∧ ((w5.setCell ⟨gn, x.1.1, none⟩ (.int .i64 y)).setCell ⟨gf, x.1.2.v.toNat, none⟩ (.int .i64 x.1.1)).cell? ⟨Bx, 0, none⟩ = some (.int .i64 x.1.2.v) :=
        ⟨(World.cell?_setCell_far _ _ _ _ (fun e => HD.out.2.1.2.1 e.symm)).trans hS1.1, (World.cell?_setCell_far _ _ _ _ (fun e => HD.out.1.2.1.1 e.symm)).trans hS1.2.1, (World.cell?_setCell_far _ _ _ _ (fun e => HD.out.1.2.1.1 e.symm)).trans hS1.2.2.1, (World.cell?_setCell_far _ _ _ _ (fun e => hBne.2 e.symm)).trans hS1.2.2.2⟩
      have qf2 : (w5.setCell ⟨gn, x.1.1, none⟩ (.int .i64 y)).cell? ⟨gf, x.1.2.v.toNat, none⟩ = some (.int .i64 y) := (World.cell?_setCell_far _ _ _ _ (fun e => n1 e.symm)).trans qf
      have HS1' := Lib.hid hS1
      have HS2' := Lib.hid hS2
      clear hy hfin hBne hS1 hS2 n1
      refine region_round (by kernel_rfl) (by kernel_rfl) (by rintro ⟨_, _, h⟩; exact h) ?_
      refine wpAny_of_held (S := fun w' => w'.cell? ⟨g7, 0, none⟩ = some (.pointer (some ⟨gs, 0, none⟩)) ∧ w'.cell? ⟨gs, 1, none⟩ = some (.slice (some ⟨gf, 0, none⟩) n n) ∧ w'.cell? ⟨gs, 2, none⟩ = some (.slice (some ⟨gn, 0, none⟩) len len) ∧ w'.cell? ⟨Bx, 0, none⟩ = some (.int .i64 x.1.2.v)) _ _ _ _ ?_
      have hHeld : (fun w' : World => w'.cell? ⟨g7, 0, none⟩ = some (.pointer (some ⟨gs, 0, none⟩)) ∧ w'.cell? ⟨gs, 1, none⟩ = some (.slice (some ⟨gf, 0, none⟩) n n) ∧ w'.cell? ⟨gs, 2, none⟩ = some (.slice (some ⟨gn, 0, none⟩) len len) ∧ w'.cell? ⟨Bx, 0, none⟩ = some (.int .i64 x.1.2.v)) w5.drew := ⟨q7, q1, q2, qx⟩
      refine wpAnyH_take (i := 0) (oi := { dst := some 38, op := Op.load 84 (Operand.tmp 7), type := 84, pos := "least.go:78", after := #[], guard := none }) (v := ?_) rfl (by kernel_rfl) (by kernel_rfl) (by kernel_rfl) (fun _ _ _ h => h) (Or.inl ⟨by rfl, ?_⟩) (by assumption) ?_
      rotate_left
      · ((intro w hSw; (try dsimp only at hSw); go_simp); all_goals with_reducible rfl)
      simp only [Act.put, List.setIfInBounds_toArray, List.set_cons_zero, List.set_cons_succ]
      refine wpAnyH_take (i := 1) (oi := { dst := some 39, op := Op.nilCheck (Operand.tmp 38), type := 0, pos := "least.go:78", after := #[{ on := 0, ground := Ground.data }], guard := none }) (v := ?_) rfl (by kernel_rfl) (by kernel_rfl) (by kernel_rfl) (fun _ _ _ h => h) (Or.inl ⟨by rfl, ?_⟩) (by assumption) ?_
      rotate_left
      · ((intro w hSw; (try dsimp only at hSw); go_simp); all_goals with_reducible rfl)
      simp only [Act.put, List.setIfInBounds_toArray, List.set_cons_zero, List.set_cons_succ]
      refine wpAnyH_take (i := 2) (oi := { dst := some 40, op := Op.fieldAddr 90 (Operand.tmp 39) 2, type := 0, pos := "least.go:78", after := #[{ on := 1, ground := Ground.data }], guard := none }) (v := ?_) rfl (by kernel_rfl) (by kernel_rfl) (by kernel_rfl) (fun _ _ _ h => h) (Or.inl ⟨by rfl, ?_⟩) (by assumption) ?_
      rotate_left
      · ((intro w hSw; (try dsimp only at hSw); go_simp); all_goals with_reducible rfl)
      simp only [Act.put, List.setIfInBounds_toArray, List.set_cons_zero, List.set_cons_succ]
      refine wpAnyH_take (i := 3) (oi := { dst := some 41, op := Op.load 22 (Operand.tmp 40), type := 22, pos := "least.go:78", after := #[{ on := 2, ground := Ground.data }], guard := none }) (v := ?_) rfl (by kernel_rfl) (by kernel_rfl) (by kernel_rfl) (fun _ _ _ h => h) (Or.inl ⟨by rfl, ?_⟩) (by assumption) ?_
      rotate_left
      · ((intro w hSw; (try dsimp only at hSw); go_simp); all_goals with_reducible rfl)
      simp only [Act.put, List.setIfInBounds_toArray, List.set_cons_zero, List.set_cons_succ]
      refine wpAnyH_take (i := 4) (oi := { dst := some 42, op := Op.move (Operand.tmp 8), type := 3, pos := "least.go:78", after := #[], guard := none }) (v := ?_) rfl (by kernel_rfl) (by kernel_rfl) (by kernel_rfl) (fun _ _ _ h => h) (Or.inl ⟨by rfl, ?_⟩) (by assumption) ?_
      rotate_left
      · ((intro w hSw; (try dsimp only at hSw); go_simp); all_goals with_reducible rfl)
      simp only [Act.put, List.setIfInBounds_toArray, List.set_cons_zero, List.set_cons_succ]
      refine wpAnyH_take (i := 5) (oi := { dst := some 43, op := Op.load 84 (Operand.tmp 7), type := 84, pos := "least.go:78", after := #[], guard := none }) (v := ?_) rfl (by kernel_rfl) (by kernel_rfl) (by kernel_rfl) (fun _ _ _ h => h) (Or.inl ⟨by rfl, ?_⟩) (by assumption) ?_
      rotate_left
      · ((intro w hSw; (try dsimp only at hSw); go_simp); all_goals with_reducible rfl)
      simp only [Act.put, List.setIfInBounds_toArray, List.set_cons_zero, List.set_cons_succ]
      refine wpAnyH_take (i := 6) (oi := { dst := some 44, op := Op.nilCheck (Operand.tmp 43), type := 0, pos := "least.go:78", after := #[{ on := 5, ground := Ground.data }], guard := none }) (v := ?_) rfl (by kernel_rfl) (by kernel_rfl) (by kernel_rfl) (fun _ _ _ h => h) (Or.inl ⟨by rfl, ?_⟩) (by assumption) ?_
      rotate_left
      · ((intro w hSw; (try dsimp only at hSw); go_simp); all_goals with_reducible rfl)
      simp only [Act.put, List.setIfInBounds_toArray, List.set_cons_zero, List.set_cons_succ]
      refine wpAnyH_take (i := 7) (oi := { dst := some 45, op := Op.fieldAddr 90 (Operand.tmp 44) 1, type := 0, pos := "least.go:78", after := #[{ on := 6, ground := Ground.data }], guard := none }) (v := ?_) rfl (by kernel_rfl) (by kernel_rfl) (by kernel_rfl) (fun _ _ _ h => h) (Or.inl ⟨by rfl, ?_⟩) (by assumption) ?_
      rotate_left
      · ((intro w hSw; (try dsimp only at hSw); go_simp); all_goals with_reducible rfl)
      simp only [Act.put, List.setIfInBounds_toArray, List.set_cons_zero, List.set_cons_succ]
      refine wpAnyH_take (i := 8) (oi := { dst := some 46, op := Op.load 22 (Operand.tmp 45), type := 22, pos := "least.go:78", after := #[{ on := 7, ground := Ground.data }], guard := none }) (v := ?_) rfl (by kernel_rfl) (by kernel_rfl) (by kernel_rfl) (fun _ _ _ h => h) (Or.inl ⟨by rfl, ?_⟩) (by assumption) ?_
      rotate_left
      · ((intro w hSw; (try dsimp only at hSw); go_simp); all_goals with_reducible rfl)
      simp only [Act.put, List.setIfInBounds_toArray, List.set_cons_zero, List.set_cons_succ]
      refine wpAnyH_take (i := 9) (oi := { dst := some 47, op := Op.fieldAddr 34 (Operand.tmp 9) 0, type := 0, pos := "least.go:78", after := #[{ on := 23, ground := Ground.gcOnly Departure.lateStores }], guard := none }) (v := ?_) rfl (by kernel_rfl) (by kernel_rfl) (by kernel_rfl) (fun _ _ _ h => h) (Or.inl ⟨by rfl, ?_⟩) (by assumption) ?_
      rotate_left
      · ((intro w hSw; (try dsimp only at hSw); go_simp); all_goals with_reducible rfl)
      simp only [Act.put, List.setIfInBounds_toArray, List.set_cons_zero, List.set_cons_succ]
      refine wpAnyH_take (i := 10) (oi := { dst := some 48, op := Op.fieldAddr 32 (Operand.tmp 47) 0, type := 0, pos := "least.go:78", after := #[{ on := 9, ground := Ground.data }, { on := 23, ground := Ground.gcOnly Departure.lateStores }], guard := none }) (v := ?_) rfl (by kernel_rfl) (by kernel_rfl) (by kernel_rfl) (fun _ _ _ h => h) (Or.inl ⟨by rfl, ?_⟩) (by assumption) ?_
      rotate_left
      · ((intro w hSw; (try dsimp only at hSw); go_simp); all_goals with_reducible rfl)
      simp only [Act.put, List.setIfInBounds_toArray, List.set_cons_zero, List.set_cons_succ]
      refine wpAnyH_take (i := 11) (oi := { dst := some 49, op := Op.load 3 (Operand.tmp 48), type := 3, pos := "least.go:78", after := #[{ on := 10, ground := Ground.data }, { on := 23, ground := Ground.gcOnly Departure.lateStores }], guard := none }) (v := ?_) rfl (by kernel_rfl) (by kernel_rfl) (by kernel_rfl) (fun _ _ _ h => h) (Or.inl ⟨by rfl, ?_⟩) (by assumption) ?_
      rotate_left
      · ((intro w hSw; (try dsimp only at hSw); go_simp); all_goals with_reducible rfl)
      simp only [Act.put, List.setIfInBounds_toArray, List.set_cons_zero, List.set_cons_succ]
      refine wpAnyH_take (i := 12) (oi := { dst := some 50, op := Op.load 84 (Operand.tmp 7), type := 84, pos := "least.go:78", after := #[], guard := none }) (v := ?_) rfl (by kernel_rfl) (by kernel_rfl) (by kernel_rfl) (fun _ _ _ h => h) (Or.inl ⟨by rfl, ?_⟩) (by assumption) ?_
      rotate_left
      · ((intro w hSw; (try dsimp only at hSw); go_simp); all_goals with_reducible rfl)
      simp only [Act.put, List.setIfInBounds_toArray, List.set_cons_zero, List.set_cons_succ]
      refine wpAnyH_take (i := 13) (oi := { dst := some 51, op := Op.nilCheck (Operand.tmp 50), type := 0, pos := "least.go:78", after := #[{ on := 12, ground := Ground.data }], guard := none }) (v := ?_) rfl (by kernel_rfl) (by kernel_rfl) (by kernel_rfl) (fun _ _ _ h => h) (Or.inl ⟨by rfl, ?_⟩) (by assumption) ?_
      rotate_left
      · ((intro w hSw; (try dsimp only at hSw); go_simp); all_goals with_reducible rfl)
      simp only [Act.put, List.setIfInBounds_toArray, List.set_cons_zero, List.set_cons_succ]
      refine wpAnyH_take (i := 14) (oi := { dst := some 52, op := Op.fieldAddr 90 (Operand.tmp 51) 1, type := 0, pos := "least.go:78", after := #[{ on := 13, ground := Ground.data }], guard := none }) (v := ?_) rfl (by kernel_rfl) (by kernel_rfl) (by kernel_rfl) (fun _ _ _ h => h) (Or.inl ⟨by rfl, ?_⟩) (by assumption) ?_
      rotate_left
      · ((intro w hSw; (try dsimp only at hSw); go_simp); all_goals with_reducible rfl)
      simp only [Act.put, List.setIfInBounds_toArray, List.set_cons_zero, List.set_cons_succ]
      refine wpAnyH_take (i := 15) (oi := { dst := some 53, op := Op.load 22 (Operand.tmp 52), type := 22, pos := "least.go:78", after := #[{ on := 14, ground := Ground.data }], guard := none }) (v := ?_) rfl (by kernel_rfl) (by kernel_rfl) (by kernel_rfl) (fun _ _ _ h => h) (Or.inl ⟨by rfl, ?_⟩) (by assumption) ?_
      rotate_left
      · ((intro w hSw; (try dsimp only at hSw); go_simp); all_goals with_reducible rfl)
      simp only [Act.put, List.setIfInBounds_toArray, List.set_cons_zero, List.set_cons_succ]
      refine wpAnyH_take (i := 16) (oi := { dst := some 54, op := Op.fieldAddr 34 (Operand.tmp 9) 0, type := 0, pos := "least.go:78", after := #[], guard := none }) (v := ?_) rfl (by kernel_rfl) (by kernel_rfl) (by kernel_rfl) (fun _ _ _ h => h) (Or.inl ⟨by rfl, ?_⟩) (by assumption) ?_
      rotate_left
      · ((intro w hSw; (try dsimp only at hSw); go_simp); all_goals with_reducible rfl)
      simp only [Act.put, List.setIfInBounds_toArray, List.set_cons_zero, List.set_cons_succ]
      refine wpAnyH_take (i := 17) (oi := { dst := some 55, op := Op.fieldAddr 32 (Operand.tmp 54) 0, type := 0, pos := "least.go:78", after := #[{ on := 16, ground := Ground.data }], guard := none }) (v := ?_) rfl (by kernel_rfl) (by kernel_rfl) (by kernel_rfl) (fun _ _ _ h => h) (Or.inl ⟨by rfl, ?_⟩) (by assumption) ?_
      rotate_left
      · ((intro w hSw; (try dsimp only at hSw); go_simp); all_goals with_reducible rfl)
      simp only [Act.put, List.setIfInBounds_toArray, List.set_cons_zero, List.set_cons_succ]
      refine wpAnyH_take (i := 18) (oi := { dst := some 56, op := Op.load 3 (Operand.tmp 55), type := 3, pos := "least.go:78", after := #[{ on := 17, ground := Ground.data }], guard := none }) (v := ?_) rfl (by kernel_rfl) (by kernel_rfl) (by kernel_rfl) (fun _ _ _ h => h) (Or.inl ⟨by rfl, ?_⟩) (by assumption) ?_
      rotate_left
      · ((intro w hSw; (try dsimp only at hSw); go_simp); all_goals with_reducible rfl)
      simp only [Act.put, List.setIfInBounds_toArray, List.set_cons_zero, List.set_cons_succ]
      refine wpAnyH_take (i := 19) (oi := { dst := some 57, op := Op.indexAddr 22 (Operand.tmp 53) (Operand.tmp 56), type := 0, pos := "least.go:78", after := #[{ on := 15, ground := Ground.data }, { on := 18, ground := Ground.data }], guard := none }) (v := ?_) rfl (by kernel_rfl) (by kernel_rfl) (by kernel_rfl) (fun _ _ _ h => h) (Or.inl ⟨by rfl, ?_⟩) (by assumption) ?_
      rotate_left
      · ((intro w hSw; (try dsimp only at hSw); go_simp); all_goals with_reducible rfl)
      simp only [Act.put, List.setIfInBounds_toArray, List.set_cons_zero, List.set_cons_succ]
      refine wpAnyH_take (i := 21) (oi := { dst := some 59, op := Op.move (Operand.tmp 8), type := 3, pos := "least.go:78", after := #[{ on := 23, ground := Ground.gcOnly Departure.lateStores }], guard := none }) (v := ?_) rfl (by kernel_rfl) (by kernel_rfl) (by kernel_rfl) (fun _ _ _ h => h) (Or.inl ⟨by rfl, ?_⟩) (by assumption) ?_
      rotate_left
      · ((intro w hSw; (try dsimp only at hSw); go_simp); all_goals with_reducible rfl)
      simp only [Act.put, List.setIfInBounds_toArray, List.set_cons_zero, List.set_cons_succ]
      refine wpAnyH_ready (rs := [20]) (by kernel_rfl) (by simp) ?_
      refine AllReadyH.cons (o := { dst := some 58, op := Op.load 3 (Operand.tmp 57), type := 3, pos := "least.go:78", after := #[{ on := 19, ground := Ground.data }], guard := none }) rfl (fun K hK => ?_) AllReadyH.nil
      go_simp
      refine hK.out _ _ ?_ (fun hHeld => ?_)
      · exact ⟨q7, q1, q2, qx⟩
      clear hK K
      (try simp only [Act.put, List.setIfInBounds_toArray, List.set_cons_zero, List.set_cons_succ])
      refine wpAnyH_take (i := 22) (oi := { dst := some 60, op := Op.indexAddr 22 (Operand.tmp 41) (Operand.tmp 42), type := 0, pos := "least.go:78", after := #[{ on := 3, ground := Ground.data }, { on := 4, ground := Ground.data }, { on := 0, ground := Ground.phase }, { on := 1, ground := Ground.phase }, { on := 2, ground := Ground.phase }, { on := 3, ground := Ground.phase }, { on := 4, ground := Ground.phase }, { on := 5, ground := Ground.textOnly Departure.lateStores }, { on := 6, ground := Ground.textOnly Departure.lateStoresUnsure }, { on := 7, ground := Ground.textOnly Departure.lateStoresUnsure }, { on := 8, ground := Ground.phase }, { on := 9, ground := Ground.textOnly Departure.lateStores }, { on := 10, ground := Ground.textOnly Departure.lateStores }, { on := 11, ground := Ground.textOnly Departure.lateStores }, { on := 12, ground := Ground.phase }, { on := 13, ground := Ground.phase }, { on := 14, ground := Ground.phase }, { on := 15, ground := Ground.phase }, { on := 16, ground := Ground.phase }, { on := 17, ground := Ground.phase }, { on := 18, ground := Ground.phase }, { on := 19, ground := Ground.phase }, { on := 20, ground := Ground.phase }, { on := 21, ground := Ground.textOnly Departure.lateStores }], guard := none }) (v := ?_) rfl (by kernel_rfl) (by kernel_rfl) (by kernel_rfl) (fun _ _ _ h => h) (Or.inl ⟨by rfl, ?_⟩) (by assumption) ?_
      rotate_left
      · ((intro w hSw; (try dsimp only at hSw); go_simp); all_goals with_reducible rfl)
      simp only [Act.put, List.setIfInBounds_toArray, List.set_cons_zero, List.set_cons_succ]
      refine wpAnyH_ready (rs := [23]) (by kernel_rfl) (by simp) ?_
      refine AllReadyH.cons (o := { dst := none, op := Op.store 3 (Operand.tmp 60) (Operand.tmp 58), type := 0, pos := "least.go:78", after := #[{ on := 22, ground := Ground.data }, { on := 20, ground := Ground.data }, { on := 0, ground := Ground.phase }, { on := 1, ground := Ground.phase }, { on := 2, ground := Ground.phase }, { on := 3, ground := Ground.phase }, { on := 4, ground := Ground.phase }, { on := 5, ground := Ground.textOnly Departure.lateStores }, { on := 6, ground := Ground.textOnly Departure.lateStoresUnsure }, { on := 7, ground := Ground.textOnly Departure.lateStoresUnsure }, { on := 8, ground := Ground.phase }, { on := 9, ground := Ground.textOnly Departure.lateStores }, { on := 10, ground := Ground.textOnly Departure.lateStores }, { on := 11, ground := Ground.textOnly Departure.lateStores }, { on := 12, ground := Ground.phase }, { on := 13, ground := Ground.phase }, { on := 14, ground := Ground.phase }, { on := 15, ground := Ground.phase }, { on := 16, ground := Ground.phase }, { on := 17, ground := Ground.phase }, { on := 18, ground := Ground.phase }, { on := 19, ground := Ground.phase }, { on := 20, ground := Ground.phase }, { on := 21, ground := Ground.textOnly Departure.lateStores }], guard := none }) rfl (fun K hK => ?_) AllReadyH.nil
      go_simp
      refine hK.out _ _ ?_ (fun hHeld => ?_)
      · exact HS1'.out
      clear hK K
      (try simp only [Act.put, List.setIfInBounds_toArray, List.set_cons_zero, List.set_cons_succ])
      refine wpAnyH_take (i := 24) (oi := { dst := some 61, op := Op.indexAddr 22 (Operand.tmp 46) (Operand.tmp 49), type := 0, pos := "least.go:78", after := #[{ on := 8, ground := Ground.data }, { on := 11, ground := Ground.data }, { on := 0, ground := Ground.phase }, { on := 1, ground := Ground.phase }, { on := 2, ground := Ground.phase }, { on := 3, ground := Ground.phase }, { on := 4, ground := Ground.phase }, { on := 5, ground := Ground.phase }, { on := 6, ground := Ground.phase }, { on := 7, ground := Ground.phase }, { on := 8, ground := Ground.phase }, { on := 9, ground := Ground.phase }, { on := 10, ground := Ground.phase }, { on := 11, ground := Ground.phase }, { on := 12, ground := Ground.phase }, { on := 13, ground := Ground.phase }, { on := 14, ground := Ground.phase }, { on := 15, ground := Ground.phase }, { on := 16, ground := Ground.phase }, { on := 17, ground := Ground.phase }, { on := 18, ground := Ground.phase }, { on := 19, ground := Ground.phase }, { on := 20, ground := Ground.phase }, { on := 21, ground := Ground.phase }, { on := 22, ground := Ground.phase }, { on := 23, ground := Ground.phase }], guard := none }) (v := ?_) rfl (by kernel_rfl) (by kernel_rfl) (by kernel_rfl) (fun _ _ _ h => h) (Or.inl ⟨by rfl, ?_⟩) (by assumption) ?_
      rotate_left
      · ((intro w hSw; (try dsimp only at hSw); go_simp); all_goals with_reducible rfl)
      simp only [Act.put, List.setIfInBounds_toArray, List.set_cons_zero, List.set_cons_succ]
      refine wpAnyH_ready (rs := [25]) (by kernel_rfl) (by simp) ?_
      refine AllReadyH.cons (o := { dst := none, op := Op.store 3 (Operand.tmp 61) (Operand.tmp 59), type := 0, pos := "least.go:78", after := #[{ on := 24, ground := Ground.data }, { on := 21, ground := Ground.data }, { on := 23, ground := Ground.chain }, { on := 0, ground := Ground.phase }, { on := 1, ground := Ground.phase }, { on := 2, ground := Ground.phase }, { on := 3, ground := Ground.phase }, { on := 4, ground := Ground.phase }, { on := 5, ground := Ground.phase }, { on := 6, ground := Ground.phase }, { on := 7, ground := Ground.phase }, { on := 8, ground := Ground.phase }, { on := 9, ground := Ground.phase }, { on := 10, ground := Ground.phase }, { on := 11, ground := Ground.phase }, { on := 12, ground := Ground.phase }, { on := 13, ground := Ground.phase }, { on := 14, ground := Ground.phase }, { on := 15, ground := Ground.phase }, { on := 16, ground := Ground.phase }, { on := 17, ground := Ground.phase }, { on := 18, ground := Ground.phase }, { on := 19, ground := Ground.phase }, { on := 20, ground := Ground.phase }, { on := 21, ground := Ground.phase }, { on := 22, ground := Ground.phase }, { on := 23, ground := Ground.phase }], guard := none }) rfl (fun K hK => ?_) AllReadyH.nil
      go_simp
      refine hK.out _ _ ?_ (fun hHeld => ?_)
      · exact HS2'.out
      clear hK K
      (try simp only [Act.put, List.setIfInBounds_toArray, List.set_cons_zero, List.set_cons_succ])
      refine wpAnyH_done (by kernel_rfl) ?_ _
      exact ⟨HK6.out.trans ((KeepsOthers.drew _).from _), ⟨HX6.out.trans HXW.out.symm, ⟨HKB6.out.os, HKB6.out.tape, HKB6.out.output, HKB6.out.size, HKB6.out.block⟩⟩, ⟨⟨⟨HFIN.out.hs, HFIN.out.hf, HFIN.out.hn, HFIN.out.ha, HFIN.out.hb⟩, HC6.out, H76.out, HX6.out⟩, (let h := HBW.out.trans HKB6.out; ⟨h.os, h.tape, h.output, h.size, h.block⟩), (by
        have h := HZ5.out
        show w4.heap.size ≤ ((w5.setCell ⟨gn, x.1.1, none⟩ (.int .i64 y)).setCell ⟨gf, x.1.2.v.toNat, none⟩ (.int .i64 x.1.1)).heap.size
        simpa using h)⟩⟩
  case hdone =>
    rintro D ys W hD hy ⟨⟨hs, h1, h2, h3⟩, hb, hz⟩ hK
    rw [hy] at hs
    have q7 : W.cell? ⟨g7, 0, none⟩ = some (.pointer (some ⟨gs, 0, none⟩)) := by simp [World.cell?, h2]
    have HSW := Lib.hid hs
    have HCW := Lib.hid h1
    have HBW := Lib.hid hb
    have HKD := Lib.hid hK
    have HDD := Lib.hid hD
    clear hs h1 h2 h3 hb hz hK hD hy
    simp only [actR]
    go_wp2_with fail
    refine ⟨by simp, .inl ⟨_, _, rfl, run_takeDeferred HKD.out, ?_⟩⟩
    refine ⟨_, results_tmp rfl _ _ _, ?_⟩
    have hgb : W.grownBy (W.putObj D (.deferred none)) (some D) := grownBy_putObj' W D _
    have hd : w4.heap.size ≤ D := by first | exact HDD.out | exact Nat.le_of_lt HDD.out
    have far : ∀ g o, W.heap[g]? = some o → g < w4.heap.size → (W.putObj D (.deferred none)).heap[g]? = some o := fun g o h hlt => blk_far hgb h (fun e => by have := Option.some.inj e; omega)
    obtain ⟨t1, t2, t3, t4, t5, t6, t7, t8⟩ := HLT.out
    have hG := HG0.out
    refine ⟨gs, gf, gn, ga, gb, gc, rfl, HD.out.1, ?_, far _ _ HCW.out t6, ?_⟩
    · rw [← hG]
      exact ⟨far _ _ HSW.out.hs t1, far _ _ HSW.out.hf t2, far _ _ HSW.out.hn t3, far _ _ HSW.out.ha t4, far _ _ HSW.out.hb t5⟩
    · exact HBW.out.grown hgb HBW.out.size (fun k hk => by cases hk; omega)
end Go.Proofs.Ytlbachjhhjjmfaa.Mu

