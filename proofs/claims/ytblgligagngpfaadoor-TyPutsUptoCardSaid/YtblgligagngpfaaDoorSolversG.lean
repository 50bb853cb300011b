/-
  A region that draws its order and ends in operations whose order is forced (stores): what stands ahead of them is gone through by the laws of what is held; they themselves by the list. Over whatever program.
  A region that draws its order and makes memory: gone through by what is known of each operation's value, whatever order is picked; each operation's step is shown once. What stands from n on comes in a forced order and is walked as a list. Over whatever program.
  The solver of layer 4, as it lies in memory; newSolver's first region.
  newSolver, walked.
  A region that draws its order, guards among its operations, that makes memory and changes none: one fact for each operation's value, whatever the order. Over whatever program.
-/
import Derived.OrdersHeld
import Derived.StillTail
import Derived.Deep.RegionHeld3
import Derived.Test.YtblgligagngpfaaDoorMem
import Derived.Test.YtblgligagngpfaaDoorArrs
import Derived.Laws.Entries
namespace Go.Proofs.YtblgligagngpfaaDoor.Mu
open Go

section
variable {P : Program} {ops : Array Oper} {Q : Exit → Act → World → Prop} {md : Region.Mode} {S : World → Prop}

/-- Whatever order is picked for the first n operations, and S holds behind each of them; then L. -/
def wpT (P : Program) (md : Region.Mode) (ops : Array Oper) (Q : Exit → Act → World → Prop) (S : World → Prop) (n : Nat) (L : Array Bool → Act → World → Prop) : Nat → Array Bool → Act → World → Prop
  | 0, listed, a, w => L listed a w
  | f + 1, listed, a, w => Region.ready md ops listed ≠ [] ∧ ∀ i ∈ Region.ready md ops listed, i < n ∧ wpOp P ops Q i (fun a' w' => S w' ∧ wpT P md ops Q S n L f (listed.setIfInBounds i true) a' w') a w

theorem wpAny_of_T {n g : Nat} {L : Array Bool → Act → World → Prop} (hL : ∀ listed a w, L listed a w → wpAny P md ops Q g listed a w) :
    ∀ (f : Nat) (listed : Array Bool) (a : Act) (w : World), wpT P md ops Q S n L f listed a w → wpAny P md ops Q (f + g) listed a w
  | 0, listed, a, w, h => by rw [Nat.zero_add]; exact hL _ _ _ h
  | f + 1, listed, a, w, h => by
    rw [show f + 1 + g = (f + g) + 1 by omega]
    exact ⟨fun h0 => absurd h0 h.1, fun i hi => wpOp_mono (fun a' w' h' => wpAny_of_T hL f _ a' w' h'.2) (h.2 i hi).2⟩

theorem wpT_first {n i : Nat} {oi : Oper} {v : Value} {L : Array Bool → Act → World → Prop} (hi : ops[i]? = some oi) (hsel : ∀ (j : Nat) (o : Oper) cs b, ops[j]? = some o → o.op ≠ .select cs b)
    (hQ : ∀ c a w, Q (.panic c) (a.put oi.dst v) w → Q (.panic c) a w) (hs : Region.sinkB md ops n = true) (hc : Region.chainB md ops n = true) (hn : n < ops.size) (hin : i < n)
    (hdone : ∀ listed a w, L listed a w → ∀ j ∈ Region.ready md ops listed, n ≤ j) :
    ∀ (f : Nat) (listed : Array Bool) (a : Act) (w : World), HeadInv md ops n listed →
      (∀ j oj, ops[j]? = some oj → j ≠ i → listed.getD j true = false → (∀ e ∈ oj.after, Region.binds md e = true → e.on ≠ i) → oi.apart ops oj = true) →
      i ∈ Region.ready md ops listed → YieldsIf P ops S oi v a → S w →
      wpT P md ops Q S n L f (listed.setIfInBounds i true) (a.put oi.dst v) w → wpT P md ops Q S n L (f + 1) listed a w := by
  intro f
  induction f with
  | zero =>
    intro listed a w inv _ hr hy hS H
    have hun := (mem_ready.1 hr).1
    refine ⟨fun h => (by rw [h] at hr; cases hr), fun j hj => ?_⟩
    have hjn : j < n := by
      rcases Nat.lt_or_ge j n with h | h
      · exact h
      · exact absurd hj (tail_waits hs hc hn inv _ i rfl hin hun j h)
    refine ⟨hjn, ?_⟩
    by_cases hji : j = i
    · subst hji; exact hy.wpOp hi hS ⟨hS, H⟩
    · have := hdone _ _ _ H j (ready_mono hj hji)
      omega
  | succ f ih =>
    intro listed a w inv hfree hr hy hS H
    have hun := (mem_ready.1 hr).1
    refine ⟨fun h => (by rw [h] at hr; cases hr), fun j hj => ?_⟩
    have hjn : j < n := by
      rcases Nat.lt_or_ge j n with h | h
      · exact h
      · exact absurd hj (tail_waits hs hc hn inv _ i rfl hin hun j h)
    refine ⟨hjn, ?_⟩
    by_cases hji : j = i
    · subst hji; exact hy.wpOp hi hS ⟨hS, H⟩
    · have h1 := (H.2 j (ready_mono hj hji)).2
      obtain ⟨hjun, oj, hoj, hall⟩ := mem_ready.1 hj
      have hnot : ∀ e ∈ oj.after, Region.binds md e = true → e.on ≠ i := fun e he hb heq => by
        have h1 := hall e he hb
        rw [heq, getD_both hun] at h1
        cases h1
      have h2 := wpOp_putIf hoj (hfree j oj hoj hji hjun hnot) (fun cs b => hsel i oi cs b hi) (fun cs b => hsel j oj cs b hoj) hQ hy h1
      have hfree' : ∀ k ok, ops[k]? = some ok → k ≠ i → (listed.setIfInBounds j true).getD k true = false →
          (∀ e ∈ ok.after, Region.binds md e = true → e.on ≠ i) → oi.apart ops ok = true := fun k ok hk hki hkun hno => by
        refine hfree k ok hk hki ?_ hno
        by_cases hjk : j = k
        · subst hjk; exact hjun
        · rw [getD_set_ne true hjk] at hkun; exact hkun
      refine wpOp_mono (fun a' w' h3 => ⟨h3.2.1, ih (listed.setIfInBounds j true) a' w' (inv.set hj hjn) hfree' (ready_mono hr (Ne.symm hji)) h3.1 h3.2.1 ?_⟩) h2
      rw [Array.setIfInBounds_comm _ _ hji]
      exact h3.2.2

/-- What is asked of a region so cut at n: checked by the kernel. -/
def tailB (md : Region.Mode) (ops : Array Oper) (n : Nat) : Bool := Region.noSelect ops && decide (n < ops.size) && Region.sinkB md ops n && Region.chainB md ops n
def headB (md : Region.Mode) (ops : Array Oper) (n : Nat) (listed : Array Bool) : Bool :=
  decide (listed.size = ops.size) && (List.range ops.size).all fun j => (((ops[j]?).map fun o => !listed.getD j false || o.after.all fun e => !Region.binds md e || listed.getD e.on false).getD true) && (decide (j < n) || !listed.getD j true)
theorem headB_spec {n : Nat} {listed : Array Bool} (h : headB md ops n listed = true) : HeadInv md ops n listed := by
  unfold headB at h
  simp only [Bool.and_eq_true, decide_eq_true_eq, List.all_eq_true, List.mem_range] at h
  obtain ⟨h0, h1⟩ := h
  refine ⟨h0, fun j oj hj hl e he hb => ?_, fun t ht ht' => ?_⟩
  · have := (h1 j (Array.getElem?_eq_some_iff.1 hj).1).1
    rw [hj] at this
    simp only [Option.map_some, Option.getD_some, hl, Bool.not_true, Bool.false_or] at this
    have := Array.all_eq_true'.1 this e he
    simpa [hb] using this
  · have := (h1 t ht').2
    simp only [Bool.or_eq_true, decide_eq_true_eq, Bool.not_eq_true'] at this
    rcases this with h | h
    · omega
    · exact h

/-- The walk of such a region: the operations from n on are walked as a list. -/
def LT (P : Program) (l : List Oper) (Q : Exit → Act → World → Prop) (n : Nat) (listed : Array Bool) (a : Act) (w : World) : Prop :=
  Region.seqB .any l.toArray (l.length - n) n listed = true ∧ wpList P l.toArray Q (l.drop n) a w
theorem wp_region_T {id : Nat} {a : Act} {w : World} {l : List Oper} (n : Nat) (hm : P.follows .mixedOrders = true) (hB : tailB .any l.toArray n = true)
    (h : S w.drew → wpT P .any l.toArray Q S n (LT P l Q n) n (Array.replicate l.length false) a w.drew) (hS : S w.drew) : (Code.region id l.toArray true).wp P Q a w := by
  simp only [tailB, Bool.and_eq_true, decide_eq_true_eq] at hB
  obtain ⟨⟨⟨_, hn⟩, _⟩, _⟩ := hB
  have hn' : n < l.length := by simpa using hn
  refine wp_region_any hm ?_
  have hdl : (l.drop n).length = l.length - n := by simp
  have := wpAny_of_T (Q := Q) (g := l.length - n) (fun listed a' w' hL => by
    have := wpAny_of_seq (md := .any) (Q' := Q) (l.drop n) n listed a' w' (fun j => by simp [List.getElem?_drop]) (by rw [hdl]; exact hL.1) hL.2
    rwa [hdl] at this) _ _ _ _ (h hS)
  rw [show n + (l.length - n) = l.length by omega] at this
  simpa using this
theorem wpT_take {l : List Oper} {n i : Nat} {oi : Oper} {v : Value} {f : Nat} {listed : Array Bool} {a : Act} {w : World} (hi : l.toArray[i]? = some oi) (hB : tailB .any l.toArray n = true) (hf : Region.free .any l.toArray listed i = true)
    (hr : (Region.ready .any l.toArray listed).contains i = true) (hin : i < n) (hh : headB .any l.toArray n listed = true) (hQ : ∀ c a w, Q (.panic c) (a.put oi.dst v) w → Q (.panic c) a w) (hy : YieldsIf P l.toArray S oi v a) (hS : S w)
    (h : wpT P .any l.toArray Q S n (LT P l Q n) f (listed.setIfInBounds i true) (a.put oi.dst v) w) : wpT P .any l.toArray Q S n (LT P l Q n) (f + 1) listed a w := by
  simp only [tailB, Bool.and_eq_true, decide_eq_true_eq] at hB
  obtain ⟨⟨⟨hsel, hn⟩, hs⟩, hc⟩ := hB
  exact wpT_first hi (Region.noSelect_spec hsel) hQ hs hc hn hin (fun listed' a' w' hL => seqB_ready hL.1) f listed a w (headB_spec hh) (Region.free_spec hi hf) (by simpa using hr) hy hS h
theorem wpT_one {l : List Oper} {n i : Nat} {oi : Oper} {f : Nat} {listed : Array Bool} {a : Act} {w : World} (hi : l.toArray[i]? = some oi) (hg : oi.guard = none) (hr : Region.ready .any l.toArray listed = [i]) (hin : i < n)
    (h : ∀ K : Act → World → Prop, (∀ a w, S w → wpT P .any l.toArray Q S n (LT P l Q n) f (listed.setIfInBounds i true) a w → K a w) → Oper.wp P oi a w K Q) : wpT P .any l.toArray Q S n (LT P l Q n) (f + 1) listed a w :=
  ⟨by rw [hr]; simp, fun j hj => by
    rw [hr] at hj
    have hj' : j = i := by simpa using hj
    subst hj'
    refine ⟨hin, wpOp_step hi fun K' hK' => ?_⟩
    rw [if_pos (by simp [Region.wanted, hg])]
    exact h K' fun a w hS hT => hK' a w ⟨hS, hT⟩⟩
theorem wpT_tail {l : List Oper} {n : Nat} {listed : Array Bool} {a : Act} {w : World} (hr : Region.seqB .any l.toArray (l.length - n) n listed = true) (h : wpList P l.toArray Q (l.drop n) a w) : wpT P .any l.toArray Q S n (LT P l Q n) 0 listed a w := ⟨hr, h⟩
end
end Go.Proofs.YtblgligagngpfaaDoor.Mu
namespace Go.Proofs.YtblgligagngpfaaDoor.Mu
open Go

/-- How many of the first n are not listed yet. -/
def cnt : Nat → Array Bool → Nat
  | 0, _ => 0
  | n + 1, l => cnt n l + if l.getD n true then 0 else 1
theorem cnt_same {n i : Nat} {l : Array Bool} (h : n ≤ i) : cnt n (l.setIfInBounds i true) = cnt n l := by
  induction n with
  | zero => rfl
  | succ n ih => simp only [cnt]; rw [ih (by omega), getD_set_ne true (by omega)]
theorem cnt_set {n i : Nat} {l : Array Bool} (h : i < n) (hs : i < l.size) (hu : l.getD i true = false) : cnt n (l.setIfInBounds i true) + 1 = cnt n l := by
  induction n with
  | zero => omega
  | succ n ih =>
    simp only [cnt]
    by_cases e : i = n
    · subst e
      rw [cnt_same (Nat.le_refl _), hu]
      simp [hs]
    · have := ih (by omega)
      rw [getD_set_ne true e]
      omega
theorem cnt_zero {n : Nat} {l : Array Bool} (h : cnt n l = 0) : ∀ i, i < n → l.getD i true = true := by
  induction n with
  | zero => intro i hi; omega
  | succ n ih =>
    simp only [cnt] at h
    intro i hi
    by_cases e : i = n
    · subst e
      by_cases hb : l.getD i true = true
      · exact hb
      · rw [if_neg hb] at h; omega
    · exact ih (by omega) i (by omega)
theorem cnt_pos {n : Nat} {l : Array Bool} (h : 0 < cnt n l) : ∃ i, i < n ∧ l.getD i true = false := by
  induction n with
  | zero => simp [cnt] at h
  | succ n ih =>
    simp only [cnt] at h
    by_cases hb : l.getD n true = true
    · rw [if_pos hb] at h
      obtain ⟨i, hi, hu⟩ := ih (by omega)
      exact ⟨i, by omega, hu⟩
    · exact ⟨n, by omega, by simpa using hb⟩
theorem cnt_le (n : Nat) (l : Array Bool) : cnt n l ≤ n := by
  induction n with
  | zero => simp [cnt]
  | succ n ih => simp only [cnt]; split <;> omega
theorem cnt_new {n m : Nat} (h : n ≤ m) : cnt n (Array.replicate m false) = n := by
  induction n with
  | zero => rfl
  | succ n ih => simp only [cnt]; rw [ih (by omega), getD_in (by simp; omega) (getD_replicate_false _ _)]; simp

/-- Each of the first n waits for none but such as stand ahead of it. -/
def fwdB (ops : Array Oper) (n : Nat) : Bool := (List.range n).all fun i => ((ops[i]?).map fun o => o.after.all fun e => !Region.binds .any e || decide (e.on < i)).getD false
theorem fwd_ready {ops : Array Oper} {n i : Nat} {listed : Array Bool} (h : fwdB ops n = true) (hi : i < n) (hu : listed.getD i true = false) (hl : ∀ j, j < i → listed.getD j true = true) (hsz : n ≤ listed.size) : i ∈ Region.ready .any ops listed := by
  have h1 := List.all_eq_true.1 h i (List.mem_range.2 hi)
  cases ho : ops[i]? with
  | none => rw [ho] at h1; cases h1
  | some o =>
    rw [ho] at h1
    simp only [Option.map_some, Option.getD_some] at h1
    refine mem_ready.2 ⟨hu, o, ho, fun e he hb => ?_⟩
    have h2 := Array.all_eq_true'.1 h1 e he
    rw [hb] at h2
    simp only [Bool.not_true, Bool.false_or, decide_eq_true_eq] at h2
    have h3 := hl e.on h2
    have h4 : e.on < listed.size := by omega
    simp [h4] at h3 ⊢; exact h3

section
variable {P : Program} {Q : Exit → Act → World → Prop}

theorem wpAny_invT {l : List Oper} {n : Nat} (I : Array Bool → Act → World → Prop) (hB : tailB .any l.toArray n = true) (hf : fwdB l.toArray n = true) (hq : Region.seqB .any l.toArray (l.length - n) n (Array.replicate n true ++ Array.replicate (l.length - n) false) = true)
    (hstep : ∀ listed a w i, HeadInv .any l.toArray n listed → I listed a w → i < n → listed.getD i true = false → i ∈ Region.ready .any l.toArray listed → wpOp P l.toArray Q i (I (listed.setIfInBounds i true)) a w)
    (hend : ∀ listed a w, I listed a w → (∀ i, i < n → listed.getD i false = true) → wpList P l.toArray Q (l.drop n) a w) :
    ∀ (c : Nat) (listed : Array Bool) (a : Act) (w : World), cnt n listed = c → HeadInv .any l.toArray n listed → I listed a w → wpAny P .any l.toArray Q (c + (l.length - n)) listed a w := by
  simp only [tailB, Bool.and_eq_true, decide_eq_true_eq] at hB
  obtain ⟨⟨⟨_, hn⟩, hs⟩, hc⟩ := hB
  have hn' : n < l.length := by simpa using hn
  intro c
  induction c with
  | zero =>
    intro listed a w hc0 inv hI
    have hall := cnt_zero hc0
    have hsz : listed.size = l.length := by simpa using inv.size
    have e : listed = Array.replicate n true ++ Array.replicate (l.length - n) false := by
      apply Array.ext
      · simp [hsz]; omega
      · intro i h1 h2
        by_cases hi : i < n
        · have := hall i hi
          rw [Array.getElem_append_left (by simpa using hi)]
          simpa [h1] using this
        · have := inv.tail i (by omega) (by simpa [hsz] using h1)
          rw [Array.getElem_append_right (by simp; omega)]
          simpa [h1] using this
    have hdl : (l.drop n).length = l.length - n := by simp
    have h := wpAny_of_seq (md := .any) (Q' := Q) (l.drop n) n listed a w (fun j => by simp [List.getElem?_drop]) (by rw [hdl, e]; exact hq) (hend listed a w hI fun i hi => by
      have h1 := hall i hi
      have h2 : i < listed.size := by omega
      simp [h2] at h1 ⊢; exact h1)
    rw [hdl] at h
    rw [Nat.zero_add]; exact h
  | succ c ih =>
    intro listed a w hcc inv hI
    obtain ⟨i0, hi0, hu0⟩ := cnt_pos (show 0 < cnt n listed by omega)
    have hnot := tail_waits hs hc hn inv _ i0 rfl hi0 hu0
    rw [show c + 1 + (l.length - n) = (c + (l.length - n)) + 1 by omega]
    refine ⟨fun hr => ?_, fun i hi => ?_⟩
    · -- the first that is not listed is ready
      exfalso
      have hmin : ∃ i, i < n ∧ listed.getD i true = false ∧ ∀ j, j < i → listed.getD j true = true := by
        have key : ∀ m, (∃ i, i < m ∧ listed.getD i true = false) → ∃ i, i < m ∧ listed.getD i true = false ∧ ∀ j, j < i → listed.getD j true = true := by
          intro m
          induction m with
          | zero => rintro ⟨i, hi, _⟩; omega
          | succ m ihm =>
            rintro ⟨i, hi, hu⟩
            by_cases hex : ∃ i, i < m ∧ listed.getD i true = false
            · obtain ⟨i, hi, h⟩ := ihm hex
              exact ⟨i, by omega, h⟩
            · obtain rfl : i = m := by
                by_cases e : i = m
                · exact e
                · exact absurd ⟨i, by omega, hu⟩ hex
              refine ⟨i, hi, hu, fun j hj => ?_⟩
              by_cases hb : listed.getD j true = true
              · exact hb
              · exact absurd ⟨j, hj, by simpa using hb⟩ hex
        exact key n ⟨i0, hi0, hu0⟩
      obtain ⟨i, hi, hu, hless⟩ := hmin
      have h := fwd_ready hf hi hu hless (by have := inv.size; simp at this; omega)
      rw [hr] at h; cases h
    · have hin : i < n := by
        rcases Nat.lt_or_ge i n with h | h
        · exact h
        · exact absurd hi (hnot i h)
      have hun := (mem_ready.1 hi).1
      have hsz : i < listed.size := by have := inv.size; simp at this; omega
      refine wpOp_mono (fun a' w' h' => ih _ a' w' ?_ (inv.set hi hin) h') (hstep listed a w i inv hI hin hun hi)
      have := cnt_set hin hsz hun
      omega

/-- Which operation writes this slot. -/
def slotAt (ops : Array Oper) (s : Nat) : Option Nat := (List.range ops.size).find? fun i => ((ops[i]?).bind (·.dst)) == some s
/-- Each operation writes a slot of its own. -/
def slotsB (ops : Array Oper) (size : Nat) : Bool := (List.range ops.size).all fun i => match (ops[i]?).bind (·.dst) with
  | some d => (slotAt ops d == some i) && decide (d < size)
  | none => true
theorem slots_spec {ops : Array Oper} {size i d : Nat} (h : slotsB ops size = true) (hd : (ops[i]?).bind (·.dst) = some d) : slotAt ops d = some i ∧ d < size := by
  have hi : i < ops.size := by
    rcases Nat.lt_or_ge i ops.size with h' | h'
    · exact h'
    · rw [Array.getElem?_eq_none h'] at hd; cases hd
  have := List.all_eq_true.1 h i (List.mem_range.2 hi)
  rw [hd] at this
  simpa using this

def Filled (ops : Array Oper) (listed : Array Bool) (V : Nat → Value) (a0 a : Act) : Prop :=
  a.defers = a0.defers ∧ a.tmps.size = a0.tmps.size ∧ ∀ s, s < a0.tmps.size → a.tmps.getD s undef = match slotAt ops s with
    | some i => if listed.getD i false then V i else a0.tmps.getD s undef
    | none => a0.tmps.getD s undef
theorem Filled.eval {ops : Array Oper} {listed : Array Bool} {V : Nat → Value} {a0 a : Act} (h : Filled ops listed V a0 a) (hB : slotsB ops a0.tmps.size = true) {i d : Nat} (hi : listed.getD i false = true) (hd : (ops[i]?).bind (·.dst) = some d) : a.eval (.tmp d) = V i := by
  obtain ⟨h1, h2⟩ := slots_spec hB hd
  show a.tmps.getD d undef = V i
  rw [h.2.2 d h2, h1]
  simp only [hi, if_true]
theorem Filled.par {ops : Array Oper} {listed : Array Bool} {V : Nat → Value} {a0 a : Act} (h : Filled ops listed V a0 a) {s : Nat} (hs : slotAt ops s = none) (hlt : s < a0.tmps.size) : a.eval (.tmp s) = a0.eval (.tmp s) := by
  show a.tmps.getD s undef = a0.tmps.getD s undef
  rw [h.2.2 s hlt, hs]
theorem Filled.put {ops : Array Oper} {listed : Array Bool} {V : Nat → Value} {a0 a : Act} {i : Nat} {o : Oper} (h : Filled ops listed V a0 a) (hB : slotsB ops a0.tmps.size = true) (ho : ops[i]? = some o) (hsz : i < listed.size) (v : Value) :
    Filled ops (listed.setIfInBounds i true) (fun j => if j = i then v else V j) a0 (a.put o.dst v) := by
  have hset : ∀ j, (listed.setIfInBounds i true).getD j false = if j = i then true else listed.getD j false := fun j => by
    by_cases e : j = i
    · subst e; simp [hsz]
    · rw [getD_set_ne false (fun e' => e e'.symm), if_neg e]
  cases hd : o.dst with
  | none =>
    refine ⟨h.1, h.2.1, fun s hs => ?_⟩
    show a.tmps.getD s undef = _
    rw [h.2.2 s hs]
    cases hk : slotAt ops s with
    | none => rfl
    | some k =>
      have hne : k ≠ i := by
        rintro rfl
        have := List.find?_some hk
        simp [ho, hd] at this
      simp only [hset, if_neg hne]
  | some d =>
    obtain ⟨h1, h2⟩ := slots_spec hB (show (ops[i]?).bind (·.dst) = some d by rw [ho]; exact hd)
    refine ⟨h.1, by show (a.tmps.setIfInBounds d v).size = _; rw [Array.size_setIfInBounds]; exact h.2.1, fun s hs => ?_⟩
    show (a.tmps.setIfInBounds d v).getD s undef = _
    by_cases e : s = d
    · subst e
      rw [h1]
      have : s < a.tmps.size := by rw [h.2.1]; exact hs
      simp [hset, this]
    · rw [Array.getD_eq_getD_getElem?, Array.getElem?_setIfInBounds_ne (fun e' => e e'.symm), ← Array.getD_eq_getD_getElem?, h.2.2 s hs]
      cases hk : slotAt ops s with
      | none => rfl
      | some k =>
        have hne : k ≠ i := by
          rintro rfl
          have := List.find?_some hk
          simp [ho, hd] at this
          exact e this.symm
        simp only [hset, if_neg hne]
/-- The slots behind the first n operations. -/
def finA (ops : Array Oper) (n : Nat) (V : Nat → Value) (a0 : Act) : Act :=
  { tmps := ((List.range a0.tmps.size).map fun s => match slotAt ops s with
      | some i => if i < n then V i else a0.tmps.getD s undef
      | none => a0.tmps.getD s undef).toArray, defers := a0.defers }
theorem Filled.fin {ops : Array Oper} {listed : Array Bool} {V : Nat → Value} {a0 a : Act} {n : Nat} (h : Filled ops listed V a0 a) (hall : ∀ i, i < n → listed.getD i false = true) (htail : ∀ i, n ≤ i → listed.getD i false = false) : a = finA ops n V a0 := by
  obtain ⟨h1, h2, h3⟩ := h
  cases a with
  | mk tmps defers =>
    simp only at h1 h2 h3
    subst h1
    unfold finA
    congr 1
    apply Array.ext
    · simp [h2]
    · intro s hs1 hs2
      have := h3 s (by omega)
      rw [Array.getD_eq_getD_getElem?, Array.getElem?_eq_getElem hs1, Option.getD_some] at this
      rw [this]
      simp only [List.getElem_toArray, List.getElem_map, List.getElem_range]
      cases hk : slotAt ops s with
      | none => rfl
      | some k =>
        by_cases hkn : k < n
        · simp only [hall k hkn, if_true, if_pos hkn]
        · simp only [htail k (by omega), Bool.false_eq_true, if_false, if_neg hkn]

/-- The world has grown: what is known is known still. -/
def ext (own : Nat → Nat) (w : World) (i : Nat) : Nat → Nat := fun x => if x < w.heap.size then own x else i

theorem wp_region_inv {id : Nat} {l : List Oper} (n : Nat) (a0 : Act) (w0 : World) (F : Nat → Value → World → (Nat → Nat) → Prop) (hm : P.follows .mixedOrders = true) (hB : tailB .any l.toArray n = true) (hf : fwdB l.toArray n = true) (hsl : slotsB l.toArray a0.tmps.size = true)
    (hq : Region.seqB .any l.toArray (l.length - n) n (Array.replicate n true ++ Array.replicate (l.length - n) false) = true)
    (hmono : ∀ i v w w' own own', i < n → F i v w own → Bel w w' → (∀ x, x < w.heap.size → own' x = own x) → F i v w' own')
    (hstep : ∀ i o, i < n → l.toArray[i]? = some o → ∀ (a : Act) (w : World) (own : Nat → Nat) (V : Nat → Value), Bel w0.drew w →
      (∀ e ∈ o.after, Region.binds .any e = true → F e.on (V e.on) w own ∧ ∀ d, (l.toArray[e.on]?).bind (·.dst) = some d → a.eval (.tmp d) = V e.on) → (∀ s, s < a0.tmps.size → slotAt l.toArray s = none → a.eval (.tmp s) = a0.eval (.tmp s)) →
      ∀ K : Act → World → Prop, (∀ v w', Bel w w' → F i v w' (ext own w i) → K (a.put o.dst v) w') → o.guard = none ∧ Oper.wp P o a w K Q)
    (hend : ∀ (V : Nat → Value) (w : World) (own : Nat → Nat), Bel w0.drew w → (∀ i, i < n → F i (V i) w own) → wpList P l.toArray Q (l.drop n) (finA l.toArray n V a0) w) :
    (Code.region id l.toArray true).wp P Q a0 w0 := by
  have hn' : n < l.length := by
    simp only [tailB, Bool.and_eq_true, decide_eq_true_eq] at hB
    simpa using hB.1.1.2
  refine wp_region_any hm ?_
  have inv0 : HeadInv .any l.toArray n (Array.replicate l.length false) :=
    ⟨by simp, fun j oj _ hl => (by rw [getD_replicate_false] at hl; cases hl), fun t _ ht => getD_in (by simpa using ht) (getD_replicate_false _ _)⟩
  have key := wpAny_invT (P := P) (Q := Q) (l := l) (n := n) (fun listed a w => listed.size = l.length ∧ (∀ t, n ≤ t → listed.getD t false = false) ∧ Bel w0.drew w ∧ ∃ (V : Nat → Value) (own : Nat → Nat), Filled l.toArray listed V a0 a ∧ ∀ i, i < n → listed.getD i false = true → F i (V i) w own) hB hf hq ?_ ?_ n (Array.replicate l.length false) a0 w0.drew (cnt_new (by omega)) inv0 ⟨by simp, fun t _ => getD_replicate_false _ _, Bel.refl _, fun _ => undef, fun _ => 0, ⟨rfl, rfl, fun s hs => by cases slotAt l.toArray s <;> simp only [getD_replicate_false, Bool.false_eq_true, if_false]⟩, fun i _ hi => by rw [getD_replicate_false] at hi; cases hi⟩
  · have e : n + (l.length - n) = l.length := by omega
    rw [e] at key
    simpa using key
  · rintro listed a w i inv ⟨hsz, htl, hbel, V, own, hfill, hF⟩ hin hun hr
    obtain ⟨_, o, ho, hall⟩ := mem_ready.1 hr
    have hK := hstep i o hin ho a w own V hbel (fun e he hb => by
      have hl := hall e he hb
      have hen : e.on < n := by
        rcases Nat.lt_or_ge e.on n with h | h
        · exact h
        · rw [htl _ h] at hl; cases hl
      exact ⟨hF _ hen hl, fun d hd => hfill.eval hsl hl hd⟩) (fun s hs hn => hfill.par hn hs)
      (fun a' w' => (listed.setIfInBounds i true).size = l.length ∧ (∀ t, n ≤ t → (listed.setIfInBounds i true).getD t false = false) ∧ Bel w0.drew w' ∧ ∃ (V : Nat → Value) (own : Nat → Nat), Filled l.toArray (listed.setIfInBounds i true) V a0 a' ∧ ∀ j, j < n → (listed.setIfInBounds i true).getD j false = true → F j (V j) w' own)
      (fun v w' hb hFi => ⟨by simpa using hsz, fun t ht => by rw [getD_set_ne false (by omega)]; exact htl t ht, hbel.on hb, fun j => if j = i then v else V j, ext own w i, hfill.put hsl ho (by omega) v, fun j hj hl => by
        by_cases e : j = i
        · subst e; simp only [if_true]; exact hFi
        · simp only [if_neg e]
          rw [getD_set_ne false (fun e' => e e'.symm)] at hl
          exact hmono j _ w w' own _ hj (hF j hj hl) hb (fun x hx => by simp [ext, hx])⟩)
    unfold wpOp
    simp only [ho]
    rw [if_pos (by simp [Region.wanted, hK.1])]
    exact .inl hK.2
  · rintro listed a w ⟨hsz, htl, hbel, V, own, hfill, hF⟩ hall
    rw [hfill.fin hall htl]
    exact hend V w own hbel fun i hi => hF i hi (hall i hi)
end
end Go.Proofs.YtblgligagngpfaaDoor.Mu
namespace Go.Proofs.YtblgligagngpfaaDoor.Mu
open Go.ChangeShapes Go.WideShapes Go.ChangeAt Go.RowKit

theorem wp_val {P : Program} {o : Oper} {a : Act} {w w' : World} {K : Act → World → Prop} {Q : Exit → Act → World → Prop} {v : Value} (h : (execOp a.eval o).run P w = .ok (.value v) w') (hk : K (a.put o.dst v) w') : Oper.wp P o a w K Q := by
  unfold Oper.wp; rw [h]; exact hk

/-- The arrays of a new solver, each in a block of its own. -/
structure NewA (w : World) (own : Nat → Nat) (base A0 n len gf gn ga gb gc : Nat) : Prop where
  hf : Arr .i64 w gf 3 (List.replicate n (-1))
  hn : Arr .i64 w gn 3 (List.replicate len 0)
  ha : Arr .u8 w ga 22 (List.replicate n 1)
  hb : Arr .i64 w gb 3 (List.replicate n 0)
  hc : w.heap[gc]? = some (.chan n #[] false 0 0 false)
  of : own gf = 3 ∧ own gn = 6 ∧ own ga = 9 ∧ own gb = 11 ∧ own gc = 13
  lo : base ≤ gf ∧ base ≤ gn ∧ base ≤ ga ∧ base ≤ gb ∧ base ≤ gc
def cellsS (A : Option Addr) (len cap n gf gn ga gb gc : Nat) : Array Value := #[.slice A len cap, .slice (some ⟨gf, 0, none⟩) n n, .slice (some ⟨gn, 0, none⟩) len len, .slice (some ⟨ga, 0, none⟩) n n, .slice (some ⟨gb, 0, none⟩) n n, .chan (some gc)]

theorem blk_lt {w : World} {g : Nat} {o : Obj} (h : w.heap[g]? = some o) : g < w.heap.size := (Array.getElem?_eq_some_iff.1 h).1
theorem NewA.mono {w w' : World} {own own' : Nat → Nat} {base A0 n len gf gn ga gb gc : Nat} (h : NewA w own base A0 n len gf gn ga gb gc) (hb : Bel w w') (ho : ∀ x, x < w.heap.size → own' x = own x) : NewA w' own' base A0 n len gf gn ga gb gc :=
  ⟨h.hf.bel hb, h.hn.bel hb, h.ha.bel hb, h.hb.bel hb, hb.blk h.hc, ⟨(ho _ h.hf.lt).trans h.of.1, (ho _ h.hn.lt).trans h.of.2.1, (ho _ h.ha.lt).trans h.of.2.2.1, (ho _ h.hb.lt).trans h.of.2.2.2.1, (ho _ (blk_lt h.hc)).trans h.of.2.2.2.2⟩, h.lo⟩
theorem mk_int (k : Nat) (hk : k ≤ 1048576) (W : World) : (Instr.makeSlice 40 (.int .i64 (k : Int)) (.int .i64 (k : Int))).run Tryd.prog W = .ok (.slice (some ⟨W.heap.size, 0, none⟩) k k) (W.alloc (.cells (madeCells #[.int .i64 0] k) 3)) :=
  run_make_row' (P := Tryd.prog) 40 3 (.int .i64 0) 8 Tryd.underlying40 info_i64 rfl .i64 .i64 k (by omega) (by omega) W
def actN (n len cap : Nat) (lowA A : Option Addr) (ln lk : Nat) (V : Nat → Value) : Act :=
  { tmps := #[.int .i64 n, .slice lowA ln lk, .slice A len cap, undef, undef, undef, .pointer none, V 16, undef, undef, V 0, V 1, V 2, V 3, V 4, V 5, V 6, V 7, V 8, V 9, V 10, V 11, V 12, V 13, V 14, V 15,
      undef, undef, undef, undef, undef, undef, undef, undef, undef, undef, undef, undef, undef, undef, undef, undef, undef, undef, undef, undef, undef, undef, undef, undef, undef, undef, undef, undef, undef, undef, undef, undef, undef, undef, undef, undef, undef], defers := [] }

end Go.Proofs.YtblgligagngpfaaDoor.Mu
namespace Go.Proofs.YtblgligagngpfaaDoor.Mu
open Go.ChangeShapes Go.WideShapes Go.ChangeAt Go.RowKit Go.Shelf

attribute [local go_sem] Oper.semAt_some

/-- Its blocks are its own, and apart. -/
def Dist (base s gf gn ga gb gc : Nat) : Prop :=
  (base ≤ s ∧ base ≤ gf ∧ base ≤ gn ∧ base ≤ ga ∧ base ≤ gb ∧ base ≤ gc) ∧ (s ≠ gf ∧ s ≠ gn ∧ s ≠ ga ∧ s ≠ gb ∧ s ≠ gc) ∧ (gf ≠ gn ∧ gf ≠ ga ∧ gf ≠ gb ∧ gf ≠ gc) ∧ (gn ≠ ga ∧ gn ≠ gb ∧ gn ≠ gc) ∧ (ga ≠ gb ∧ ga ≠ gc) ∧ gb ≠ gc
def stepFN (p : List Int × List Int) (x : Nat × Iq) : List Int × List Int := if x.2.m = 0 then (p.1.set x.2.v.toNat x.1, p.2.set x.1 (p.1[x.2.v.toNat]?.getD 0)) else p
def foldFN (n len : Nat) (ys : List (Nat × Iq)) : List Int × List Int := ys.foldl stepFN (List.replicate n (-1), List.replicate len 0)

theorem step_len (p : List Int × List Int) (x : Nat × Iq) : (stepFN p x).1.length = p.1.length ∧ (stepFN p x).2.length = p.2.length := by
  unfold stepFN; split <;> simp
theorem fold_len (n len : Nat) (ys : List (Nat × Iq)) : (foldFN n len ys).1.length = n ∧ (foldFN n len ys).2.length = len := by
  have key : ∀ (ys : List (Nat × Iq)) (p : List Int × List Int), (ys.foldl stepFN p).1.length = p.1.length ∧ (ys.foldl stepFN p).2.length = p.2.length := by
    intro ys
    induction ys with
    | nil => intro p; exact ⟨rfl, rfl⟩
    | cons y ys ih => intro p; obtain ⟨a, b⟩ := ih (stepFN p y); obtain ⟨c, d⟩ := step_len p y; exact ⟨a.trans c, b.trans d⟩
  have h := key ys (List.replicate n (-1), List.replicate len 0)
  simp only [List.length_replicate] at h
  exact h
def agg4 (x : Iq) : Value := .agg #[.int .i64 x.v, .int .u8 x.m, .int .u8 x.c, .int .i64 x.r]

end Go.Proofs.YtblgligagngpfaaDoor.Mu
namespace Go.Proofs.YtblgligagngpfaaDoor.Mu
open Go
theorem yields {ops : Array Oper} {tmps : Array Value} {j d : Nat} {b : Bool} (hd : (ops[j]?).bind (·.dst) = some d) (h : tmps.getD d undef = .bool b) : yielded ops tmps j = some b := by
  unfold yielded
  rw [hd]
  rw [Array.getD_eq_getD_getElem?] at h
  cases h' : tmps[d]? with
  | none => rw [h'] at h; cases h
  | some x => rw [h'] at h; simp only [Option.getD_some] at h; subst h; simp [h']
theorem wanted_yes {ops : Array Oper} {tmps : Array Value} {o : Oper} {j d : Nat} {b : Bool} (hg : o.guard = some (j, true)) (hd : (ops[j]?).bind (·.dst) = some d) (h : tmps.getD d undef = .bool b) (hw : Region.wanted o (yielded ops tmps) = true) : b = true := by
  have := yields hd h
  simpa [Region.wanted, hg, this] using hw
section
variable {P : Program} {Q : Exit → Act → World → Prop}
theorem wp_region_invG {id : Nat} {l : List Oper} (n : Nat) (a0 : Act) (w0 : World) (F : Nat → Value → World → Prop) (hm : P.follows .mixedOrders = true) (hB : tailB .any l.toArray n = true) (hf : fwdB l.toArray n = true) (hsl : slotsB l.toArray a0.tmps.size = true)
    (hq : Region.seqB .any l.toArray (l.length - n) n (Array.replicate n true ++ Array.replicate (l.length - n) false) = true)
    (hmono : ∀ i v w w', i < n → F i v w → Bel w w' → F i v w')
    (hstep : ∀ i o, i < n → l.toArray[i]? = some o → ∀ (a : Act) (w : World) (V : Nat → Value), Bel w0.drew w →
      (∀ e ∈ o.after, Region.binds .any e = true → F e.on (V e.on) w ∧ ∀ d, (l.toArray[e.on]?).bind (·.dst) = some d → a.eval (.tmp d) = V e.on) → (∀ s, s < a0.tmps.size → slotAt l.toArray s = none → a.eval (.tmp s) = a0.eval (.tmp s)) →
      ∀ K : Act → World → Prop, (∀ v w', Bel w w' → F i v w' → K (a.put o.dst v) w') → (Region.wanted o (yielded l.toArray a.tmps) = true → Oper.wp P o a w K Q) ∧ (Region.wanted o (yielded l.toArray a.tmps) = false → F i undef w))
    (hend : ∀ (V : Nat → Value) (w : World), Bel w0.drew w → (∀ i, i < n → F i (V i) w) → wpList P l.toArray Q (l.drop n) (finA l.toArray n V a0) w) :
    (Code.region id l.toArray true).wp P Q a0 w0 := by
  have hn' : n < l.length := by
    simp only [tailB, Bool.and_eq_true, decide_eq_true_eq] at hB
    simpa using hB.1.1.2
  refine wp_region_any hm ?_
  have inv0 : HeadInv .any l.toArray n (Array.replicate l.length false) :=
    ⟨by simp, fun j oj _ hl => (by rw [getD_replicate_false] at hl; cases hl), fun t _ ht => getD_in (by simpa using ht) (getD_replicate_false _ _)⟩
  have key := wpAny_invT (P := P) (Q := Q) (l := l) (n := n) (fun listed a w => listed.size = l.length ∧ (∀ t, n ≤ t → listed.getD t false = false) ∧ Bel w0.drew w ∧ ∃ (V : Nat → Value), Filled l.toArray listed V a0 a ∧ ∀ i, i < n → listed.getD i false = true → F i (V i) w) hB hf hq ?_ ?_ n (Array.replicate l.length false) a0 w0.drew (cnt_new (by omega)) inv0 ⟨by simp, fun t _ => getD_replicate_false _ _, Bel.refl _, fun _ => undef, ⟨rfl, rfl, fun s hs => by cases slotAt l.toArray s <;> simp only [getD_replicate_false, Bool.false_eq_true, if_false]⟩, fun i _ hi => by rw [getD_replicate_false] at hi; cases hi⟩
  · have e : n + (l.length - n) = l.length := by omega
    rw [e] at key
    simpa using key
  · rintro listed a w i inv ⟨hsz, htl, hbel, V, hfill, hF⟩ hin hun hr
    obtain ⟨_, o, ho, hall⟩ := mem_ready.1 hr
    have hKK : ∀ v w', Bel w w' → F i v w' → (listed.setIfInBounds i true).size = l.length ∧ (∀ t, n ≤ t → (listed.setIfInBounds i true).getD t false = false) ∧ Bel w0.drew w' ∧ ∃ (V : Nat → Value), Filled l.toArray (listed.setIfInBounds i true) V a0 (a.put o.dst v) ∧ ∀ j, j < n → (listed.setIfInBounds i true).getD j false = true → F j (V j) w' :=
      fun v w' hb hFi => ⟨by simpa using hsz, fun t ht => by rw [getD_set_ne false (by omega)]; exact htl t ht, hbel.on hb, fun j => if j = i then v else V j, hfill.put hsl ho (by omega) v, fun j hj hl => by
        by_cases e : j = i
        · subst e; simp only [if_true]; exact hFi
        · simp only [if_neg e]
          rw [getD_set_ne false (fun e' => e e'.symm)] at hl
          exact hmono j _ w w' hj (hF j hj hl) hb⟩
    have hK := hstep i o hin ho a w V hbel (fun e he hb => by
      have hl := hall e he hb
      have hen : e.on < n := by
        rcases Nat.lt_or_ge e.on n with h | h
        · exact h
        · rw [htl _ h] at hl; cases hl
      exact ⟨hF _ hen hl, fun d hd => hfill.eval hsl hl hd⟩) (fun s hs hn => hfill.par hn hs)
      (fun a' w' => (listed.setIfInBounds i true).size = l.length ∧ (∀ t, n ≤ t → (listed.setIfInBounds i true).getD t false = false) ∧ Bel w0.drew w' ∧ ∃ (V : Nat → Value), Filled l.toArray (listed.setIfInBounds i true) V a0 a' ∧ ∀ j, j < n → (listed.setIfInBounds i true).getD j false = true → F j (V j) w')
      hKK
    unfold wpOp
    simp only [ho]
    by_cases hw : Region.wanted o (yielded l.toArray a.tmps) = true
    · rw [if_pos hw]
      exact .inl (hK.1 hw)
    · rw [if_neg hw]
      exact hKK undef w (Bel.refl _) (hK.2 (by simpa using hw))
  · rintro listed a w ⟨hsz, htl, hbel, V, hfill, hF⟩ hall
    rw [hfill.fin hall htl]
    exact hend V w hbel fun i hi => hF i hi (hall i hi)
end
theorem wanted_none {ops : Array Oper} {tmps : Array Value} {o : Oper} (hg : o.guard = none) : Region.wanted o (yielded ops tmps) = true := by
  simp [Region.wanted, hg]
theorem wanted_is {ops : Array Oper} {tmps : Array Value} {o : Oper} {j d : Nat} {g b : Bool} (hg : o.guard = some (j, g)) (hd : (ops[j]?).bind (·.dst) = some d) (h : tmps.getD d undef = .bool b) : Region.wanted o (yielded ops tmps) = (b == g) := by
  have := yields hd h
  cases b <;> cases g <;> simp [Region.wanted, hg, this]
theorem nw_t {ops : Array Oper} {tmps : Array Value} {o : Oper} {j d : Nat} (hg : o.guard = some (j, true)) (hd : (ops[j]?).bind (·.dst) = some d) (h : tmps.getD d undef = .bool false) (hw : Region.wanted o (yielded ops tmps) = true) : False := by
  rw [wanted_is hg hd h] at hw; cases hw
theorem nw_f {ops : Array Oper} {tmps : Array Value} {o : Oper} {j d : Nat} (hg : o.guard = some (j, false)) (hd : (ops[j]?).bind (·.dst) = some d) (h : tmps.getD d undef = .bool true) (hw : Region.wanted o (yielded ops tmps) = true) : False := by
  rw [wanted_is hg hd h] at hw; cases hw
theorem yw_t {ops : Array Oper} {tmps : Array Value} {o : Oper} {j d : Nat} (hg : o.guard = some (j, true)) (hd : (ops[j]?).bind (·.dst) = some d) (h : tmps.getD d undef = .bool true) (hw : Region.wanted o (yielded ops tmps) = false) : False := by
  rw [wanted_is hg hd h] at hw; cases hw
theorem yw_f {ops : Array Oper} {tmps : Array Value} {o : Oper} {j d : Nat} (hg : o.guard = some (j, false)) (hd : (ops[j]?).bind (·.dst) = some d) (h : tmps.getD d undef = .bool false) (hw : Region.wanted o (yielded ops tmps) = false) : False := by
  rw [wanted_is hg hd h] at hw; cases hw
theorem yw_n {ops : Array Oper} {tmps : Array Value} {o : Oper} (hg : o.guard = none) (hw : Region.wanted o (yielded ops tmps) = false) : False := by
  rw [wanted_none hg] at hw; cases hw
theorem wp_enter {P : Program} {o : Oper} {a : Act} {w : World} {K : Act → World → Prop} {Q : Exit → Act → World → Prop} {f : FuncId} {args : Array Value} (hrun : (execOp a.eval o).run P w = .ok (.enter f args) w)
    (h : Calls P f args w fun e w' => ∃ v, e = .returned v ∧ K (a.put o.dst v) w') : Oper.wp P o a w K Q := by
  unfold Oper.wp
  rw [hrun]
  refine h.mono ?_
  rintro e w' ⟨v, rfl, hk⟩
  exact hk
end Go.Proofs.YtblgligagngpfaaDoor.Mu

