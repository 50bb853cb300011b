/-
  A region that draws its order, guards among its operations, that makes memory and changes none: one fact for each operation's value, whatever the order. Over whatever program.
  Same of the document: what it compares of two tokens that are the same, operation by operation.
  Same of the document, walked: two lists of tokens that are the same.
-/
import Derived.OrdersHeld
import Derived.StillTail
import Derived.Deep.RegionHeld3
import Derived.Test.YteockaolmobmeaaGreatDoorLxBase
import Derived.Laws.Entries
import Derived.Test.YteockaolmobmeaaGreatDoorLxUtf
import Derived.Test.YteockaolmobmeaaGreatDoorLxTok
namespace Go.Proofs.YteockaolmobmeaaGreatDoor.Mu
open Go

section
variable {P : Program} {ops : Array Oper} {Q : Exit → Act → World → Prop} {md : Region.Mode} {S : World → Prop}

/-- Whatever order is picked for the first n operations, and S holds behind each of them; then L. -/
def wpT (P : Program) (md : Region.Mode) (ops : Array Oper) (Q : Exit → Act → World → Prop) (S : World → Prop) (n : Nat) (L : Array Bool → Act → World → Prop) : Nat → Array Bool → Act → World → Prop
  | 0, listed, a, w => L listed a w
  | f + 1, listed, a, w => Region.ready md ops listed ≠ [] ∧ ∀ i ∈ Region.ready md ops listed, i < n ∧ wpOp P ops Q i (fun a' w' => S w' ∧ wpT P md ops Q S n L f (listed.setIfInBounds i true) a' w') a w

theorem wpAny_of_T {n g : Nat} {L : Array Bool → Act → World → Prop} (hL : ∀ listed a w, L listed a w → wpAny P md ops Q g listed a w) :
    ∀ (f : Nat) (listed : Array Bool) (a : Act) (w : World), wpT P md ops Q S n L f listed a w → wpAny P md ops Q (f + g) listed a w
  | 0, listed, a, w, h => by rw [Nat.zero_add]; exact hL _ _ _ h
  | f + 1, listed, a, w, h => by
    rw [show f + 1 + g = (f + g) + 1 by omega]
    exact ⟨fun h0 => absurd h0 h.1, fun i hi => wpOp_mono (fun a' w' h' => wpAny_of_T hL f _ a' w' h'.2) (h.2 i hi).2⟩

theorem wpT_first {n i : Nat} {oi : Oper} {v : Value} {L : Array Bool → Act → World → Prop} (hi : ops[i]? = some oi) (hsel : ∀ (j : Nat) (o : Oper) cs b, ops[j]? = some o → o.op ≠ .select cs b)
    (hQ : ∀ c a w, Q (.panic c) (a.put oi.dst v) w → Q (.panic c) a w) (hs : Region.sinkB md ops n = true) (hc : Region.chainB md ops n = true) (hn : n < ops.size) (hin : i < n)
    (hdone : ∀ listed a w, L listed a w → ∀ j ∈ Region.ready md ops listed, n ≤ j) :
    ∀ (f : Nat) (listed : Array Bool) (a : Act) (w : World), HeadInv md ops n listed →
      (∀ j oj, ops[j]? = some oj → j ≠ i → listed.getD j true = false → (∀ e ∈ oj.after, Region.binds md e = true → e.on ≠ i) → oi.apart ops oj = true) →
      i ∈ Region.ready md ops listed → YieldsIf P ops S oi v a → S w →
      wpT P md ops Q S n L f (listed.setIfInBounds i true) (a.put oi.dst v) w → wpT P md ops Q S n L (f + 1) listed a w := by
  intro f
  induction f with
  | zero =>
    intro listed a w inv _ hr hy hS H
    have hun := (mem_ready.1 hr).1
    refine ⟨fun h => (by rw [h] at hr; cases hr), fun j hj => ?_⟩
    have hjn : j < n := by
      rcases Nat.lt_or_ge j n with h | h
      · exact h
      · exact absurd hj (tail_waits hs hc hn inv _ i rfl hin hun j h)
    refine ⟨hjn, ?_⟩
    by_cases hji : j = i
    · subst hji; exact hy.wpOp hi hS ⟨hS, H⟩
    · have := hdone _ _ _ H j (ready_mono hj hji)
      omega
  | succ f ih =>
    intro listed a w inv hfree hr hy hS H
    have hun := (mem_ready.1 hr).1
    refine ⟨fun h => (by rw [h] at hr; cases hr), fun j hj => ?_⟩
    have hjn : j < n := by
      rcases Nat.lt_or_ge j n with h | h
      · exact h
      · exact absurd hj (tail_waits hs hc hn inv _ i rfl hin hun j h)
    refine ⟨hjn, ?_⟩
    by_cases hji : j = i
    · subst hji; exact hy.wpOp hi hS ⟨hS, H⟩
    · have h1 := (H.2 j (ready_mono hj hji)).2
      obtain ⟨hjun, oj, hoj, hall⟩ := mem_ready.1 hj
      have hnot : ∀ e ∈ oj.after, Region.binds md e = true → e.on ≠ i := fun e he hb heq => by
        have h1 := hall e he hb
        rw [heq, getD_both hun] at h1
        cases h1
      have h2 := wpOp_putIf hoj (hfree j oj hoj hji hjun hnot) (fun cs b => hsel i oi cs b hi) (fun cs b => hsel j oj cs b hoj) hQ hy h1
      have hfree' : ∀ k ok, ops[k]? = some ok → k ≠ i → (listed.setIfInBounds j true).getD k true = false →
          (∀ e ∈ ok.after, Region.binds md e = true → e.on ≠ i) → oi.apart ops ok = true := fun k ok hk hki hkun hno => by
        refine hfree k ok hk hki ?_ hno
        by_cases hjk : j = k
        · subst hjk; exact hjun
        · rw [getD_set_ne true hjk] at hkun; exact hkun
      refine wpOp_mono (fun a' w' h3 => ⟨h3.2.1, ih (listed.setIfInBounds j true) a' w' (inv.set hj hjn) hfree' (ready_mono hr (Ne.symm hji)) h3.1 h3.2.1 ?_⟩) h2
      rw [Array.setIfInBounds_comm _ _ hji]
      exact h3.2.2

/-- What is asked of a region so cut at n: checked by the kernel. -/
def tailB (md : Region.Mode) (ops : Array Oper) (n : Nat) : Bool := Region.noSelect ops && decide (n < ops.size) && Region.sinkB md ops n && Region.chainB md ops n
def headB (md : Region.Mode) (ops : Array Oper) (n : Nat) (listed : Array Bool) : Bool :=
  decide (listed.size = ops.size) && (List.range ops.size).all fun j => (((ops[j]?).map fun o => !listed.getD j false || o.after.all fun e => !Region.binds md e || listed.getD e.on false).getD true) && (decide (j < n) || !listed.getD j true)
theorem headB_spec {n : Nat} {listed : Array Bool} (h : headB md ops n listed = true) : HeadInv md ops n listed := by
  unfold headB at h
  simp only [Bool.and_eq_true, decide_eq_true_eq, List.all_eq_true, List.mem_range] at h
  obtain ⟨h0, h1⟩ := h
  refine ⟨h0, fun j oj hj hl e he hb => ?_, fun t ht ht' => ?_⟩
  · have := (h1 j (Array.getElem?_eq_some_iff.1 hj).1).1
    rw [hj] at this
    simp only [Option.map_some, Option.getD_some, hl, Bool.not_true, Bool.false_or] at this
    have := Array.all_eq_true'.1 this e he
    simpa [hb] using this
  · have := (h1 t ht').2
    simp only [Bool.or_eq_true, decide_eq_true_eq, Bool.not_eq_true'] at this
    rcases this with h | h
    · omega
    · exact h

/-- The walk of such a region: the operations from n on are walked as a list. -/
def LT (P : Program) (l : List Oper) (Q : Exit → Act → World → Prop) (n : Nat) (listed : Array Bool) (a : Act) (w : World) : Prop :=
  Region.seqB .any l.toArray (l.length - n) n listed = true ∧ wpList P l.toArray Q (l.drop n) a w
theorem wp_region_T {id : Nat} {a : Act} {w : World} {l : List Oper} (n : Nat) (hm : P.follows .mixedOrders = true) (hB : tailB .any l.toArray n = true)
    (h : S w.drew → wpT P .any l.toArray Q S n (LT P l Q n) n (Array.replicate l.length false) a w.drew) (hS : S w.drew) : (Code.region id l.toArray true).wp P Q a w := by
  simp only [tailB, Bool.and_eq_true, decide_eq_true_eq] at hB
  obtain ⟨⟨⟨_, hn⟩, _⟩, _⟩ := hB
  have hn' : n < l.length := by simpa using hn
  refine wp_region_any hm ?_
  have hdl : (l.drop n).length = l.length - n := by simp
  have := wpAny_of_T (Q := Q) (g := l.length - n) (fun listed a' w' hL => by
    have := wpAny_of_seq (md := .any) (Q' := Q) (l.drop n) n listed a' w' (fun j => by simp [List.getElem?_drop]) (by rw [hdl]; exact hL.1) hL.2
    rwa [hdl] at this) _ _ _ _ (h hS)
  rw [show n + (l.length - n) = l.length by omega] at this
  simpa using this
theorem wpT_take {l : List Oper} {n i : Nat} {oi : Oper} {v : Value} {f : Nat} {listed : Array Bool} {a : Act} {w : World} (hi : l.toArray[i]? = some oi) (hB : tailB .any l.toArray n = true) (hf : Region.free .any l.toArray listed i = true)
    (hr : (Region.ready .any l.toArray listed).contains i = true) (hin : i < n) (hh : headB .any l.toArray n listed = true) (hQ : ∀ c a w, Q (.panic c) (a.put oi.dst v) w → Q (.panic c) a w) (hy : YieldsIf P l.toArray S oi v a) (hS : S w)
    (h : wpT P .any l.toArray Q S n (LT P l Q n) f (listed.setIfInBounds i true) (a.put oi.dst v) w) : wpT P .any l.toArray Q S n (LT P l Q n) (f + 1) listed a w := by
  simp only [tailB, Bool.and_eq_true, decide_eq_true_eq] at hB
  obtain ⟨⟨⟨hsel, hn⟩, hs⟩, hc⟩ := hB
  exact wpT_first hi (Region.noSelect_spec hsel) hQ hs hc hn hin (fun listed' a' w' hL => seqB_ready hL.1) f listed a w (headB_spec hh) (Region.free_spec hi hf) (by simpa using hr) hy hS h
theorem wpT_one {l : List Oper} {n i : Nat} {oi : Oper} {f : Nat} {listed : Array Bool} {a : Act} {w : World} (hi : l.toArray[i]? = some oi) (hg : oi.guard = none) (hr : Region.ready .any l.toArray listed = [i]) (hin : i < n)
    (h : ∀ K : Act → World → Prop, (∀ a w, S w → wpT P .any l.toArray Q S n (LT P l Q n) f (listed.setIfInBounds i true) a w → K a w) → Oper.wp P oi a w K Q) : wpT P .any l.toArray Q S n (LT P l Q n) (f + 1) listed a w :=
  ⟨by rw [hr]; simp, fun j hj => by
    rw [hr] at hj
    have hj' : j = i := by simpa using hj
    subst hj'
    refine ⟨hin, wpOp_step hi fun K' hK' => ?_⟩
    rw [if_pos (by simp [Region.wanted, hg])]
    exact h K' fun a w hS hT => hK' a w ⟨hS, hT⟩⟩
theorem wpT_tail {l : List Oper} {n : Nat} {listed : Array Bool} {a : Act} {w : World} (hr : Region.seqB .any l.toArray (l.length - n) n listed = true) (h : wpList P l.toArray Q (l.drop n) a w) : wpT P .any l.toArray Q S n (LT P l Q n) 0 listed a w := ⟨hr, h⟩
end
end Go.Proofs.YteockaolmobmeaaGreatDoor.Mu
namespace Go.Proofs.YteockaolmobmeaaGreatDoor.Mu
open Go

/-- How many of the first n are not listed yet. -/
def cntG : Nat → Array Bool → Nat
  | 0, _ => 0
  | n + 1, l => cntG n l + if l.getD n true then 0 else 1
theorem cntG_same {n i : Nat} {l : Array Bool} (h : n ≤ i) : cntG n (l.setIfInBounds i true) = cntG n l := by
  induction n with
  | zero => rfl
  | succ n ih => simp only [cntG]; rw [ih (by omega), getD_set_ne true (by omega)]
theorem cntG_set {n i : Nat} {l : Array Bool} (h : i < n) (hs : i < l.size) (hu : l.getD i true = false) : cntG n (l.setIfInBounds i true) + 1 = cntG n l := by
  induction n with
  | zero => omega
  | succ n ih =>
    simp only [cntG]
    by_cases e : i = n
    · subst e
      rw [cntG_same (Nat.le_refl _), hu]
      simp [hs]
    · have := ih (by omega)
      rw [getD_set_ne true e]
      omega
theorem cntG_zero {n : Nat} {l : Array Bool} (h : cntG n l = 0) : ∀ i, i < n → l.getD i true = true := by
  induction n with
  | zero => intro i hi; omega
  | succ n ih =>
    simp only [cntG] at h
    intro i hi
    by_cases e : i = n
    · subst e
      by_cases hb : l.getD i true = true
      · exact hb
      · rw [if_neg hb] at h; omega
    · exact ih (by omega) i (by omega)
theorem cntG_pos {n : Nat} {l : Array Bool} (h : 0 < cntG n l) : ∃ i, i < n ∧ l.getD i true = false := by
  induction n with
  | zero => simp [cntG] at h
  | succ n ih =>
    simp only [cntG] at h
    by_cases hb : l.getD n true = true
    · rw [if_pos hb] at h
      obtain ⟨i, hi, hu⟩ := ih (by omega)
      exact ⟨i, by omega, hu⟩
    · exact ⟨n, by omega, by simpa using hb⟩
theorem cntG_le (n : Nat) (l : Array Bool) : cntG n l ≤ n := by
  induction n with
  | zero => simp [cntG]
  | succ n ih => simp only [cntG]; split <;> omega
theorem cntG_new {n m : Nat} (h : n ≤ m) : cntG n (Array.replicate m false) = n := by
  induction n with
  | zero => rfl
  | succ n ih => simp only [cntG]; rw [ih (by omega), getD_in (by simp; omega) (getD_replicate_false _ _)]; simp

/-- Each of the first n waits for none but such as stand ahead of it. -/
def fwdB (ops : Array Oper) (n : Nat) : Bool := (List.range n).all fun i => ((ops[i]?).map fun o => o.after.all fun e => !Region.binds .any e || decide (e.on < i)).getD false
theorem fwd_ready {ops : Array Oper} {n i : Nat} {listed : Array Bool} (h : fwdB ops n = true) (hi : i < n) (hu : listed.getD i true = false) (hl : ∀ j, j < i → listed.getD j true = true) (hsz : n ≤ listed.size) : i ∈ Region.ready .any ops listed := by
  have h1 := List.all_eq_true.1 h i (List.mem_range.2 hi)
  cases ho : ops[i]? with
  | none => rw [ho] at h1; cases h1
  | some o =>
    rw [ho] at h1
    simp only [Option.map_some, Option.getD_some] at h1
    refine mem_ready.2 ⟨hu, o, ho, fun e he hb => ?_⟩
    have h2 := Array.all_eq_true'.1 h1 e he
    rw [hb] at h2
    simp only [Bool.not_true, Bool.false_or, decide_eq_true_eq] at h2
    have h3 := hl e.on h2
    have h4 : e.on < listed.size := by omega
    simp [h4] at h3 ⊢; exact h3

section
variable {P : Program} {Q : Exit → Act → World → Prop}

theorem wpAny_invT {l : List Oper} {n : Nat} (I : Array Bool → Act → World → Prop) (hB : tailB .any l.toArray n = true) (hf : fwdB l.toArray n = true) (hq : Region.seqB .any l.toArray (l.length - n) n (Array.replicate n true ++ Array.replicate (l.length - n) false) = true)
    (hstep : ∀ listed a w i, HeadInv .any l.toArray n listed → I listed a w → i < n → listed.getD i true = false → i ∈ Region.ready .any l.toArray listed → wpOp P l.toArray Q i (I (listed.setIfInBounds i true)) a w)
    (hend : ∀ listed a w, I listed a w → (∀ i, i < n → listed.getD i false = true) → wpList P l.toArray Q (l.drop n) a w) :
    ∀ (c : Nat) (listed : Array Bool) (a : Act) (w : World), cntG n listed = c → HeadInv .any l.toArray n listed → I listed a w → wpAny P .any l.toArray Q (c + (l.length - n)) listed a w := by
  simp only [tailB, Bool.and_eq_true, decide_eq_true_eq] at hB
  obtain ⟨⟨⟨_, hn⟩, hs⟩, hc⟩ := hB
  have hn' : n < l.length := by simpa using hn
  intro c
  induction c with
  | zero =>
    intro listed a w hc0 inv hI
    have hall := cntG_zero hc0
    have hsz : listed.size = l.length := by simpa using inv.size
    have e : listed = Array.replicate n true ++ Array.replicate (l.length - n) false := by
      apply Array.ext
      · simp [hsz]; omega
      · intro i h1 h2
        by_cases hi : i < n
        · have := hall i hi
          rw [Array.getElem_append_left (by simpa using hi)]
          simpa [h1] using this
        · have := inv.tail i (by omega) (by simpa [hsz] using h1)
          rw [Array.getElem_append_right (by simp; omega)]
          simpa [h1] using this
    have hdl : (l.drop n).length = l.length - n := by simp
    have h := wpAny_of_seq (md := .any) (Q' := Q) (l.drop n) n listed a w (fun j => by simp [List.getElem?_drop]) (by rw [hdl, e]; exact hq) (hend listed a w hI fun i hi => by
      have h1 := hall i hi
      have h2 : i < listed.size := by omega
      simp [h2] at h1 ⊢; exact h1)
    rw [hdl] at h
    rw [Nat.zero_add]; exact h
  | succ c ih =>
    intro listed a w hcc inv hI
    obtain ⟨i0, hi0, hu0⟩ := cntG_pos (show 0 < cntG n listed by omega)
    have hnot := tail_waits hs hc hn inv _ i0 rfl hi0 hu0
    rw [show c + 1 + (l.length - n) = (c + (l.length - n)) + 1 by omega]
    refine ⟨fun hr => ?_, fun i hi => ?_⟩
    · -- the first that is not listed is ready
      exfalso
      have hmin : ∃ i, i < n ∧ listed.getD i true = false ∧ ∀ j, j < i → listed.getD j true = true := by
        have key : ∀ m, (∃ i, i < m ∧ listed.getD i true = false) → ∃ i, i < m ∧ listed.getD i true = false ∧ ∀ j, j < i → listed.getD j true = true := by
          intro m
          induction m with
          | zero => rintro ⟨i, hi, _⟩; omega
          | succ m ihm =>
            rintro ⟨i, hi, hu⟩
            by_cases hex : ∃ i, i < m ∧ listed.getD i true = false
            · obtain ⟨i, hi, h⟩ := ihm hex
              exact ⟨i, by omega, h⟩
            · obtain rfl : i = m := by
                by_cases e : i = m
                · exact e
                · exact absurd ⟨i, by omega, hu⟩ hex
              refine ⟨i, hi, hu, fun j hj => ?_⟩
              by_cases hb : listed.getD j true = true
              · exact hb
              · exact absurd ⟨j, hj, by simpa using hb⟩ hex
        exact key n ⟨i0, hi0, hu0⟩
      obtain ⟨i, hi, hu, hless⟩ := hmin
      have h := fwd_ready hf hi hu hless (by have := inv.size; simp at this; omega)
      rw [hr] at h; cases h
    · have hin : i < n := by
        rcases Nat.lt_or_ge i n with h | h
        · exact h
        · exact absurd hi (hnot i h)
      have hun := (mem_ready.1 hi).1
      have hsz : i < listed.size := by have := inv.size; simp at this; omega
      refine wpOp_mono (fun a' w' h' => ih _ a' w' ?_ (inv.set hi hin) h') (hstep listed a w i inv hI hin hun hi)
      have := cntG_set hin hsz hun
      omega

/-- Which operation writes this slot. -/
def slotAt (ops : Array Oper) (s : Nat) : Option Nat := (List.range ops.size).find? fun i => ((ops[i]?).bind (·.dst)) == some s
/-- Each operation writes a slot of its own. -/
def slotsB (ops : Array Oper) (size : Nat) : Bool := (List.range ops.size).all fun i => match (ops[i]?).bind (·.dst) with
  | some d => (slotAt ops d == some i) && decide (d < size)
  | none => true
theorem slots_spec {ops : Array Oper} {size i d : Nat} (h : slotsB ops size = true) (hd : (ops[i]?).bind (·.dst) = some d) : slotAt ops d = some i ∧ d < size := by
  have hi : i < ops.size := by
    rcases Nat.lt_or_ge i ops.size with h' | h'
    · exact h'
    · rw [Array.getElem?_eq_none h'] at hd; cases hd
  have := List.all_eq_true.1 h i (List.mem_range.2 hi)
  rw [hd] at this
  simpa using this

def Filled (ops : Array Oper) (listed : Array Bool) (V : Nat → Value) (a0 a : Act) : Prop :=
  a.defers = a0.defers ∧ a.tmps.size = a0.tmps.size ∧ ∀ s, s < a0.tmps.size → a.tmps.getD s undef = match slotAt ops s with
    | some i => if listed.getD i false then V i else a0.tmps.getD s undef
    | none => a0.tmps.getD s undef
theorem Filled.eval {ops : Array Oper} {listed : Array Bool} {V : Nat → Value} {a0 a : Act} (h : Filled ops listed V a0 a) (hB : slotsB ops a0.tmps.size = true) {i d : Nat} (hi : listed.getD i false = true) (hd : (ops[i]?).bind (·.dst) = some d) : a.eval (.tmp d) = V i := by
  obtain ⟨h1, h2⟩ := slots_spec hB hd
  show a.tmps.getD d undef = V i
  rw [h.2.2 d h2, h1]
  simp only [hi, if_true]
theorem Filled.par {ops : Array Oper} {listed : Array Bool} {V : Nat → Value} {a0 a : Act} (h : Filled ops listed V a0 a) {s : Nat} (hs : slotAt ops s = none) (hlt : s < a0.tmps.size) : a.eval (.tmp s) = a0.eval (.tmp s) := by
  show a.tmps.getD s undef = a0.tmps.getD s undef
  rw [h.2.2 s hlt, hs]
theorem Filled.put {ops : Array Oper} {listed : Array Bool} {V : Nat → Value} {a0 a : Act} {i : Nat} {o : Oper} (h : Filled ops listed V a0 a) (hB : slotsB ops a0.tmps.size = true) (ho : ops[i]? = some o) (hsz : i < listed.size) (v : Value) :
    Filled ops (listed.setIfInBounds i true) (fun j => if j = i then v else V j) a0 (a.put o.dst v) := by
  have hset : ∀ j, (listed.setIfInBounds i true).getD j false = if j = i then true else listed.getD j false := fun j => by
    by_cases e : j = i
    · subst e; simp [hsz]
    · rw [getD_set_ne false (fun e' => e e'.symm), if_neg e]
  cases hd : o.dst with
  | none =>
    refine ⟨h.1, h.2.1, fun s hs => ?_⟩
    show a.tmps.getD s undef = _
    rw [h.2.2 s hs]
    cases hk : slotAt ops s with
    | none => rfl
    | some k =>
      have hne : k ≠ i := by
        rintro rfl
        have := List.find?_some hk
        simp [ho, hd] at this
      simp only [hset, if_neg hne]
  | some d =>
    obtain ⟨h1, h2⟩ := slots_spec hB (show (ops[i]?).bind (·.dst) = some d by rw [ho]; exact hd)
    refine ⟨h.1, by show (a.tmps.setIfInBounds d v).size = _; rw [Array.size_setIfInBounds]; exact h.2.1, fun s hs => ?_⟩
    show (a.tmps.setIfInBounds d v).getD s undef = _
    by_cases e : s = d
    · subst e
      rw [h1]
      have : s < a.tmps.size := by rw [h.2.1]; exact hs
      simp [hset, this]
    · rw [Array.getD_eq_getD_getElem?, Array.getElem?_setIfInBounds_ne (fun e' => e e'.symm), ← Array.getD_eq_getD_getElem?, h.2.2 s hs]
      cases hk : slotAt ops s with
      | none => rfl
      | some k =>
        have hne : k ≠ i := by
          rintro rfl
          have := List.find?_some hk
          simp [ho, hd] at this
          exact e this.symm
        simp only [hset, if_neg hne]
/-- The slots behind the first n operations. -/
def finA (ops : Array Oper) (n : Nat) (V : Nat → Value) (a0 : Act) : Act :=
  { tmps := ((List.range a0.tmps.size).map fun s => match slotAt ops s with
      | some i => if i < n then V i else a0.tmps.getD s undef
      | none => a0.tmps.getD s undef).toArray, defers := a0.defers }
theorem Filled.fin {ops : Array Oper} {listed : Array Bool} {V : Nat → Value} {a0 a : Act} {n : Nat} (h : Filled ops listed V a0 a) (hall : ∀ i, i < n → listed.getD i false = true) (htail : ∀ i, n ≤ i → listed.getD i false = false) : a = finA ops n V a0 := by
  obtain ⟨h1, h2, h3⟩ := h
  cases a with
  | mk tmps defers =>
    simp only at h1 h2 h3
    subst h1
    unfold finA
    congr 1
    apply Array.ext
    · simp [h2]
    · intro s hs1 hs2
      have := h3 s (by omega)
      rw [Array.getD_eq_getD_getElem?, Array.getElem?_eq_getElem hs1, Option.getD_some] at this
      rw [this]
      simp only [List.getElem_toArray, List.getElem_map, List.getElem_range]
      cases hk : slotAt ops s with
      | none => rfl
      | some k =>
        by_cases hkn : k < n
        · simp only [hall k hkn, if_true, if_pos hkn]
        · simp only [htail k (by omega), Bool.false_eq_true, if_false, if_neg hkn]

/-- The world has grown: what is known is known still. -/
def ext (own : Nat → Nat) (w : World) (i : Nat) : Nat → Nat := fun x => if x < w.heap.size then own x else i

theorem wp_region_inv {id : Nat} {l : List Oper} (n : Nat) (a0 : Act) (w0 : World) (F : Nat → Value → World → (Nat → Nat) → Prop) (hm : P.follows .mixedOrders = true) (hB : tailB .any l.toArray n = true) (hf : fwdB l.toArray n = true) (hsl : slotsB l.toArray a0.tmps.size = true)
    (hq : Region.seqB .any l.toArray (l.length - n) n (Array.replicate n true ++ Array.replicate (l.length - n) false) = true)
    (hmono : ∀ i v w w' own own', i < n → F i v w own → Bel w w' → (∀ x, x < w.heap.size → own' x = own x) → F i v w' own')
    (hstep : ∀ i o, i < n → l.toArray[i]? = some o → ∀ (a : Act) (w : World) (own : Nat → Nat) (V : Nat → Value), Bel w0.drew w →
      (∀ e ∈ o.after, Region.binds .any e = true → F e.on (V e.on) w own ∧ ∀ d, (l.toArray[e.on]?).bind (·.dst) = some d → a.eval (.tmp d) = V e.on) → (∀ s, s < a0.tmps.size → slotAt l.toArray s = none → a.eval (.tmp s) = a0.eval (.tmp s)) →
      ∀ K : Act → World → Prop, (∀ v w', Bel w w' → F i v w' (ext own w i) → K (a.put o.dst v) w') → o.guard = none ∧ Oper.wp P o a w K Q)
    (hend : ∀ (V : Nat → Value) (w : World) (own : Nat → Nat), Bel w0.drew w → (∀ i, i < n → F i (V i) w own) → wpList P l.toArray Q (l.drop n) (finA l.toArray n V a0) w) :
    (Code.region id l.toArray true).wp P Q a0 w0 := by
  have hn' : n < l.length := by
    simp only [tailB, Bool.and_eq_true, decide_eq_true_eq] at hB
    simpa using hB.1.1.2
  refine wp_region_any hm ?_
  have inv0 : HeadInv .any l.toArray n (Array.replicate l.length false) :=
    ⟨by simp, fun j oj _ hl => (by rw [getD_replicate_false] at hl; cases hl), fun t _ ht => getD_in (by simpa using ht) (getD_replicate_false _ _)⟩
  have key := wpAny_invT (P := P) (Q := Q) (l := l) (n := n) (fun listed a w => listed.size = l.length ∧ (∀ t, n ≤ t → listed.getD t false = false) ∧ Bel w0.drew w ∧ ∃ (V : Nat → Value) (own : Nat → Nat), Filled l.toArray listed V a0 a ∧ ∀ i, i < n → listed.getD i false = true → F i (V i) w own) hB hf hq ?_ ?_ n (Array.replicate l.length false) a0 w0.drew (cntG_new (by omega)) inv0 ⟨by simp, fun t _ => getD_replicate_false _ _, Bel.refl _, fun _ => undef, fun _ => 0, ⟨rfl, rfl, fun s hs => by cases slotAt l.toArray s <;> simp only [getD_replicate_false, Bool.false_eq_true, if_false]⟩, fun i _ hi => by rw [getD_replicate_false] at hi; cases hi⟩
  · have e : n + (l.length - n) = l.length := by omega
    rw [e] at key
    simpa using key
  · rintro listed a w i inv ⟨hsz, htl, hbel, V, own, hfill, hF⟩ hin hun hr
    obtain ⟨_, o, ho, hall⟩ := mem_ready.1 hr
    have hK := hstep i o hin ho a w own V hbel (fun e he hb => by
      have hl := hall e he hb
      have hen : e.on < n := by
        rcases Nat.lt_or_ge e.on n with h | h
        · exact h
        · rw [htl _ h] at hl; cases hl
      exact ⟨hF _ hen hl, fun d hd => hfill.eval hsl hl hd⟩) (fun s hs hn => hfill.par hn hs)
      (fun a' w' => (listed.setIfInBounds i true).size = l.length ∧ (∀ t, n ≤ t → (listed.setIfInBounds i true).getD t false = false) ∧ Bel w0.drew w' ∧ ∃ (V : Nat → Value) (own : Nat → Nat), Filled l.toArray (listed.setIfInBounds i true) V a0 a' ∧ ∀ j, j < n → (listed.setIfInBounds i true).getD j false = true → F j (V j) w' own)
      (fun v w' hb hFi => ⟨by simpa using hsz, fun t ht => by rw [getD_set_ne false (by omega)]; exact htl t ht, hbel.on hb, fun j => if j = i then v else V j, ext own w i, hfill.put hsl ho (by omega) v, fun j hj hl => by
        by_cases e : j = i
        · subst e; simp only [if_true]; exact hFi
        · simp only [if_neg e]
          rw [getD_set_ne false (fun e' => e e'.symm)] at hl
          exact hmono j _ w w' own _ hj (hF j hj hl) hb (fun x hx => by simp [ext, hx])⟩)
    unfold wpOp
    simp only [ho]
    rw [if_pos (by simp [Region.wanted, hK.1])]
    exact .inl hK.2
  · rintro listed a w ⟨hsz, htl, hbel, V, own, hfill, hF⟩ hall
    rw [hfill.fin hall htl]
    exact hend V w own hbel fun i hi => hF i hi (hall i hi)
end
end Go.Proofs.YteockaolmobmeaaGreatDoor.Mu
namespace Go.Proofs.YteockaolmobmeaaGreatDoor.Mu
open Go Go.RowKit
theorem wp_val {P : Program} {o : Oper} {a : Act} {w w' : World} {K : Act → World → Prop} {Q : Exit → Act → World → Prop} {v : Value} (h : (execOp a.eval o).run P w = .ok (.value v) w') (hk : K (a.put o.dst v) w') : Oper.wp P o a w K Q := by
  unfold Oper.wp; rw [h]; exact hk

end Go.Proofs.YteockaolmobmeaaGreatDoor.Mu
namespace Go.Proofs.YteockaolmobmeaaGreatDoor.Mu
open Go
theorem yields {ops : Array Oper} {tmps : Array Value} {j d : Nat} {b : Bool} (hd : (ops[j]?).bind (·.dst) = some d) (h : tmps.getD d undef = .bool b) : yielded ops tmps j = some b := by
  unfold yielded
  rw [hd]
  rw [Array.getD_eq_getD_getElem?] at h
  cases h' : tmps[d]? with
  | none => rw [h'] at h; cases h
  | some x => rw [h'] at h; simp only [Option.getD_some] at h; subst h; simp [h']
theorem wanted_yes {ops : Array Oper} {tmps : Array Value} {o : Oper} {j d : Nat} {b : Bool} (hg : o.guard = some (j, true)) (hd : (ops[j]?).bind (·.dst) = some d) (h : tmps.getD d undef = .bool b) (hw : Region.wanted o (yielded ops tmps) = true) : b = true := by
  have := yields hd h
  simpa [Region.wanted, hg, this] using hw
section
variable {P : Program} {Q : Exit → Act → World → Prop}
theorem wp_region_invG {id : Nat} {l : List Oper} (n : Nat) (a0 : Act) (w0 : World) (F : Nat → Value → World → Prop) (hm : P.follows .mixedOrders = true) (hB : tailB .any l.toArray n = true) (hf : fwdB l.toArray n = true) (hsl : slotsB l.toArray a0.tmps.size = true)
    (hq : Region.seqB .any l.toArray (l.length - n) n (Array.replicate n true ++ Array.replicate (l.length - n) false) = true)
    (hmono : ∀ i v w w', i < n → F i v w → Bel w w' → F i v w')
    (hstep : ∀ i o, i < n → l.toArray[i]? = some o → ∀ (a : Act) (w : World) (V : Nat → Value), Bel w0.drew w →
      (∀ e ∈ o.after, Region.binds .any e = true → F e.on (V e.on) w ∧ ∀ d, (l.toArray[e.on]?).bind (·.dst) = some d → a.eval (.tmp d) = V e.on) → (∀ s, s < a0.tmps.size → slotAt l.toArray s = none → a.eval (.tmp s) = a0.eval (.tmp s)) →
      ∀ K : Act → World → Prop, (∀ v w', Bel w w' → F i v w' → K (a.put o.dst v) w') → (Region.wanted o (yielded l.toArray a.tmps) = true → Oper.wp P o a w K Q) ∧ (Region.wanted o (yielded l.toArray a.tmps) = false → F i undef w))
    (hend : ∀ (V : Nat → Value) (w : World), Bel w0.drew w → (∀ i, i < n → F i (V i) w) → wpList P l.toArray Q (l.drop n) (finA l.toArray n V a0) w) :
    (Code.region id l.toArray true).wp P Q a0 w0 := by
  have hn' : n < l.length := by
    simp only [tailB, Bool.and_eq_true, decide_eq_true_eq] at hB
    simpa using hB.1.1.2
  refine wp_region_any hm ?_
  have inv0 : HeadInv .any l.toArray n (Array.replicate l.length false) :=
    ⟨by simp, fun j oj _ hl => (by rw [getD_replicate_false] at hl; cases hl), fun t _ ht => getD_in (by simpa using ht) (getD_replicate_false _ _)⟩
  have key := wpAny_invT (P := P) (Q := Q) (l := l) (n := n) (fun listed a w => listed.size = l.length ∧ (∀ t, n ≤ t → listed.getD t false = false) ∧ Bel w0.drew w ∧ ∃ (V : Nat → Value), Filled l.toArray listed V a0 a ∧ ∀ i, i < n → listed.getD i false = true → F i (V i) w) hB hf hq ?_ ?_ n (Array.replicate l.length false) a0 w0.drew (cntG_new (by omega)) inv0 ⟨by simp, fun t _ => getD_replicate_false _ _, Bel.refl _, fun _ => undef, ⟨rfl, rfl, fun s hs => by cases slotAt l.toArray s <;> simp only [getD_replicate_false, Bool.false_eq_true, if_false]⟩, fun i _ hi => by rw [getD_replicate_false] at hi; cases hi⟩
  · have e : n + (l.length - n) = l.length := by omega
    rw [e] at key
    simpa using key
  · rintro listed a w i inv ⟨hsz, htl, hbel, V, hfill, hF⟩ hin hun hr
    obtain ⟨_, o, ho, hall⟩ := mem_ready.1 hr
    have hKK : ∀ v w', Bel w w' → F i v w' → (listed.setIfInBounds i true).size = l.length ∧ (∀ t, n ≤ t → (listed.setIfInBounds i true).getD t false = false) ∧ Bel w0.drew w' ∧ ∃ (V : Nat → Value), Filled l.toArray (listed.setIfInBounds i true) V a0 (a.put o.dst v) ∧ ∀ j, j < n → (listed.setIfInBounds i true).getD j false = true → F j (V j) w' :=
      fun v w' hb hFi => ⟨by simpa using hsz, fun t ht => by rw [getD_set_ne false (by omega)]; exact htl t ht, hbel.on hb, fun j => if j = i then v else V j, hfill.put hsl ho (by omega) v, fun j hj hl => by
        by_cases e : j = i
        · subst e; simp only [if_true]; exact hFi
        · simp only [if_neg e]
          rw [getD_set_ne false (fun e' => e e'.symm)] at hl
          exact hmono j _ w w' hj (hF j hj hl) hb⟩
    have hK := hstep i o hin ho a w V hbel (fun e he hb => by
      have hl := hall e he hb
      have hen : e.on < n := by
        rcases Nat.lt_or_ge e.on n with h | h
        · exact h
        · rw [htl _ h] at hl; cases hl
      exact ⟨hF _ hen hl, fun d hd => hfill.eval hsl hl hd⟩) (fun s hs hn => hfill.par hn hs)
      (fun a' w' => (listed.setIfInBounds i true).size = l.length ∧ (∀ t, n ≤ t → (listed.setIfInBounds i true).getD t false = false) ∧ Bel w0.drew w' ∧ ∃ (V : Nat → Value), Filled l.toArray (listed.setIfInBounds i true) V a0 a' ∧ ∀ j, j < n → (listed.setIfInBounds i true).getD j false = true → F j (V j) w')
      hKK
    unfold wpOp
    simp only [ho]
    by_cases hw : Region.wanted o (yielded l.toArray a.tmps) = true
    · rw [if_pos hw]
      exact .inl (hK.1 hw)
    · rw [if_neg hw]
      exact hKK undef w (Bel.refl _) (hK.2 (by simpa using hw))
  · rintro listed a w ⟨hsz, htl, hbel, V, hfill, hF⟩ hall
    rw [hfill.fin hall htl]
    exact hend V w hbel fun i hi => hF i hi (hall i hi)
end
theorem wanted_none {ops : Array Oper} {tmps : Array Value} {o : Oper} (hg : o.guard = none) : Region.wanted o (yielded ops tmps) = true := by
  simp [Region.wanted, hg]
theorem wanted_is {ops : Array Oper} {tmps : Array Value} {o : Oper} {j d : Nat} {g b : Bool} (hg : o.guard = some (j, g)) (hd : (ops[j]?).bind (·.dst) = some d) (h : tmps.getD d undef = .bool b) : Region.wanted o (yielded ops tmps) = (b == g) := by
  have := yields hd h
  cases b <;> cases g <;> simp [Region.wanted, hg, this]
theorem nw_t {ops : Array Oper} {tmps : Array Value} {o : Oper} {j d : Nat} (hg : o.guard = some (j, true)) (hd : (ops[j]?).bind (·.dst) = some d) (h : tmps.getD d undef = .bool false) (hw : Region.wanted o (yielded ops tmps) = true) : False := by
  rw [wanted_is hg hd h] at hw; cases hw
theorem nw_f {ops : Array Oper} {tmps : Array Value} {o : Oper} {j d : Nat} (hg : o.guard = some (j, false)) (hd : (ops[j]?).bind (·.dst) = some d) (h : tmps.getD d undef = .bool true) (hw : Region.wanted o (yielded ops tmps) = true) : False := by
  rw [wanted_is hg hd h] at hw; cases hw
theorem yw_t {ops : Array Oper} {tmps : Array Value} {o : Oper} {j d : Nat} (hg : o.guard = some (j, true)) (hd : (ops[j]?).bind (·.dst) = some d) (h : tmps.getD d undef = .bool true) (hw : Region.wanted o (yielded ops tmps) = false) : False := by
  rw [wanted_is hg hd h] at hw; cases hw
theorem yw_f {ops : Array Oper} {tmps : Array Value} {o : Oper} {j d : Nat} (hg : o.guard = some (j, false)) (hd : (ops[j]?).bind (·.dst) = some d) (h : tmps.getD d undef = .bool false) (hw : Region.wanted o (yielded ops tmps) = false) : False := by
  rw [wanted_is hg hd h] at hw; cases hw
theorem yw_n {ops : Array Oper} {tmps : Array Value} {o : Oper} (hg : o.guard = none) (hw : Region.wanted o (yielded ops tmps) = false) : False := by
  rw [wanted_none hg] at hw; cases hw
theorem wp_enter {P : Program} {o : Oper} {a : Act} {w : World} {K : Act → World → Prop} {Q : Exit → Act → World → Prop} {f : FuncId} {args : Array Value} (hrun : (execOp a.eval o).run P w = .ok (.enter f args) w)
    (h : Calls P f args w fun e w' => ∃ v, e = .returned v ∧ K (a.put o.dst v) w') : Oper.wp P o a w K Q := by
  unfold Oper.wp
  rw [hrun]
  refine h.mono ?_
  rintro e w' ⟨v, rfl, hk⟩
  exact hk
end Go.Proofs.YteockaolmobmeaaGreatDoor.Mu
namespace Go.Proofs.YteockaolmobmeaaGreatDoor.Mu
open Go Go.RowKit Go.Shelf

attribute [local go_sem] Oper.semAt_some
set_option linter.unusedVariables false

def regSt : List Oper := [
  { dst := some 19, op := Op.move (Operand.tmp 0), type := 26, pos := "ref.go:278", after := #[], guard := none },
  { dst := some 20, op := Op.move (Operand.tmp 7), type := 3, pos := "ref.go:278", after := #[], guard := none },
  { dst := some 21, op := Op.indexAddr 26 (Operand.tmp 19) (Operand.tmp 20), type := 0, pos := "ref.go:278", after := #[{ on := 0, ground := Ground.data }, { on := 1, ground := Ground.data }], guard := none },
  { dst := some 22, op := Op.fieldAddr 44 (Operand.tmp 21) 0, type := 0, pos := "ref.go:278", after := #[{ on := 2, ground := Ground.data }], guard := none },
  { dst := some 23, op := Op.load 5 (Operand.tmp 22), type := 5, pos := "ref.go:278", after := #[{ on := 3, ground := Ground.data }], guard := none },
  { dst := some 24, op := Op.move (Operand.tmp 1), type := 26, pos := "ref.go:278", after := #[], guard := none },
  { dst := some 25, op := Op.move (Operand.tmp 7), type := 3, pos := "ref.go:278", after := #[], guard := none },
  { dst := some 26, op := Op.indexAddr 26 (Operand.tmp 24) (Operand.tmp 25), type := 0, pos := "ref.go:278", after := #[{ on := 5, ground := Ground.data }, { on := 6, ground := Ground.data }], guard := none },
  { dst := some 27, op := Op.fieldAddr 44 (Operand.tmp 26) 0, type := 0, pos := "ref.go:278", after := #[{ on := 7, ground := Ground.data }], guard := none },
  { dst := some 28, op := Op.load 5 (Operand.tmp 27), type := 5, pos := "ref.go:278", after := #[{ on := 8, ground := Ground.data }], guard := none },
  { dst := some 29, op := Op.binOp BinOp.neq 5 (Operand.tmp 23) (Operand.tmp 28) 5, type := 4, pos := "ref.go:278", after := #[{ on := 4, ground := Ground.data }, { on := 9, ground := Ground.data }], guard := none },
  { dst := some 30, op := Op.move (Operand.tmp 29), type := 4, pos := "ref.go:278", after := #[{ on := 10, ground := Ground.data }], guard := none },
  { dst := some 31, op := Op.move (Operand.tmp 0), type := 26, pos := "ref.go:278", after := #[{ on := 11, ground := Ground.guard }], guard := some (11, false) },
  { dst := some 32, op := Op.move (Operand.tmp 7), type := 3, pos := "ref.go:278", after := #[{ on := 11, ground := Ground.guard }], guard := some (11, false) },
  { dst := some 33, op := Op.indexAddr 26 (Operand.tmp 31) (Operand.tmp 32), type := 0, pos := "ref.go:278", after := #[{ on := 12, ground := Ground.data }, { on := 13, ground := Ground.data }, { on := 11, ground := Ground.guard }], guard := some (11, false) },
  { dst := some 34, op := Op.fieldAddr 44 (Operand.tmp 33) 1, type := 0, pos := "ref.go:278", after := #[{ on := 14, ground := Ground.data }, { on := 11, ground := Ground.guard }], guard := some (11, false) },
  { dst := some 35, op := Op.load 9 (Operand.tmp 34), type := 9, pos := "ref.go:278", after := #[{ on := 15, ground := Ground.data }, { on := 11, ground := Ground.guard }], guard := some (11, false) },
  { dst := some 36, op := Op.move (Operand.tmp 1), type := 26, pos := "ref.go:278", after := #[{ on := 11, ground := Ground.guard }], guard := some (11, false) },
  { dst := some 37, op := Op.move (Operand.tmp 7), type := 3, pos := "ref.go:278", after := #[{ on := 11, ground := Ground.guard }], guard := some (11, false) },
  { dst := some 38, op := Op.indexAddr 26 (Operand.tmp 36) (Operand.tmp 37), type := 0, pos := "ref.go:278", after := #[{ on := 17, ground := Ground.data }, { on := 18, ground := Ground.data }, { on := 11, ground := Ground.guard }], guard := some (11, false) },
  { dst := some 39, op := Op.fieldAddr 44 (Operand.tmp 38) 1, type := 0, pos := "ref.go:278", after := #[{ on := 19, ground := Ground.data }, { on := 11, ground := Ground.guard }], guard := some (11, false) },
  { dst := some 40, op := Op.load 9 (Operand.tmp 39), type := 9, pos := "ref.go:278", after := #[{ on := 20, ground := Ground.data }, { on := 11, ground := Ground.guard }], guard := some (11, false) },
  { dst := some 41, op := Op.binOp BinOp.neq 9 (Operand.tmp 35) (Operand.tmp 40) 9, type := 4, pos := "ref.go:278", after := #[{ on := 16, ground := Ground.data }, { on := 21, ground := Ground.data }, { on := 11, ground := Ground.guard }], guard := some (11, false) },
  { dst := some 42, op := Op.pick (Operand.tmp 30) (Operand.const (Value.bool true)) (Operand.tmp 41), type := 4, pos := "ref.go:278", after := #[{ on := 11, ground := Ground.data }, { on := 22, ground := Ground.data }], guard := none },
  { dst := some 43, op := Op.move (Operand.tmp 42), type := 4, pos := "ref.go:278", after := #[{ on := 23, ground := Ground.data }, { on := 11, ground := Ground.chain }], guard := none },
  { dst := some 44, op := Op.move (Operand.tmp 0), type := 26, pos := "ref.go:278", after := #[{ on := 24, ground := Ground.guard }], guard := some (24, false) },
  { dst := some 45, op := Op.move (Operand.tmp 7), type := 3, pos := "ref.go:278", after := #[{ on := 24, ground := Ground.guard }], guard := some (24, false) },
  { dst := some 46, op := Op.indexAddr 26 (Operand.tmp 44) (Operand.tmp 45), type := 0, pos := "ref.go:278", after := #[{ on := 25, ground := Ground.data }, { on := 26, ground := Ground.data }, { on := 24, ground := Ground.guard }], guard := some (24, false) },
  { dst := some 47, op := Op.fieldAddr 44 (Operand.tmp 46) 2, type := 0, pos := "ref.go:278", after := #[{ on := 27, ground := Ground.data }, { on := 24, ground := Ground.guard }], guard := some (24, false) },
  { dst := some 48, op := Op.load 2 (Operand.tmp 47), type := 2, pos := "ref.go:278", after := #[{ on := 28, ground := Ground.data }, { on := 24, ground := Ground.guard }], guard := some (24, false) },
  { dst := some 49, op := Op.move (Operand.tmp 1), type := 26, pos := "ref.go:278", after := #[{ on := 24, ground := Ground.guard }], guard := some (24, false) },
  { dst := some 50, op := Op.move (Operand.tmp 7), type := 3, pos := "ref.go:278", after := #[{ on := 24, ground := Ground.guard }], guard := some (24, false) },
  { dst := some 51, op := Op.indexAddr 26 (Operand.tmp 49) (Operand.tmp 50), type := 0, pos := "ref.go:278", after := #[{ on := 30, ground := Ground.data }, { on := 31, ground := Ground.data }, { on := 24, ground := Ground.guard }], guard := some (24, false) },
  { dst := some 52, op := Op.fieldAddr 44 (Operand.tmp 51) 2, type := 0, pos := "ref.go:278", after := #[{ on := 32, ground := Ground.data }, { on := 24, ground := Ground.guard }], guard := some (24, false) },
  { dst := some 53, op := Op.load 2 (Operand.tmp 52), type := 2, pos := "ref.go:278", after := #[{ on := 33, ground := Ground.data }, { on := 24, ground := Ground.guard }], guard := some (24, false) },
  { dst := some 54, op := Op.binOp BinOp.neq 2 (Operand.tmp 48) (Operand.tmp 53) 2, type := 4, pos := "ref.go:278", after := #[{ on := 29, ground := Ground.data }, { on := 34, ground := Ground.data }, { on := 24, ground := Ground.guard }], guard := some (24, false) },
  { dst := some 55, op := Op.pick (Operand.tmp 43) (Operand.const (Value.bool true)) (Operand.tmp 54), type := 4, pos := "ref.go:278", after := #[{ on := 24, ground := Ground.data }, { on := 35, ground := Ground.data }], guard := none },
  { dst := some 56, op := Op.move (Operand.tmp 55), type := 4, pos := "ref.go:278", after := #[{ on := 36, ground := Ground.data }, { on := 24, ground := Ground.chain }], guard := none },
  { dst := some 57, op := Op.move (Operand.tmp 2), type := 4, pos := "ref.go:278", after := #[{ on := 37, ground := Ground.guard }], guard := some (37, false) },
  { dst := some 58, op := Op.move (Operand.tmp 57), type := 4, pos := "ref.go:278", after := #[{ on := 38, ground := Ground.data }, { on := 37, ground := Ground.chain }, { on := 37, ground := Ground.guard }], guard := some (37, false) },
  { dst := some 59, op := Op.move (Operand.tmp 0), type := 26, pos := "ref.go:278", after := #[{ on := 39, ground := Ground.guard }], guard := some (39, true) },
  { dst := some 60, op := Op.move (Operand.tmp 7), type := 3, pos := "ref.go:278", after := #[{ on := 39, ground := Ground.guard }], guard := some (39, true) },
  { dst := some 61, op := Op.indexAddr 26 (Operand.tmp 59) (Operand.tmp 60), type := 0, pos := "ref.go:278", after := #[{ on := 40, ground := Ground.data }, { on := 41, ground := Ground.data }, { on := 39, ground := Ground.guard }], guard := some (39, true) },
  { dst := some 62, op := Op.fieldAddr 44 (Operand.tmp 61) 3, type := 0, pos := "ref.go:278", after := #[{ on := 42, ground := Ground.data }, { on := 39, ground := Ground.guard }], guard := some (39, true) },
  { dst := some 63, op := Op.load 32 (Operand.tmp 62), type := 32, pos := "ref.go:278", after := #[{ on := 43, ground := Ground.data }, { on := 39, ground := Ground.guard }], guard := some (39, true) },
  { dst := some 64, op := Op.move (Operand.tmp 1), type := 26, pos := "ref.go:278", after := #[{ on := 39, ground := Ground.guard }], guard := some (39, true) },
  { dst := some 65, op := Op.move (Operand.tmp 7), type := 3, pos := "ref.go:278", after := #[{ on := 39, ground := Ground.guard }], guard := some (39, true) },
  { dst := some 66, op := Op.indexAddr 26 (Operand.tmp 64) (Operand.tmp 65), type := 0, pos := "ref.go:278", after := #[{ on := 45, ground := Ground.data }, { on := 46, ground := Ground.data }, { on := 39, ground := Ground.guard }], guard := some (39, true) },
  { dst := some 67, op := Op.fieldAddr 44 (Operand.tmp 66) 3, type := 0, pos := "ref.go:278", after := #[{ on := 47, ground := Ground.data }, { on := 39, ground := Ground.guard }], guard := some (39, true) },
  { dst := some 68, op := Op.load 32 (Operand.tmp 67), type := 32, pos := "ref.go:278", after := #[{ on := 48, ground := Ground.data }, { on := 39, ground := Ground.guard }], guard := some (39, true) },
  { dst := some 69, op := Op.binOp BinOp.neq 32 (Operand.tmp 63) (Operand.tmp 68) 32, type := 4, pos := "ref.go:278", after := #[{ on := 44, ground := Ground.data }, { on := 49, ground := Ground.data }, { on := 39, ground := Ground.guard }], guard := some (39, true) },
  { dst := some 70, op := Op.pick (Operand.tmp 58) (Operand.tmp 69) (Operand.const (Value.bool false)), type := 4, pos := "ref.go:278", after := #[{ on := 39, ground := Ground.data }, { on := 50, ground := Ground.data }, { on := 37, ground := Ground.guard }], guard := some (37, false) },
  { dst := some 71, op := Op.pick (Operand.tmp 56) (Operand.const (Value.bool true)) (Operand.tmp 70), type := 4, pos := "ref.go:278", after := #[{ on := 37, ground := Ground.data }, { on := 51, ground := Ground.data }], guard := none }]
def specSt (b1 o1 b2 o2 n ca cb j : Nat) (kx nx pa pl pc : Int) (sx : ByteArray) (i : Nat) (v : Value) (w : World) : Prop :=
  match i with
  | 0 => v = .slice (some ⟨b1, o1, none⟩) n ca
  | 1 => v = .int .i64 (j : Int)
  | 2 => v = .pointer (some ⟨b1, o1 + j * 6, none⟩)
  | 3 => v = .pointer (some ⟨b1, o1 + j * 6, none⟩)
  | 4 => v = .int .u8 kx
  | 5 => v = .slice (some ⟨b2, o2, none⟩) n cb
  | 6 => v = .int .i64 (j : Int)
  | 7 => v = .pointer (some ⟨b2, o2 + j * 6, none⟩)
  | 8 => v = .pointer (some ⟨b2, o2 + j * 6, none⟩)
  | 9 => v = .int .u8 kx
  | 10 => v = .bool false
  | 11 => v = .bool false
  | 12 => v = .slice (some ⟨b1, o1, none⟩) n ca
  | 13 => v = .int .i64 (j : Int)
  | 14 => v = .pointer (some ⟨b1, o1 + j * 6, none⟩)
  | 15 => v = .pointer (some ⟨b1, o1 + j * 6 + 1, none⟩)
  | 16 => v = .string sx
  | 17 => v = .slice (some ⟨b2, o2, none⟩) n cb
  | 18 => v = .int .i64 (j : Int)
  | 19 => v = .pointer (some ⟨b2, o2 + j * 6, none⟩)
  | 20 => v = .pointer (some ⟨b2, o2 + j * 6 + 1, none⟩)
  | 21 => v = .string sx
  | 22 => v = .bool false
  | 23 => v = .bool false
  | 24 => v = .bool false
  | 25 => v = .slice (some ⟨b1, o1, none⟩) n ca
  | 26 => v = .int .i64 (j : Int)
  | 27 => v = .pointer (some ⟨b1, o1 + j * 6, none⟩)
  | 28 => v = .pointer (some ⟨b1, o1 + j * 6 + 2, none⟩)
  | 29 => v = .int .i64 nx
  | 30 => v = .slice (some ⟨b2, o2, none⟩) n cb
  | 31 => v = .int .i64 (j : Int)
  | 32 => v = .pointer (some ⟨b2, o2 + j * 6, none⟩)
  | 33 => v = .pointer (some ⟨b2, o2 + j * 6 + 2, none⟩)
  | 34 => v = .int .i64 nx
  | 35 => v = .bool false
  | 36 => v = .bool false
  | 37 => v = .bool false
  | 38 => v = .bool true
  | 39 => v = .bool true
  | 40 => v = .slice (some ⟨b1, o1, none⟩) n ca
  | 41 => v = .int .i64 (j : Int)
  | 42 => v = .pointer (some ⟨b1, o1 + j * 6, none⟩)
  | 43 => v = .pointer (some ⟨b1, o1 + j * 6 + 3, none⟩)
  | 44 => v = .agg #[.int .i64 pa, .int .i64 pl, .int .i64 pc]
  | 45 => v = .slice (some ⟨b2, o2, none⟩) n cb
  | 46 => v = .int .i64 (j : Int)
  | 47 => v = .pointer (some ⟨b2, o2 + j * 6, none⟩)
  | 48 => v = .pointer (some ⟨b2, o2 + j * 6 + 3, none⟩)
  | 49 => v = .agg #[.int .i64 pa, .int .i64 pl, .int .i64 pc]
  | 50 => v = .bool false
  | 51 => v = .bool false
  | _ => True
theorem specSt_mono {b1 o1 b2 o2 n ca cb j : Nat} {kx nx pa pl pc : Int} {sx : ByteArray} (i : Nat) (v : Value) (w w' : World) (hi : i < 52) (h : specSt b1 o1 b2 o2 n ca cb j kx nx pa pl pc sx i v w) (hb : Bel w w') : specSt b1 o1 b2 o2 n ca cb j kx nx pa pl pc sx i v w' := by
  match i, hi, h with
  | 0, _, h => exact h
  | 1, _, h => exact h
  | 2, _, h => exact h
  | 3, _, h => exact h
  | 4, _, h => exact h
  | 5, _, h => exact h
  | 6, _, h => exact h
  | 7, _, h => exact h
  | 8, _, h => exact h
  | 9, _, h => exact h
  | 10, _, h => exact h
  | 11, _, h => exact h
  | 12, _, h => exact h
  | 13, _, h => exact h
  | 14, _, h => exact h
  | 15, _, h => exact h
  | 16, _, h => exact h
  | 17, _, h => exact h
  | 18, _, h => exact h
  | 19, _, h => exact h
  | 20, _, h => exact h
  | 21, _, h => exact h
  | 22, _, h => exact h
  | 23, _, h => exact h
  | 24, _, h => exact h
  | 25, _, h => exact h
  | 26, _, h => exact h
  | 27, _, h => exact h
  | 28, _, h => exact h
  | 29, _, h => exact h
  | 30, _, h => exact h
  | 31, _, h => exact h
  | 32, _, h => exact h
  | 33, _, h => exact h
  | 34, _, h => exact h
  | 35, _, h => exact h
  | 36, _, h => exact h
  | 37, _, h => exact h
  | 38, _, h => exact h
  | 39, _, h => exact h
  | 40, _, h => exact h
  | 41, _, h => exact h
  | 42, _, h => exact h
  | 43, _, h => exact h
  | 44, _, h => exact h
  | 45, _, h => exact h
  | 46, _, h => exact h
  | 47, _, h => exact h
  | 48, _, h => exact h
  | 49, _, h => exact h
  | 50, _, h => exact h
  | 51, _, h => exact h
  | q + 52, hi, _ => exact absurd hi (by omega)
def acOSt (b1 o1 b2 o2 n ca cb j : Nat) (kx nx pa pl pc : Int) (sx : ByteArray) (s3 s4 s5 s6 s8 s9 s10 s11 s12 s13 s14 s15 s16 s17 s18 s19 s20 s21 s22 s23 s24 s25 s26 s27 s28 s29 s30 s31 s32 s33 s34 s35 s36 s37 s38 s39 s40 s41 s42 s43 s44 s45 s46 s47 s48 s49 s50 s51 s52 s53 s54 s55 s56 s57 s58 s59 s60 s61 s62 s63 s64 s65 s66 s67 s68 s69 s70 s71 : Value) (df : List Deferred) : Act := { tmps := #[.slice (some ⟨b1, o1, none⟩) n ca, .slice (some ⟨b2, o2, none⟩) n cb, .bool true, s3, s4, s5, s6, .int .i64 (j : Int), s8, s9, s10, s11, s12, s13, s14, s15, s16, s17, s18, s19, s20, s21, s22, s23, s24, s25, s26, s27, s28, s29, s30, s31, s32, s33, s34, s35, s36, s37, s38, s39, s40, s41, s42, s43, s44, s45, s46, s47, s48, s49, s50, s51, s52, s53, s54, s55, s56, s57, s58, s59, s60, s61, s62, s63, s64, s65, s66, s67, s68, s69, s70, s71], defers := df }
def acVSt (b1 o1 b2 o2 n ca cb j : Nat) (kx nx pa pl pc : Int) (sx : ByteArray) (s3 s4 s5 s6 s8 s9 s10 s11 s12 s13 s14 s15 s16 s17 s18 s19 s20 s21 s22 s23 s24 s25 s26 s27 s28 s29 s30 s31 s32 s33 s34 s35 s36 s37 s38 s39 s40 s41 s42 s43 s44 s45 s46 s47 s48 s49 s50 s51 s52 s53 s54 s55 s56 s57 s58 s59 s60 s61 s62 s63 s64 s65 s66 s67 s68 s69 s70 s71 : Value) (df : List Deferred) (V : Nat → Value) : Act := { tmps := #[.slice (some ⟨b1, o1, none⟩) n ca, .slice (some ⟨b2, o2, none⟩) n cb, .bool true, s3, s4, s5, s6, .int .i64 (j : Int), s8, s9, s10, s11, s12, s13, s14, s15, s16, s17, s18, V 0, V 1, V 2, V 3, V 4, V 5, V 6, V 7, V 8, V 9, V 10, V 11, V 12, V 13, V 14, V 15, V 16, V 17, V 18, V 19, V 20, V 21, V 22, V 23, V 24, V 25, V 26, V 27, V 28, V 29, V 30, V 31, V 32, V 33, V 34, V 35, V 36, V 37, V 38, V 39, V 40, V 41, V 42, V 43, V 44, V 45, V 46, V 47, V 48, V 49, V 50, V 51, s71], defers := df }
theorem regSt_tail : tailB .any regSt.toArray 52 = true := by kernel_rfl
theorem regSt_fwd : fwdB regSt.toArray 52 = true := by kernel_rfl
theorem regSt_slots : slotsB regSt.toArray 72 = true := by kernel_rfl
theorem regSt_seq : Region.seqB .any regSt.toArray (regSt.length - 52) 52 (Array.replicate 52 true ++ Array.replicate (regSt.length - 52) false) = true := by kernel_rfl
set_option maxRecDepth 100000 in
set_option maxHeartbeats 8000000 in
theorem regSt_any {id : Nat} (b1 o1 b2 o2 n ca cb j : Nat) (kx nx pa pl pc : Int) (sx : ByteArray) (s3 s4 s5 s6 s8 s9 s10 s11 s12 s13 s14 s15 s16 s17 s18 s19 s20 s21 s22 s23 s24 s25 s26 s27 s28 s29 s30 s31 s32 s33 s34 s35 s36 s37 s38 s39 s40 s41 s42 s43 s44 s45 s46 s47 s48 s49 s50 s51 s52 s53 s54 s55 s56 s57 s58 s59 s60 s61 s62 s63 s64 s65 s66 s67 s68 s69 s70 s71 : Value) (df : List Deferred) (w : World) (i1 : (0 : Int) ≤ (j : Int)) (i2 : (j : Int) < (n : Int)) (h1 : b1 < w.drew.heap.size) (h2 : b2 < w.drew.heap.size) (a0 : w.drew.cell? ⟨b1, o1 + j * 6, none⟩ = some (.int .u8 kx)) (e0 : w.drew.cell? ⟨b2, o2 + j * 6, none⟩ = some (.int .u8 kx)) (a1 : w.drew.cell? ⟨b1, o1 + j * 6 + 1, none⟩ = some (.string sx)) (e1 : w.drew.cell? ⟨b2, o2 + j * 6 + 1, none⟩ = some (.string sx)) (a2 : w.drew.cell? ⟨b1, o1 + j * 6 + 2, none⟩ = some (.int .i64 nx)) (e2 : w.drew.cell? ⟨b2, o2 + j * 6 + 2, none⟩ = some (.int .i64 nx)) (a3 : w.drew.cell? ⟨b1, o1 + j * 6 + 3, none⟩ = some (.int .i64 pa)) (e3 : w.drew.cell? ⟨b2, o2 + j * 6 + 3, none⟩ = some (.int .i64 pa)) (a4 : w.drew.cell? ⟨b1, o1 + j * 6 + 4, none⟩ = some (.int .i64 pl)) (e4 : w.drew.cell? ⟨b2, o2 + j * 6 + 4, none⟩ = some (.int .i64 pl)) (a5 : w.drew.cell? ⟨b1, o1 + j * 6 + 5, none⟩ = some (.int .i64 pc)) (e5 : w.drew.cell? ⟨b2, o2 + j * 6 + 5, none⟩ = some (.int .i64 pc)) (hps : ∀ W, (Op.equalIn 10000 32 (.agg #[.int .i64 pa, .int .i64 pl, .int .i64 pc]) (.agg #[.int .i64 pa, .int .i64 pl, .int .i64 pc])).run Tryz.prog W = .ok true W) (Q : Exit → Act → World → Prop)
    (hend : ∀ (V : Nat → Value) (w' : World), Bel w.drew w' → ((V 37) = .bool false) → ((V 51) = .bool false) → wpList Tryz.prog regSt.toArray Q (regSt.drop 52) (acVSt b1 o1 b2 o2 n ca cb j kx nx pa pl pc sx s3 s4 s5 s6 s8 s9 s10 s11 s12 s13 s14 s15 s16 s17 s18 s19 s20 s21 s22 s23 s24 s25 s26 s27 s28 s29 s30 s31 s32 s33 s34 s35 s36 s37 s38 s39 s40 s41 s42 s43 s44 s45 s46 s47 s48 s49 s50 s51 s52 s53 s54 s55 s56 s57 s58 s59 s60 s61 s62 s63 s64 s65 s66 s67 s68 s69 s70 s71 df V) w') :
    (Code.region id regSt.toArray true).wp Tryz.prog Q (acOSt b1 o1 b2 o2 n ca cb j kx nx pa pl pc sx s3 s4 s5 s6 s8 s9 s10 s11 s12 s13 s14 s15 s16 s17 s18 s19 s20 s21 s22 s23 s24 s25 s26 s27 s28 s29 s30 s31 s32 s33 s34 s35 s36 s37 s38 s39 s40 s41 s42 s43 s44 s45 s46 s47 s48 s49 s50 s51 s52 s53 s54 s55 s56 s57 s58 s59 s60 s61 s62 s63 s64 s65 s66 s67 s68 s69 s70 s71 df) w := by
  refine wp_region_invG (l := regSt) 52 (acOSt b1 o1 b2 o2 n ca cb j kx nx pa pl pc sx s3 s4 s5 s6 s8 s9 s10 s11 s12 s13 s14 s15 s16 s17 s18 s19 s20 s21 s22 s23 s24 s25 s26 s27 s28 s29 s30 s31 s32 s33 s34 s35 s36 s37 s38 s39 s40 s41 s42 s43 s44 s45 s46 s47 s48 s49 s50 s51 s52 s53 s54 s55 s56 s57 s58 s59 s60 s61 s62 s63 s64 s65 s66 s67 s68 s69 s70 s71 df) w (specSt b1 o1 b2 o2 n ca cb j kx nx pa pl pc sx) (by kernel_rfl) regSt_tail regSt_fwd regSt_slots regSt_seq (fun i v w w' hi h hb => specSt_mono i v w w' hi h hb) ?_ ?_
  · intro i' o hi' ho a w1 V hbel hdep hpar K hK
    have p0 : a.eval (.tmp 0) = .slice (some ⟨b1, o1, none⟩) n ca := hpar 0 (by show 0 < 72; decide) (by kernel_rfl)
    have p0' : a.tmps[0]?.getD undef = .slice (some ⟨b1, o1, none⟩) n ca := by have h := p0; simp only [Act.eval, Array.getD_eq_getD_getElem?] at h; exact h
    have p1 : a.eval (.tmp 1) = .slice (some ⟨b2, o2, none⟩) n cb := hpar 1 (by show 1 < 72; decide) (by kernel_rfl)
    have p1' : a.tmps[1]?.getD undef = .slice (some ⟨b2, o2, none⟩) n cb := by have h := p1; simp only [Act.eval, Array.getD_eq_getD_getElem?] at h; exact h
    have p2 : a.eval (.tmp 2) = .bool true := hpar 2 (by show 2 < 72; decide) (by kernel_rfl)
    have p2' : a.tmps[2]?.getD undef = .bool true := by have h := p2; simp only [Act.eval, Array.getD_eq_getD_getElem?] at h; exact h
    have p7 : a.eval (.tmp 7) = .int .i64 (j : Int) := hpar 7 (by show 7 < 72; decide) (by kernel_rfl)
    have p7' : a.tmps[7]?.getD undef = .int .i64 (j : Int) := by have h := p7; simp only [Act.eval, Array.getD_eq_getD_getElem?] at h; exact h
    have s0 := (hbel.cell (p := ⟨b1, o1 + j * 6, none⟩) h1).trans a0
    have s1 := (hbel.cell (p := ⟨b1, o1 + j * 6 + 1, none⟩) h1).trans a1
    have s2 := (hbel.cell (p := ⟨b1, o1 + j * 6 + 2, none⟩) h1).trans a2
    have s3 := (hbel.cell (p := ⟨b1, o1 + j * 6 + 3, none⟩) h1).trans a3
    have s4 := (hbel.cell (p := ⟨b1, o1 + j * 6 + 4, none⟩) h1).trans a4
    have s5 := (hbel.cell (p := ⟨b1, o1 + j * 6 + 5, none⟩) h1).trans a5
    have u0 := (hbel.cell (p := ⟨b2, o2 + j * 6, none⟩) h2).trans e0
    have u1 := (hbel.cell (p := ⟨b2, o2 + j * 6 + 1, none⟩) h2).trans e1
    have u2 := (hbel.cell (p := ⟨b2, o2 + j * 6 + 2, none⟩) h2).trans e2
    have u3 := (hbel.cell (p := ⟨b2, o2 + j * 6 + 3, none⟩) h2).trans e3
    have u4 := (hbel.cell (p := ⟨b2, o2 + j * 6 + 4, none⟩) h2).trans e4
    have u5 := (hbel.cell (p := ⟨b2, o2 + j * 6 + 5, none⟩) h2).trans e5
    match i', hi', ho, hdep, hK with
    | 0, _, ho, hdep, hK =>
      simp only [regSt, List.getElem?_toArray, List.getElem?_cons_zero, Option.some.injEq] at ho
      subst ho
      refine ⟨fun _ => ?_, fun hw => (yw_n rfl hw).elim⟩
      exact wp_val (v := .slice (some ⟨b1, o1, none⟩) n ca) (w' := w1) (by simp [execOp, go_sem, p0']) (hK _ _ (Bel.refl _) rfl)
    | 1, _, ho, hdep, hK =>
      simp only [regSt, List.getElem?_toArray, List.getElem?_cons_zero, List.getElem?_cons_succ, Option.some.injEq] at ho
      subst ho
      refine ⟨fun _ => ?_, fun hw => (yw_n rfl hw).elim⟩
      exact wp_val (v := .int .i64 (j : Int)) (w' := w1) (by simp [execOp, go_sem, p7']) (hK _ _ (Bel.refl _) rfl)
    | 2, _, ho, hdep, hK =>
      simp only [regSt, List.getElem?_toArray, List.getElem?_cons_zero, List.getElem?_cons_succ, Option.some.injEq] at ho
      subst ho
      refine ⟨fun _ => ?_, fun hw => (yw_n rfl hw).elim⟩
      obtain ⟨f0, d0⟩ := hdep ⟨0, .data⟩ (by simp) rfl
      have e0 : a.eval (.tmp 19) = .slice (some ⟨b1, o1, none⟩) n ca := (d0 19 rfl).trans f0
      have e0' : a.tmps[19]?.getD undef = .slice (some ⟨b1, o1, none⟩) n ca := by have h := e0; simp only [Act.eval, Array.getD_eq_getD_getElem?] at h; exact h
      obtain ⟨f1, d1⟩ := hdep ⟨1, .data⟩ (by simp) rfl
      have e1 : a.eval (.tmp 20) = .int .i64 (j : Int) := (d1 20 rfl).trans f1
      have e1' : a.tmps[20]?.getD undef = .int .i64 (j : Int) := by have h := e1; simp only [Act.eval, Array.getD_eq_getD_getElem?] at h; exact h
      exact wp_val (v := .pointer (some ⟨b1, o1 + j * 6, none⟩)) (w' := w1) (by simp [execOp, go_sem, e0', e1', i1, i2]) (hK _ _ (Bel.refl _) rfl)
    | 3, _, ho, hdep, hK =>
      simp only [regSt, List.getElem?_toArray, List.getElem?_cons_zero, List.getElem?_cons_succ, Option.some.injEq] at ho
      subst ho
      refine ⟨fun _ => ?_, fun hw => (yw_n rfl hw).elim⟩
      obtain ⟨f2, d2⟩ := hdep ⟨2, .data⟩ (by simp) rfl
      have e2 : a.eval (.tmp 21) = .pointer (some ⟨b1, o1 + j * 6, none⟩) := (d2 21 rfl).trans f2
      have e2' : a.tmps[21]?.getD undef = .pointer (some ⟨b1, o1 + j * 6, none⟩) := by have h := e2; simp only [Act.eval, Array.getD_eq_getD_getElem?] at h; exact h
      exact wp_val (v := .pointer (some ⟨b1, o1 + j * 6, none⟩)) (w' := w1) (by simp [execOp, go_sem, e2']) (hK _ _ (Bel.refl _) rfl)
    | 4, _, ho, hdep, hK =>
      simp only [regSt, List.getElem?_toArray, List.getElem?_cons_zero, List.getElem?_cons_succ, Option.some.injEq] at ho
      subst ho
      refine ⟨fun _ => ?_, fun hw => (yw_n rfl hw).elim⟩
      obtain ⟨f3, d3⟩ := hdep ⟨3, .data⟩ (by simp) rfl
      have e3 : a.eval (.tmp 22) = .pointer (some ⟨b1, o1 + j * 6, none⟩) := (d3 22 rfl).trans f3
      have e3' : a.tmps[22]?.getD undef = .pointer (some ⟨b1, o1 + j * 6, none⟩) := by have h := e3; simp only [Act.eval, Array.getD_eq_getD_getElem?] at h; exact h
      exact wp_val (v := .int .u8 kx) (w' := w1) (by simp [execOp, go_sem, e3', s0]) (hK _ _ (Bel.refl _) rfl)
    | 5, _, ho, hdep, hK =>
      simp only [regSt, List.getElem?_toArray, List.getElem?_cons_zero, List.getElem?_cons_succ, Option.some.injEq] at ho
      subst ho
      refine ⟨fun _ => ?_, fun hw => (yw_n rfl hw).elim⟩
      exact wp_val (v := .slice (some ⟨b2, o2, none⟩) n cb) (w' := w1) (by simp [execOp, go_sem, p1']) (hK _ _ (Bel.refl _) rfl)
    | 6, _, ho, hdep, hK =>
      simp only [regSt, List.getElem?_toArray, List.getElem?_cons_zero, List.getElem?_cons_succ, Option.some.injEq] at ho
      subst ho
      refine ⟨fun _ => ?_, fun hw => (yw_n rfl hw).elim⟩
      exact wp_val (v := .int .i64 (j : Int)) (w' := w1) (by simp [execOp, go_sem, p7']) (hK _ _ (Bel.refl _) rfl)
    | 7, _, ho, hdep, hK =>
      simp only [regSt, List.getElem?_toArray, List.getElem?_cons_zero, List.getElem?_cons_succ, Option.some.injEq] at ho
      subst ho
      refine ⟨fun _ => ?_, fun hw => (yw_n rfl hw).elim⟩
      obtain ⟨f5, d5⟩ := hdep ⟨5, .data⟩ (by simp) rfl
      have e5 : a.eval (.tmp 24) = .slice (some ⟨b2, o2, none⟩) n cb := (d5 24 rfl).trans f5
      have e5' : a.tmps[24]?.getD undef = .slice (some ⟨b2, o2, none⟩) n cb := by have h := e5; simp only [Act.eval, Array.getD_eq_getD_getElem?] at h; exact h
      obtain ⟨f6, d6⟩ := hdep ⟨6, .data⟩ (by simp) rfl
      have e6 : a.eval (.tmp 25) = .int .i64 (j : Int) := (d6 25 rfl).trans f6
      have e6' : a.tmps[25]?.getD undef = .int .i64 (j : Int) := by have h := e6; simp only [Act.eval, Array.getD_eq_getD_getElem?] at h; exact h
      exact wp_val (v := .pointer (some ⟨b2, o2 + j * 6, none⟩)) (w' := w1) (by simp [execOp, go_sem, e5', e6', i1, i2]) (hK _ _ (Bel.refl _) rfl)
    | 8, _, ho, hdep, hK =>
      simp only [regSt, List.getElem?_toArray, List.getElem?_cons_zero, List.getElem?_cons_succ, Option.some.injEq] at ho
      subst ho
      refine ⟨fun _ => ?_, fun hw => (yw_n rfl hw).elim⟩
      obtain ⟨f7, d7⟩ := hdep ⟨7, .data⟩ (by simp) rfl
      have e7 : a.eval (.tmp 26) = .pointer (some ⟨b2, o2 + j * 6, none⟩) := (d7 26 rfl).trans f7
      have e7' : a.tmps[26]?.getD undef = .pointer (some ⟨b2, o2 + j * 6, none⟩) := by have h := e7; simp only [Act.eval, Array.getD_eq_getD_getElem?] at h; exact h
      exact wp_val (v := .pointer (some ⟨b2, o2 + j * 6, none⟩)) (w' := w1) (by simp [execOp, go_sem, e7']) (hK _ _ (Bel.refl _) rfl)
    | 9, _, ho, hdep, hK =>
      simp only [regSt, List.getElem?_toArray, List.getElem?_cons_zero, List.getElem?_cons_succ, Option.some.injEq] at ho
      subst ho
      refine ⟨fun _ => ?_, fun hw => (yw_n rfl hw).elim⟩
      obtain ⟨f8, d8⟩ := hdep ⟨8, .data⟩ (by simp) rfl
      have e8 : a.eval (.tmp 27) = .pointer (some ⟨b2, o2 + j * 6, none⟩) := (d8 27 rfl).trans f8
      have e8' : a.tmps[27]?.getD undef = .pointer (some ⟨b2, o2 + j * 6, none⟩) := by have h := e8; simp only [Act.eval, Array.getD_eq_getD_getElem?] at h; exact h
      exact wp_val (v := .int .u8 kx) (w' := w1) (by simp [execOp, go_sem, e8', u0]) (hK _ _ (Bel.refl _) rfl)
    | 10, _, ho, hdep, hK =>
      simp only [regSt, List.getElem?_toArray, List.getElem?_cons_zero, List.getElem?_cons_succ, Option.some.injEq] at ho
      subst ho
      refine ⟨fun _ => ?_, fun hw => (yw_n rfl hw).elim⟩
      obtain ⟨f4, d4⟩ := hdep ⟨4, .data⟩ (by simp) rfl
      have e4 : a.eval (.tmp 23) = .int .u8 kx := (d4 23 rfl).trans f4
      have e4' : a.tmps[23]?.getD undef = .int .u8 kx := by have h := e4; simp only [Act.eval, Array.getD_eq_getD_getElem?] at h; exact h
      obtain ⟨f9, d9⟩ := hdep ⟨9, .data⟩ (by simp) rfl
      have e9 : a.eval (.tmp 28) = .int .u8 kx := (d9 28 rfl).trans f9
      have e9' : a.tmps[28]?.getD undef = .int .u8 kx := by have h := e9; simp only [Act.eval, Array.getD_eq_getD_getElem?] at h; exact h
      exact wp_val (v := .bool false) (w' := w1) (by simp [execOp, go_sem, e4', e9']) (hK _ _ (Bel.refl _) rfl)
    | 11, _, ho, hdep, hK =>
      simp only [regSt, List.getElem?_toArray, List.getElem?_cons_zero, List.getElem?_cons_succ, Option.some.injEq] at ho
      subst ho
      refine ⟨fun _ => ?_, fun hw => (yw_n rfl hw).elim⟩
      obtain ⟨f10, d10⟩ := hdep ⟨10, .data⟩ (by simp) rfl
      have e10 : a.eval (.tmp 29) = .bool false := (d10 29 rfl).trans f10
      have e10' : a.tmps[29]?.getD undef = .bool false := by have h := e10; simp only [Act.eval, Array.getD_eq_getD_getElem?] at h; exact h
      exact wp_val (v := .bool false) (w' := w1) (by simp [execOp, go_sem, e10']) (hK _ _ (Bel.refl _) rfl)
    | 12, _, ho, hdep, hK =>
      simp only [regSt, List.getElem?_toArray, List.getElem?_cons_zero, List.getElem?_cons_succ, Option.some.injEq] at ho
      subst ho
      obtain ⟨fg, dg⟩ := hdep ⟨11, .guard⟩ (by simp) rfl
      have eg : a.tmps.getD 30 undef = .bool false := (dg 30 rfl).trans fg
      refine ⟨fun _ => ?_, fun hw => (yw_f (d := 30) rfl rfl eg hw).elim⟩
      exact wp_val (v := .slice (some ⟨b1, o1, none⟩) n ca) (w' := w1) (by simp [execOp, go_sem, p0']) (hK _ _ (Bel.refl _) rfl)
    | 13, _, ho, hdep, hK =>
      simp only [regSt, List.getElem?_toArray, List.getElem?_cons_zero, List.getElem?_cons_succ, Option.some.injEq] at ho
      subst ho
      obtain ⟨fg, dg⟩ := hdep ⟨11, .guard⟩ (by simp) rfl
      have eg : a.tmps.getD 30 undef = .bool false := (dg 30 rfl).trans fg
      refine ⟨fun _ => ?_, fun hw => (yw_f (d := 30) rfl rfl eg hw).elim⟩
      exact wp_val (v := .int .i64 (j : Int)) (w' := w1) (by simp [execOp, go_sem, p7']) (hK _ _ (Bel.refl _) rfl)
    | 14, _, ho, hdep, hK =>
      simp only [regSt, List.getElem?_toArray, List.getElem?_cons_zero, List.getElem?_cons_succ, Option.some.injEq] at ho
      subst ho
      obtain ⟨fg, dg⟩ := hdep ⟨11, .guard⟩ (by simp) rfl
      have eg : a.tmps.getD 30 undef = .bool false := (dg 30 rfl).trans fg
      refine ⟨fun _ => ?_, fun hw => (yw_f (d := 30) rfl rfl eg hw).elim⟩
      obtain ⟨f12, d12⟩ := hdep ⟨12, .data⟩ (by simp) rfl
      have e12 : a.eval (.tmp 31) = .slice (some ⟨b1, o1, none⟩) n ca := (d12 31 rfl).trans f12
      have e12' : a.tmps[31]?.getD undef = .slice (some ⟨b1, o1, none⟩) n ca := by have h := e12; simp only [Act.eval, Array.getD_eq_getD_getElem?] at h; exact h
      obtain ⟨f13, d13⟩ := hdep ⟨13, .data⟩ (by simp) rfl
      have e13 : a.eval (.tmp 32) = .int .i64 (j : Int) := (d13 32 rfl).trans f13
      have e13' : a.tmps[32]?.getD undef = .int .i64 (j : Int) := by have h := e13; simp only [Act.eval, Array.getD_eq_getD_getElem?] at h; exact h
      exact wp_val (v := .pointer (some ⟨b1, o1 + j * 6, none⟩)) (w' := w1) (by simp [execOp, go_sem, e12', e13', i1, i2]) (hK _ _ (Bel.refl _) rfl)
    | 15, _, ho, hdep, hK =>
      simp only [regSt, List.getElem?_toArray, List.getElem?_cons_zero, List.getElem?_cons_succ, Option.some.injEq] at ho
      subst ho
      obtain ⟨fg, dg⟩ := hdep ⟨11, .guard⟩ (by simp) rfl
      have eg : a.tmps.getD 30 undef = .bool false := (dg 30 rfl).trans fg
      refine ⟨fun _ => ?_, fun hw => (yw_f (d := 30) rfl rfl eg hw).elim⟩
      obtain ⟨f14, d14⟩ := hdep ⟨14, .data⟩ (by simp) rfl
      have e14 : a.eval (.tmp 33) = .pointer (some ⟨b1, o1 + j * 6, none⟩) := (d14 33 rfl).trans f14
      have e14' : a.tmps[33]?.getD undef = .pointer (some ⟨b1, o1 + j * 6, none⟩) := by have h := e14; simp only [Act.eval, Array.getD_eq_getD_getElem?] at h; exact h
      exact wp_val (v := .pointer (some ⟨b1, o1 + j * 6 + 1, none⟩)) (w' := w1) (by simp [execOp, go_sem, e14']) (hK _ _ (Bel.refl _) rfl)
    | 16, _, ho, hdep, hK =>
      simp only [regSt, List.getElem?_toArray, List.getElem?_cons_zero, List.getElem?_cons_succ, Option.some.injEq] at ho
      subst ho
      obtain ⟨fg, dg⟩ := hdep ⟨11, .guard⟩ (by simp) rfl
      have eg : a.tmps.getD 30 undef = .bool false := (dg 30 rfl).trans fg
      refine ⟨fun _ => ?_, fun hw => (yw_f (d := 30) rfl rfl eg hw).elim⟩
      obtain ⟨f15, d15⟩ := hdep ⟨15, .data⟩ (by simp) rfl
      have e15 : a.eval (.tmp 34) = .pointer (some ⟨b1, o1 + j * 6 + 1, none⟩) := (d15 34 rfl).trans f15
      have e15' : a.tmps[34]?.getD undef = .pointer (some ⟨b1, o1 + j * 6 + 1, none⟩) := by have h := e15; simp only [Act.eval, Array.getD_eq_getD_getElem?] at h; exact h
      exact wp_val (v := .string sx) (w' := w1) (by simp [execOp, go_sem, e15', s1]) (hK _ _ (Bel.refl _) rfl)
    | 17, _, ho, hdep, hK =>
      simp only [regSt, List.getElem?_toArray, List.getElem?_cons_zero, List.getElem?_cons_succ, Option.some.injEq] at ho
      subst ho
      obtain ⟨fg, dg⟩ := hdep ⟨11, .guard⟩ (by simp) rfl
      have eg : a.tmps.getD 30 undef = .bool false := (dg 30 rfl).trans fg
      refine ⟨fun _ => ?_, fun hw => (yw_f (d := 30) rfl rfl eg hw).elim⟩
      exact wp_val (v := .slice (some ⟨b2, o2, none⟩) n cb) (w' := w1) (by simp [execOp, go_sem, p1']) (hK _ _ (Bel.refl _) rfl)
    | 18, _, ho, hdep, hK =>
      simp only [regSt, List.getElem?_toArray, List.getElem?_cons_zero, List.getElem?_cons_succ, Option.some.injEq] at ho
      subst ho
      obtain ⟨fg, dg⟩ := hdep ⟨11, .guard⟩ (by simp) rfl
      have eg : a.tmps.getD 30 undef = .bool false := (dg 30 rfl).trans fg
      refine ⟨fun _ => ?_, fun hw => (yw_f (d := 30) rfl rfl eg hw).elim⟩
      exact wp_val (v := .int .i64 (j : Int)) (w' := w1) (by simp [execOp, go_sem, p7']) (hK _ _ (Bel.refl _) rfl)
    | 19, _, ho, hdep, hK =>
      simp only [regSt, List.getElem?_toArray, List.getElem?_cons_zero, List.getElem?_cons_succ, Option.some.injEq] at ho
      subst ho
      obtain ⟨fg, dg⟩ := hdep ⟨11, .guard⟩ (by simp) rfl
      have eg : a.tmps.getD 30 undef = .bool false := (dg 30 rfl).trans fg
      refine ⟨fun _ => ?_, fun hw => (yw_f (d := 30) rfl rfl eg hw).elim⟩
      obtain ⟨f17, d17⟩ := hdep ⟨17, .data⟩ (by simp) rfl
      have e17 : a.eval (.tmp 36) = .slice (some ⟨b2, o2, none⟩) n cb := (d17 36 rfl).trans f17
      have e17' : a.tmps[36]?.getD undef = .slice (some ⟨b2, o2, none⟩) n cb := by have h := e17; simp only [Act.eval, Array.getD_eq_getD_getElem?] at h; exact h
      obtain ⟨f18, d18⟩ := hdep ⟨18, .data⟩ (by simp) rfl
      have e18 : a.eval (.tmp 37) = .int .i64 (j : Int) := (d18 37 rfl).trans f18
      have e18' : a.tmps[37]?.getD undef = .int .i64 (j : Int) := by have h := e18; simp only [Act.eval, Array.getD_eq_getD_getElem?] at h; exact h
      exact wp_val (v := .pointer (some ⟨b2, o2 + j * 6, none⟩)) (w' := w1) (by simp [execOp, go_sem, e17', e18', i1, i2]) (hK _ _ (Bel.refl _) rfl)
    | 20, _, ho, hdep, hK =>
      simp only [regSt, List.getElem?_toArray, List.getElem?_cons_zero, List.getElem?_cons_succ, Option.some.injEq] at ho
      subst ho
      obtain ⟨fg, dg⟩ := hdep ⟨11, .guard⟩ (by simp) rfl
      have eg : a.tmps.getD 30 undef = .bool false := (dg 30 rfl).trans fg
      refine ⟨fun _ => ?_, fun hw => (yw_f (d := 30) rfl rfl eg hw).elim⟩
      obtain ⟨f19, d19⟩ := hdep ⟨19, .data⟩ (by simp) rfl
      have e19 : a.eval (.tmp 38) = .pointer (some ⟨b2, o2 + j * 6, none⟩) := (d19 38 rfl).trans f19
      have e19' : a.tmps[38]?.getD undef = .pointer (some ⟨b2, o2 + j * 6, none⟩) := by have h := e19; simp only [Act.eval, Array.getD_eq_getD_getElem?] at h; exact h
      exact wp_val (v := .pointer (some ⟨b2, o2 + j * 6 + 1, none⟩)) (w' := w1) (by simp [execOp, go_sem, e19']) (hK _ _ (Bel.refl _) rfl)
    | 21, _, ho, hdep, hK =>
      simp only [regSt, List.getElem?_toArray, List.getElem?_cons_zero, List.getElem?_cons_succ, Option.some.injEq] at ho
      subst ho
      obtain ⟨fg, dg⟩ := hdep ⟨11, .guard⟩ (by simp) rfl
      have eg : a.tmps.getD 30 undef = .bool false := (dg 30 rfl).trans fg
      refine ⟨fun _ => ?_, fun hw => (yw_f (d := 30) rfl rfl eg hw).elim⟩
      obtain ⟨f20, d20⟩ := hdep ⟨20, .data⟩ (by simp) rfl
      have e20 : a.eval (.tmp 39) = .pointer (some ⟨b2, o2 + j * 6 + 1, none⟩) := (d20 39 rfl).trans f20
      have e20' : a.tmps[39]?.getD undef = .pointer (some ⟨b2, o2 + j * 6 + 1, none⟩) := by have h := e20; simp only [Act.eval, Array.getD_eq_getD_getElem?] at h; exact h
      exact wp_val (v := .string sx) (w' := w1) (by simp [execOp, go_sem, e20', u1]) (hK _ _ (Bel.refl _) rfl)
    | 22, _, ho, hdep, hK =>
      simp only [regSt, List.getElem?_toArray, List.getElem?_cons_zero, List.getElem?_cons_succ, Option.some.injEq] at ho
      subst ho
      obtain ⟨fg, dg⟩ := hdep ⟨11, .guard⟩ (by simp) rfl
      have eg : a.tmps.getD 30 undef = .bool false := (dg 30 rfl).trans fg
      refine ⟨fun _ => ?_, fun hw => (yw_f (d := 30) rfl rfl eg hw).elim⟩
      obtain ⟨f16, d16⟩ := hdep ⟨16, .data⟩ (by simp) rfl
      have e16 : a.eval (.tmp 35) = .string sx := (d16 35 rfl).trans f16
      have e16' : a.tmps[35]?.getD undef = .string sx := by have h := e16; simp only [Act.eval, Array.getD_eq_getD_getElem?] at h; exact h
      obtain ⟨f21, d21⟩ := hdep ⟨21, .data⟩ (by simp) rfl
      have e21 : a.eval (.tmp 40) = .string sx := (d21 40 rfl).trans f21
      have e21' : a.tmps[40]?.getD undef = .string sx := by have h := e21; simp only [Act.eval, Array.getD_eq_getD_getElem?] at h; exact h
      exact wp_val (v := .bool false) (w' := w1) (by simp [execOp, go_sem, e16', e21']) (hK _ _ (Bel.refl _) rfl)
    | 23, _, ho, hdep, hK =>
      simp only [regSt, List.getElem?_toArray, List.getElem?_cons_zero, List.getElem?_cons_succ, Option.some.injEq] at ho
      subst ho
      refine ⟨fun _ => ?_, fun hw => (yw_n rfl hw).elim⟩
      obtain ⟨f11, d11⟩ := hdep ⟨11, .data⟩ (by simp) rfl
      have e11 : a.eval (.tmp 30) = .bool false := (d11 30 rfl).trans f11
      have e11' : a.tmps[30]?.getD undef = .bool false := by have h := e11; simp only [Act.eval, Array.getD_eq_getD_getElem?] at h; exact h
      obtain ⟨f22, d22⟩ := hdep ⟨22, .data⟩ (by simp) rfl
      have e22 : a.eval (.tmp 41) = .bool false := (d22 41 rfl).trans f22
      have e22' : a.tmps[41]?.getD undef = .bool false := by have h := e22; simp only [Act.eval, Array.getD_eq_getD_getElem?] at h; exact h
      exact wp_val (v := .bool false) (w' := w1) (by simp [execOp, go_sem, e11', e22']) (hK _ _ (Bel.refl _) rfl)
    | 24, _, ho, hdep, hK =>
      simp only [regSt, List.getElem?_toArray, List.getElem?_cons_zero, List.getElem?_cons_succ, Option.some.injEq] at ho
      subst ho
      refine ⟨fun _ => ?_, fun hw => (yw_n rfl hw).elim⟩
      obtain ⟨f23, d23⟩ := hdep ⟨23, .data⟩ (by simp) rfl
      have e23 : a.eval (.tmp 42) = .bool false := (d23 42 rfl).trans f23
      have e23' : a.tmps[42]?.getD undef = .bool false := by have h := e23; simp only [Act.eval, Array.getD_eq_getD_getElem?] at h; exact h
      exact wp_val (v := .bool false) (w' := w1) (by simp [execOp, go_sem, e23']) (hK _ _ (Bel.refl _) rfl)
    | 25, _, ho, hdep, hK =>
      simp only [regSt, List.getElem?_toArray, List.getElem?_cons_zero, List.getElem?_cons_succ, Option.some.injEq] at ho
      subst ho
      obtain ⟨fg, dg⟩ := hdep ⟨24, .guard⟩ (by simp) rfl
      have eg : a.tmps.getD 43 undef = .bool false := (dg 43 rfl).trans fg
      refine ⟨fun _ => ?_, fun hw => (yw_f (d := 43) rfl rfl eg hw).elim⟩
      exact wp_val (v := .slice (some ⟨b1, o1, none⟩) n ca) (w' := w1) (by simp [execOp, go_sem, p0']) (hK _ _ (Bel.refl _) rfl)
    | 26, _, ho, hdep, hK =>
      simp only [regSt, List.getElem?_toArray, List.getElem?_cons_zero, List.getElem?_cons_succ, Option.some.injEq] at ho
      subst ho
      obtain ⟨fg, dg⟩ := hdep ⟨24, .guard⟩ (by simp) rfl
      have eg : a.tmps.getD 43 undef = .bool false := (dg 43 rfl).trans fg
      refine ⟨fun _ => ?_, fun hw => (yw_f (d := 43) rfl rfl eg hw).elim⟩
      exact wp_val (v := .int .i64 (j : Int)) (w' := w1) (by simp [execOp, go_sem, p7']) (hK _ _ (Bel.refl _) rfl)
    | 27, _, ho, hdep, hK =>
      simp only [regSt, List.getElem?_toArray, List.getElem?_cons_zero, List.getElem?_cons_succ, Option.some.injEq] at ho
      subst ho
      obtain ⟨fg, dg⟩ := hdep ⟨24, .guard⟩ (by simp) rfl
      have eg : a.tmps.getD 43 undef = .bool false := (dg 43 rfl).trans fg
      refine ⟨fun _ => ?_, fun hw => (yw_f (d := 43) rfl rfl eg hw).elim⟩
      obtain ⟨f25, d25⟩ := hdep ⟨25, .data⟩ (by simp) rfl
      have e25 : a.eval (.tmp 44) = .slice (some ⟨b1, o1, none⟩) n ca := (d25 44 rfl).trans f25
      have e25' : a.tmps[44]?.getD undef = .slice (some ⟨b1, o1, none⟩) n ca := by have h := e25; simp only [Act.eval, Array.getD_eq_getD_getElem?] at h; exact h
      obtain ⟨f26, d26⟩ := hdep ⟨26, .data⟩ (by simp) rfl
      have e26 : a.eval (.tmp 45) = .int .i64 (j : Int) := (d26 45 rfl).trans f26
      have e26' : a.tmps[45]?.getD undef = .int .i64 (j : Int) := by have h := e26; simp only [Act.eval, Array.getD_eq_getD_getElem?] at h; exact h
      exact wp_val (v := .pointer (some ⟨b1, o1 + j * 6, none⟩)) (w' := w1) (by simp [execOp, go_sem, e25', e26', i1, i2]) (hK _ _ (Bel.refl _) rfl)
    | 28, _, ho, hdep, hK =>
      simp only [regSt, List.getElem?_toArray, List.getElem?_cons_zero, List.getElem?_cons_succ, Option.some.injEq] at ho
      subst ho
      obtain ⟨fg, dg⟩ := hdep ⟨24, .guard⟩ (by simp) rfl
      have eg : a.tmps.getD 43 undef = .bool false := (dg 43 rfl).trans fg
      refine ⟨fun _ => ?_, fun hw => (yw_f (d := 43) rfl rfl eg hw).elim⟩
      obtain ⟨f27, d27⟩ := hdep ⟨27, .data⟩ (by simp) rfl
      have e27 : a.eval (.tmp 46) = .pointer (some ⟨b1, o1 + j * 6, none⟩) := (d27 46 rfl).trans f27
      have e27' : a.tmps[46]?.getD undef = .pointer (some ⟨b1, o1 + j * 6, none⟩) := by have h := e27; simp only [Act.eval, Array.getD_eq_getD_getElem?] at h; exact h
      exact wp_val (v := .pointer (some ⟨b1, o1 + j * 6 + 2, none⟩)) (w' := w1) (by simp [execOp, go_sem, e27']) (hK _ _ (Bel.refl _) rfl)
    | 29, _, ho, hdep, hK =>
      simp only [regSt, List.getElem?_toArray, List.getElem?_cons_zero, List.getElem?_cons_succ, Option.some.injEq] at ho
      subst ho
      obtain ⟨fg, dg⟩ := hdep ⟨24, .guard⟩ (by simp) rfl
      have eg : a.tmps.getD 43 undef = .bool false := (dg 43 rfl).trans fg
      refine ⟨fun _ => ?_, fun hw => (yw_f (d := 43) rfl rfl eg hw).elim⟩
      obtain ⟨f28, d28⟩ := hdep ⟨28, .data⟩ (by simp) rfl
      have e28 : a.eval (.tmp 47) = .pointer (some ⟨b1, o1 + j * 6 + 2, none⟩) := (d28 47 rfl).trans f28
      have e28' : a.tmps[47]?.getD undef = .pointer (some ⟨b1, o1 + j * 6 + 2, none⟩) := by have h := e28; simp only [Act.eval, Array.getD_eq_getD_getElem?] at h; exact h
      exact wp_val (v := .int .i64 nx) (w' := w1) (by simp [execOp, go_sem, e28', s2]) (hK _ _ (Bel.refl _) rfl)
    | 30, _, ho, hdep, hK =>
      simp only [regSt, List.getElem?_toArray, List.getElem?_cons_zero, List.getElem?_cons_succ, Option.some.injEq] at ho
      subst ho
      obtain ⟨fg, dg⟩ := hdep ⟨24, .guard⟩ (by simp) rfl
      have eg : a.tmps.getD 43 undef = .bool false := (dg 43 rfl).trans fg
      refine ⟨fun _ => ?_, fun hw => (yw_f (d := 43) rfl rfl eg hw).elim⟩
      exact wp_val (v := .slice (some ⟨b2, o2, none⟩) n cb) (w' := w1) (by simp [execOp, go_sem, p1']) (hK _ _ (Bel.refl _) rfl)
    | 31, _, ho, hdep, hK =>
      simp only [regSt, List.getElem?_toArray, List.getElem?_cons_zero, List.getElem?_cons_succ, Option.some.injEq] at ho
      subst ho
      obtain ⟨fg, dg⟩ := hdep ⟨24, .guard⟩ (by simp) rfl
      have eg : a.tmps.getD 43 undef = .bool false := (dg 43 rfl).trans fg
      refine ⟨fun _ => ?_, fun hw => (yw_f (d := 43) rfl rfl eg hw).elim⟩
      exact wp_val (v := .int .i64 (j : Int)) (w' := w1) (by simp [execOp, go_sem, p7']) (hK _ _ (Bel.refl _) rfl)
    | 32, _, ho, hdep, hK =>
      simp only [regSt, List.getElem?_toArray, List.getElem?_cons_zero, List.getElem?_cons_succ, Option.some.injEq] at ho
      subst ho
      obtain ⟨fg, dg⟩ := hdep ⟨24, .guard⟩ (by simp) rfl
      have eg : a.tmps.getD 43 undef = .bool false := (dg 43 rfl).trans fg
      refine ⟨fun _ => ?_, fun hw => (yw_f (d := 43) rfl rfl eg hw).elim⟩
      obtain ⟨f30, d30⟩ := hdep ⟨30, .data⟩ (by simp) rfl
      have e30 : a.eval (.tmp 49) = .slice (some ⟨b2, o2, none⟩) n cb := (d30 49 rfl).trans f30
      have e30' : a.tmps[49]?.getD undef = .slice (some ⟨b2, o2, none⟩) n cb := by have h := e30; simp only [Act.eval, Array.getD_eq_getD_getElem?] at h; exact h
      obtain ⟨f31, d31⟩ := hdep ⟨31, .data⟩ (by simp) rfl
      have e31 : a.eval (.tmp 50) = .int .i64 (j : Int) := (d31 50 rfl).trans f31
      have e31' : a.tmps[50]?.getD undef = .int .i64 (j : Int) := by have h := e31; simp only [Act.eval, Array.getD_eq_getD_getElem?] at h; exact h
      exact wp_val (v := .pointer (some ⟨b2, o2 + j * 6, none⟩)) (w' := w1) (by simp [execOp, go_sem, e30', e31', i1, i2]) (hK _ _ (Bel.refl _) rfl)
    | 33, _, ho, hdep, hK =>
      simp only [regSt, List.getElem?_toArray, List.getElem?_cons_zero, List.getElem?_cons_succ, Option.some.injEq] at ho
      subst ho
      obtain ⟨fg, dg⟩ := hdep ⟨24, .guard⟩ (by simp) rfl
      have eg : a.tmps.getD 43 undef = .bool false := (dg 43 rfl).trans fg
      refine ⟨fun _ => ?_, fun hw => (yw_f (d := 43) rfl rfl eg hw).elim⟩
      obtain ⟨f32, d32⟩ := hdep ⟨32, .data⟩ (by simp) rfl
      have e32 : a.eval (.tmp 51) = .pointer (some ⟨b2, o2 + j * 6, none⟩) := (d32 51 rfl).trans f32
      have e32' : a.tmps[51]?.getD undef = .pointer (some ⟨b2, o2 + j * 6, none⟩) := by have h := e32; simp only [Act.eval, Array.getD_eq_getD_getElem?] at h; exact h
      exact wp_val (v := .pointer (some ⟨b2, o2 + j * 6 + 2, none⟩)) (w' := w1) (by simp [execOp, go_sem, e32']) (hK _ _ (Bel.refl _) rfl)
    | 34, _, ho, hdep, hK =>
      simp only [regSt, List.getElem?_toArray, List.getElem?_cons_zero, List.getElem?_cons_succ, Option.some.injEq] at ho
      subst ho
      obtain ⟨fg, dg⟩ := hdep ⟨24, .guard⟩ (by simp) rfl
      have eg : a.tmps.getD 43 undef = .bool false := (dg 43 rfl).trans fg
      refine ⟨fun _ => ?_, fun hw => (yw_f (d := 43) rfl rfl eg hw).elim⟩
      obtain ⟨f33, d33⟩ := hdep ⟨33, .data⟩ (by simp) rfl
      have e33 : a.eval (.tmp 52) = .pointer (some ⟨b2, o2 + j * 6 + 2, none⟩) := (d33 52 rfl).trans f33
      have e33' : a.tmps[52]?.getD undef = .pointer (some ⟨b2, o2 + j * 6 + 2, none⟩) := by have h := e33; simp only [Act.eval, Array.getD_eq_getD_getElem?] at h; exact h
      exact wp_val (v := .int .i64 nx) (w' := w1) (by simp [execOp, go_sem, e33', u2]) (hK _ _ (Bel.refl _) rfl)
    | 35, _, ho, hdep, hK =>
      simp only [regSt, List.getElem?_toArray, List.getElem?_cons_zero, List.getElem?_cons_succ, Option.some.injEq] at ho
      subst ho
      obtain ⟨fg, dg⟩ := hdep ⟨24, .guard⟩ (by simp) rfl
      have eg : a.tmps.getD 43 undef = .bool false := (dg 43 rfl).trans fg
      refine ⟨fun _ => ?_, fun hw => (yw_f (d := 43) rfl rfl eg hw).elim⟩
      obtain ⟨f29, d29⟩ := hdep ⟨29, .data⟩ (by simp) rfl
      have e29 : a.eval (.tmp 48) = .int .i64 nx := (d29 48 rfl).trans f29
      have e29' : a.tmps[48]?.getD undef = .int .i64 nx := by have h := e29; simp only [Act.eval, Array.getD_eq_getD_getElem?] at h; exact h
      obtain ⟨f34, d34⟩ := hdep ⟨34, .data⟩ (by simp) rfl
      have e34 : a.eval (.tmp 53) = .int .i64 nx := (d34 53 rfl).trans f34
      have e34' : a.tmps[53]?.getD undef = .int .i64 nx := by have h := e34; simp only [Act.eval, Array.getD_eq_getD_getElem?] at h; exact h
      exact wp_val (v := .bool false) (w' := w1) (by simp [execOp, go_sem, e29', e34']) (hK _ _ (Bel.refl _) rfl)
    | 36, _, ho, hdep, hK =>
      simp only [regSt, List.getElem?_toArray, List.getElem?_cons_zero, List.getElem?_cons_succ, Option.some.injEq] at ho
      subst ho
      refine ⟨fun _ => ?_, fun hw => (yw_n rfl hw).elim⟩
      obtain ⟨f24, d24⟩ := hdep ⟨24, .data⟩ (by simp) rfl
      have e24 : a.eval (.tmp 43) = .bool false := (d24 43 rfl).trans f24
      have e24' : a.tmps[43]?.getD undef = .bool false := by have h := e24; simp only [Act.eval, Array.getD_eq_getD_getElem?] at h; exact h
      obtain ⟨f35, d35⟩ := hdep ⟨35, .data⟩ (by simp) rfl
      have e35 : a.eval (.tmp 54) = .bool false := (d35 54 rfl).trans f35
      have e35' : a.tmps[54]?.getD undef = .bool false := by have h := e35; simp only [Act.eval, Array.getD_eq_getD_getElem?] at h; exact h
      exact wp_val (v := .bool false) (w' := w1) (by simp [execOp, go_sem, e24', e35']) (hK _ _ (Bel.refl _) rfl)
    | 37, _, ho, hdep, hK =>
      simp only [regSt, List.getElem?_toArray, List.getElem?_cons_zero, List.getElem?_cons_succ, Option.some.injEq] at ho
      subst ho
      refine ⟨fun _ => ?_, fun hw => (yw_n rfl hw).elim⟩
      obtain ⟨f36, d36⟩ := hdep ⟨36, .data⟩ (by simp) rfl
      have e36 : a.eval (.tmp 55) = .bool false := (d36 55 rfl).trans f36
      have e36' : a.tmps[55]?.getD undef = .bool false := by have h := e36; simp only [Act.eval, Array.getD_eq_getD_getElem?] at h; exact h
      exact wp_val (v := .bool false) (w' := w1) (by simp [execOp, go_sem, e36']) (hK _ _ (Bel.refl _) rfl)
    | 38, _, ho, hdep, hK =>
      simp only [regSt, List.getElem?_toArray, List.getElem?_cons_zero, List.getElem?_cons_succ, Option.some.injEq] at ho
      subst ho
      obtain ⟨fg, dg⟩ := hdep ⟨37, .guard⟩ (by simp) rfl
      have eg : a.tmps.getD 56 undef = .bool false := (dg 56 rfl).trans fg
      refine ⟨fun _ => ?_, fun hw => (yw_f (d := 56) rfl rfl eg hw).elim⟩
      exact wp_val (v := .bool true) (w' := w1) (by simp [execOp, go_sem, p2']) (hK _ _ (Bel.refl _) rfl)
    | 39, _, ho, hdep, hK =>
      simp only [regSt, List.getElem?_toArray, List.getElem?_cons_zero, List.getElem?_cons_succ, Option.some.injEq] at ho
      subst ho
      obtain ⟨fg, dg⟩ := hdep ⟨37, .guard⟩ (by simp) rfl
      have eg : a.tmps.getD 56 undef = .bool false := (dg 56 rfl).trans fg
      refine ⟨fun _ => ?_, fun hw => (yw_f (d := 56) rfl rfl eg hw).elim⟩
      obtain ⟨f38, d38⟩ := hdep ⟨38, .data⟩ (by simp) rfl
      have e38 : a.eval (.tmp 57) = .bool true := (d38 57 rfl).trans f38
      have e38' : a.tmps[57]?.getD undef = .bool true := by have h := e38; simp only [Act.eval, Array.getD_eq_getD_getElem?] at h; exact h
      exact wp_val (v := .bool true) (w' := w1) (by simp [execOp, go_sem, e38']) (hK _ _ (Bel.refl _) rfl)
    | 40, _, ho, hdep, hK =>
      simp only [regSt, List.getElem?_toArray, List.getElem?_cons_zero, List.getElem?_cons_succ, Option.some.injEq] at ho
      subst ho
      obtain ⟨fg, dg⟩ := hdep ⟨39, .guard⟩ (by simp) rfl
      have eg : a.tmps.getD 58 undef = .bool true := (dg 58 rfl).trans fg
      refine ⟨fun _ => ?_, fun hw => (yw_t (d := 58) rfl rfl eg hw).elim⟩
      exact wp_val (v := .slice (some ⟨b1, o1, none⟩) n ca) (w' := w1) (by simp [execOp, go_sem, p0']) (hK _ _ (Bel.refl _) rfl)
    | 41, _, ho, hdep, hK =>
      simp only [regSt, List.getElem?_toArray, List.getElem?_cons_zero, List.getElem?_cons_succ, Option.some.injEq] at ho
      subst ho
      obtain ⟨fg, dg⟩ := hdep ⟨39, .guard⟩ (by simp) rfl
      have eg : a.tmps.getD 58 undef = .bool true := (dg 58 rfl).trans fg
      refine ⟨fun _ => ?_, fun hw => (yw_t (d := 58) rfl rfl eg hw).elim⟩
      exact wp_val (v := .int .i64 (j : Int)) (w' := w1) (by simp [execOp, go_sem, p7']) (hK _ _ (Bel.refl _) rfl)
    | 42, _, ho, hdep, hK =>
      simp only [regSt, List.getElem?_toArray, List.getElem?_cons_zero, List.getElem?_cons_succ, Option.some.injEq] at ho
      subst ho
      obtain ⟨fg, dg⟩ := hdep ⟨39, .guard⟩ (by simp) rfl
      have eg : a.tmps.getD 58 undef = .bool true := (dg 58 rfl).trans fg
      refine ⟨fun _ => ?_, fun hw => (yw_t (d := 58) rfl rfl eg hw).elim⟩
      obtain ⟨f40, d40⟩ := hdep ⟨40, .data⟩ (by simp) rfl
      have e40 : a.eval (.tmp 59) = .slice (some ⟨b1, o1, none⟩) n ca := (d40 59 rfl).trans f40
      have e40' : a.tmps[59]?.getD undef = .slice (some ⟨b1, o1, none⟩) n ca := by have h := e40; simp only [Act.eval, Array.getD_eq_getD_getElem?] at h; exact h
      obtain ⟨f41, d41⟩ := hdep ⟨41, .data⟩ (by simp) rfl
      have e41 : a.eval (.tmp 60) = .int .i64 (j : Int) := (d41 60 rfl).trans f41
      have e41' : a.tmps[60]?.getD undef = .int .i64 (j : Int) := by have h := e41; simp only [Act.eval, Array.getD_eq_getD_getElem?] at h; exact h
      exact wp_val (v := .pointer (some ⟨b1, o1 + j * 6, none⟩)) (w' := w1) (by simp [execOp, go_sem, e40', e41', i1, i2]) (hK _ _ (Bel.refl _) rfl)
    | 43, _, ho, hdep, hK =>
      simp only [regSt, List.getElem?_toArray, List.getElem?_cons_zero, List.getElem?_cons_succ, Option.some.injEq] at ho
      subst ho
      obtain ⟨fg, dg⟩ := hdep ⟨39, .guard⟩ (by simp) rfl
      have eg : a.tmps.getD 58 undef = .bool true := (dg 58 rfl).trans fg
      refine ⟨fun _ => ?_, fun hw => (yw_t (d := 58) rfl rfl eg hw).elim⟩
      obtain ⟨f42, d42⟩ := hdep ⟨42, .data⟩ (by simp) rfl
      have e42 : a.eval (.tmp 61) = .pointer (some ⟨b1, o1 + j * 6, none⟩) := (d42 61 rfl).trans f42
      have e42' : a.tmps[61]?.getD undef = .pointer (some ⟨b1, o1 + j * 6, none⟩) := by have h := e42; simp only [Act.eval, Array.getD_eq_getD_getElem?] at h; exact h
      exact wp_val (v := .pointer (some ⟨b1, o1 + j * 6 + 3, none⟩)) (w' := w1) (by simp [execOp, go_sem, e42']) (hK _ _ (Bel.refl _) rfl)
    | 44, _, ho, hdep, hK =>
      simp only [regSt, List.getElem?_toArray, List.getElem?_cons_zero, List.getElem?_cons_succ, Option.some.injEq] at ho
      subst ho
      obtain ⟨fg, dg⟩ := hdep ⟨39, .guard⟩ (by simp) rfl
      have eg : a.tmps.getD 58 undef = .bool true := (dg 58 rfl).trans fg
      refine ⟨fun _ => ?_, fun hw => (yw_t (d := 58) rfl rfl eg hw).elim⟩
      obtain ⟨f43, d43⟩ := hdep ⟨43, .data⟩ (by simp) rfl
      have e43 : a.eval (.tmp 62) = .pointer (some ⟨b1, o1 + j * 6 + 3, none⟩) := (d43 62 rfl).trans f43
      have e43' : a.tmps[62]?.getD undef = .pointer (some ⟨b1, o1 + j * 6 + 3, none⟩) := by have h := e43; simp only [Act.eval, Array.getD_eq_getD_getElem?] at h; exact h
      exact wp_val (v := .agg #[.int .i64 pa, .int .i64 pl, .int .i64 pc]) (w' := w1) (by simp [execOp, go_sem, e43', s3, s4, s5]) (hK _ _ (Bel.refl _) rfl)
    | 45, _, ho, hdep, hK =>
      simp only [regSt, List.getElem?_toArray, List.getElem?_cons_zero, List.getElem?_cons_succ, Option.some.injEq] at ho
      subst ho
      obtain ⟨fg, dg⟩ := hdep ⟨39, .guard⟩ (by simp) rfl
      have eg : a.tmps.getD 58 undef = .bool true := (dg 58 rfl).trans fg
      refine ⟨fun _ => ?_, fun hw => (yw_t (d := 58) rfl rfl eg hw).elim⟩
      exact wp_val (v := .slice (some ⟨b2, o2, none⟩) n cb) (w' := w1) (by simp [execOp, go_sem, p1']) (hK _ _ (Bel.refl _) rfl)
    | 46, _, ho, hdep, hK =>
      simp only [regSt, List.getElem?_toArray, List.getElem?_cons_zero, List.getElem?_cons_succ, Option.some.injEq] at ho
      subst ho
      obtain ⟨fg, dg⟩ := hdep ⟨39, .guard⟩ (by simp) rfl
      have eg : a.tmps.getD 58 undef = .bool true := (dg 58 rfl).trans fg
      refine ⟨fun _ => ?_, fun hw => (yw_t (d := 58) rfl rfl eg hw).elim⟩
      exact wp_val (v := .int .i64 (j : Int)) (w' := w1) (by simp [execOp, go_sem, p7']) (hK _ _ (Bel.refl _) rfl)
    | 47, _, ho, hdep, hK =>
      simp only [regSt, List.getElem?_toArray, List.getElem?_cons_zero, List.getElem?_cons_succ, Option.some.injEq] at ho
      subst ho
      obtain ⟨fg, dg⟩ := hdep ⟨39, .guard⟩ (by simp) rfl
      have eg : a.tmps.getD 58 undef = .bool true := (dg 58 rfl).trans fg
      refine ⟨fun _ => ?_, fun hw => (yw_t (d := 58) rfl rfl eg hw).elim⟩
      obtain ⟨f45, d45⟩ := hdep ⟨45, .data⟩ (by simp) rfl
      have e45 : a.eval (.tmp 64) = .slice (some ⟨b2, o2, none⟩) n cb := (d45 64 rfl).trans f45
      have e45' : a.tmps[64]?.getD undef = .slice (some ⟨b2, o2, none⟩) n cb := by have h := e45; simp only [Act.eval, Array.getD_eq_getD_getElem?] at h; exact h
      obtain ⟨f46, d46⟩ := hdep ⟨46, .data⟩ (by simp) rfl
      have e46 : a.eval (.tmp 65) = .int .i64 (j : Int) := (d46 65 rfl).trans f46
      have e46' : a.tmps[65]?.getD undef = .int .i64 (j : Int) := by have h := e46; simp only [Act.eval, Array.getD_eq_getD_getElem?] at h; exact h
      exact wp_val (v := .pointer (some ⟨b2, o2 + j * 6, none⟩)) (w' := w1) (by simp [execOp, go_sem, e45', e46', i1, i2]) (hK _ _ (Bel.refl _) rfl)
    | 48, _, ho, hdep, hK =>
      simp only [regSt, List.getElem?_toArray, List.getElem?_cons_zero, List.getElem?_cons_succ, Option.some.injEq] at ho
      subst ho
      obtain ⟨fg, dg⟩ := hdep ⟨39, .guard⟩ (by simp) rfl
      have eg : a.tmps.getD 58 undef = .bool true := (dg 58 rfl).trans fg
      refine ⟨fun _ => ?_, fun hw => (yw_t (d := 58) rfl rfl eg hw).elim⟩
      obtain ⟨f47, d47⟩ := hdep ⟨47, .data⟩ (by simp) rfl
      have e47 : a.eval (.tmp 66) = .pointer (some ⟨b2, o2 + j * 6, none⟩) := (d47 66 rfl).trans f47
      have e47' : a.tmps[66]?.getD undef = .pointer (some ⟨b2, o2 + j * 6, none⟩) := by have h := e47; simp only [Act.eval, Array.getD_eq_getD_getElem?] at h; exact h
      exact wp_val (v := .pointer (some ⟨b2, o2 + j * 6 + 3, none⟩)) (w' := w1) (by simp [execOp, go_sem, e47']) (hK _ _ (Bel.refl _) rfl)
    | 49, _, ho, hdep, hK =>
      simp only [regSt, List.getElem?_toArray, List.getElem?_cons_zero, List.getElem?_cons_succ, Option.some.injEq] at ho
      subst ho
      obtain ⟨fg, dg⟩ := hdep ⟨39, .guard⟩ (by simp) rfl
      have eg : a.tmps.getD 58 undef = .bool true := (dg 58 rfl).trans fg
      refine ⟨fun _ => ?_, fun hw => (yw_t (d := 58) rfl rfl eg hw).elim⟩
      obtain ⟨f48, d48⟩ := hdep ⟨48, .data⟩ (by simp) rfl
      have e48 : a.eval (.tmp 67) = .pointer (some ⟨b2, o2 + j * 6 + 3, none⟩) := (d48 67 rfl).trans f48
      have e48' : a.tmps[67]?.getD undef = .pointer (some ⟨b2, o2 + j * 6 + 3, none⟩) := by have h := e48; simp only [Act.eval, Array.getD_eq_getD_getElem?] at h; exact h
      exact wp_val (v := .agg #[.int .i64 pa, .int .i64 pl, .int .i64 pc]) (w' := w1) (by simp [execOp, go_sem, e48', u3, u4, u5]) (hK _ _ (Bel.refl _) rfl)
    | 50, _, ho, hdep, hK =>
      simp only [regSt, List.getElem?_toArray, List.getElem?_cons_zero, List.getElem?_cons_succ, Option.some.injEq] at ho
      subst ho
      obtain ⟨fg, dg⟩ := hdep ⟨39, .guard⟩ (by simp) rfl
      have eg : a.tmps.getD 58 undef = .bool true := (dg 58 rfl).trans fg
      refine ⟨fun _ => ?_, fun hw => (yw_t (d := 58) rfl rfl eg hw).elim⟩
      obtain ⟨f44, d44⟩ := hdep ⟨44, .data⟩ (by simp) rfl
      have e44 : a.eval (.tmp 63) = .agg #[.int .i64 pa, .int .i64 pl, .int .i64 pc] := (d44 63 rfl).trans f44
      have e44' : a.tmps[63]?.getD undef = .agg #[.int .i64 pa, .int .i64 pl, .int .i64 pc] := by have h := e44; simp only [Act.eval, Array.getD_eq_getD_getElem?] at h; exact h
      obtain ⟨f49, d49⟩ := hdep ⟨49, .data⟩ (by simp) rfl
      have e49 : a.eval (.tmp 68) = .agg #[.int .i64 pa, .int .i64 pl, .int .i64 pc] := (d49 68 rfl).trans f49
      have e49' : a.tmps[68]?.getD undef = .agg #[.int .i64 pa, .int .i64 pl, .int .i64 pc] := by have h := e49; simp only [Act.eval, Array.getD_eq_getD_getElem?] at h; exact h
      exact wp_val (v := .bool false) (w' := w1) (by simp [execOp, go_sem, e44', e49', hps]) (hK _ _ (Bel.refl _) rfl)
    | 51, _, ho, hdep, hK =>
      simp only [regSt, List.getElem?_toArray, List.getElem?_cons_zero, List.getElem?_cons_succ, Option.some.injEq] at ho
      subst ho
      obtain ⟨fg, dg⟩ := hdep ⟨37, .guard⟩ (by simp) rfl
      have eg : a.tmps.getD 56 undef = .bool false := (dg 56 rfl).trans fg
      refine ⟨fun _ => ?_, fun hw => (yw_f (d := 56) rfl rfl eg hw).elim⟩
      obtain ⟨f39, d39⟩ := hdep ⟨39, .data⟩ (by simp) rfl
      have e39 : a.eval (.tmp 58) = .bool true := (d39 58 rfl).trans f39
      have e39' : a.tmps[58]?.getD undef = .bool true := by have h := e39; simp only [Act.eval, Array.getD_eq_getD_getElem?] at h; exact h
      obtain ⟨f50, d50⟩ := hdep ⟨50, .data⟩ (by simp) rfl
      have e50 : a.eval (.tmp 69) = .bool false := (d50 69 rfl).trans f50
      have e50' : a.tmps[69]?.getD undef = .bool false := by have h := e50; simp only [Act.eval, Array.getD_eq_getD_getElem?] at h; exact h
      exact wp_val (v := .bool false) (w' := w1) (by simp [execOp, go_sem, e39', e50']) (hK _ _ (Bel.refl _) rfl)
    | q + 52, hi, _, _, _ => exact absurd hi (by omega)
  · intro V w' hb hF
    have e : finA regSt.toArray 52 V (acOSt b1 o1 b2 o2 n ca cb j kx nx pa pl pc sx s3 s4 s5 s6 s8 s9 s10 s11 s12 s13 s14 s15 s16 s17 s18 s19 s20 s21 s22 s23 s24 s25 s26 s27 s28 s29 s30 s31 s32 s33 s34 s35 s36 s37 s38 s39 s40 s41 s42 s43 s44 s45 s46 s47 s48 s49 s50 s51 s52 s53 s54 s55 s56 s57 s58 s59 s60 s61 s62 s63 s64 s65 s66 s67 s68 s69 s70 s71 df) = acVSt b1 o1 b2 o2 n ca cb j kx nx pa pl pc sx s3 s4 s5 s6 s8 s9 s10 s11 s12 s13 s14 s15 s16 s17 s18 s19 s20 s21 s22 s23 s24 s25 s26 s27 s28 s29 s30 s31 s32 s33 s34 s35 s36 s37 s38 s39 s40 s41 s42 s43 s44 s45 s46 s47 s48 s49 s50 s51 s52 s53 s54 s55 s56 s57 s58 s59 s60 s61 s62 s63 s64 s65 s66 s67 s68 s69 s70 s71 df V := by kernel_rfl
    rw [e]
    exact hend V w' hb (hF 37 (by omega)) (hF 51 (by omega))
def regSf : List Oper := [
  { dst := some 19, op := Op.move (Operand.tmp 0), type := 26, pos := "ref.go:278", after := #[], guard := none },
  { dst := some 20, op := Op.move (Operand.tmp 7), type := 3, pos := "ref.go:278", after := #[], guard := none },
  { dst := some 21, op := Op.indexAddr 26 (Operand.tmp 19) (Operand.tmp 20), type := 0, pos := "ref.go:278", after := #[{ on := 0, ground := Ground.data }, { on := 1, ground := Ground.data }], guard := none },
  { dst := some 22, op := Op.fieldAddr 44 (Operand.tmp 21) 0, type := 0, pos := "ref.go:278", after := #[{ on := 2, ground := Ground.data }], guard := none },
  { dst := some 23, op := Op.load 5 (Operand.tmp 22), type := 5, pos := "ref.go:278", after := #[{ on := 3, ground := Ground.data }], guard := none },
  { dst := some 24, op := Op.move (Operand.tmp 1), type := 26, pos := "ref.go:278", after := #[], guard := none },
  { dst := some 25, op := Op.move (Operand.tmp 7), type := 3, pos := "ref.go:278", after := #[], guard := none },
  { dst := some 26, op := Op.indexAddr 26 (Operand.tmp 24) (Operand.tmp 25), type := 0, pos := "ref.go:278", after := #[{ on := 5, ground := Ground.data }, { on := 6, ground := Ground.data }], guard := none },
  { dst := some 27, op := Op.fieldAddr 44 (Operand.tmp 26) 0, type := 0, pos := "ref.go:278", after := #[{ on := 7, ground := Ground.data }], guard := none },
  { dst := some 28, op := Op.load 5 (Operand.tmp 27), type := 5, pos := "ref.go:278", after := #[{ on := 8, ground := Ground.data }], guard := none },
  { dst := some 29, op := Op.binOp BinOp.neq 5 (Operand.tmp 23) (Operand.tmp 28) 5, type := 4, pos := "ref.go:278", after := #[{ on := 4, ground := Ground.data }, { on := 9, ground := Ground.data }], guard := none },
  { dst := some 30, op := Op.move (Operand.tmp 29), type := 4, pos := "ref.go:278", after := #[{ on := 10, ground := Ground.data }], guard := none },
  { dst := some 31, op := Op.move (Operand.tmp 0), type := 26, pos := "ref.go:278", after := #[{ on := 11, ground := Ground.guard }], guard := some (11, false) },
  { dst := some 32, op := Op.move (Operand.tmp 7), type := 3, pos := "ref.go:278", after := #[{ on := 11, ground := Ground.guard }], guard := some (11, false) },
  { dst := some 33, op := Op.indexAddr 26 (Operand.tmp 31) (Operand.tmp 32), type := 0, pos := "ref.go:278", after := #[{ on := 12, ground := Ground.data }, { on := 13, ground := Ground.data }, { on := 11, ground := Ground.guard }], guard := some (11, false) },
  { dst := some 34, op := Op.fieldAddr 44 (Operand.tmp 33) 1, type := 0, pos := "ref.go:278", after := #[{ on := 14, ground := Ground.data }, { on := 11, ground := Ground.guard }], guard := some (11, false) },
  { dst := some 35, op := Op.load 9 (Operand.tmp 34), type := 9, pos := "ref.go:278", after := #[{ on := 15, ground := Ground.data }, { on := 11, ground := Ground.guard }], guard := some (11, false) },
  { dst := some 36, op := Op.move (Operand.tmp 1), type := 26, pos := "ref.go:278", after := #[{ on := 11, ground := Ground.guard }], guard := some (11, false) },
  { dst := some 37, op := Op.move (Operand.tmp 7), type := 3, pos := "ref.go:278", after := #[{ on := 11, ground := Ground.guard }], guard := some (11, false) },
  { dst := some 38, op := Op.indexAddr 26 (Operand.tmp 36) (Operand.tmp 37), type := 0, pos := "ref.go:278", after := #[{ on := 17, ground := Ground.data }, { on := 18, ground := Ground.data }, { on := 11, ground := Ground.guard }], guard := some (11, false) },
  { dst := some 39, op := Op.fieldAddr 44 (Operand.tmp 38) 1, type := 0, pos := "ref.go:278", after := #[{ on := 19, ground := Ground.data }, { on := 11, ground := Ground.guard }], guard := some (11, false) },
  { dst := some 40, op := Op.load 9 (Operand.tmp 39), type := 9, pos := "ref.go:278", after := #[{ on := 20, ground := Ground.data }, { on := 11, ground := Ground.guard }], guard := some (11, false) },
  { dst := some 41, op := Op.binOp BinOp.neq 9 (Operand.tmp 35) (Operand.tmp 40) 9, type := 4, pos := "ref.go:278", after := #[{ on := 16, ground := Ground.data }, { on := 21, ground := Ground.data }, { on := 11, ground := Ground.guard }], guard := some (11, false) },
  { dst := some 42, op := Op.pick (Operand.tmp 30) (Operand.const (Value.bool true)) (Operand.tmp 41), type := 4, pos := "ref.go:278", after := #[{ on := 11, ground := Ground.data }, { on := 22, ground := Ground.data }], guard := none },
  { dst := some 43, op := Op.move (Operand.tmp 42), type := 4, pos := "ref.go:278", after := #[{ on := 23, ground := Ground.data }, { on := 11, ground := Ground.chain }], guard := none },
  { dst := some 44, op := Op.move (Operand.tmp 0), type := 26, pos := "ref.go:278", after := #[{ on := 24, ground := Ground.guard }], guard := some (24, false) },
  { dst := some 45, op := Op.move (Operand.tmp 7), type := 3, pos := "ref.go:278", after := #[{ on := 24, ground := Ground.guard }], guard := some (24, false) },
  { dst := some 46, op := Op.indexAddr 26 (Operand.tmp 44) (Operand.tmp 45), type := 0, pos := "ref.go:278", after := #[{ on := 25, ground := Ground.data }, { on := 26, ground := Ground.data }, { on := 24, ground := Ground.guard }], guard := some (24, false) },
  { dst := some 47, op := Op.fieldAddr 44 (Operand.tmp 46) 2, type := 0, pos := "ref.go:278", after := #[{ on := 27, ground := Ground.data }, { on := 24, ground := Ground.guard }], guard := some (24, false) },
  { dst := some 48, op := Op.load 2 (Operand.tmp 47), type := 2, pos := "ref.go:278", after := #[{ on := 28, ground := Ground.data }, { on := 24, ground := Ground.guard }], guard := some (24, false) },
  { dst := some 49, op := Op.move (Operand.tmp 1), type := 26, pos := "ref.go:278", after := #[{ on := 24, ground := Ground.guard }], guard := some (24, false) },
  { dst := some 50, op := Op.move (Operand.tmp 7), type := 3, pos := "ref.go:278", after := #[{ on := 24, ground := Ground.guard }], guard := some (24, false) },
  { dst := some 51, op := Op.indexAddr 26 (Operand.tmp 49) (Operand.tmp 50), type := 0, pos := "ref.go:278", after := #[{ on := 30, ground := Ground.data }, { on := 31, ground := Ground.data }, { on := 24, ground := Ground.guard }], guard := some (24, false) },
  { dst := some 52, op := Op.fieldAddr 44 (Operand.tmp 51) 2, type := 0, pos := "ref.go:278", after := #[{ on := 32, ground := Ground.data }, { on := 24, ground := Ground.guard }], guard := some (24, false) },
  { dst := some 53, op := Op.load 2 (Operand.tmp 52), type := 2, pos := "ref.go:278", after := #[{ on := 33, ground := Ground.data }, { on := 24, ground := Ground.guard }], guard := some (24, false) },
  { dst := some 54, op := Op.binOp BinOp.neq 2 (Operand.tmp 48) (Operand.tmp 53) 2, type := 4, pos := "ref.go:278", after := #[{ on := 29, ground := Ground.data }, { on := 34, ground := Ground.data }, { on := 24, ground := Ground.guard }], guard := some (24, false) },
  { dst := some 55, op := Op.pick (Operand.tmp 43) (Operand.const (Value.bool true)) (Operand.tmp 54), type := 4, pos := "ref.go:278", after := #[{ on := 24, ground := Ground.data }, { on := 35, ground := Ground.data }], guard := none },
  { dst := some 56, op := Op.move (Operand.tmp 55), type := 4, pos := "ref.go:278", after := #[{ on := 36, ground := Ground.data }, { on := 24, ground := Ground.chain }], guard := none },
  { dst := some 57, op := Op.move (Operand.tmp 2), type := 4, pos := "ref.go:278", after := #[{ on := 37, ground := Ground.guard }], guard := some (37, false) },
  { dst := some 58, op := Op.move (Operand.tmp 57), type := 4, pos := "ref.go:278", after := #[{ on := 38, ground := Ground.data }, { on := 37, ground := Ground.chain }, { on := 37, ground := Ground.guard }], guard := some (37, false) },
  { dst := some 59, op := Op.move (Operand.tmp 0), type := 26, pos := "ref.go:278", after := #[{ on := 39, ground := Ground.guard }], guard := some (39, true) },
  { dst := some 60, op := Op.move (Operand.tmp 7), type := 3, pos := "ref.go:278", after := #[{ on := 39, ground := Ground.guard }], guard := some (39, true) },
  { dst := some 61, op := Op.indexAddr 26 (Operand.tmp 59) (Operand.tmp 60), type := 0, pos := "ref.go:278", after := #[{ on := 40, ground := Ground.data }, { on := 41, ground := Ground.data }, { on := 39, ground := Ground.guard }], guard := some (39, true) },
  { dst := some 62, op := Op.fieldAddr 44 (Operand.tmp 61) 3, type := 0, pos := "ref.go:278", after := #[{ on := 42, ground := Ground.data }, { on := 39, ground := Ground.guard }], guard := some (39, true) },
  { dst := some 63, op := Op.load 32 (Operand.tmp 62), type := 32, pos := "ref.go:278", after := #[{ on := 43, ground := Ground.data }, { on := 39, ground := Ground.guard }], guard := some (39, true) },
  { dst := some 64, op := Op.move (Operand.tmp 1), type := 26, pos := "ref.go:278", after := #[{ on := 39, ground := Ground.guard }], guard := some (39, true) },
  { dst := some 65, op := Op.move (Operand.tmp 7), type := 3, pos := "ref.go:278", after := #[{ on := 39, ground := Ground.guard }], guard := some (39, true) },
  { dst := some 66, op := Op.indexAddr 26 (Operand.tmp 64) (Operand.tmp 65), type := 0, pos := "ref.go:278", after := #[{ on := 45, ground := Ground.data }, { on := 46, ground := Ground.data }, { on := 39, ground := Ground.guard }], guard := some (39, true) },
  { dst := some 67, op := Op.fieldAddr 44 (Operand.tmp 66) 3, type := 0, pos := "ref.go:278", after := #[{ on := 47, ground := Ground.data }, { on := 39, ground := Ground.guard }], guard := some (39, true) },
  { dst := some 68, op := Op.load 32 (Operand.tmp 67), type := 32, pos := "ref.go:278", after := #[{ on := 48, ground := Ground.data }, { on := 39, ground := Ground.guard }], guard := some (39, true) },
  { dst := some 69, op := Op.binOp BinOp.neq 32 (Operand.tmp 63) (Operand.tmp 68) 32, type := 4, pos := "ref.go:278", after := #[{ on := 44, ground := Ground.data }, { on := 49, ground := Ground.data }, { on := 39, ground := Ground.guard }], guard := some (39, true) },
  { dst := some 70, op := Op.pick (Operand.tmp 58) (Operand.tmp 69) (Operand.const (Value.bool false)), type := 4, pos := "ref.go:278", after := #[{ on := 39, ground := Ground.data }, { on := 50, ground := Ground.data }, { on := 37, ground := Ground.guard }], guard := some (37, false) },
  { dst := some 71, op := Op.pick (Operand.tmp 56) (Operand.const (Value.bool true)) (Operand.tmp 70), type := 4, pos := "ref.go:278", after := #[{ on := 37, ground := Ground.data }, { on := 51, ground := Ground.data }], guard := none }]
def specSf (b1 o1 b2 o2 n ca cb j : Nat) (kx nx pa pl pc : Int) (sx : ByteArray) (i : Nat) (v : Value) (w : World) : Prop :=
  match i with
  | 0 => v = .slice (some ⟨b1, o1, none⟩) n ca
  | 1 => v = .int .i64 (j : Int)
  | 2 => v = .pointer (some ⟨b1, o1 + j * 6, none⟩)
  | 3 => v = .pointer (some ⟨b1, o1 + j * 6, none⟩)
  | 4 => v = .int .u8 kx
  | 5 => v = .slice (some ⟨b2, o2, none⟩) n cb
  | 6 => v = .int .i64 (j : Int)
  | 7 => v = .pointer (some ⟨b2, o2 + j * 6, none⟩)
  | 8 => v = .pointer (some ⟨b2, o2 + j * 6, none⟩)
  | 9 => v = .int .u8 kx
  | 10 => v = .bool false
  | 11 => v = .bool false
  | 12 => v = .slice (some ⟨b1, o1, none⟩) n ca
  | 13 => v = .int .i64 (j : Int)
  | 14 => v = .pointer (some ⟨b1, o1 + j * 6, none⟩)
  | 15 => v = .pointer (some ⟨b1, o1 + j * 6 + 1, none⟩)
  | 16 => v = .string sx
  | 17 => v = .slice (some ⟨b2, o2, none⟩) n cb
  | 18 => v = .int .i64 (j : Int)
  | 19 => v = .pointer (some ⟨b2, o2 + j * 6, none⟩)
  | 20 => v = .pointer (some ⟨b2, o2 + j * 6 + 1, none⟩)
  | 21 => v = .string sx
  | 22 => v = .bool false
  | 23 => v = .bool false
  | 24 => v = .bool false
  | 25 => v = .slice (some ⟨b1, o1, none⟩) n ca
  | 26 => v = .int .i64 (j : Int)
  | 27 => v = .pointer (some ⟨b1, o1 + j * 6, none⟩)
  | 28 => v = .pointer (some ⟨b1, o1 + j * 6 + 2, none⟩)
  | 29 => v = .int .i64 nx
  | 30 => v = .slice (some ⟨b2, o2, none⟩) n cb
  | 31 => v = .int .i64 (j : Int)
  | 32 => v = .pointer (some ⟨b2, o2 + j * 6, none⟩)
  | 33 => v = .pointer (some ⟨b2, o2 + j * 6 + 2, none⟩)
  | 34 => v = .int .i64 nx
  | 35 => v = .bool false
  | 36 => v = .bool false
  | 37 => v = .bool false
  | 38 => v = .bool false
  | 39 => v = .bool false
  | 40 => v = undef
  | 41 => v = undef
  | 42 => v = undef
  | 43 => v = undef
  | 44 => v = undef
  | 45 => v = undef
  | 46 => v = undef
  | 47 => v = undef
  | 48 => v = undef
  | 49 => v = undef
  | 50 => v = undef
  | 51 => v = .bool false
  | _ => True
theorem specSf_mono {b1 o1 b2 o2 n ca cb j : Nat} {kx nx pa pl pc : Int} {sx : ByteArray} (i : Nat) (v : Value) (w w' : World) (hi : i < 52) (h : specSf b1 o1 b2 o2 n ca cb j kx nx pa pl pc sx i v w) (hb : Bel w w') : specSf b1 o1 b2 o2 n ca cb j kx nx pa pl pc sx i v w' := by
  match i, hi, h with
  | 0, _, h => exact h
  | 1, _, h => exact h
  | 2, _, h => exact h
  | 3, _, h => exact h
  | 4, _, h => exact h
  | 5, _, h => exact h
  | 6, _, h => exact h
  | 7, _, h => exact h
  | 8, _, h => exact h
  | 9, _, h => exact h
  | 10, _, h => exact h
  | 11, _, h => exact h
  | 12, _, h => exact h
  | 13, _, h => exact h
  | 14, _, h => exact h
  | 15, _, h => exact h
  | 16, _, h => exact h
  | 17, _, h => exact h
  | 18, _, h => exact h
  | 19, _, h => exact h
  | 20, _, h => exact h
  | 21, _, h => exact h
  | 22, _, h => exact h
  | 23, _, h => exact h
  | 24, _, h => exact h
  | 25, _, h => exact h
  | 26, _, h => exact h
  | 27, _, h => exact h
  | 28, _, h => exact h
  | 29, _, h => exact h
  | 30, _, h => exact h
  | 31, _, h => exact h
  | 32, _, h => exact h
  | 33, _, h => exact h
  | 34, _, h => exact h
  | 35, _, h => exact h
  | 36, _, h => exact h
  | 37, _, h => exact h
  | 38, _, h => exact h
  | 39, _, h => exact h
  | 40, _, h => exact h
  | 41, _, h => exact h
  | 42, _, h => exact h
  | 43, _, h => exact h
  | 44, _, h => exact h
  | 45, _, h => exact h
  | 46, _, h => exact h
  | 47, _, h => exact h
  | 48, _, h => exact h
  | 49, _, h => exact h
  | 50, _, h => exact h
  | 51, _, h => exact h
  | q + 52, hi, _ => exact absurd hi (by omega)
def acOSf (b1 o1 b2 o2 n ca cb j : Nat) (kx nx pa pl pc : Int) (sx : ByteArray) (s3 s4 s5 s6 s8 s9 s10 s11 s12 s13 s14 s15 s16 s17 s18 s19 s20 s21 s22 s23 s24 s25 s26 s27 s28 s29 s30 s31 s32 s33 s34 s35 s36 s37 s38 s39 s40 s41 s42 s43 s44 s45 s46 s47 s48 s49 s50 s51 s52 s53 s54 s55 s56 s57 s58 s59 s60 s61 s62 s63 s64 s65 s66 s67 s68 s69 s70 s71 : Value) (df : List Deferred) : Act := { tmps := #[.slice (some ⟨b1, o1, none⟩) n ca, .slice (some ⟨b2, o2, none⟩) n cb, .bool false, s3, s4, s5, s6, .int .i64 (j : Int), s8, s9, s10, s11, s12, s13, s14, s15, s16, s17, s18, s19, s20, s21, s22, s23, s24, s25, s26, s27, s28, s29, s30, s31, s32, s33, s34, s35, s36, s37, s38, s39, s40, s41, s42, s43, s44, s45, s46, s47, s48, s49, s50, s51, s52, s53, s54, s55, s56, s57, s58, s59, s60, s61, s62, s63, s64, s65, s66, s67, s68, s69, s70, s71], defers := df }
def acVSf (b1 o1 b2 o2 n ca cb j : Nat) (kx nx pa pl pc : Int) (sx : ByteArray) (s3 s4 s5 s6 s8 s9 s10 s11 s12 s13 s14 s15 s16 s17 s18 s19 s20 s21 s22 s23 s24 s25 s26 s27 s28 s29 s30 s31 s32 s33 s34 s35 s36 s37 s38 s39 s40 s41 s42 s43 s44 s45 s46 s47 s48 s49 s50 s51 s52 s53 s54 s55 s56 s57 s58 s59 s60 s61 s62 s63 s64 s65 s66 s67 s68 s69 s70 s71 : Value) (df : List Deferred) (V : Nat → Value) : Act := { tmps := #[.slice (some ⟨b1, o1, none⟩) n ca, .slice (some ⟨b2, o2, none⟩) n cb, .bool false, s3, s4, s5, s6, .int .i64 (j : Int), s8, s9, s10, s11, s12, s13, s14, s15, s16, s17, s18, V 0, V 1, V 2, V 3, V 4, V 5, V 6, V 7, V 8, V 9, V 10, V 11, V 12, V 13, V 14, V 15, V 16, V 17, V 18, V 19, V 20, V 21, V 22, V 23, V 24, V 25, V 26, V 27, V 28, V 29, V 30, V 31, V 32, V 33, V 34, V 35, V 36, V 37, V 38, V 39, V 40, V 41, V 42, V 43, V 44, V 45, V 46, V 47, V 48, V 49, V 50, V 51, s71], defers := df }
theorem regSf_tail : tailB .any regSf.toArray 52 = true := by kernel_rfl
theorem regSf_fwd : fwdB regSf.toArray 52 = true := by kernel_rfl
theorem regSf_slots : slotsB regSf.toArray 72 = true := by kernel_rfl
theorem regSf_seq : Region.seqB .any regSf.toArray (regSf.length - 52) 52 (Array.replicate 52 true ++ Array.replicate (regSf.length - 52) false) = true := by kernel_rfl
set_option maxRecDepth 100000 in
set_option maxHeartbeats 8000000 in
theorem regSf_any {id : Nat} (b1 o1 b2 o2 n ca cb j : Nat) (kx nx pa pl pc : Int) (sx : ByteArray) (s3 s4 s5 s6 s8 s9 s10 s11 s12 s13 s14 s15 s16 s17 s18 s19 s20 s21 s22 s23 s24 s25 s26 s27 s28 s29 s30 s31 s32 s33 s34 s35 s36 s37 s38 s39 s40 s41 s42 s43 s44 s45 s46 s47 s48 s49 s50 s51 s52 s53 s54 s55 s56 s57 s58 s59 s60 s61 s62 s63 s64 s65 s66 s67 s68 s69 s70 s71 : Value) (df : List Deferred) (w : World) (i1 : (0 : Int) ≤ (j : Int)) (i2 : (j : Int) < (n : Int)) (h1 : b1 < w.drew.heap.size) (h2 : b2 < w.drew.heap.size) (a0 : w.drew.cell? ⟨b1, o1 + j * 6, none⟩ = some (.int .u8 kx)) (e0 : w.drew.cell? ⟨b2, o2 + j * 6, none⟩ = some (.int .u8 kx)) (a1 : w.drew.cell? ⟨b1, o1 + j * 6 + 1, none⟩ = some (.string sx)) (e1 : w.drew.cell? ⟨b2, o2 + j * 6 + 1, none⟩ = some (.string sx)) (a2 : w.drew.cell? ⟨b1, o1 + j * 6 + 2, none⟩ = some (.int .i64 nx)) (e2 : w.drew.cell? ⟨b2, o2 + j * 6 + 2, none⟩ = some (.int .i64 nx)) (Q : Exit → Act → World → Prop)
    (hend : ∀ (V : Nat → Value) (w' : World), Bel w.drew w' → ((V 37) = .bool false) → ((V 51) = .bool false) → wpList Tryz.prog regSf.toArray Q (regSf.drop 52) (acVSf b1 o1 b2 o2 n ca cb j kx nx pa pl pc sx s3 s4 s5 s6 s8 s9 s10 s11 s12 s13 s14 s15 s16 s17 s18 s19 s20 s21 s22 s23 s24 s25 s26 s27 s28 s29 s30 s31 s32 s33 s34 s35 s36 s37 s38 s39 s40 s41 s42 s43 s44 s45 s46 s47 s48 s49 s50 s51 s52 s53 s54 s55 s56 s57 s58 s59 s60 s61 s62 s63 s64 s65 s66 s67 s68 s69 s70 s71 df V) w') :
    (Code.region id regSf.toArray true).wp Tryz.prog Q (acOSf b1 o1 b2 o2 n ca cb j kx nx pa pl pc sx s3 s4 s5 s6 s8 s9 s10 s11 s12 s13 s14 s15 s16 s17 s18 s19 s20 s21 s22 s23 s24 s25 s26 s27 s28 s29 s30 s31 s32 s33 s34 s35 s36 s37 s38 s39 s40 s41 s42 s43 s44 s45 s46 s47 s48 s49 s50 s51 s52 s53 s54 s55 s56 s57 s58 s59 s60 s61 s62 s63 s64 s65 s66 s67 s68 s69 s70 s71 df) w := by
  refine wp_region_invG (l := regSf) 52 (acOSf b1 o1 b2 o2 n ca cb j kx nx pa pl pc sx s3 s4 s5 s6 s8 s9 s10 s11 s12 s13 s14 s15 s16 s17 s18 s19 s20 s21 s22 s23 s24 s25 s26 s27 s28 s29 s30 s31 s32 s33 s34 s35 s36 s37 s38 s39 s40 s41 s42 s43 s44 s45 s46 s47 s48 s49 s50 s51 s52 s53 s54 s55 s56 s57 s58 s59 s60 s61 s62 s63 s64 s65 s66 s67 s68 s69 s70 s71 df) w (specSf b1 o1 b2 o2 n ca cb j kx nx pa pl pc sx) (by kernel_rfl) regSf_tail regSf_fwd regSf_slots regSf_seq (fun i v w w' hi h hb => specSf_mono i v w w' hi h hb) ?_ ?_
  · intro i' o hi' ho a w1 V hbel hdep hpar K hK
    have p0 : a.eval (.tmp 0) = .slice (some ⟨b1, o1, none⟩) n ca := hpar 0 (by show 0 < 72; decide) (by kernel_rfl)
    have p0' : a.tmps[0]?.getD undef = .slice (some ⟨b1, o1, none⟩) n ca := by have h := p0; simp only [Act.eval, Array.getD_eq_getD_getElem?] at h; exact h
    have p1 : a.eval (.tmp 1) = .slice (some ⟨b2, o2, none⟩) n cb := hpar 1 (by show 1 < 72; decide) (by kernel_rfl)
    have p1' : a.tmps[1]?.getD undef = .slice (some ⟨b2, o2, none⟩) n cb := by have h := p1; simp only [Act.eval, Array.getD_eq_getD_getElem?] at h; exact h
    have p2 : a.eval (.tmp 2) = .bool false := hpar 2 (by show 2 < 72; decide) (by kernel_rfl)
    have p2' : a.tmps[2]?.getD undef = .bool false := by have h := p2; simp only [Act.eval, Array.getD_eq_getD_getElem?] at h; exact h
    have p7 : a.eval (.tmp 7) = .int .i64 (j : Int) := hpar 7 (by show 7 < 72; decide) (by kernel_rfl)
    have p7' : a.tmps[7]?.getD undef = .int .i64 (j : Int) := by have h := p7; simp only [Act.eval, Array.getD_eq_getD_getElem?] at h; exact h
    have s0 := (hbel.cell (p := ⟨b1, o1 + j * 6, none⟩) h1).trans a0
    have s1 := (hbel.cell (p := ⟨b1, o1 + j * 6 + 1, none⟩) h1).trans a1
    have s2 := (hbel.cell (p := ⟨b1, o1 + j * 6 + 2, none⟩) h1).trans a2
    have u0 := (hbel.cell (p := ⟨b2, o2 + j * 6, none⟩) h2).trans e0
    have u1 := (hbel.cell (p := ⟨b2, o2 + j * 6 + 1, none⟩) h2).trans e1
    have u2 := (hbel.cell (p := ⟨b2, o2 + j * 6 + 2, none⟩) h2).trans e2
    match i', hi', ho, hdep, hK with
    | 0, _, ho, hdep, hK =>
      simp only [regSf, List.getElem?_toArray, List.getElem?_cons_zero, Option.some.injEq] at ho
      subst ho
      refine ⟨fun _ => ?_, fun hw => (yw_n rfl hw).elim⟩
      exact wp_val (v := .slice (some ⟨b1, o1, none⟩) n ca) (w' := w1) (by simp [execOp, go_sem, p0']) (hK _ _ (Bel.refl _) rfl)
    | 1, _, ho, hdep, hK =>
      simp only [regSf, List.getElem?_toArray, List.getElem?_cons_zero, List.getElem?_cons_succ, Option.some.injEq] at ho
      subst ho
      refine ⟨fun _ => ?_, fun hw => (yw_n rfl hw).elim⟩
      exact wp_val (v := .int .i64 (j : Int)) (w' := w1) (by simp [execOp, go_sem, p7']) (hK _ _ (Bel.refl _) rfl)
    | 2, _, ho, hdep, hK =>
      simp only [regSf, List.getElem?_toArray, List.getElem?_cons_zero, List.getElem?_cons_succ, Option.some.injEq] at ho
      subst ho
      refine ⟨fun _ => ?_, fun hw => (yw_n rfl hw).elim⟩
      obtain ⟨f0, d0⟩ := hdep ⟨0, .data⟩ (by simp) rfl
      have e0 : a.eval (.tmp 19) = .slice (some ⟨b1, o1, none⟩) n ca := (d0 19 rfl).trans f0
      have e0' : a.tmps[19]?.getD undef = .slice (some ⟨b1, o1, none⟩) n ca := by have h := e0; simp only [Act.eval, Array.getD_eq_getD_getElem?] at h; exact h
      obtain ⟨f1, d1⟩ := hdep ⟨1, .data⟩ (by simp) rfl
      have e1 : a.eval (.tmp 20) = .int .i64 (j : Int) := (d1 20 rfl).trans f1
      have e1' : a.tmps[20]?.getD undef = .int .i64 (j : Int) := by have h := e1; simp only [Act.eval, Array.getD_eq_getD_getElem?] at h; exact h
      exact wp_val (v := .pointer (some ⟨b1, o1 + j * 6, none⟩)) (w' := w1) (by simp [execOp, go_sem, e0', e1', i1, i2]) (hK _ _ (Bel.refl _) rfl)
    | 3, _, ho, hdep, hK =>
      simp only [regSf, List.getElem?_toArray, List.getElem?_cons_zero, List.getElem?_cons_succ, Option.some.injEq] at ho
      subst ho
      refine ⟨fun _ => ?_, fun hw => (yw_n rfl hw).elim⟩
      obtain ⟨f2, d2⟩ := hdep ⟨2, .data⟩ (by simp) rfl
      have e2 : a.eval (.tmp 21) = .pointer (some ⟨b1, o1 + j * 6, none⟩) := (d2 21 rfl).trans f2
      have e2' : a.tmps[21]?.getD undef = .pointer (some ⟨b1, o1 + j * 6, none⟩) := by have h := e2; simp only [Act.eval, Array.getD_eq_getD_getElem?] at h; exact h
      exact wp_val (v := .pointer (some ⟨b1, o1 + j * 6, none⟩)) (w' := w1) (by simp [execOp, go_sem, e2']) (hK _ _ (Bel.refl _) rfl)
    | 4, _, ho, hdep, hK =>
      simp only [regSf, List.getElem?_toArray, List.getElem?_cons_zero, List.getElem?_cons_succ, Option.some.injEq] at ho
      subst ho
      refine ⟨fun _ => ?_, fun hw => (yw_n rfl hw).elim⟩
      obtain ⟨f3, d3⟩ := hdep ⟨3, .data⟩ (by simp) rfl
      have e3 : a.eval (.tmp 22) = .pointer (some ⟨b1, o1 + j * 6, none⟩) := (d3 22 rfl).trans f3
      have e3' : a.tmps[22]?.getD undef = .pointer (some ⟨b1, o1 + j * 6, none⟩) := by have h := e3; simp only [Act.eval, Array.getD_eq_getD_getElem?] at h; exact h
      exact wp_val (v := .int .u8 kx) (w' := w1) (by simp [execOp, go_sem, e3', s0]) (hK _ _ (Bel.refl _) rfl)
    | 5, _, ho, hdep, hK =>
      simp only [regSf, List.getElem?_toArray, List.getElem?_cons_zero, List.getElem?_cons_succ, Option.some.injEq] at ho
      subst ho
      refine ⟨fun _ => ?_, fun hw => (yw_n rfl hw).elim⟩
      exact wp_val (v := .slice (some ⟨b2, o2, none⟩) n cb) (w' := w1) (by simp [execOp, go_sem, p1']) (hK _ _ (Bel.refl _) rfl)
    | 6, _, ho, hdep, hK =>
      simp only [regSf, List.getElem?_toArray, List.getElem?_cons_zero, List.getElem?_cons_succ, Option.some.injEq] at ho
      subst ho
      refine ⟨fun _ => ?_, fun hw => (yw_n rfl hw).elim⟩
      exact wp_val (v := .int .i64 (j : Int)) (w' := w1) (by simp [execOp, go_sem, p7']) (hK _ _ (Bel.refl _) rfl)
    | 7, _, ho, hdep, hK =>
      simp only [regSf, List.getElem?_toArray, List.getElem?_cons_zero, List.getElem?_cons_succ, Option.some.injEq] at ho
      subst ho
      refine ⟨fun _ => ?_, fun hw => (yw_n rfl hw).elim⟩
      obtain ⟨f5, d5⟩ := hdep ⟨5, .data⟩ (by simp) rfl
      have e5 : a.eval (.tmp 24) = .slice (some ⟨b2, o2, none⟩) n cb := (d5 24 rfl).trans f5
      have e5' : a.tmps[24]?.getD undef = .slice (some ⟨b2, o2, none⟩) n cb := by have h := e5; simp only [Act.eval, Array.getD_eq_getD_getElem?] at h; exact h
      obtain ⟨f6, d6⟩ := hdep ⟨6, .data⟩ (by simp) rfl
      have e6 : a.eval (.tmp 25) = .int .i64 (j : Int) := (d6 25 rfl).trans f6
      have e6' : a.tmps[25]?.getD undef = .int .i64 (j : Int) := by have h := e6; simp only [Act.eval, Array.getD_eq_getD_getElem?] at h; exact h
      exact wp_val (v := .pointer (some ⟨b2, o2 + j * 6, none⟩)) (w' := w1) (by simp [execOp, go_sem, e5', e6', i1, i2]) (hK _ _ (Bel.refl _) rfl)
    | 8, _, ho, hdep, hK =>
      simp only [regSf, List.getElem?_toArray, List.getElem?_cons_zero, List.getElem?_cons_succ, Option.some.injEq] at ho
      subst ho
      refine ⟨fun _ => ?_, fun hw => (yw_n rfl hw).elim⟩
      obtain ⟨f7, d7⟩ := hdep ⟨7, .data⟩ (by simp) rfl
      have e7 : a.eval (.tmp 26) = .pointer (some ⟨b2, o2 + j * 6, none⟩) := (d7 26 rfl).trans f7
      have e7' : a.tmps[26]?.getD undef = .pointer (some ⟨b2, o2 + j * 6, none⟩) := by have h := e7; simp only [Act.eval, Array.getD_eq_getD_getElem?] at h; exact h
      exact wp_val (v := .pointer (some ⟨b2, o2 + j * 6, none⟩)) (w' := w1) (by simp [execOp, go_sem, e7']) (hK _ _ (Bel.refl _) rfl)
    | 9, _, ho, hdep, hK =>
      simp only [regSf, List.getElem?_toArray, List.getElem?_cons_zero, List.getElem?_cons_succ, Option.some.injEq] at ho
      subst ho
      refine ⟨fun _ => ?_, fun hw => (yw_n rfl hw).elim⟩
      obtain ⟨f8, d8⟩ := hdep ⟨8, .data⟩ (by simp) rfl
      have e8 : a.eval (.tmp 27) = .pointer (some ⟨b2, o2 + j * 6, none⟩) := (d8 27 rfl).trans f8
      have e8' : a.tmps[27]?.getD undef = .pointer (some ⟨b2, o2 + j * 6, none⟩) := by have h := e8; simp only [Act.eval, Array.getD_eq_getD_getElem?] at h; exact h
      exact wp_val (v := .int .u8 kx) (w' := w1) (by simp [execOp, go_sem, e8', u0]) (hK _ _ (Bel.refl _) rfl)
    | 10, _, ho, hdep, hK =>
      simp only [regSf, List.getElem?_toArray, List.getElem?_cons_zero, List.getElem?_cons_succ, Option.some.injEq] at ho
      subst ho
      refine ⟨fun _ => ?_, fun hw => (yw_n rfl hw).elim⟩
      obtain ⟨f4, d4⟩ := hdep ⟨4, .data⟩ (by simp) rfl
      have e4 : a.eval (.tmp 23) = .int .u8 kx := (d4 23 rfl).trans f4
      have e4' : a.tmps[23]?.getD undef = .int .u8 kx := by have h := e4; simp only [Act.eval, Array.getD_eq_getD_getElem?] at h; exact h
      obtain ⟨f9, d9⟩ := hdep ⟨9, .data⟩ (by simp) rfl
      have e9 : a.eval (.tmp 28) = .int .u8 kx := (d9 28 rfl).trans f9
      have e9' : a.tmps[28]?.getD undef = .int .u8 kx := by have h := e9; simp only [Act.eval, Array.getD_eq_getD_getElem?] at h; exact h
      exact wp_val (v := .bool false) (w' := w1) (by simp [execOp, go_sem, e4', e9']) (hK _ _ (Bel.refl _) rfl)
    | 11, _, ho, hdep, hK =>
      simp only [regSf, List.getElem?_toArray, List.getElem?_cons_zero, List.getElem?_cons_succ, Option.some.injEq] at ho
      subst ho
      refine ⟨fun _ => ?_, fun hw => (yw_n rfl hw).elim⟩
      obtain ⟨f10, d10⟩ := hdep ⟨10, .data⟩ (by simp) rfl
      have e10 : a.eval (.tmp 29) = .bool false := (d10 29 rfl).trans f10
      have e10' : a.tmps[29]?.getD undef = .bool false := by have h := e10; simp only [Act.eval, Array.getD_eq_getD_getElem?] at h; exact h
      exact wp_val (v := .bool false) (w' := w1) (by simp [execOp, go_sem, e10']) (hK _ _ (Bel.refl _) rfl)
    | 12, _, ho, hdep, hK =>
      simp only [regSf, List.getElem?_toArray, List.getElem?_cons_zero, List.getElem?_cons_succ, Option.some.injEq] at ho
      subst ho
      obtain ⟨fg, dg⟩ := hdep ⟨11, .guard⟩ (by simp) rfl
      have eg : a.tmps.getD 30 undef = .bool false := (dg 30 rfl).trans fg
      refine ⟨fun _ => ?_, fun hw => (yw_f (d := 30) rfl rfl eg hw).elim⟩
      exact wp_val (v := .slice (some ⟨b1, o1, none⟩) n ca) (w' := w1) (by simp [execOp, go_sem, p0']) (hK _ _ (Bel.refl _) rfl)
    | 13, _, ho, hdep, hK =>
      simp only [regSf, List.getElem?_toArray, List.getElem?_cons_zero, List.getElem?_cons_succ, Option.some.injEq] at ho
      subst ho
      obtain ⟨fg, dg⟩ := hdep ⟨11, .guard⟩ (by simp) rfl
      have eg : a.tmps.getD 30 undef = .bool false := (dg 30 rfl).trans fg
      refine ⟨fun _ => ?_, fun hw => (yw_f (d := 30) rfl rfl eg hw).elim⟩
      exact wp_val (v := .int .i64 (j : Int)) (w' := w1) (by simp [execOp, go_sem, p7']) (hK _ _ (Bel.refl _) rfl)
    | 14, _, ho, hdep, hK =>
      simp only [regSf, List.getElem?_toArray, List.getElem?_cons_zero, List.getElem?_cons_succ, Option.some.injEq] at ho
      subst ho
      obtain ⟨fg, dg⟩ := hdep ⟨11, .guard⟩ (by simp) rfl
      have eg : a.tmps.getD 30 undef = .bool false := (dg 30 rfl).trans fg
      refine ⟨fun _ => ?_, fun hw => (yw_f (d := 30) rfl rfl eg hw).elim⟩
      obtain ⟨f12, d12⟩ := hdep ⟨12, .data⟩ (by simp) rfl
      have e12 : a.eval (.tmp 31) = .slice (some ⟨b1, o1, none⟩) n ca := (d12 31 rfl).trans f12
      have e12' : a.tmps[31]?.getD undef = .slice (some ⟨b1, o1, none⟩) n ca := by have h := e12; simp only [Act.eval, Array.getD_eq_getD_getElem?] at h; exact h
      obtain ⟨f13, d13⟩ := hdep ⟨13, .data⟩ (by simp) rfl
      have e13 : a.eval (.tmp 32) = .int .i64 (j : Int) := (d13 32 rfl).trans f13
      have e13' : a.tmps[32]?.getD undef = .int .i64 (j : Int) := by have h := e13; simp only [Act.eval, Array.getD_eq_getD_getElem?] at h; exact h
      exact wp_val (v := .pointer (some ⟨b1, o1 + j * 6, none⟩)) (w' := w1) (by simp [execOp, go_sem, e12', e13', i1, i2]) (hK _ _ (Bel.refl _) rfl)
    | 15, _, ho, hdep, hK =>
      simp only [regSf, List.getElem?_toArray, List.getElem?_cons_zero, List.getElem?_cons_succ, Option.some.injEq] at ho
      subst ho
      obtain ⟨fg, dg⟩ := hdep ⟨11, .guard⟩ (by simp) rfl
      have eg : a.tmps.getD 30 undef = .bool false := (dg 30 rfl).trans fg
      refine ⟨fun _ => ?_, fun hw => (yw_f (d := 30) rfl rfl eg hw).elim⟩
      obtain ⟨f14, d14⟩ := hdep ⟨14, .data⟩ (by simp) rfl
      have e14 : a.eval (.tmp 33) = .pointer (some ⟨b1, o1 + j * 6, none⟩) := (d14 33 rfl).trans f14
      have e14' : a.tmps[33]?.getD undef = .pointer (some ⟨b1, o1 + j * 6, none⟩) := by have h := e14; simp only [Act.eval, Array.getD_eq_getD_getElem?] at h; exact h
      exact wp_val (v := .pointer (some ⟨b1, o1 + j * 6 + 1, none⟩)) (w' := w1) (by simp [execOp, go_sem, e14']) (hK _ _ (Bel.refl _) rfl)
    | 16, _, ho, hdep, hK =>
      simp only [regSf, List.getElem?_toArray, List.getElem?_cons_zero, List.getElem?_cons_succ, Option.some.injEq] at ho
      subst ho
      obtain ⟨fg, dg⟩ := hdep ⟨11, .guard⟩ (by simp) rfl
      have eg : a.tmps.getD 30 undef = .bool false := (dg 30 rfl).trans fg
      refine ⟨fun _ => ?_, fun hw => (yw_f (d := 30) rfl rfl eg hw).elim⟩
      obtain ⟨f15, d15⟩ := hdep ⟨15, .data⟩ (by simp) rfl
      have e15 : a.eval (.tmp 34) = .pointer (some ⟨b1, o1 + j * 6 + 1, none⟩) := (d15 34 rfl).trans f15
      have e15' : a.tmps[34]?.getD undef = .pointer (some ⟨b1, o1 + j * 6 + 1, none⟩) := by have h := e15; simp only [Act.eval, Array.getD_eq_getD_getElem?] at h; exact h
      exact wp_val (v := .string sx) (w' := w1) (by simp [execOp, go_sem, e15', s1]) (hK _ _ (Bel.refl _) rfl)
    | 17, _, ho, hdep, hK =>
      simp only [regSf, List.getElem?_toArray, List.getElem?_cons_zero, List.getElem?_cons_succ, Option.some.injEq] at ho
      subst ho
      obtain ⟨fg, dg⟩ := hdep ⟨11, .guard⟩ (by simp) rfl
      have eg : a.tmps.getD 30 undef = .bool false := (dg 30 rfl).trans fg
      refine ⟨fun _ => ?_, fun hw => (yw_f (d := 30) rfl rfl eg hw).elim⟩
      exact wp_val (v := .slice (some ⟨b2, o2, none⟩) n cb) (w' := w1) (by simp [execOp, go_sem, p1']) (hK _ _ (Bel.refl _) rfl)
    | 18, _, ho, hdep, hK =>
      simp only [regSf, List.getElem?_toArray, List.getElem?_cons_zero, List.getElem?_cons_succ, Option.some.injEq] at ho
      subst ho
      obtain ⟨fg, dg⟩ := hdep ⟨11, .guard⟩ (by simp) rfl
      have eg : a.tmps.getD 30 undef = .bool false := (dg 30 rfl).trans fg
      refine ⟨fun _ => ?_, fun hw => (yw_f (d := 30) rfl rfl eg hw).elim⟩
      exact wp_val (v := .int .i64 (j : Int)) (w' := w1) (by simp [execOp, go_sem, p7']) (hK _ _ (Bel.refl _) rfl)
    | 19, _, ho, hdep, hK =>
      simp only [regSf, List.getElem?_toArray, List.getElem?_cons_zero, List.getElem?_cons_succ, Option.some.injEq] at ho
      subst ho
      obtain ⟨fg, dg⟩ := hdep ⟨11, .guard⟩ (by simp) rfl
      have eg : a.tmps.getD 30 undef = .bool false := (dg 30 rfl).trans fg
      refine ⟨fun _ => ?_, fun hw => (yw_f (d := 30) rfl rfl eg hw).elim⟩
      obtain ⟨f17, d17⟩ := hdep ⟨17, .data⟩ (by simp) rfl
      have e17 : a.eval (.tmp 36) = .slice (some ⟨b2, o2, none⟩) n cb := (d17 36 rfl).trans f17
      have e17' : a.tmps[36]?.getD undef = .slice (some ⟨b2, o2, none⟩) n cb := by have h := e17; simp only [Act.eval, Array.getD_eq_getD_getElem?] at h; exact h
      obtain ⟨f18, d18⟩ := hdep ⟨18, .data⟩ (by simp) rfl
      have e18 : a.eval (.tmp 37) = .int .i64 (j : Int) := (d18 37 rfl).trans f18
      have e18' : a.tmps[37]?.getD undef = .int .i64 (j : Int) := by have h := e18; simp only [Act.eval, Array.getD_eq_getD_getElem?] at h; exact h
      exact wp_val (v := .pointer (some ⟨b2, o2 + j * 6, none⟩)) (w' := w1) (by simp [execOp, go_sem, e17', e18', i1, i2]) (hK _ _ (Bel.refl _) rfl)
    | 20, _, ho, hdep, hK =>
      simp only [regSf, List.getElem?_toArray, List.getElem?_cons_zero, List.getElem?_cons_succ, Option.some.injEq] at ho
      subst ho
      obtain ⟨fg, dg⟩ := hdep ⟨11, .guard⟩ (by simp) rfl
      have eg : a.tmps.getD 30 undef = .bool false := (dg 30 rfl).trans fg
      refine ⟨fun _ => ?_, fun hw => (yw_f (d := 30) rfl rfl eg hw).elim⟩
      obtain ⟨f19, d19⟩ := hdep ⟨19, .data⟩ (by simp) rfl
      have e19 : a.eval (.tmp 38) = .pointer (some ⟨b2, o2 + j * 6, none⟩) := (d19 38 rfl).trans f19
      have e19' : a.tmps[38]?.getD undef = .pointer (some ⟨b2, o2 + j * 6, none⟩) := by have h := e19; simp only [Act.eval, Array.getD_eq_getD_getElem?] at h; exact h
      exact wp_val (v := .pointer (some ⟨b2, o2 + j * 6 + 1, none⟩)) (w' := w1) (by simp [execOp, go_sem, e19']) (hK _ _ (Bel.refl _) rfl)
    | 21, _, ho, hdep, hK =>
      simp only [regSf, List.getElem?_toArray, List.getElem?_cons_zero, List.getElem?_cons_succ, Option.some.injEq] at ho
      subst ho
      obtain ⟨fg, dg⟩ := hdep ⟨11, .guard⟩ (by simp) rfl
      have eg : a.tmps.getD 30 undef = .bool false := (dg 30 rfl).trans fg
      refine ⟨fun _ => ?_, fun hw => (yw_f (d := 30) rfl rfl eg hw).elim⟩
      obtain ⟨f20, d20⟩ := hdep ⟨20, .data⟩ (by simp) rfl
      have e20 : a.eval (.tmp 39) = .pointer (some ⟨b2, o2 + j * 6 + 1, none⟩) := (d20 39 rfl).trans f20
      have e20' : a.tmps[39]?.getD undef = .pointer (some ⟨b2, o2 + j * 6 + 1, none⟩) := by have h := e20; simp only [Act.eval, Array.getD_eq_getD_getElem?] at h; exact h
      exact wp_val (v := .string sx) (w' := w1) (by simp [execOp, go_sem, e20', u1]) (hK _ _ (Bel.refl _) rfl)
    | 22, _, ho, hdep, hK =>
      simp only [regSf, List.getElem?_toArray, List.getElem?_cons_zero, List.getElem?_cons_succ, Option.some.injEq] at ho
      subst ho
      obtain ⟨fg, dg⟩ := hdep ⟨11, .guard⟩ (by simp) rfl
      have eg : a.tmps.getD 30 undef = .bool false := (dg 30 rfl).trans fg
      refine ⟨fun _ => ?_, fun hw => (yw_f (d := 30) rfl rfl eg hw).elim⟩
      obtain ⟨f16, d16⟩ := hdep ⟨16, .data⟩ (by simp) rfl
      have e16 : a.eval (.tmp 35) = .string sx := (d16 35 rfl).trans f16
      have e16' : a.tmps[35]?.getD undef = .string sx := by have h := e16; simp only [Act.eval, Array.getD_eq_getD_getElem?] at h; exact h
      obtain ⟨f21, d21⟩ := hdep ⟨21, .data⟩ (by simp) rfl
      have e21 : a.eval (.tmp 40) = .string sx := (d21 40 rfl).trans f21
      have e21' : a.tmps[40]?.getD undef = .string sx := by have h := e21; simp only [Act.eval, Array.getD_eq_getD_getElem?] at h; exact h
      exact wp_val (v := .bool false) (w' := w1) (by simp [execOp, go_sem, e16', e21']) (hK _ _ (Bel.refl _) rfl)
    | 23, _, ho, hdep, hK =>
      simp only [regSf, List.getElem?_toArray, List.getElem?_cons_zero, List.getElem?_cons_succ, Option.some.injEq] at ho
      subst ho
      refine ⟨fun _ => ?_, fun hw => (yw_n rfl hw).elim⟩
      obtain ⟨f11, d11⟩ := hdep ⟨11, .data⟩ (by simp) rfl
      have e11 : a.eval (.tmp 30) = .bool false := (d11 30 rfl).trans f11
      have e11' : a.tmps[30]?.getD undef = .bool false := by have h := e11; simp only [Act.eval, Array.getD_eq_getD_getElem?] at h; exact h
      obtain ⟨f22, d22⟩ := hdep ⟨22, .data⟩ (by simp) rfl
      have e22 : a.eval (.tmp 41) = .bool false := (d22 41 rfl).trans f22
      have e22' : a.tmps[41]?.getD undef = .bool false := by have h := e22; simp only [Act.eval, Array.getD_eq_getD_getElem?] at h; exact h
      exact wp_val (v := .bool false) (w' := w1) (by simp [execOp, go_sem, e11', e22']) (hK _ _ (Bel.refl _) rfl)
    | 24, _, ho, hdep, hK =>
      simp only [regSf, List.getElem?_toArray, List.getElem?_cons_zero, List.getElem?_cons_succ, Option.some.injEq] at ho
      subst ho
      refine ⟨fun _ => ?_, fun hw => (yw_n rfl hw).elim⟩
      obtain ⟨f23, d23⟩ := hdep ⟨23, .data⟩ (by simp) rfl
      have e23 : a.eval (.tmp 42) = .bool false := (d23 42 rfl).trans f23
      have e23' : a.tmps[42]?.getD undef = .bool false := by have h := e23; simp only [Act.eval, Array.getD_eq_getD_getElem?] at h; exact h
      exact wp_val (v := .bool false) (w' := w1) (by simp [execOp, go_sem, e23']) (hK _ _ (Bel.refl _) rfl)
    | 25, _, ho, hdep, hK =>
      simp only [regSf, List.getElem?_toArray, List.getElem?_cons_zero, List.getElem?_cons_succ, Option.some.injEq] at ho
      subst ho
      obtain ⟨fg, dg⟩ := hdep ⟨24, .guard⟩ (by simp) rfl
      have eg : a.tmps.getD 43 undef = .bool false := (dg 43 rfl).trans fg
      refine ⟨fun _ => ?_, fun hw => (yw_f (d := 43) rfl rfl eg hw).elim⟩
      exact wp_val (v := .slice (some ⟨b1, o1, none⟩) n ca) (w' := w1) (by simp [execOp, go_sem, p0']) (hK _ _ (Bel.refl _) rfl)
    | 26, _, ho, hdep, hK =>
      simp only [regSf, List.getElem?_toArray, List.getElem?_cons_zero, List.getElem?_cons_succ, Option.some.injEq] at ho
      subst ho
      obtain ⟨fg, dg⟩ := hdep ⟨24, .guard⟩ (by simp) rfl
      have eg : a.tmps.getD 43 undef = .bool false := (dg 43 rfl).trans fg
      refine ⟨fun _ => ?_, fun hw => (yw_f (d := 43) rfl rfl eg hw).elim⟩
      exact wp_val (v := .int .i64 (j : Int)) (w' := w1) (by simp [execOp, go_sem, p7']) (hK _ _ (Bel.refl _) rfl)
    | 27, _, ho, hdep, hK =>
      simp only [regSf, List.getElem?_toArray, List.getElem?_cons_zero, List.getElem?_cons_succ, Option.some.injEq] at ho
      subst ho
      obtain ⟨fg, dg⟩ := hdep ⟨24, .guard⟩ (by simp) rfl
      have eg : a.tmps.getD 43 undef = .bool false := (dg 43 rfl).trans fg
      refine ⟨fun _ => ?_, fun hw => (yw_f (d := 43) rfl rfl eg hw).elim⟩
      obtain ⟨f25, d25⟩ := hdep ⟨25, .data⟩ (by simp) rfl
      have e25 : a.eval (.tmp 44) = .slice (some ⟨b1, o1, none⟩) n ca := (d25 44 rfl).trans f25
      have e25' : a.tmps[44]?.getD undef = .slice (some ⟨b1, o1, none⟩) n ca := by have h := e25; simp only [Act.eval, Array.getD_eq_getD_getElem?] at h; exact h
      obtain ⟨f26, d26⟩ := hdep ⟨26, .data⟩ (by simp) rfl
      have e26 : a.eval (.tmp 45) = .int .i64 (j : Int) := (d26 45 rfl).trans f26
      have e26' : a.tmps[45]?.getD undef = .int .i64 (j : Int) := by have h := e26; simp only [Act.eval, Array.getD_eq_getD_getElem?] at h; exact h
      exact wp_val (v := .pointer (some ⟨b1, o1 + j * 6, none⟩)) (w' := w1) (by simp [execOp, go_sem, e25', e26', i1, i2]) (hK _ _ (Bel.refl _) rfl)
    | 28, _, ho, hdep, hK =>
      simp only [regSf, List.getElem?_toArray, List.getElem?_cons_zero, List.getElem?_cons_succ, Option.some.injEq] at ho
      subst ho
      obtain ⟨fg, dg⟩ := hdep ⟨24, .guard⟩ (by simp) rfl
      have eg : a.tmps.getD 43 undef = .bool false := (dg 43 rfl).trans fg
      refine ⟨fun _ => ?_, fun hw => (yw_f (d := 43) rfl rfl eg hw).elim⟩
      obtain ⟨f27, d27⟩ := hdep ⟨27, .data⟩ (by simp) rfl
      have e27 : a.eval (.tmp 46) = .pointer (some ⟨b1, o1 + j * 6, none⟩) := (d27 46 rfl).trans f27
      have e27' : a.tmps[46]?.getD undef = .pointer (some ⟨b1, o1 + j * 6, none⟩) := by have h := e27; simp only [Act.eval, Array.getD_eq_getD_getElem?] at h; exact h
      exact wp_val (v := .pointer (some ⟨b1, o1 + j * 6 + 2, none⟩)) (w' := w1) (by simp [execOp, go_sem, e27']) (hK _ _ (Bel.refl _) rfl)
    | 29, _, ho, hdep, hK =>
      simp only [regSf, List.getElem?_toArray, List.getElem?_cons_zero, List.getElem?_cons_succ, Option.some.injEq] at ho
      subst ho
      obtain ⟨fg, dg⟩ := hdep ⟨24, .guard⟩ (by simp) rfl
      have eg : a.tmps.getD 43 undef = .bool false := (dg 43 rfl).trans fg
      refine ⟨fun _ => ?_, fun hw => (yw_f (d := 43) rfl rfl eg hw).elim⟩
      obtain ⟨f28, d28⟩ := hdep ⟨28, .data⟩ (by simp) rfl
      have e28 : a.eval (.tmp 47) = .pointer (some ⟨b1, o1 + j * 6 + 2, none⟩) := (d28 47 rfl).trans f28
      have e28' : a.tmps[47]?.getD undef = .pointer (some ⟨b1, o1 + j * 6 + 2, none⟩) := by have h := e28; simp only [Act.eval, Array.getD_eq_getD_getElem?] at h; exact h
      exact wp_val (v := .int .i64 nx) (w' := w1) (by simp [execOp, go_sem, e28', s2]) (hK _ _ (Bel.refl _) rfl)
    | 30, _, ho, hdep, hK =>
      simp only [regSf, List.getElem?_toArray, List.getElem?_cons_zero, List.getElem?_cons_succ, Option.some.injEq] at ho
      subst ho
      obtain ⟨fg, dg⟩ := hdep ⟨24, .guard⟩ (by simp) rfl
      have eg : a.tmps.getD 43 undef = .bool false := (dg 43 rfl).trans fg
      refine ⟨fun _ => ?_, fun hw => (yw_f (d := 43) rfl rfl eg hw).elim⟩
      exact wp_val (v := .slice (some ⟨b2, o2, none⟩) n cb) (w' := w1) (by simp [execOp, go_sem, p1']) (hK _ _ (Bel.refl _) rfl)
    | 31, _, ho, hdep, hK =>
      simp only [regSf, List.getElem?_toArray, List.getElem?_cons_zero, List.getElem?_cons_succ, Option.some.injEq] at ho
      subst ho
      obtain ⟨fg, dg⟩ := hdep ⟨24, .guard⟩ (by simp) rfl
      have eg : a.tmps.getD 43 undef = .bool false := (dg 43 rfl).trans fg
      refine ⟨fun _ => ?_, fun hw => (yw_f (d := 43) rfl rfl eg hw).elim⟩
      exact wp_val (v := .int .i64 (j : Int)) (w' := w1) (by simp [execOp, go_sem, p7']) (hK _ _ (Bel.refl _) rfl)
    | 32, _, ho, hdep, hK =>
      simp only [regSf, List.getElem?_toArray, List.getElem?_cons_zero, List.getElem?_cons_succ, Option.some.injEq] at ho
      subst ho
      obtain ⟨fg, dg⟩ := hdep ⟨24, .guard⟩ (by simp) rfl
      have eg : a.tmps.getD 43 undef = .bool false := (dg 43 rfl).trans fg
      refine ⟨fun _ => ?_, fun hw => (yw_f (d := 43) rfl rfl eg hw).elim⟩
      obtain ⟨f30, d30⟩ := hdep ⟨30, .data⟩ (by simp) rfl
      have e30 : a.eval (.tmp 49) = .slice (some ⟨b2, o2, none⟩) n cb := (d30 49 rfl).trans f30
      have e30' : a.tmps[49]?.getD undef = .slice (some ⟨b2, o2, none⟩) n cb := by have h := e30; simp only [Act.eval, Array.getD_eq_getD_getElem?] at h; exact h
      obtain ⟨f31, d31⟩ := hdep ⟨31, .data⟩ (by simp) rfl
      have e31 : a.eval (.tmp 50) = .int .i64 (j : Int) := (d31 50 rfl).trans f31
      have e31' : a.tmps[50]?.getD undef = .int .i64 (j : Int) := by have h := e31; simp only [Act.eval, Array.getD_eq_getD_getElem?] at h; exact h
      exact wp_val (v := .pointer (some ⟨b2, o2 + j * 6, none⟩)) (w' := w1) (by simp [execOp, go_sem, e30', e31', i1, i2]) (hK _ _ (Bel.refl _) rfl)
    | 33, _, ho, hdep, hK =>
      simp only [regSf, List.getElem?_toArray, List.getElem?_cons_zero, List.getElem?_cons_succ, Option.some.injEq] at ho
      subst ho
      obtain ⟨fg, dg⟩ := hdep ⟨24, .guard⟩ (by simp) rfl
      have eg : a.tmps.getD 43 undef = .bool false := (dg 43 rfl).trans fg
      refine ⟨fun _ => ?_, fun hw => (yw_f (d := 43) rfl rfl eg hw).elim⟩
      obtain ⟨f32, d32⟩ := hdep ⟨32, .data⟩ (by simp) rfl
      have e32 : a.eval (.tmp 51) = .pointer (some ⟨b2, o2 + j * 6, none⟩) := (d32 51 rfl).trans f32
      have e32' : a.tmps[51]?.getD undef = .pointer (some ⟨b2, o2 + j * 6, none⟩) := by have h := e32; simp only [Act.eval, Array.getD_eq_getD_getElem?] at h; exact h
      exact wp_val (v := .pointer (some ⟨b2, o2 + j * 6 + 2, none⟩)) (w' := w1) (by simp [execOp, go_sem, e32']) (hK _ _ (Bel.refl _) rfl)
    | 34, _, ho, hdep, hK =>
      simp only [regSf, List.getElem?_toArray, List.getElem?_cons_zero, List.getElem?_cons_succ, Option.some.injEq] at ho
      subst ho
      obtain ⟨fg, dg⟩ := hdep ⟨24, .guard⟩ (by simp) rfl
      have eg : a.tmps.getD 43 undef = .bool false := (dg 43 rfl).trans fg
      refine ⟨fun _ => ?_, fun hw => (yw_f (d := 43) rfl rfl eg hw).elim⟩
      obtain ⟨f33, d33⟩ := hdep ⟨33, .data⟩ (by simp) rfl
      have e33 : a.eval (.tmp 52) = .pointer (some ⟨b2, o2 + j * 6 + 2, none⟩) := (d33 52 rfl).trans f33
      have e33' : a.tmps[52]?.getD undef = .pointer (some ⟨b2, o2 + j * 6 + 2, none⟩) := by have h := e33; simp only [Act.eval, Array.getD_eq_getD_getElem?] at h; exact h
      exact wp_val (v := .int .i64 nx) (w' := w1) (by simp [execOp, go_sem, e33', u2]) (hK _ _ (Bel.refl _) rfl)
    | 35, _, ho, hdep, hK =>
      simp only [regSf, List.getElem?_toArray, List.getElem?_cons_zero, List.getElem?_cons_succ, Option.some.injEq] at ho
      subst ho
      obtain ⟨fg, dg⟩ := hdep ⟨24, .guard⟩ (by simp) rfl
      have eg : a.tmps.getD 43 undef = .bool false := (dg 43 rfl).trans fg
      refine ⟨fun _ => ?_, fun hw => (yw_f (d := 43) rfl rfl eg hw).elim⟩
      obtain ⟨f29, d29⟩ := hdep ⟨29, .data⟩ (by simp) rfl
      have e29 : a.eval (.tmp 48) = .int .i64 nx := (d29 48 rfl).trans f29
      have e29' : a.tmps[48]?.getD undef = .int .i64 nx := by have h := e29; simp only [Act.eval, Array.getD_eq_getD_getElem?] at h; exact h
      obtain ⟨f34, d34⟩ := hdep ⟨34, .data⟩ (by simp) rfl
      have e34 : a.eval (.tmp 53) = .int .i64 nx := (d34 53 rfl).trans f34
      have e34' : a.tmps[53]?.getD undef = .int .i64 nx := by have h := e34; simp only [Act.eval, Array.getD_eq_getD_getElem?] at h; exact h
      exact wp_val (v := .bool false) (w' := w1) (by simp [execOp, go_sem, e29', e34']) (hK _ _ (Bel.refl _) rfl)
    | 36, _, ho, hdep, hK =>
      simp only [regSf, List.getElem?_toArray, List.getElem?_cons_zero, List.getElem?_cons_succ, Option.some.injEq] at ho
      subst ho
      refine ⟨fun _ => ?_, fun hw => (yw_n rfl hw).elim⟩
      obtain ⟨f24, d24⟩ := hdep ⟨24, .data⟩ (by simp) rfl
      have e24 : a.eval (.tmp 43) = .bool false := (d24 43 rfl).trans f24
      have e24' : a.tmps[43]?.getD undef = .bool false := by have h := e24; simp only [Act.eval, Array.getD_eq_getD_getElem?] at h; exact h
      obtain ⟨f35, d35⟩ := hdep ⟨35, .data⟩ (by simp) rfl
      have e35 : a.eval (.tmp 54) = .bool false := (d35 54 rfl).trans f35
      have e35' : a.tmps[54]?.getD undef = .bool false := by have h := e35; simp only [Act.eval, Array.getD_eq_getD_getElem?] at h; exact h
      exact wp_val (v := .bool false) (w' := w1) (by simp [execOp, go_sem, e24', e35']) (hK _ _ (Bel.refl _) rfl)
    | 37, _, ho, hdep, hK =>
      simp only [regSf, List.getElem?_toArray, List.getElem?_cons_zero, List.getElem?_cons_succ, Option.some.injEq] at ho
      subst ho
      refine ⟨fun _ => ?_, fun hw => (yw_n rfl hw).elim⟩
      obtain ⟨f36, d36⟩ := hdep ⟨36, .data⟩ (by simp) rfl
      have e36 : a.eval (.tmp 55) = .bool false := (d36 55 rfl).trans f36
      have e36' : a.tmps[55]?.getD undef = .bool false := by have h := e36; simp only [Act.eval, Array.getD_eq_getD_getElem?] at h; exact h
      exact wp_val (v := .bool false) (w' := w1) (by simp [execOp, go_sem, e36']) (hK _ _ (Bel.refl _) rfl)
    | 38, _, ho, hdep, hK =>
      simp only [regSf, List.getElem?_toArray, List.getElem?_cons_zero, List.getElem?_cons_succ, Option.some.injEq] at ho
      subst ho
      obtain ⟨fg, dg⟩ := hdep ⟨37, .guard⟩ (by simp) rfl
      have eg : a.tmps.getD 56 undef = .bool false := (dg 56 rfl).trans fg
      refine ⟨fun _ => ?_, fun hw => (yw_f (d := 56) rfl rfl eg hw).elim⟩
      exact wp_val (v := .bool false) (w' := w1) (by simp [execOp, go_sem, p2']) (hK _ _ (Bel.refl _) rfl)
    | 39, _, ho, hdep, hK =>
      simp only [regSf, List.getElem?_toArray, List.getElem?_cons_zero, List.getElem?_cons_succ, Option.some.injEq] at ho
      subst ho
      obtain ⟨fg, dg⟩ := hdep ⟨37, .guard⟩ (by simp) rfl
      have eg : a.tmps.getD 56 undef = .bool false := (dg 56 rfl).trans fg
      refine ⟨fun _ => ?_, fun hw => (yw_f (d := 56) rfl rfl eg hw).elim⟩
      obtain ⟨f38, d38⟩ := hdep ⟨38, .data⟩ (by simp) rfl
      have e38 : a.eval (.tmp 57) = .bool false := (d38 57 rfl).trans f38
      have e38' : a.tmps[57]?.getD undef = .bool false := by have h := e38; simp only [Act.eval, Array.getD_eq_getD_getElem?] at h; exact h
      exact wp_val (v := .bool false) (w' := w1) (by simp [execOp, go_sem, e38']) (hK _ _ (Bel.refl _) rfl)
    | 40, _, ho, hdep, hK =>
      simp only [regSf, List.getElem?_toArray, List.getElem?_cons_zero, List.getElem?_cons_succ, Option.some.injEq] at ho
      subst ho
      obtain ⟨fg, dg⟩ := hdep ⟨39, .guard⟩ (by simp) rfl
      have eg : a.tmps.getD 58 undef = .bool false := (dg 58 rfl).trans fg
      exact ⟨fun hw => (nw_t (d := 58) rfl rfl eg hw).elim, fun _ => rfl⟩
    | 41, _, ho, hdep, hK =>
      simp only [regSf, List.getElem?_toArray, List.getElem?_cons_zero, List.getElem?_cons_succ, Option.some.injEq] at ho
      subst ho
      obtain ⟨fg, dg⟩ := hdep ⟨39, .guard⟩ (by simp) rfl
      have eg : a.tmps.getD 58 undef = .bool false := (dg 58 rfl).trans fg
      exact ⟨fun hw => (nw_t (d := 58) rfl rfl eg hw).elim, fun _ => rfl⟩
    | 42, _, ho, hdep, hK =>
      simp only [regSf, List.getElem?_toArray, List.getElem?_cons_zero, List.getElem?_cons_succ, Option.some.injEq] at ho
      subst ho
      obtain ⟨fg, dg⟩ := hdep ⟨39, .guard⟩ (by simp) rfl
      have eg : a.tmps.getD 58 undef = .bool false := (dg 58 rfl).trans fg
      exact ⟨fun hw => (nw_t (d := 58) rfl rfl eg hw).elim, fun _ => rfl⟩
    | 43, _, ho, hdep, hK =>
      simp only [regSf, List.getElem?_toArray, List.getElem?_cons_zero, List.getElem?_cons_succ, Option.some.injEq] at ho
      subst ho
      obtain ⟨fg, dg⟩ := hdep ⟨39, .guard⟩ (by simp) rfl
      have eg : a.tmps.getD 58 undef = .bool false := (dg 58 rfl).trans fg
      exact ⟨fun hw => (nw_t (d := 58) rfl rfl eg hw).elim, fun _ => rfl⟩
    | 44, _, ho, hdep, hK =>
      simp only [regSf, List.getElem?_toArray, List.getElem?_cons_zero, List.getElem?_cons_succ, Option.some.injEq] at ho
      subst ho
      obtain ⟨fg, dg⟩ := hdep ⟨39, .guard⟩ (by simp) rfl
      have eg : a.tmps.getD 58 undef = .bool false := (dg 58 rfl).trans fg
      exact ⟨fun hw => (nw_t (d := 58) rfl rfl eg hw).elim, fun _ => rfl⟩
    | 45, _, ho, hdep, hK =>
      simp only [regSf, List.getElem?_toArray, List.getElem?_cons_zero, List.getElem?_cons_succ, Option.some.injEq] at ho
      subst ho
      obtain ⟨fg, dg⟩ := hdep ⟨39, .guard⟩ (by simp) rfl
      have eg : a.tmps.getD 58 undef = .bool false := (dg 58 rfl).trans fg
      exact ⟨fun hw => (nw_t (d := 58) rfl rfl eg hw).elim, fun _ => rfl⟩
    | 46, _, ho, hdep, hK =>
      simp only [regSf, List.getElem?_toArray, List.getElem?_cons_zero, List.getElem?_cons_succ, Option.some.injEq] at ho
      subst ho
      obtain ⟨fg, dg⟩ := hdep ⟨39, .guard⟩ (by simp) rfl
      have eg : a.tmps.getD 58 undef = .bool false := (dg 58 rfl).trans fg
      exact ⟨fun hw => (nw_t (d := 58) rfl rfl eg hw).elim, fun _ => rfl⟩
    | 47, _, ho, hdep, hK =>
      simp only [regSf, List.getElem?_toArray, List.getElem?_cons_zero, List.getElem?_cons_succ, Option.some.injEq] at ho
      subst ho
      obtain ⟨fg, dg⟩ := hdep ⟨39, .guard⟩ (by simp) rfl
      have eg : a.tmps.getD 58 undef = .bool false := (dg 58 rfl).trans fg
      exact ⟨fun hw => (nw_t (d := 58) rfl rfl eg hw).elim, fun _ => rfl⟩
    | 48, _, ho, hdep, hK =>
      simp only [regSf, List.getElem?_toArray, List.getElem?_cons_zero, List.getElem?_cons_succ, Option.some.injEq] at ho
      subst ho
      obtain ⟨fg, dg⟩ := hdep ⟨39, .guard⟩ (by simp) rfl
      have eg : a.tmps.getD 58 undef = .bool false := (dg 58 rfl).trans fg
      exact ⟨fun hw => (nw_t (d := 58) rfl rfl eg hw).elim, fun _ => rfl⟩
    | 49, _, ho, hdep, hK =>
      simp only [regSf, List.getElem?_toArray, List.getElem?_cons_zero, List.getElem?_cons_succ, Option.some.injEq] at ho
      subst ho
      obtain ⟨fg, dg⟩ := hdep ⟨39, .guard⟩ (by simp) rfl
      have eg : a.tmps.getD 58 undef = .bool false := (dg 58 rfl).trans fg
      exact ⟨fun hw => (nw_t (d := 58) rfl rfl eg hw).elim, fun _ => rfl⟩
    | 50, _, ho, hdep, hK =>
      simp only [regSf, List.getElem?_toArray, List.getElem?_cons_zero, List.getElem?_cons_succ, Option.some.injEq] at ho
      subst ho
      obtain ⟨fg, dg⟩ := hdep ⟨39, .guard⟩ (by simp) rfl
      have eg : a.tmps.getD 58 undef = .bool false := (dg 58 rfl).trans fg
      exact ⟨fun hw => (nw_t (d := 58) rfl rfl eg hw).elim, fun _ => rfl⟩
    | 51, _, ho, hdep, hK =>
      simp only [regSf, List.getElem?_toArray, List.getElem?_cons_zero, List.getElem?_cons_succ, Option.some.injEq] at ho
      subst ho
      obtain ⟨fg, dg⟩ := hdep ⟨37, .guard⟩ (by simp) rfl
      have eg : a.tmps.getD 56 undef = .bool false := (dg 56 rfl).trans fg
      refine ⟨fun _ => ?_, fun hw => (yw_f (d := 56) rfl rfl eg hw).elim⟩
      obtain ⟨f39, d39⟩ := hdep ⟨39, .data⟩ (by simp) rfl
      have e39 : a.eval (.tmp 58) = .bool false := (d39 58 rfl).trans f39
      have e39' : a.tmps[58]?.getD undef = .bool false := by have h := e39; simp only [Act.eval, Array.getD_eq_getD_getElem?] at h; exact h
      exact wp_val (v := .bool false) (w' := w1) (by simp [execOp, go_sem, e39']) (hK _ _ (Bel.refl _) rfl)
    | q + 52, hi, _, _, _ => exact absurd hi (by omega)
  · intro V w' hb hF
    have e : finA regSf.toArray 52 V (acOSf b1 o1 b2 o2 n ca cb j kx nx pa pl pc sx s3 s4 s5 s6 s8 s9 s10 s11 s12 s13 s14 s15 s16 s17 s18 s19 s20 s21 s22 s23 s24 s25 s26 s27 s28 s29 s30 s31 s32 s33 s34 s35 s36 s37 s38 s39 s40 s41 s42 s43 s44 s45 s46 s47 s48 s49 s50 s51 s52 s53 s54 s55 s56 s57 s58 s59 s60 s61 s62 s63 s64 s65 s66 s67 s68 s69 s70 s71 df) = acVSf b1 o1 b2 o2 n ca cb j kx nx pa pl pc sx s3 s4 s5 s6 s8 s9 s10 s11 s12 s13 s14 s15 s16 s17 s18 s19 s20 s21 s22 s23 s24 s25 s26 s27 s28 s29 s30 s31 s32 s33 s34 s35 s36 s37 s38 s39 s40 s41 s42 s43 s44 s45 s46 s47 s48 s49 s50 s51 s52 s53 s54 s55 s56 s57 s58 s59 s60 s61 s62 s63 s64 s65 s66 s67 s68 s69 s70 s71 df V := by kernel_rfl
    rw [e]
    exact hend V w' hb (hF 37 (by omega)) (hF 51 (by omega))
end Go.Proofs.YteockaolmobmeaaGreatDoor.Mu
namespace Go.Proofs.YteockaolmobmeaaGreatDoor.Mu
open Go.RowKit Go.Shelf
set_option maxRecDepth 100000
set_option maxHeartbeats 8000000 in
theorem rsame10_any (t : Bool) {A B : Option Addr} {n m ca cb : Nat} {xs ys : List Tn} (w : World) (ha : RTn w w.heap.size A n xs) (hb : RTn w w.heap.size B m ys) (hn : n ≤ 1000000000) (hs : samL t xs ys = true) :
    Calls Tryz.prog 20 #[.slice A n ca, .slice B m cb, .bool t] w fun e w' => e = .returned (.bool true) ∧ Bel w w' := by
  have hnm : n = m := by
    rcases Nat.lt_trichotomy xs.length ys.length with h | h | h
    · rw [samL_len t xs ys (by omega)] at hs; cases hs
    · rw [ha.1, hb.1, h]
    · rw [samL_len t xs ys (by omega)] at hs; cases hs
  subst hnm
  have HA := Lib.hid ha
  have HB := Lib.hid hb
  have HLA := Lib.hid ha.1
  have HLB := Lib.hid hb.1
  have HANS := Lib.hid hs
  clear ha hb hs
  go_enter Tryz.func20, Tryz.ntmps20
  go_wp2_with fail
  go_loopg [7] (n + 1) (fun gk v wr => ∃ j : Nat, v = .int .i64 (j : Int) ∧ Hid (j ≤ n ∧ n - j < gk) ∧ Hid (samL t (xs.drop j) (ys.drop j) = true) ∧ Hid (Bel w wr))
  case atStart => exact ⟨0, rfl, Lib.hid ⟨by omega, by omega⟩, HANS, Lib.hid (Bel.refl w)⟩
  case round =>
    obtain ⟨j, rfl, HJ, HS, HW⟩ := hrel
    by_cases hj : j < n
    · obtain ⟨x, hx⟩ : ∃ x, xs[j]? = some x := ⟨_, List.getElem?_eq_getElem (by have := HLA.out; omega)⟩
      obtain ⟨y, hy⟩ : ∃ y, ys[j]? = some y := ⟨_, List.getElem?_eq_getElem (by have := HLB.out; omega)⟩
      obtain ⟨b1, o1, rfl, hb1, hc1⟩ := (HA.out.bel HW.out.drew).2 (by omega)
      obtain ⟨b2, o2, rfl, hb2, hc2⟩ := (HB.out.bel HW.out.drew).2 (by omega)
      obtain ⟨a0, a1, a2, a3, a4, a5⟩ := hc1 j x hx
      obtain ⟨e0, e1, e2, e3, e4, e5⟩ := hc2 j y hy
      have hst := HS.out
      rw [sam_step hx hy, Bool.and_eq_true] at hst
      obtain ⟨hso, hsn⟩ := hst
      have HSN := Lib.hid hsn
      have i1 : (0 : Int) ≤ (j : Int) := by omega
      have i2 : (j : Int) < (n : Int) := by omega
      unfold samO at hso
      simp only [Bool.and_eq_true, decide_eq_true_eq] at hso
      obtain ⟨⟨⟨k1, k2⟩, k3⟩, k4⟩ := hso
      rw [← k1] at e0
      rw [← k2] at e1
      rw [← k3] at e2
      have HJJ := Lib.hid (⟨HJ.out, hj⟩ : (j ≤ n ∧ n - j < gk) ∧ j < n)
      clear hc1 hc2 hx hy HANS hsn k1 k2 k3
      go_wp2_with fail
      cases t
      case' false =>
        refine regSf_any b1 o1 b2 o2 n ca cb j x.k x.n 0 0 0 ⟨x.s.toArray⟩ _ _ _ _ _ _ _ _ _ _ _ _ _ _ _ _ _ _ _ _ _ _ _ _ _ _ _ _ _ _ _ _ _ _ _ _ _ _ _ _ _ _ _ _ _ _ _ _ _ _ _ _ _ _ _ _ _ _ _ _ _ _ _ _ _ _ _ _ _ wr i1 i2 hb1 hb2 a0 e0 a1 e1 a2 e2 _ ?_
        intro V w4 hb4 hv1 hv2
        simp only [regSf, List.drop_succ_cons, List.drop_zero, acVSf, hv1, hv2]
      case' true =>
        have hpe : x.p = y.p := by simpa using k4
        rw [← hpe] at e3 e4 e5
        refine regSt_any b1 o1 b2 o2 n ca cb j x.k x.n x.p.a x.p.l x.p.c ⟨x.s.toArray⟩ _ _ _ _ _ _ _ _ _ _ _ _ _ _ _ _ _ _ _ _ _ _ _ _ _ _ _ _ _ _ _ _ _ _ _ _ _ _ _ _ _ _ _ _ _ _ _ _ _ _ _ _ _ _ _ _ _ _ _ _ _ _ _ _ _ _ _ _ _ wr i1 i2 hb1 hb2 a0 e0 a1 e1 a2 e2 a3 e3 a4 e4 a5 e5 (fun W => by have := pos_in x.p x.p W; simpa using this) _ ?_
        intro V w4 hb4 hv1 hv2
        simp only [regSt, List.drop_succ_cons, List.drop_zero, acVSt, hv1, hv2]
        clear hpe
      all_goals
        have HB4 := Lib.hid (HW.out.drew.on hb4)
        clear hb4 hv1 hv2 a0 a1 a2 a3 a4 a5 e0 e1 e2 e3 e4 e5 k4 i1 i2 HJ hj
        go_wp2
        obtain ⟨⟨hj1, hj2⟩, hj3⟩ := HJJ.out
        have hj5 : ((j : Int) + 1) = ((j + 1 : Nat) : Int) := by omega
        have hj6 : wrap64 ((j : Int) + 1) = ((j + 1 : Nat) : Int) := by rw [hj5]; exact IntWalk.wrap64_in _ (by omega)
        go_roundg (gk - 1)
        case rel => exact ⟨j + 1, by first | go_num | (simp only [hj6]) | (rw [hj6]), Lib.hid ⟨by omega, by omega⟩, HSN, HB4⟩
        case measure => omega
    · go_wp2
      go_ret
      exact ⟨rfl, HW.out⟩
end Go.Proofs.YteockaolmobmeaaGreatDoor.Mu

