/-
  What raise comes to, as a function: of lists alone.
-/
import Derived.Test.YtjgpkolfcpoinaaBegin
namespace Go.Proofs.Ytjgpkolfcpoinaa.Mu
open Go

abbrev iq0 : Iq := ⟨0, 0, 0, 0⟩
/-- handOn at these inequalities, one by the other, until one cannot be. -/
def handL (xs : List Iq) (m : Int) : List Nat → List Int → List Int → Option Nat × List Int × List Int
  | [], B, Q => (none, B, Q)
  | i :: is, B, Q => if (handF B Q (xs[i]?.getD iq0) m i).1 then handL xs m is (handF B Q (xs[i]?.getD iq0) m i).2.1 (handF B Q (xs[i]?.getD iq0) m i).2.2 else (some i, B, Q)
/-- The loop over what is still to do, the row of each variable being given. -/
def todoL (xs : List Iq) (m : Int) (R : Nat → List Nat) : Nat → List Int → List Int → List Int → Option Nat × List Int × List Int
  | 0, G, B, _ => (none, G, B)
  | _ + 1, G, B, [] => (none, G, B)
  | f + 1, G, B, v :: Q => match handL xs m (R v.toNat) B Q with
    | (some i, B', _) => (some i, G.set v.toNat (max (G[v.toNat]?.getD 0) m), B')
    | (none, B', Q') => todoL xs m R f (G.set v.toNat (max (G[v.toNat]?.getD 0) m)) B' Q'
/-- The inequalities from i on whose L is a constant, m at least. -/
def firstL (xs : List Iq) (m : Int) (i : Nat) : List Nat := (List.range' i (xs.length - i)).filter fun j => decide (m ≤ (xs[j]?.getD iq0).m)
def raiseF (xs : List Iq) (n : Nat) (m : Int) (R : Nat → List Nat) (G B0 : List Int) : Option Nat × List Int × List Int :=
  match handL xs m (firstL xs m 0) (begB G m B0 n) (begQ G m n) with
  | (some i, B, _) => (some i, G, B)
  | (none, B, Q) => todoL xs m R n G B Q

theorem handL_cons {xs : List Iq} {m : Int} {i : Nat} {x : Iq} (hx : xs[i]? = some x) (is : List Nat) (B Q : List Int) : handL xs m (i :: is) B Q = if (handF B Q x m i).1 then handL xs m is (handF B Q x m i).2.1 (handF B Q x m i).2.2 else (some i, B, Q) := by
  simp only [handL, hx, Option.getD_some]
theorem raiseF_some {xs : List Iq} {n : Nat} {m : Int} {R : Nat → List Nat} {G B0 B Q : List Int} {i : Nat} (h : handL xs m (firstL xs m 0) (begB G m B0 n) (begQ G m n) = (some i, B, Q)) : raiseF xs n m R G B0 = (some i, G, B) := by
  unfold raiseF; rw [h]
theorem raiseF_none {xs : List Iq} {n : Nat} {m : Int} {R : Nat → List Nat} {G B0 B Q : List Int} (h : handL xs m (firstL xs m 0) (begB G m B0 n) (begQ G m n) = (none, B, Q)) : raiseF xs n m R G B0 = todoL xs m R n G B Q := by
  unfold raiseF; rw [h]
theorem todoL_nil {xs : List Iq} {m : Int} {R : Nat → List Nat} (f : Nat) (G B : List Int) : todoL xs m R f G B [] = (none, G, B) := by cases f <;> rfl
theorem firstL_end (xs : List Iq) (m : Int) : firstL xs m xs.length = [] := by simp [firstL]
theorem firstL_step (xs : List Iq) (m : Int) {i : Nat} {x : Iq} (hx : xs[i]? = some x) : firstL xs m i = if m ≤ x.m then i :: firstL xs m (i + 1) else firstL xs m (i + 1) := by
  have hi := (List.getElem?_eq_some_iff.1 hx).1
  unfold firstL
  rw [show xs.length - i = (xs.length - (i + 1)) + 1 by omega, List.range'_succ, List.filter_cons, hx]
  simp only [Option.getD_some, decide_eq_true_eq]

/-- Each inequality's R is a variable, or none. -/
def OkR (n : Nat) (xs : List Iq) : Prop := ∀ x ∈ xs, x.r = -1 ∨ 0 ≤ x.r ∧ x.r < n
theorem OkR.at_ {n : Nat} {xs : List Iq} (h : OkR n xs) {i : Nat} {x : Iq} (hx : xs[i]? = some x) : x.r = -1 ∨ 0 ≤ x.r ∧ x.r < n := h x (List.mem_of_getElem? hx)
/-- What holds of what raised a variable, and of what is to do, throughout. -/
structure BQ (n : Nat) (B Q : List Int) : Prop where
  lb : B.length = n
  room : B.count (-1) + Q.length ≤ n
  ok : ∀ v ∈ Q, 0 ≤ v ∧ v < n
theorem count_set_of {B : List Int} {j : Nat} {x : Int} (h : B[j]? = some (-1)) (hx : x ≠ -1) : (B.set j x).count (-1) + 1 = B.count (-1) := by
  have hj := (List.getElem?_eq_some_iff.1 h).1
  have hv := (List.getElem?_eq_some_iff.1 h).2
  have hp : 0 < B.count (-1) := List.count_pos_iff.2 (List.mem_of_getElem? h)
  rw [List.count_set hj]
  have e1 : (x == (-1 : Int)) = false := by simpa using hx
  simp only [hv, beq_self_eq_true, if_true, e1, Bool.false_eq_true, if_false]
  omega
theorem handF_BQ {n : Nat} {B Q : List Int} {x : Iq} {m : Int} {i : Nat} (h : BQ n B Q) (hr : x.r = -1 ∨ 0 ≤ x.r ∧ x.r < n) :
    BQ n (handF B Q x m i).2.1 (handF B Q x m i).2.2 ∧ (handF B Q x m i).2.1.count (-1) + (handF B Q x m i).2.2.length = B.count (-1) + Q.length := by
  unfold handF
  split
  · exact ⟨h, rfl⟩
  · split
    · exact ⟨h, rfl⟩
    · rename_i h2
      split
      · rename_i h3
        obtain ⟨r0, r1⟩ := hr.resolve_left h2
        have hlt : x.r.toNat < B.length := by have := h.lb; omega
        have hg : B[x.r.toNat]? = some (-1) := by
          rw [List.getElem?_eq_getElem hlt] at h3 ⊢
          simpa using h3
        have hc := count_set_of (x := (i : Int)) hg (by omega)
        have hs : (B.set x.r.toNat i).count (-1) + (Q ++ [x.r]).length = B.count (-1) + Q.length := by simp only [List.length_append, List.length_cons, List.length_nil]; omega
        refine ⟨⟨by simpa using h.lb, by dsimp only; have := h.room; omega, fun v hv => ?_⟩, hs⟩
        rcases List.mem_append.1 hv with hv | hv
        · exact h.ok v hv
        · rw [List.mem_singleton.1 hv]; exact ⟨r0, r1⟩
      · exact ⟨h, rfl⟩
/-- If something is unraised, there is room. -/
theorem BQ.room_ {n : Nat} {B Q : List Int} (h : BQ n B Q) {j : Nat} (hj : B[j]?.getD 0 = -1) : Q.length < n := by
  have : (-1 : Int) ∈ B := by
    cases hg : B[j]? with
    | none => rw [hg] at hj; simp at hj
    | some y => rw [hg] at hj; simp at hj; subst hj; exact List.mem_of_getElem? hg
  have hp := List.count_pos_iff.2 this
  have := h.room
  omega
theorem handF_false {B Q : List Int} {x : Iq} {m : Int} {i : Nat} (h : (handF B Q x m i).1 = false) : (handF B Q x m i).2 = (B, Q) := by
  unfold handF at *
  split at h
  · cases h
  · rename_i h1
    split at h
    · rename_i h2; simp [h1, h2]
    · split at h <;> cases h
theorem handL_BQ {n : Nat} {xs : List Iq} (hr : OkR n xs) {m : Int} : ∀ (is : List Nat) {B Q : List Int}, (∀ i ∈ is, i < xs.length) → BQ n B Q → BQ n (handL xs m is B Q).2.1 (handL xs m is B Q).2.2 ∧ (handL xs m is B Q).2.1.count (-1) + (handL xs m is B Q).2.2.length = B.count (-1) + Q.length := by
  intro is
  induction is with
  | nil => intro B Q _ h; exact ⟨h, rfl⟩
  | cons i is ih =>
    intro B Q hi h
    have hx : xs[i]? = some (xs[i]?.getD iq0) := by rw [List.getElem?_eq_getElem (hi i (by simp))]; rfl
    obtain ⟨a, b⟩ := handF_BQ (m := m) (i := i) h (hr.at_ hx)
    simp only [handL]
    split
    · obtain ⟨c, d⟩ := ih (fun j hj => hi j (List.mem_cons_of_mem _ hj)) a
      exact ⟨c, d.trans b⟩
    · exact ⟨h, rfl⟩
theorem beg_eq {n : Nat} {G B : List Int} {m : Int} (hb : B.length = n) : begB G m B n = (List.range n).map fun v => if m ≤ G[v]?.getD 0 then -2 else -1 := by
  have key : ∀ v j, (begB G m B v)[j]? = if j < v then (if j < B.length then some (if m ≤ G[j]?.getD 0 then (-2 : Int) else -1) else none) else B[j]? := by
    intro v
    induction v with
    | zero => intro j; simp [begB]
    | succ v ih =>
      intro j
      simp only [begB, List.getElem?_set, begB_len]
      by_cases e : v = j
      · subst e; simp
      · simp only [if_neg e, ih j]
        by_cases hj : j < v
        · have : j < v + 1 := by omega
          simp only [hj, this, if_true]
        · have : ¬ j < v + 1 := by omega
          simp only [hj, this, if_false]
  apply List.ext_getElem?
  intro j
  rw [key n j]
  by_cases hj : j < n
  · simp [hj, hb]
  · rw [if_neg hj, List.getElem?_eq_none (by omega), List.getElem?_eq_none (by simp; omega)]
theorem beg_BQ {n : Nat} {G B : List Int} {m : Int} (hb : B.length = n) : BQ n (begB G m B n) (begQ G m n) := by
  refine ⟨by rw [begB_len]; exact hb, ?_, ?_⟩
  · rw [beg_eq hb]
    clear hb
    induction n with
    | zero => simp [begQ]
    | succ n ih =>
      rw [List.range_succ, List.map_append, List.count_append]
      simp only [begQ, List.length_append, List.map_cons, List.map_nil]
      split <;> simp <;> omega
  · have key : ∀ n, ∀ v ∈ begQ G m n, 0 ≤ v ∧ v < (n : Int) := by
      intro n
      induction n with
      | zero => intro v hv; cases hv
      | succ n ih =>
        intro v hv
        rcases List.mem_append.1 hv with hv | hv
        · have := ih v hv; omega
        · split at hv
          · rw [List.mem_singleton.1 hv]; omega
          · cases hv
    exact key n
/-- The row that begins at p, as next has it. -/
def Chain (N : List Int) : Int → List Nat → Prop
  | p, [] => p = -1
  | p, i :: is => p = i ∧ i < N.length ∧ (N[i]?.getD 0 = -1 ∨ (i : Int) < N[i]?.getD 0) ∧ Chain N (N[i]?.getD 0) is
theorem Chain.lt {N : List Int} : ∀ {is : List Nat} {p : Int}, Chain N p is → ∀ i ∈ is, i < N.length
  | [], _, _, _, h => by cases h
  | j :: js, _, ⟨_, h1, _, h2⟩, i, hi => by
    rcases List.mem_cons.1 hi with rfl | hi
    · exact h1
    · exact h2.lt i hi
end Go.Proofs.Ytjgpkolfcpoinaa.Mu

