/-
  What layer 2's functions come to, as plain functions on numbers and lists, and what follows of them. Nothing of the translation is used here.
-/
import Derived.WalkKit
import Derived.Test.YtblgligagngpfaaDoorMultFn
namespace Go.Proofs.YtblgligagngpfaaDoor.Mu
open Go.RowKit

def errF (b : Bool) : Int := if b then 0 else 2
def isVarB (v : Int) : Bool := decide (0 ≤ v) && decide (v < 1048576)
def isMultB (c : Int) : Bool := decide (1 ≤ c) && decide (c ≤ 3)
def mayAt (l : List Int) (k : Nat) : Bool := isVarB (l[k]?.getD 0) && (decide (k = 0) || decide (l[k - 1]?.getD 0 < l[k]?.getD 0))
def mayVarsB (l : List Int) : Bool := (List.range l.length).all (mayAt l)
def mayB (nv : Bool) (c : Int) (l : List Int) : Bool :=
  (if nv then decide (c = 0) && decide (l.length = 0) else isMultB c && (decide (c ≠ 3) || decide (l.length = 0))) && mayVarsB l
def isB (v c : Int) : Bool := (decide (c = 0) && isVarB v) || (isMultB c && decide (v = 0))

theorem range_all_succ (p : Nat → Bool) (k : Nat) : (List.range (k + 1)).all p = ((List.range k).all p && p k) := by
  rw [List.range_succ, List.all_append]; simp
theorem mayVarsB_iff (l : List Int) : mayVarsB l = true ↔ ∀ k, k < l.length → mayAt l k = true := by
  unfold mayVarsB; simp
theorem mayVarsB_no {l : List Int} {k : Nat} (hk : k < l.length) (h : mayAt l k = false) : mayVarsB l = false := by
  rw [Bool.eq_false_iff]; intro h'
  have := (mayVarsB_iff l).1 h' k hk
  rw [h] at this; cases this
theorem mayVarsB_yes {l : List Int} (h : (List.range l.length).all (mayAt l) = true) : mayVarsB l = true := h
theorem mayAt_yes {l : List Int} {k : Nat} (hv : isVarB (l[k]?.getD 0) = true) (h : 0 < k → l[k - 1]?.getD 0 < l[k]?.getD 0) : mayAt l k = true := by
  unfold mayAt; rw [hv]
  rcases Nat.eq_zero_or_pos k with e | e
  · simp [e]
  · simp [h e]
theorem mayAt_no1 {l : List Int} {k : Nat} (hv : isVarB (l[k]?.getD 0) = false) : mayAt l k = false := by unfold mayAt; rw [hv]; rfl
theorem mayAt_no2 {l : List Int} {k : Nat} (h0 : 0 < k) (h : l[k]?.getD 0 ≤ l[k - 1]?.getD 0) : mayAt l k = false := by
  unfold mayAt
  rw [decide_eq_false (show ¬ k = 0 by omega), decide_eq_false (show ¬ l[k - 1]?.getD 0 < l[k]?.getD 0 by omega)]; simp
/-- A term as it lies in memory: its three parts, the last one a slice value. -/
structure Raw where
  nv : Bool
  c : Int
  A : Option Addr
  n : Nat
  k : Nat
def greatN (rs : List Raw) : Int := (rs.map fun r => 1 + (if 5000 < (r.n : Int) then 5000 else (r.n : Int))).sum
theorem greatN_snoc (rs : List Raw) (r : Raw) : greatN (rs ++ [r]) = greatN rs + (1 + (if 5000 < (r.n : Int) then 5000 else (r.n : Int))) := by
  simp [greatN]
theorem greatN_bd (rs : List Raw) : 0 ≤ greatN rs ∧ greatN rs ≤ rs.length * 5001 := by
  induction rs with
  | nil => simp [greatN]
  | cons r rs ih => simp only [greatN, List.map_cons, List.sum_cons, List.length_cons] at *; split <;> omega
theorem take_snoc_ {α : Type} {l : List α} {k : Nat} {x : α} (h : l[k]? = some x) : l.take (k + 1) = l.take k ++ [x] := by
  rw [List.take_add_one, h]; rfl
def greatB (rs : List Raw) : Bool := decide (5000 < greatN rs)
theorem natz (n : Nat) : ((n : Int) == 0) = decide (n = 0) := by
  rcases Nat.eq_zero_or_pos n with h | h
  · subst h; rfl
  · rw [decide_eq_false (by omega), beq_eq_false_iff_ne]; omega
theorem errF_no {b : Bool} (h : b = false) : (2 : Int) = errF b := by rw [h]; rfl
theorem errF_yes {b : Bool} (h : b = true) : (0 : Int) = errF b := by rw [h]; rfl
end Go.Proofs.YtblgligagngpfaaDoor.Mu

