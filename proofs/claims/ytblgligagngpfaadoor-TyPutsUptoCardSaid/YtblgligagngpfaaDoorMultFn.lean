/-
  What layer 1's functions come to, as plain functions on numbers, and the laws between them, by the cases that there are. Nothing of the translation is used here.
-/
import Derived.WalkKit
import Derived.Laws.BitsAllLaws
namespace Go.Proofs.YtblgligagngpfaaDoor.Mu
open Go.RowKit

/-- The set of a use. -/
def usedF (u : Int) : Int := if u = 0 then 1 else if u = 1 then 2 else if u = 2 then 3 else 7
/-- One of the three multiplicities. -/
def knownF (m : Int) : Int := if m ≤ 1 then 1 else if m = 2 then 2 else 3
/-- The set of a multiplicity. -/
def letBeF (m : Int) : Int := if m ≤ 1 then 2 else if m = 2 then 3 else 7
def leastF (t : Int) : Int :=
  if bits .andNot .u8 t (usedF 0) == 0 then 0 else if bits .andNot .u8 t (usedF 1) == 0 then 1 else if bits .andNot .u8 t (usedF 2) == 0 then 2 else 3
def addF (a b : Int) : Int :=
  let t1 := if bits .and .u8 a 1 != 0 then bits .or .u8 0 b else 0
  let t2 := if bits .and .u8 b 1 != 0 then bits .or .u8 t1 a else t1
  if bits .andNot .u8 a 1 != 0 && bits .andNot .u8 b 1 != 0 then bits .or .u8 t2 4 else t2
def joinT (l : List Int) : Int := l.foldl (fun t u => bits .or .u8 t (usedF u)) 0
def sumT (l : List Int) : Int := l.foldl (fun t u => addF t (usedF u)) 1
def joinF (l : List Int) : Int := leastF (joinT l)
def sumF (l : List Int) : Int := leastF (sumT l)
def scaleF (m u : Int) : Int :=
  let t1 := if bits .and .u8 (letBeF m) 1 != 0 then bits .or .u8 0 1 else 0
  let t2 := if bits .and .u8 (letBeF m) 2 != 0 then bits .or .u8 t1 (usedF u) else t1
  leastF (if bits .and .u8 (letBeF m) 4 != 0 then bits .or .u8 t2 (addF (usedF u) (usedF u)) else t2)
def fitsF (u m : Int) : Bool := bits .andNot .u8 (usedF u) (letBeF m) == 0
def leastMF (u : Int) : Int := if fitsF u 1 then 1 else if fitsF u 2 then 2 else 3
/-- Does a use let be so many times? -/
def letsF (u n : Int) : Bool := if u = 0 then n == 0 else if u = 1 then n == 1 else if u = 2 then decide (n ≤ 1) else true

/-- The use that another one is as. -/
def cu (u : Int) : Int := if u = 0 then 0 else if u = 1 then 1 else if u = 2 then 2 else 3
theorem cu_cases (u : Int) : cu u = 0 ∨ cu u = 1 ∨ cu u = 2 ∨ cu u = 3 := by unfold cu; (repeat' split) <;> omega
theorem cm_cases (m : Int) : knownF m = 1 ∨ knownF m = 2 ∨ knownF m = 3 := by unfold knownF; (repeat' split) <;> omega
theorem usedF_cu (u : Int) : usedF u = usedF (cu u) := by
  unfold cu; split
  · subst_vars; rfl
  split
  · subst_vars; rfl
  split
  · subst_vars; rfl
  · simp [usedF, *]
theorem letBeF_cm (m : Int) : letBeF m = letBeF (knownF m) := by
  unfold letBeF knownF; repeat' split
  all_goals first | rfl | omega
theorem letsF_cu (u n : Int) : letsF u n = letsF (cu u) n := by
  unfold cu; split
  · subst_vars; rfl
  split
  · subst_vars; rfl
  split
  · subst_vars; rfl
  · simp [letsF, *]
theorem fitsF_c (u m : Int) : fitsF u m = fitsF (cu u) (knownF m) := by unfold fitsF; rw [usedF_cu u, letBeF_cm m]
theorem leastMF_c (u : Int) : leastMF u = leastMF (cu u) := by unfold leastMF fitsF; rw [usedF_cu u]
theorem scaleF_c (m u : Int) : scaleF m u = scaleF (knownF m) (cu u) := by unfold scaleF; rw [usedF_cu u, letBeF_cm m]
theorem joinF_c (a b : Int) : joinF [a, b] = joinF [cu a, cu b] := by simp only [joinF, joinT, List.foldl]; rw [usedF_cu a, usedF_cu b]
theorem sumF_c (a b : Int) : sumF [a, b] = sumF [cu a, cu b] := by simp only [sumF, sumT, List.foldl]; rw [usedF_cu a, usedF_cu b]
/-- All four uses at once; all three multiplicities. -/
theorem all_use {p : Int → Prop} (u : Int) (h : p 0 ∧ p 1 ∧ p 2 ∧ p 3) : p (cu u) := by
  obtain ⟨a, b, c, d⟩ := h
  rcases cu_cases u with e | e | e | e <;> rw [e] <;> assumption
theorem all_mult {p : Int → Prop} (m : Int) (h : p 1 ∧ p 2 ∧ p 3) : p (knownF m) := by
  obtain ⟨a, b, c⟩ := h
  rcases cm_cases m with e | e | e <;> rw [e] <;> assumption
theorem cu_mem (u : Int) : cu u ∈ ([0, 1, 2, 3] : List Int) := by rcases cu_cases u with e | e | e | e <;> rw [e] <;> decide
theorem cm_mem (m : Int) : knownF m ∈ ([1, 2, 3] : List Int) := by rcases cm_cases m with e | e | e <;> rw [e] <;> decide
theorem bne_of {a b : Int} (h : a = b) : (a != b) = false := by simp [h]
theorem beq_of {a b : Int} (h : a = b) : (a == b) = true := by simp [h]
theorem cu_split (u : Int) : (u = 0 ∧ cu u = 0) ∨ (u = 1 ∧ cu u = 1) ∨ (u = 2 ∧ cu u = 2) ∨ (u ≠ 0 ∧ u ≠ 1 ∧ u ≠ 2 ∧ cu u = 3) := by unfold cu; (repeat' split) <;> omega
theorem sum_tab (a b : Int) : sumF [a, b] = if cu a = 0 then cu b else if cu b = 0 then cu a else 3 := by
  simp only [sumF, sumT, List.foldl]
  rw [usedF_cu a, usedF_cu b]
  have ha := cu_mem a
  have hb := cu_mem b
  generalize cu a = x at *
  generalize cu b = y at *
  revert x y
  decide +kernel
theorem join_tab (a b : Int) : joinF [a, b] = if cu a = cu b then cu a else if cu a = 3 then 3 else if cu b = 3 then 3 else 2 := by
  simp only [joinF, joinT, List.foldl]
  rw [usedF_cu a, usedF_cu b]
  have ha := cu_mem a
  have hb := cu_mem b
  generalize cu a = x at *
  generalize cu b = y at *
  revert x y
  decide +kernel
theorem scale_tab (a : Int) : scaleF 1 a = cu a ∧ scaleF 2 a = (if cu a = 1 then 2 else cu a) ∧ scaleF 3 a = (if cu a = 0 then 0 else 3) := by
  simp only [scaleF]
  rw [usedF_cu a]
  have ha := cu_mem a
  generalize cu a = x at *
  revert x
  decide +kernel
end Go.Proofs.YtblgligagngpfaaDoor.Mu

