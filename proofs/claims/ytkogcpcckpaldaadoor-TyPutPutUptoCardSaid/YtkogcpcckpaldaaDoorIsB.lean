/-
  What a Mu that may be is, by its parts.
-/
import Derived.Test.YtkogcpcckpaldaaDoorTermFn
namespace Go.Proofs.YtkogcpcckpaldaaDoor.Mu

def mayI (v m c r : Int) : Bool := isB v m && isMultB c && decide (-1 ≤ r) && decide (r < 1048576)
theorem isB_parts {v m : Int} (h : isB v m = true) : (m = 0 ∧ 0 ≤ v ∧ v < 1048576) ∨ (1 ≤ m ∧ m ≤ 3 ∧ v = 0) := by
  unfold isB isVarB isMultB at h; simp at h; omega
end Go.Proofs.YtkogcpcckpaldaaDoor.Mu

