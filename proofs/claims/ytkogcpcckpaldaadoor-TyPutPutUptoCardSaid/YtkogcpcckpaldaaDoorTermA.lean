/-
  Layer 2's own functions (package term) that only look: each walked once.
-/
import Derived.Test.YtkogcpcckpaldaaDoorMult
import Derived.Test.YtkogcpcckpaldaaDoorMem
import Derived.Test.YtkogcpcckpaldaaDoorTermFn
import Derived.BigQuiet
import Derived.Deep.QuietTactic
import Derived.BigGuardPart
namespace Go.Proofs.YtkogcpcckpaldaaDoor.Mu
open Go.ChangeShapes Go.WideShapes Go.ChangeAt Go.RowKit

theorem isVar_any (v : Int) (w : World) : Calls Tryd.prog 76 #[.int .i64 v] w fun e w' => e = .returned (.bool (isVarB v)) ∧ w = w' := by
  by_cases h0 : 0 ≤ v <;> by_cases h1 : v < 1048576
  all_goals
    have e : isVarB v = (decide (0 ≤ v) && decide (v < 1048576)) := rfl
    simp only [h0, h1, decide_true, decide_false, Bool.and_self, Bool.and_false, Bool.false_and] at e
    have E := Lib.hid e
    clear e
    go_enter Tryd.func76, Tryd.ntmps76
    go_wp2
    go_ret
    exact ⟨ret_bool E.out.symm, rfl⟩
theorem isMult_any (c : Int) (w : World) : Calls Tryd.prog 77 #[.int .u8 c] w fun e w' => e = .returned (.bool (isMultB c)) ∧ w = w' := by
  by_cases h0 : 1 ≤ c <;> by_cases h1 : c ≤ 3
  all_goals
    have e : isMultB c = (decide (1 ≤ c) && decide (c ≤ 3)) := rfl
    simp only [h0, h1, decide_true, decide_false, Bool.and_self, Bool.and_false, Bool.false_and] at e
    have E := Lib.hid e
    clear e
    go_enter Tryd.func77, Tryd.ntmps77
    go_wp2
    go_ret
    exact ⟨ret_bool E.out.symm, rfl⟩

theorem is_any (v c : Int) (w : World) : Calls Tryd.prog 65 #[.agg #[.int .i64 v, .int .u8 c]] w fun e w' => e = .returned (.int .i64 (errF (isB v c))) ∧ Bel w w' := by
  rcases Bool.eq_false_or_eq_true (isMultB c) with hm | hm <;> rcases Bool.eq_false_or_eq_true (isVarB v) with hv | hv
  all_goals
    go_enter Tryd.func65, Tryd.ntmps65
    go_wp2_with (first | (go_at_call 77; refine (isMult_any _ _).mono ?_; rintro e w' ⟨rfl, rfl⟩) | (go_at_call 76; refine (isVar_any _ _).mono ?_; rintro e w' ⟨rfl, rfl⟩))
  all_goals
    go_ret
    refine ⟨ret_int ?_, (Bel.refl _).alloc _⟩
    simp_all [errF, isB]

end Go.Proofs.YtkogcpcckpaldaaDoor.Mu

