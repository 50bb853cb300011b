/-
  Layer 2's own functions (package term) that only look: each walked once.
-/
import Derived.Test.YtblgligagngpfaaDoorMult
import Derived.Test.YtblgligagngpfaaDoorMem
import Derived.Test.YtblgligagngpfaaDoorTermFn
import Derived.BigQuiet
import Derived.Deep.QuietTactic
import Derived.BigGuardPart
namespace Go.Proofs.YtblgligagngpfaaDoor.Mu
open Go.ChangeShapes Go.WideShapes Go.ChangeAt Go.RowKit

theorem isVar_any (v : Int) (w : World) : Calls Tryd.prog 68 #[.int .i64 v] w fun e w' => e = .returned (.bool (isVarB v)) ∧ w = w' := by
  by_cases h0 : 0 ≤ v <;> by_cases h1 : v < 1048576
  all_goals
    have e : isVarB v = (decide (0 ≤ v) && decide (v < 1048576)) := rfl
    simp only [h0, h1, decide_true, decide_false, Bool.and_self, Bool.and_false, Bool.false_and] at e
    have E := Lib.hid e
    clear e
    go_enter Tryd.func68, Tryd.ntmps68
    go_wp2
    go_ret
    exact ⟨ret_bool E.out.symm, rfl⟩
theorem isMult_any (c : Int) (w : World) : Calls Tryd.prog 69 #[.int .u8 c] w fun e w' => e = .returned (.bool (isMultB c)) ∧ w = w' := by
  by_cases h0 : 1 ≤ c <;> by_cases h1 : c ≤ 3
  all_goals
    have e : isMultB c = (decide (1 ≤ c) && decide (c ≤ 3)) := rfl
    simp only [h0, h1, decide_true, decide_false, Bool.and_self, Bool.and_false, Bool.false_and] at e
    have E := Lib.hid e
    clear e
    go_enter Tryd.func69, Tryd.ntmps69
    go_wp2
    go_ret
    exact ⟨ret_bool E.out.symm, rfl⟩

theorem is_any (v c : Int) (w : World) : Calls Tryd.prog 55 #[.agg #[.int .i64 v, .int .u8 c]] w fun e w' => e = .returned (.int .i64 (errF (isB v c))) ∧ Bel w w' := by
  rcases Bool.eq_false_or_eq_true (isMultB c) with hm | hm <;> rcases Bool.eq_false_or_eq_true (isVarB v) with hv | hv
  all_goals
    go_enter Tryd.func55, Tryd.ntmps55
    go_wp2_with (first | (go_at_call 69; refine (isMult_any _ _).mono ?_; rintro e w' ⟨rfl, rfl⟩) | (go_at_call 68; refine (isVar_any _ _).mono ?_; rintro e w' ⟨rfl, rfl⟩))
  all_goals
    go_ret
    refine ⟨ret_int ?_, (Bel.refl _).alloc _⟩
    simp_all [errF, isB]

end Go.Proofs.YtblgligagngpfaaDoor.Mu

