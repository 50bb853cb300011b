/-
  Join and Sum of no uses; and the statements' own first question, with the world said in both ways.
-/
import Derived.Test.YtjbnmfgmkcgglaaDoorRef01
namespace Go.Proofs.YtjbnmfgmkcgglaaDoor.Mu
open Go.ChangeShapes Go.WideShapes Go.ChangeAt Go.RowKit

theorem join_none (w : World) : Calls Tryd.prog 8 #[.slice none 0 0] w fun e w' => e = .returned (.int .u8 (joinF [])) ∧ w = w' := by
  have e : joinF [] = leastF (joinT []) := rfl
  have E := Lib.hid e
  clear e
  go_enter Tryd.func8, Tryd.ntmps8
  go_wp2
  refine wp_loop_rounds 1 ?_; rw [rounds_succ]
  go_wp2_with (go_at_call 20; refine (leastUse_any _ _).mono ?_; rintro e w' ⟨rfl, rfl⟩)
  go_ret
  exact ⟨ret_int (by rw [E.out]; rfl), rfl⟩
theorem sum_none (w : World) : Calls Tryd.prog 9 #[.slice none 0 0] w fun e w' => e = .returned (.int .u8 (sumF [])) ∧ w = w' := by
  have e : sumF [] = leastF (sumT []) := rfl
  have E := Lib.hid e
  clear e
  go_enter Tryd.func9, Tryd.ntmps9
  go_wp2
  refine wp_loop_rounds 1 ?_; rw [rounds_succ]
  go_wp2_with (go_at_call 20; refine (leastUse_any _ _).mono ?_; rintro e w' ⟨rfl, rfl⟩)
  go_ret
  exact ⟨ret_int (by rw [E.out]; rfl), rfl⟩

/-- The statements' own first question, with the world said in both ways. -/
theorem works_fresh (w : World) : Calls Tryd.prog 7 #[] w fun e w' => e = .returned (.bool true) ∧ Fresh w w' := by
  have f1 : (joinF [0, 1] == 2) = true := by decide +kernel
  have f2 : (sumF [1, 1] == 3) = true := by decide +kernel
  have f3 : (scaleF 2 1 == 2) = true := by decide +kernel
  have f4 : fitsF 0 1 = false := by decide +kernel
  go_enter Tryd.func7, Tryd.ntmps7
  go_wp2_with (first | (go_at_call 8; refine (join_two _ _ _ _ _ (by simp)).mono ?_; rintro e w' ⟨rfl, rfl⟩) | (go_at_call 9; refine (sum_two _ _ _ _ _ (by simp)).mono ?_; rintro e w' ⟨rfl, rfl⟩) | (go_at_call 10; refine (scale_any _ _ (by omega) (by omega) _).mono ?_; rintro e w' ⟨rfl, rfl⟩) | (go_at_call 11; refine (fits_any _ _ (by omega) (by omega) _).mono ?_; rintro e w' ⟨rfl, rfl⟩))
  go_ret
  exact ⟨rfl, by repeat (first | with_reducible exact Fresh.refl _ | with_reducible apply Fresh.alloc)⟩
end Go.Proofs.YtjbnmfgmkcgglaaDoor.Mu
