/-
  The document's own answer for layer 1's Sum of two uses, walked: sixteen cases, by what each use lets be.
-/
import Derived.Test.YtjbnmfgmkcgglaaDoorRef01
namespace Go.Proofs.YtjbnmfgmkcgglaaDoor.Mu
open Go.ChangeShapes Go.WideShapes Go.ChangeAt Go.RowKit

set_option maxRecDepth 100000 in
set_option maxHeartbeats 8000000 in
theorem sum_ref (a b : Int) (w : World) : Calls Tryd.prog 14 #[.int .u8 a, .int .u8 b] w fun e w' => e = .returned (.int .u8 (sumF [a, b])) ∧ Fresh w w' := by
  have E := Lib.hid (sum_tab a b)
  rcases lets_row a with ⟨x, a0, a1, a2, a3⟩ | ⟨x, a0, a1, a2, a3⟩ | ⟨x, a0, a1, a2, a3⟩ | ⟨x, a0, a1, a2, a3⟩ <;> rcases lets_row b with ⟨y, b0, b1, b2, b3⟩ | ⟨y, b0, b1, b2, b3⟩ | ⟨y, b0, b1, b2, b3⟩ | ⟨y, b0, b1, b2, b3⟩
  all_goals
    have X := Lib.hid x
    have Y := Lib.hid y
    clear x y
    go_enter Tryd.func14, Tryd.ntmps14
    go_wp2
    refine wp_loop_rounds 5 ?_; rw [rounds_succ]
    go_wp2_with (first | (go_at_call 23; refine (lets_ref _ _ _).mono ?_; rintro e w' ⟨rfl, rfl⟩) | (go_at_call 25; refine (least_ref _ _ _ _ _).mono ?_; rintro e w' ⟨rfl, hf⟩) | rw [rounds_succ] | refine wp_loop_rounds 6 ?_)
    go_ret
    exact ⟨ret_int (by rw [E.out, X.out, Y.out]; rfl), Fresh.on (by repeat (first | with_reducible exact Fresh.refl _ | with_reducible apply Fresh.alloc)) hf⟩
end Go.Proofs.YtjbnmfgmkcgglaaDoor.Mu
