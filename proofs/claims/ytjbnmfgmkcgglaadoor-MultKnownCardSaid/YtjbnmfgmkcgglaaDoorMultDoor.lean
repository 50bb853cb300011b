/-
  The statements MultKnown and MultTexts: walked; what the table holds is a premise.
-/
import Derived.Test.YtjbnmfgmkcgglaaDoorMultTable
import Derived.Test.YtjbnmfgmkcgglaaDoorMultMore
namespace Go.Proofs.YtjbnmfgmkcgglaaDoor.Mu
open Go.ChangeShapes Go.WideShapes Go.ChangeAt Go.RowKit

set_option maxRecDepth 100000 in
set_option maxHeartbeats 1000000 in
theorem multKnown_any (w : World) (ht : Table w) : Calls Tryd.prog 3 #[] w fun e w' => e = .returned (.bool true) ∧ Fresh w w' := by
  have HT := Lib.hid ht
  clear ht
  have p1 : parseM ⟨#[63]⟩ = 2 := by decide +kernel
  have p2 : parseE ⟨#[63]⟩ = 0 := by decide +kernel
  have p3 : parseM ⟨#[50]⟩ = 0 := by decide +kernel
  have p4 : parseE ⟨#[50]⟩ = 2 := by decide +kernel
  have f1 : (joinF [1, 1] == 1) = true := by decide +kernel
  have f2 : (joinF [] == 0) = true := by decide +kernel
  have f3 : (sumF [0, 1] == 1) = true := by decide +kernel
  have f4 : (sumF [] == 0) = true := by decide +kernel
  have f5 : (scaleF 3 2 == 3) = true := by decide +kernel
  have f6 : (scaleF 3 0 == 0) = true := by decide +kernel
  have f7 : fitsF 0 2 = true := by decide +kernel
  have f8 : fitsF 2 2 = true := by decide +kernel
  go_enter Tryd.func3, Tryd.ntmps3
  go_wp2_with (first | (go_at_call 6; refine (parse_any _ _ HT.out).mono ?_; rintro e w' ⟨rfl, rfl⟩) | (go_at_call 7; refine (works_fresh _).mono ?_; rintro e w5 ⟨rfl, hg⟩) | (go_at_call 8; (with_reducible refine (join_none _).mono ?_); rintro e w' ⟨rfl, rfl⟩) | (go_at_call 8; refine (join_two _ _ _ _ _ (by simp)).mono ?_; rintro e w' ⟨rfl, rfl⟩) | (go_at_call 9; (with_reducible refine (sum_none _).mono ?_); rintro e w' ⟨rfl, rfl⟩) | (go_at_call 9; refine (sum_two _ _ _ _ _ (by simp)).mono ?_; rintro e w' ⟨rfl, rfl⟩) | (go_at_call 10; refine (scale_any _ _ (by omega) (by omega) _).mono ?_; rintro e w' ⟨rfl, rfl⟩) | (go_at_call 11; refine (fits_any _ _ (by omega) (by omega) _).mono ?_; rintro e w' ⟨rfl, rfl⟩))
  go_ret
  exact ⟨rfl, hg.on (by repeat (first | with_reducible exact Fresh.refl _ | with_reducible apply Fresh.alloc))⟩

set_option maxRecDepth 100000 in
set_option maxHeartbeats 4000000 in
theorem multTexts_any (s : ByteArray) (m : Int) (h0 : 0 ≤ m) (h1 : m ≤ 255) (w : World) (ht : Table w) : Calls Tryd.prog 5 #[.string s, .int .u8 m] w fun e w' => e = .returned (.bool true) ∧ Fresh w w' := by
  have HT := Lib.hid ht
  clear ht
  have p1 : parseM ⟨#[49]⟩ = 1 := by decide +kernel
  have p2 : parseE ⟨#[49]⟩ = 0 := by decide +kernel
  have p3 : parseM ⟨#[63]⟩ = 2 := by decide +kernel
  have p4 : parseE ⟨#[63]⟩ = 0 := by decide +kernel
  have p5 : parseM ⟨#[42]⟩ = 3 := by decide +kernel
  have p6 : parseE ⟨#[42]⟩ = 0 := by decide +kernel
  have x1 : textS 1 = ⟨#[49]⟩ := by decide +kernel
  have x2 : textS 2 = ⟨#[63]⟩ := by decide +kernel
  have x3 : textS 3 = ⟨#[42]⟩ := by decide +kernel
  have hm : textS m = ⟨#[49]⟩ ∨ textS m = ⟨#[63]⟩ ∨ textS m = ⟨#[42]⟩ := by
    rcases cm_cases m with y | y | y <;> simp [textS, y]
  rcases parse_one s with rfl | rfl | rfl | ⟨q1, q2, q3, q4, q5, q6, q7, q8⟩ <;> rcases hm with hm | hm | hm
  all_goals
    go_enter Tryd.func5, Tryd.ntmps5
    go_wp2_with (first | (go_at_call 6; refine (parse_any _ _ HT.out).mono ?_; rintro e w' ⟨rfl, rfl⟩) | (go_at_call 17; refine (text_any _ (by omega) (by omega) _ HT.out).mono ?_; rintro e w' ⟨rfl, rfl⟩) | (go_at_call 18; refine (text_ref _ (by omega) (by omega) _).mono ?_; rintro e w' ⟨rfl, rfl⟩) | (go_at_call 7; refine (works_fresh _).mono ?_; rintro e w5 ⟨rfl, hg⟩) | (refine wp_loop_rounds 5 ?_; rw [rounds_succ]) | rw [rounds_succ])
    go_ret
    exact ⟨rfl, hg⟩
end Go.Proofs.YtjbnmfgmkcgglaaDoor.Mu
