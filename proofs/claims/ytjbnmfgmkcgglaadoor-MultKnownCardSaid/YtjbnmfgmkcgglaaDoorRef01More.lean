/-
  The document's own answers for layer 1: which use a multiplicity is, whether a use fits one, and its text.
-/
import Derived.Test.YtjbnmfgmkcgglaaDoorRef01
namespace Go.Proofs.YtjbnmfgmkcgglaaDoor.Mu
open Go.ChangeShapes Go.WideShapes Go.ChangeAt Go.RowKit

theorem of_ref (m : Int) (h0 : 0 ≤ m) (h1 : m ≤ 255) (w : World) : Calls Tryd.prog 24 #[.int .u8 m] w fun e w' => e = .returned (.int .u8 (knownF m)) ∧ w = w' := by
  by_cases c0 : m = 0
  · subst c0
    go_enter Tryd.func24, Tryd.ntmps24
    go_wp2
    go_ret
    exact ⟨rfl, rfl⟩
  by_cases c1 : m = 1
  · subst c1
    go_enter Tryd.func24, Tryd.ntmps24
    go_wp2
    go_ret
    exact ⟨rfl, rfl⟩
  by_cases c2 : m = 2
  · subst c2
    go_enter Tryd.func24, Tryd.ntmps24
    go_wp2
    go_ret
    exact ⟨rfl, rfl⟩
  have e0 : (m == 0) = false := by simpa using c0
  have e1 : (m == 1) = false := by simpa using c1
  have e2 : (m == 2) = false := by simpa using c2
  have e : knownF m = 3 := by unfold knownF; rw [if_neg (by omega), if_neg (by omega)]
  have E := Lib.hid e
  clear e c0 c1 c2
  go_enter Tryd.func24, Tryd.ntmps24
  go_wp2
  go_ret
  exact ⟨by rw [E.out]; rfl, rfl⟩

theorem fits_row (u m : Int) : fitsF u m = fitsF (cu u) (knownF m) := fitsF_c u m

set_option maxHeartbeats 2000000 in
theorem fits_ref (u m : Int) (h0 : 0 ≤ m) (h1 : m ≤ 255) (w : World) : Calls Tryd.prog 12 #[.int .u8 u, .int .u8 m] w fun e w' => e = .returned (.bool (fitsF u m)) ∧ w = w' := by
  have E := Lib.hid (fitsF_c u m)
  have c00 : letsF 0 0 = true := rfl
  have c01 : letsF 0 1 = false := rfl
  have c02 : letsF 0 2 = false := rfl
  have c03 : letsF 0 3 = false := rfl
  have c10 : letsF 1 0 = false := rfl
  have c11 : letsF 1 1 = true := rfl
  have c12 : letsF 1 2 = false := rfl
  have c13 : letsF 1 3 = false := rfl
  have c20 : letsF 2 0 = true := rfl
  have c21 : letsF 2 1 = true := rfl
  have c22 : letsF 2 2 = false := rfl
  have c23 : letsF 2 3 = false := rfl
  have c30 : letsF 3 0 = true := rfl
  have c31 : letsF 3 1 = true := rfl
  have c32 : letsF 3 2 = true := rfl
  have c33 : letsF 3 3 = true := rfl
  rcases lets_row u with ⟨x, a0, a1, a2, a3⟩ | ⟨x, a0, a1, a2, a3⟩ | ⟨x, a0, a1, a2, a3⟩ | ⟨x, a0, a1, a2, a3⟩ <;> rcases cm_cases m with y | y | y
  all_goals
    have X := Lib.hid x
    have Y := Lib.hid y
    clear x
    go_enter Tryd.func12, Tryd.ntmps12
    go_wp2
    refine wp_loop_rounds 5 ?_; rw [rounds_succ]
    go_wp2_with (first | (go_at_call 23; refine (lets_ref _ _ _).mono ?_; rintro e w' ⟨rfl, rfl⟩) | (go_at_call 24; refine (of_ref _ (by omega) (by omega) _).mono ?_; rintro e w' ⟨rfl, rfl⟩) | rw [rounds_succ])
    go_ret
    exact ⟨ret_bool (by rw [E.out, X.out, Y.out]; rfl), rfl⟩

/-- The text of a multiplicity. -/
def textS (m : Int) : ByteArray := if knownF m = 1 then ⟨#[49]⟩ else if knownF m = 2 then ⟨#[63]⟩ else ⟨#[42]⟩
theorem text_ref (m : Int) (h0 : 0 ≤ m) (h1 : m ≤ 255) (w : World) : Calls Tryd.prog 18 #[.int .u8 m] w fun e w' => e = .returned (.string (textS m)) ∧ w = w' := by
  obtain ⟨r, e⟩ : ∃ r, textS m = r := ⟨_, rfl⟩
  have E := Lib.hid e
  rcases cm_cases m with y | y | y
  all_goals
    simp only [textS, y] at e
    have E2 := Lib.hid e
    clear e
    go_enter Tryd.func18, Tryd.ntmps18
    go_wp2_with (first | (go_at_call 24; refine (of_ref _ (by omega) (by omega) _).mono ?_; rintro e w' ⟨rfl, rfl⟩))
    go_ret
    exact ⟨by rw [E.out, ← E2.out]; rfl, rfl⟩
end Go.Proofs.YtjbnmfgmkcgglaaDoor.Mu
