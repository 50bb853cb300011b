/-
  Layer 1's own functions (package mult), each walked once: what it returns is what the plain function of MultFn says, and the world is as it was.
-/
import Derived.Test.YtghoipgldnfjoaaRows
import Derived.Test.YtghoipgldnfjoaaMultFn
import Derived.WalkKit
import Derived.ProofKit
import Derived.OpenShut
import Derived.Outline
import Derived.Lib.Hide
import Derived.WalkLawsBesides
import Derived.Laws.Entries
import Derived.Laws.NewBlocks
import Derived.Laws.Build
namespace Go.Proofs.Ytghoipgldnfjoaa.Mu
open Go.ChangeShapes Go.WideShapes Go.ChangeAt Go.RowKit

theorem used_any (u : Int) (w : World) : Calls Try.prog 52 #[.int .u8 u] w fun e w' => e = .returned (.int .u8 (usedF u)) ∧ w = w' := by
  by_cases h0 : u = 0
  · subst h0
    go_enter Try.func52, Try.ntmps52
    go_wp2
    go_ret
    exact ⟨rfl, rfl⟩
  by_cases h1 : u = 1
  · subst h1
    go_enter Try.func52, Try.ntmps52
    go_wp2
    go_ret
    exact ⟨rfl, rfl⟩
  by_cases h2 : u = 2
  · subst h2
    go_enter Try.func52, Try.ntmps52
    go_wp2
    go_ret
    exact ⟨rfl, rfl⟩
  have e0 : (u == 0) = false := by simpa using h0
  have e1 : (u == 1) = false := by simpa using h1
  have e2 : (u == 2) = false := by simpa using h2
  have e : usedF u = 7 := by simp [usedF, h0, h1, h2]
  have E := Lib.hid e
  clear e h0 h1 h2
  go_enter Try.func52, Try.ntmps52
  go_wp2
  go_ret
  exact ⟨by rw [E.out]; rfl, rfl⟩

theorem ret_int {k : IntKind} {a b : Int} (h : a = b) : Ending.returned (.int k a) = .returned (.int k b) := by rw [h]
theorem ret_bool {a b : Bool} (h : a = b) : Ending.returned (.bool a) = .returned (.bool b) := by rw [h]

theorem known_any (m : Int) (h0 : 0 ≤ m) (h1 : m ≤ 255) (w : World) : Calls Try.prog 86 #[.int .u8 m] w fun e w' => e = .returned (.int .u8 (knownF m)) ∧ w = w' := by
  go_enter Try.func86, Try.ntmps86
  go_wp2
  all_goals
    go_ret
    exact ⟨ret_int (by unfold knownF; repeat' split
                       all_goals omega), rfl⟩

theorem letBe_any (m : Int) (h0 : 0 ≤ m) (h1 : m ≤ 255) (w : World) : Calls Try.prog 66 #[.int .u8 m] w fun e w' => e = .returned (.int .u8 (letBeF m)) ∧ w = w' := by
  have hb : 1 ≤ knownF m ∧ knownF m ≤ 3 := by rcases cm_cases m with e | e | e <;> omega
  rw [letBeF_cm]
  obtain ⟨hb1, hb2⟩ := hb
  go_enter Try.func66, Try.ntmps66
  go_wp2_with (go_at_call 86; refine (known_any _ h0 h1 _).mono ?_; rintro e w' ⟨rfl, rfl⟩)
  all_goals
    go_ret
    exact ⟨ret_int (by unfold letBeF; repeat' split
                       all_goals first | rfl | (simp only [beq_iff_eq, beq_eq_false_iff_ne, ne_eq] at *; omega)), rfl⟩

theorem leastUse_any (t : Int) (w : World) : Calls Try.prog 53 #[.int .u8 t] w fun e w' => e = .returned (.int .u8 (leastF t)) ∧ w = w' := by
  by_cases h0 : (bits .andNot .u8 t (usedF 0) == 0) = true
  · have e : leastF t = 0 := by simp only [leastF, h0, if_true]
    have E := Lib.hid e
    clear e
    go_enter Try.func53, Try.ntmps53
    go_wp2
    refine wp_loop_rounds 4 ?_; rw [rounds_succ]
    go_wp2_with (first | (go_at_call 52; refine (used_any _ _).mono ?_; rintro e w' ⟨rfl, rfl⟩) | rw [rounds_succ])
    go_ret
    exact ⟨ret_int E.out.symm, rfl⟩
  rw [Bool.not_eq_true] at h0
  by_cases h1 : (bits .andNot .u8 t (usedF 1) == 0) = true
  · have e : leastF t = 1 := by simp [leastF, h0, h1]
    have E := Lib.hid e
    clear e
    go_enter Try.func53, Try.ntmps53
    go_wp2
    refine wp_loop_rounds 4 ?_; rw [rounds_succ]
    go_wp2_with (first | (go_at_call 52; refine (used_any _ _).mono ?_; rintro e w' ⟨rfl, rfl⟩) | rw [rounds_succ])
    go_ret
    exact ⟨ret_int E.out.symm, rfl⟩
  rw [Bool.not_eq_true] at h1
  by_cases h2 : (bits .andNot .u8 t (usedF 2) == 0) = true
  · have e : leastF t = 2 := by simp [leastF, h0, h1, h2]
    have E := Lib.hid e
    clear e
    go_enter Try.func53, Try.ntmps53
    go_wp2
    refine wp_loop_rounds 4 ?_; rw [rounds_succ]
    go_wp2_with (first | (go_at_call 52; refine (used_any _ _).mono ?_; rintro e w' ⟨rfl, rfl⟩) | rw [rounds_succ])
    go_ret
    exact ⟨ret_int E.out.symm, rfl⟩
  rw [Bool.not_eq_true] at h2
  · have e : leastF t = 3 := by simp [leastF, h0, h1, h2]
    have E := Lib.hid e
    clear e
    go_enter Try.func53, Try.ntmps53
    go_wp2
    refine wp_loop_rounds 4 ?_; rw [rounds_succ]
    go_wp2_with (first | (go_at_call 52; refine (used_any _ _).mono ?_; rintro e w' ⟨rfl, rfl⟩) | rw [rounds_succ])
    go_ret
    exact ⟨ret_int E.out.symm, rfl⟩

theorem add_any (a b : Int) (w : World) : Calls Try.prog 54 #[.int .u8 a, .int .u8 b] w fun e w' => e = .returned (.int .u8 (addF a b)) ∧ w = w' := by
  by_cases h0 : (bits .and .u8 a 1 != 0) = true <;> by_cases h1 : (bits .and .u8 b 1 != 0) = true <;> by_cases h2 : (bits .andNot .u8 a 1 != 0) = true <;> by_cases h3 : (bits .andNot .u8 b 1 != 0) = true
  all_goals
    try simp only [Bool.not_eq_true] at h0 h1 h2 h3
    obtain ⟨r, e⟩ : ∃ r, addF a b = r := ⟨_, rfl⟩
    have E := Lib.hid e
    simp only [addF, h0, h1, h2, h3, if_true, Bool.and_self, Bool.and_true, Bool.and_false, Bool.false_eq_true, if_false] at e
    have E2 := Lib.hid e
    clear e
    go_enter Try.func54, Try.ntmps54
    go_wp2
    go_ret
    exact ⟨ret_int (by rw [E.out, ← E2.out]), rfl⟩

theorem fits_any (u m : Int) (h0 : 0 ≤ m) (h1 : m ≤ 255) (w : World) : Calls Try.prog 51 #[.int .u8 u, .int .u8 m] w fun e w' => e = .returned (.bool (fitsF u m)) ∧ w = w' := by
  go_enter Try.func51, Try.ntmps51
  go_wp2_with (first | (go_at_call 52; refine (used_any _ _).mono ?_; rintro e w' ⟨rfl, rfl⟩) | (go_at_call 66; refine (letBe_any _ h0 h1 _).mono ?_; rintro e w' ⟨rfl, rfl⟩))
  go_ret
  exact ⟨rfl, rfl⟩

theorem least_any (u : Int) (w : World) : Calls Try.prog 64 #[.int .u8 u] w fun e w' => e = .returned (.int .u8 (leastMF u)) ∧ w = w' := by
  by_cases h0 : fitsF u 1 = true <;> by_cases h1 : fitsF u 2 = true
  all_goals
    try simp only [Bool.not_eq_true] at h0 h1
    obtain ⟨r, e⟩ : ∃ r, leastMF u = r := ⟨_, rfl⟩
    have E := Lib.hid e
    simp only [leastMF, h0, h1, if_true, Bool.false_eq_true, if_false] at e
    have E2 := Lib.hid e
    clear e
    go_enter Try.func64, Try.ntmps64
    go_wp2
    refine wp_loop_rounds 3 ?_; rw [rounds_succ]
    go_wp2_with (first | (go_at_call 51; refine (fits_any _ _ (by omega) (by omega) _).mono ?_; rintro e w' ⟨rfl, rfl⟩) | rw [rounds_succ])
    go_ret
    exact ⟨ret_int (by rw [E.out, ← E2.out]), rfl⟩

theorem scale_any (m u : Int) (hm0 : 0 ≤ m) (hm1 : m ≤ 255) (w : World) : Calls Try.prog 33 #[.int .u8 m, .int .u8 u] w fun e w' => e = .returned (.int .u8 (scaleF m u)) ∧ w = w' := by
  by_cases h0 : (bits .and .u8 (letBeF m) 1 != 0) = true <;> by_cases h1 : (bits .and .u8 (letBeF m) 2 != 0) = true <;> by_cases h2 : (bits .and .u8 (letBeF m) 4 != 0) = true
  all_goals
    try simp only [Bool.not_eq_true] at h0 h1 h2
    obtain ⟨r, e⟩ : ∃ r, scaleF m u = r := ⟨_, rfl⟩
    have E := Lib.hid e
    simp only [scaleF, h0, h1, h2, if_true, Bool.false_eq_true, if_false] at e
    have E2 := Lib.hid e
    clear e
    go_enter Try.func33, Try.ntmps33
    go_wp2_with (first | (go_at_call 52; refine (used_any _ _).mono ?_; rintro e w' ⟨rfl, rfl⟩) | (go_at_call 66; refine (letBe_any _ hm0 hm1 _).mono ?_; rintro e w' ⟨rfl, rfl⟩) | (go_at_call 54; refine (add_any _ _ _).mono ?_; rintro e w' ⟨rfl, rfl⟩) | (go_at_call 53; refine (leastUse_any _ _).mono ?_; rintro e w' ⟨rfl, rfl⟩))
    go_ret
    exact ⟨ret_int (by rw [E.out, ← E2.out]), rfl⟩
end Go.Proofs.Ytghoipgldnfjoaa.Mu
