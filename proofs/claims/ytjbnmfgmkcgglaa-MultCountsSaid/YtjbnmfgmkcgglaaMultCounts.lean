/-
  The statement MultCounts: walked, for all uses and all numbers of times; each test's outcome is a law of plain numbers, laid ahead.
-/
import Derived.Test.YtjbnmfgmkcgglaaMultLoop
namespace Go.Proofs.Ytjbnmfgmkcgglaa.Mu
open Go.ChangeShapes Go.WideShapes Go.ChangeAt Go.RowKit

/-- The statement's own question whether a use lets a number of times be. -/
theorem lets_any (u n : Int) (h0 : 0 ≤ u) (h1 : u ≤ 255) (w : World) : Calls Try.prog 12 #[.int .u8 u, .int .i64 n] w fun e w' => e = .returned (.bool (letsF u n)) ∧ w = w' := by
  by_cases c3 : 3 ≤ u
  · have e : letsF u n = true := by simp [letsF, show u ≠ 0 by omega, show u ≠ 1 by omega, show u ≠ 2 by omega]
    have E := Lib.hid e
    clear e
    go_enter Try.func12, Try.ntmps12
    go_wp2
    go_ret
    exact ⟨ret_bool E.out.symm, rfl⟩
  by_cases c2 : u = 2
  · subst c2
    go_enter Try.func12, Try.ntmps12
    go_wp2
    all_goals
      go_ret
      exact ⟨ret_bool (by simp [letsF, *]), rfl⟩
  by_cases c1 : u = 1
  · subst c1
    go_enter Try.func12, Try.ntmps12
    go_wp2
    all_goals
      go_ret
      exact ⟨ret_bool (by simp [letsF, *]), rfl⟩
  · obtain rfl : u = 0 := by omega
    go_enter Try.func12, Try.ntmps12
    go_wp2
    all_goals
      go_ret
      exact ⟨ret_bool (by simp [letsF, *]), rfl⟩
theorem lets_iff (u n : Int) : letsF u n = true ↔ (u = 0 → n = 0) ∧ (u = 1 → n = 1) ∧ (u = 2 → n ≤ 1) := by
  unfold letsF
  split
  · subst_vars; simp
  split
  · subst_vars; simp
  split
  · subst_vars; simp
  · simp [*]
theorem cu_split (u : Int) : (u = 0 ∧ cu u = 0) ∨ (u = 1 ∧ cu u = 1) ∨ (u = 2 ∧ cu u = 2) ∨ (u ≠ 0 ∧ u ≠ 1 ∧ u ≠ 2 ∧ cu u = 3) := by unfold cu; (repeat' split) <;> omega
theorem sum_tab (a b : Int) : sumF [a, b] = if cu a = 0 then cu b else if cu b = 0 then cu a else 3 := by
  simp only [sumF, sumT, List.foldl]
  rw [usedF_cu a, usedF_cu b]
  have ha := cu_mem a
  have hb := cu_mem b
  generalize cu a = x at *
  generalize cu b = y at *
  revert x y
  decide +kernel
theorem join_tab (a b : Int) : joinF [a, b] = if cu a = cu b then cu a else if cu a = 3 then 3 else if cu b = 3 then 3 else 2 := by
  simp only [joinF, joinT, List.foldl]
  rw [usedF_cu a, usedF_cu b]
  have ha := cu_mem a
  have hb := cu_mem b
  generalize cu a = x at *
  generalize cu b = y at *
  revert x y
  decide +kernel
theorem scale_tab (a : Int) : scaleF 1 a = cu a ∧ scaleF 2 a = (if cu a = 1 then 2 else cu a) ∧ scaleF 3 a = (if cu a = 0 then 0 else 3) := by
  simp only [scaleF]
  rw [usedF_cu a]
  have ha := cu_mem a
  generalize cu a = x at *
  revert x
  decide +kernel

/-- All that the statement asks, of plain numbers. -/
theorem counts (a b n k : Int) (hn : 0 ≤ n) (hk : 0 ≤ k) (ha : letsF a n = true) (hb : letsF b k = true) :
    letsF (sumF [a, b]) (n + k) = true ∧ letsF (joinF [a, b]) n = true ∧ letsF (joinF [a, b]) k = true ∧ letsF (scaleF 1 a) n = true ∧ letsF (scaleF 2 a) n = true ∧ letsF (scaleF 2 a) 0 = true ∧ letsF (scaleF 3 a) (2 * n) = true ∧ letsF (scaleF 3 a) 0 = true := by
  simp only [lets_iff] at *
  obtain ⟨e1, e2, e3⟩ := scale_tab a
  rw [sum_tab, join_tab, e1, e2, e3]
  rcases cu_split a with ⟨x, ca⟩ | ⟨x, ca⟩ | ⟨x, ca⟩ | ⟨x, x', x'', ca⟩ <;> rcases cu_split b with ⟨y, cb⟩ | ⟨y, cb⟩ | ⟨y, cb⟩ | ⟨y, y', y'', cb⟩ <;> rw [ca, cb] <;> refine ⟨?_, ?_, ?_, ?_, ?_, ?_, ?_, ?_⟩ <;> simp <;> omega

theorem guard_false {n k : Int} {p q : Bool} (h : ¬ (0 ≤ n ∧ 0 ≤ k ∧ n ≤ 1099511627776 ∧ k ≤ 1099511627776 ∧ p = true ∧ q = true)) :
    n < 0 ∨ (0 ≤ n ∧ k < 0) ∨ (0 ≤ n ∧ 0 ≤ k ∧ 1099511627776 < n) ∨ (0 ≤ n ∧ 0 ≤ k ∧ n ≤ 1099511627776 ∧ 1099511627776 < k) ∨ (0 ≤ n ∧ 0 ≤ k ∧ n ≤ 1099511627776 ∧ k ≤ 1099511627776 ∧ p = false) ∨ (0 ≤ n ∧ 0 ≤ k ∧ n ≤ 1099511627776 ∧ k ≤ 1099511627776 ∧ p = true ∧ q = false) := by
  cases p <;> cases q <;> simp at * <;> omega

set_option maxRecDepth 100000 in
set_option maxHeartbeats 1000000 in
theorem multCounts_any (a b n k : Int) (ha0 : 0 ≤ a) (ha1 : a ≤ 255) (hb0 : 0 ≤ b) (hb1 : b ≤ 255) (w : World) :
    Calls Try.prog 4 #[.int .u8 a, .int .u8 b, .int .i64 n, .int .i64 k] w fun e w' => e = .returned (.bool true) ∧ Grown w w' := by
  by_cases h : 0 ≤ n ∧ 0 ≤ k ∧ n ≤ 1099511627776 ∧ k ≤ 1099511627776 ∧ letsF a n = true ∧ letsF b k = true
  · obtain ⟨hn0, hk0, hn1, hk1, ga, gb⟩ := h
    obtain ⟨f1, f2, f3, f4, f5, f6, f7, f8⟩ := counts a b n k hn0 hk0 ga gb
    have hs : 0 ≤ sumF [a, b] ∧ sumF [a, b] ≤ 3 := by rw [sum_tab]; rcases cu_cases a with x | x | x | x <;> rcases cu_cases b with y | y | y | y <;> simp [x, y]
    have hj : 0 ≤ joinF [a, b] ∧ joinF [a, b] ≤ 3 := by rw [join_tab]; rcases cu_cases a with x | x | x | x <;> rcases cu_cases b with y | y | y | y <;> simp [x, y]
    have hc : 0 ≤ scaleF 1 a ∧ scaleF 1 a ≤ 3 ∧ 0 ≤ scaleF 2 a ∧ scaleF 2 a ≤ 3 ∧ 0 ≤ scaleF 3 a ∧ scaleF 3 a ≤ 3 := by
      obtain ⟨e1, e2, e3⟩ := scale_tab a
      rw [e1, e2, e3]; rcases cu_cases a with x | x | x | x <;> simp [x]
    obtain ⟨hs1, hs2⟩ := hs
    obtain ⟨hj1, hj2⟩ := hj
    obtain ⟨hc1, hc2, hc3, hc4, hc5, hc6⟩ := hc
    go_enter Try.func4, Try.ntmps4
    go_wp2_with (first | (go_at_call 8; refine (join_two _ _ _ _ _ (by simp)).mono ?_; rintro e w' ⟨rfl, rfl⟩) | (go_at_call 9; refine (sum_two _ _ _ _ _ (by simp)).mono ?_; rintro e w' ⟨rfl, rfl⟩) | (go_at_call 13; refine (scale_any _ _ (by omega) (by omega) _).mono ?_; rintro e w' ⟨rfl, rfl⟩) | (go_at_call 12; refine (lets_any _ _ (by omega) (by omega) _).mono ?_; rintro e w' ⟨rfl, rfl⟩) | (go_at_call 7; refine (works_any _).mono ?_; rintro e w' ⟨rfl, hg⟩))
    go_ret
    exact ⟨rfl, grown_on (by repeat (first | with_reducible exact Grown.refl _ | with_reducible apply Grown.alloc)) hg⟩
  · rcases guard_false h with h1 | ⟨h1, h2⟩ | ⟨h1, h2, h3⟩ | ⟨h1, h2, h3, h4⟩ | ⟨h1, h2, h3, h4, h5⟩ | ⟨h1, h2, h3, h4, h5, h6⟩
    all_goals
      clear h
      go_enter Try.func4, Try.ntmps4
      go_wp2_with (first | (go_at_call 8; refine (join_two _ _ _ _ _ (by simp)).mono ?_; rintro e w' ⟨rfl, rfl⟩) | (go_at_call 9; refine (sum_two _ _ _ _ _ (by simp)).mono ?_; rintro e w' ⟨rfl, rfl⟩) | (go_at_call 13; refine (scale_any _ _ (by omega) (by omega) _).mono ?_; rintro e w' ⟨rfl, rfl⟩) | (go_at_call 12; refine (lets_any _ _ (by omega) (by omega) _).mono ?_; rintro e w' ⟨rfl, rfl⟩) | (go_at_call 7; refine (works_any _).mono ?_; rintro e w' ⟨rfl, hg⟩))
      go_ret
      exact ⟨rfl, hg⟩
end Go.Proofs.Ytjbnmfgmkcgglaa.Mu
