/-
  The statement MultFits: walked, for all uses and multiplicities; the tests' outcomes are laid ahead, by the cases that there are.
-/
import Derived.Test.YtjbnmfgmkcgglaaMultLoop
namespace Go.Proofs.Ytjbnmfgmkcgglaa.Mu
open Go.ChangeShapes Go.WideShapes Go.ChangeAt Go.RowKit

theorem fits_join (a b m : Int) : fitsF (joinF [a, b]) m = (fitsF a m && fitsF b m) := by
  rw [joinF_c, fitsF_c a, fitsF_c b]
  have e : fitsF (joinF [cu a, cu b]) m = fitsF (joinF [cu a, cu b]) (knownF m) := by unfold fitsF; rw [letBeF_cm m]
  rw [e]
  refine all_use (p := fun a => fitsF (joinF [a, cu b]) (knownF m) = (fitsF a (knownF m) && fitsF (cu b) (knownF m))) a ?_
  refine ⟨?_, ?_, ?_, ?_⟩ <;> refine all_use (p := fun b => fitsF (joinF [_, b]) (knownF m) = (fitsF _ (knownF m) && fitsF b (knownF m))) b ?_ <;> refine ⟨?_, ?_, ?_, ?_⟩ <;> refine all_mult (p := fun m => fitsF (joinF [_, _]) m = (fitsF _ m && fitsF _ m)) m ?_ <;> decide +kernel
theorem fits_up (a m k : Int) (h : fitsF a m = true) (hk : m ≤ k) : fitsF a k = true := by
  rw [fitsF_c] at h ⊢
  have hk' : knownF m ≤ knownF k := by unfold knownF; (repeat' split) <;> omega
  revert h hk'
  refine all_use (p := fun a => fitsF a (knownF m) = true → knownF m ≤ knownF k → fitsF a (knownF k) = true) a ?_
  refine ⟨?_, ?_, ?_, ?_⟩ <;> refine all_mult (p := fun m => fitsF _ m = true → m ≤ knownF k → fitsF _ (knownF k) = true) m ?_ <;> refine ⟨?_, ?_, ?_⟩ <;> refine all_mult (p := fun k => fitsF _ _ = true → _ ≤ k → fitsF _ k = true) k ?_ <;> decide +kernel
theorem fits_least (a : Int) : fitsF a (leastMF a) = true := by
  rw [leastMF_c, show fitsF a (leastMF (cu a)) = fitsF (cu a) (leastMF (cu a)) from by unfold fitsF; rw [usedF_cu a]]
  exact all_use (p := fun a => fitsF a (leastMF a) = true) a (by decide +kernel)
theorem least_low (a : Int) : (leastMF a == 1) = true ∨ (leastMF a == 1) = false ∧ 2 ≤ leastMF a ∧ leastMF a ≤ 3 ∧ fitsF a (leastMF a - 1) = false := by
  rw [leastMF_c, show fitsF a (leastMF (cu a) - 1) = fitsF (cu a) (leastMF (cu a) - 1) from by unfold fitsF; rw [usedF_cu a]]
  exact all_use (p := fun a => (leastMF a == 1) = true ∨ (leastMF a == 1) = false ∧ 2 ≤ leastMF a ∧ leastMF a ≤ 3 ∧ fitsF a (leastMF a - 1) = false) a (by decide +kernel)
theorem least_bd (a : Int) : 1 ≤ leastMF a ∧ leastMF a ≤ 3 := by
  rw [leastMF_c]
  exact all_use (p := fun a => 1 ≤ leastMF a ∧ leastMF a ≤ 3) a (by decide +kernel)

theorem multFits_any (a b m n : Int) (hm0 : 0 ≤ m) (hm1 : m ≤ 255) (hn0 : 0 ≤ n) (hn1 : n ≤ 255) (w : World) :
    Calls Try.prog 6 #[.int .u8 a, .int .u8 b, .int .u8 m, .int .u8 n] w fun e w' => e = .returned (.bool true) ∧ Grown w w' := by
  have f3 := fits_least a
  obtain ⟨l0, l1⟩ := least_bd a
  have J := Lib.hid (fits_join a b m)
  have U := Lib.hid (fits_up a m)
  have hj : (fitsF a m = true ∧ fitsF b m = true ∧ fitsF (joinF [a, b]) m = true) ∨ (fitsF a m = true ∧ fitsF b m = false ∧ fitsF (joinF [a, b]) m = false) ∨ (fitsF a m = false ∧ fitsF (joinF [a, b]) m = false) := by
    rw [J.out]
    cases fitsF a m <;> cases fitsF b m <;> simp
  rcases least_low a with h | ⟨h, _, _, h'⟩ <;> rcases hj with ⟨g1, g2, g3⟩ | ⟨g1, g2, g3⟩ | ⟨g1, g3⟩ <;> rcases Int.lt_or_le m n with hmn | hmn
  all_goals
    try have g4 := U.out n g1 (by omega)
    go_enter Try.func6, Try.ntmps6
    go_wp2_with (first | (go_at_call 8; refine (join_two _ _ _ _ _ (by simp)).mono ?_; rintro e w' ⟨rfl, rfl⟩) | (go_at_call 14; refine (fits_any _ _ (by omega) (by omega) _).mono ?_; rintro e w' ⟨rfl, rfl⟩) | (go_at_call 15; refine (least_any _ _).mono ?_; rintro e w' ⟨rfl, rfl⟩) | (go_at_call 7; refine (works_any _).mono ?_; rintro e w' ⟨rfl, hg⟩))
    go_ret
    exact ⟨rfl, grown_on (by repeat (first | with_reducible exact Grown.refl _ | with_reducible apply Grown.alloc)) hg⟩
end Go.Proofs.Ytjbnmfgmkcgglaa.Mu
