/-
  The statement MultParts: walked, for all uses and multiplicities; each test's outcome is a law of plain numbers, laid ahead.
-/
import Derived.Test.YtjbnmfgmkcgglaaMultLoop
namespace Go.Proofs.Ytjbnmfgmkcgglaa.Mu
open Go.ChangeShapes Go.WideShapes Go.ChangeAt Go.RowKit

theorem sum_comm (a b : Int) : sumF [a, b] = sumF [b, a] := by
  simp only [sumF, sumT, List.foldl]
  rw [usedF_cu a, usedF_cu b]
  have ha := cu_mem a
  have hb := cu_mem b
  generalize cu a = x at *
  generalize cu b = y at *
  revert x y
  decide +kernel
theorem join_comm (a b : Int) : joinF [a, b] = joinF [b, a] := by
  simp only [joinF, joinT, List.foldl]
  rw [usedF_cu a, usedF_cu b]
  have ha := cu_mem a
  have hb := cu_mem b
  generalize cu a = x at *
  generalize cu b = y at *
  revert x y
  decide +kernel
theorem sum_assoc (a b c : Int) : sumF [sumF [a, b], c] = sumF [a, sumF [b, c]] := by
  simp only [sumF, sumT, List.foldl]
  rw [usedF_cu a, usedF_cu b, usedF_cu c]
  have ha := cu_mem a
  have hb := cu_mem b
  have hc := cu_mem c
  generalize cu a = x at *
  generalize cu b = y at *
  generalize cu c = z at *
  revert x y z
  decide +kernel
theorem join_assoc (a b c : Int) : joinF [joinF [a, b], c] = joinF [a, joinF [b, c]] := by
  simp only [joinF, joinT, List.foldl]
  rw [usedF_cu a, usedF_cu b, usedF_cu c]
  have ha := cu_mem a
  have hb := cu_mem b
  have hc := cu_mem c
  generalize cu a = x at *
  generalize cu b = y at *
  generalize cu c = z at *
  revert x y z
  decide +kernel
theorem sum_join (a b c : Int) : sumF [a, joinF [b, c]] = joinF [sumF [a, b], sumF [a, c]] := by
  simp only [sumF, sumT, joinF, joinT, List.foldl]
  rw [usedF_cu a, usedF_cu b, usedF_cu c]
  have ha := cu_mem a
  have hb := cu_mem b
  have hc := cu_mem c
  generalize cu a = x at *
  generalize cu b = y at *
  generalize cu c = z at *
  revert x y z
  decide +kernel
theorem scale_sum (m a b : Int) : scaleF m (sumF [a, b]) = sumF [scaleF m a, scaleF m b] := by
  simp only [scaleF, sumF, sumT, List.foldl]
  rw [usedF_cu a, usedF_cu b, letBeF_cm m]
  have ha := cu_mem a
  have hb := cu_mem b
  have hm := cm_mem m
  generalize cu a = x at *
  generalize cu b = y at *
  generalize knownF m = z at *
  revert x y z
  decide +kernel
theorem scale_join (m a b : Int) : scaleF m (joinF [a, b]) = joinF [scaleF m a, scaleF m b] := by
  simp only [scaleF, joinF, joinT, List.foldl]
  rw [usedF_cu a, usedF_cu b, letBeF_cm m]
  have ha := cu_mem a
  have hb := cu_mem b
  have hm := cm_mem m
  generalize cu a = x at *
  generalize cu b = y at *
  generalize knownF m = z at *
  revert x y z
  decide +kernel
theorem scale_scale (m n a : Int) : (m ≤ n → scaleF m (scaleF n a) = scaleF n a) ∧ (n ≤ m → scaleF m (scaleF n a) = scaleF m a) := by
  have key : (knownF m ≤ knownF n → scaleF m (scaleF n a) = scaleF n a) ∧ (knownF n ≤ knownF m → scaleF m (scaleF n a) = scaleF m a) := by
    simp only [scaleF]
    rw [usedF_cu a, letBeF_cm m, letBeF_cm n]
    have ha := cu_mem a
    have hm := cm_mem m
    have hn := cm_mem n
    generalize cu a = x at *
    generalize knownF m = y at *
    generalize knownF n = z at *
    revert x y z
    decide +kernel
  exact ⟨fun h => key.1 (by unfold knownF; (repeat' split) <;> omega), fun h => key.2 (by unfold knownF; (repeat' split) <;> omega)⟩

set_option maxRecDepth 100000 in
set_option maxHeartbeats 1000000 in
theorem multParts_any (a b c m n : Int) (hm0 : 0 ≤ m) (hm1 : m ≤ 255) (hn0 : 0 ≤ n) (hn1 : n ≤ 255) (w : World) :
    Calls Try.prog 5 #[.int .u8 a, .int .u8 b, .int .u8 c, .int .u8 m, .int .u8 n] w fun e w' => e = .returned (.bool true) ∧ Grown w w' := by
  have f1 := bne_of (sum_comm a b)
  have f2 := bne_of (join_comm a b)
  have f3 := bne_of (sum_assoc a b c)
  have f4 := bne_of (join_assoc a b c)
  have f5 := bne_of (sum_join a b c)
  have f6 := bne_of (scale_sum m a b)
  have f7 := bne_of (scale_join m a b)
  rcases Int.lt_or_le m n with hmn | hmn
  · have f8 := beq_of ((scale_scale m n a).1 (by omega))
    go_enter Try.func5, Try.ntmps5
    go_wp2_with (first | (go_at_call 8; refine (join_two _ _ _ _ _ (by simp)).mono ?_; rintro e w' ⟨rfl, rfl⟩) | (go_at_call 9; refine (sum_two _ _ _ _ _ (by simp)).mono ?_; rintro e w' ⟨rfl, rfl⟩) | (go_at_call 13; refine (scale_any _ _ (by omega) (by omega) _).mono ?_; rintro e w' ⟨rfl, rfl⟩) | (go_at_call 7; refine (works_any _).mono ?_; rintro e w' ⟨rfl, hg⟩))
    go_ret
    exact ⟨rfl, grown_on (by repeat (first | with_reducible exact Grown.refl _ | with_reducible apply Grown.alloc)) hg⟩
  · have f8 := beq_of ((scale_scale m n a).2 (by omega))
    go_enter Try.func5, Try.ntmps5
    go_wp2_with (first | (go_at_call 8; refine (join_two _ _ _ _ _ (by simp)).mono ?_; rintro e w' ⟨rfl, rfl⟩) | (go_at_call 9; refine (sum_two _ _ _ _ _ (by simp)).mono ?_; rintro e w' ⟨rfl, rfl⟩) | (go_at_call 13; refine (scale_any _ _ (by omega) (by omega) _).mono ?_; rintro e w' ⟨rfl, rfl⟩) | (go_at_call 7; refine (works_any _).mono ?_; rintro e w' ⟨rfl, hg⟩))
    go_ret
    exact ⟨rfl, grown_on (by repeat (first | with_reducible exact Grown.refl _ | with_reducible apply Grown.alloc)) hg⟩
end Go.Proofs.Ytjbnmfgmkcgglaa.Mu
