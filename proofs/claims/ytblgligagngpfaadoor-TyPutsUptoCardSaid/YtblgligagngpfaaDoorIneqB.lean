/-
  Layer 3's functions: the text of an inequality, whether it may be.
-/
import Derived.Test.YtblgligagngpfaaDoorIneqA
import Derived.Test.YtblgligagngpfaaDoorTextM
import Derived.Deep.RegionHeld3
namespace Go.Proofs.YtblgligagngpfaaDoor.Mu
open Go.ChangeShapes Go.WideShapes Go.ChangeAt Go.RowKit

theorem lh_var {v m : Int} (h : isB v m = true) : lhB m = true → 0 ≤ lvF v m ∧ lvF v m < 1048576 := by
  intro hl
  unfold lhB at hl
  simp at hl
  unfold lvF
  rw [if_pos hl]
  rcases isB_parts h with ⟨a, b, c⟩ | ⟨a, b, c⟩ <;> omega
theorem rh_var {r : Int} (h0 : -1 ≤ r) (h1 : r < 1048576) : rhB r = true → 0 ≤ r ∧ r < 1048576 := by
  intro hl; unfold rhB at hl; simp at hl; omega
theorem lc_bd {v m : Int} (h : isB v m = true) : 1 ≤ lcF m ∧ lcF m ≤ 3 := by
  unfold lcF; rcases isB_parts h with ⟨a, b, c⟩ | ⟨a, b, c⟩
  · rw [if_pos a]; omega
  · rw [if_neg (by omega)]; omega


theorem is_yes {v m : Int} (h : isB v m = true) (w : World) : Calls Tryd.prog 55 #[.agg #[.int .i64 v, .int .u8 m]] w fun e w' => e = .returned (.int .i64 0) ∧ Bel w w' := by
  have := is_any v m w; rw [h] at this; exact this
theorem is_no {v m : Int} (h : isB v m = false) (w : World) : Calls Tryd.prog 55 #[.agg #[.int .i64 v, .int .u8 m]] w fun e w' => e = .returned (.int .i64 2) ∧ Bel w w' := by
  have := is_any v m w; rw [h] at this; exact this
end Go.Proofs.YtblgligagngpfaaDoor.Mu

