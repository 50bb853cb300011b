/-
  Layer 3's functions: the sides of an inequality, its text, whether it may be.
-/
import Derived.Test.YtlbachjhhjjmfaaTermFG
import Derived.Deep.QuietTactic
import Derived.BigQuiet
import Derived.Deep.RegionWith
namespace Go.Proofs.Ytlbachjhhjjmfaa.Mu
open Go.ChangeShapes Go.WideShapes Go.ChangeAt Go.RowKit

def lcF (m : Int) : Int := if m = 0 then 1 else m
def lhB (m : Int) : Bool := decide (m = 0)
def lvF (v m : Int) : Int := if m = 0 then v else 0
def rhB (r : Int) : Bool := decide (r ≠ -1)
theorem cells6 {w : World} {g : Nat} {t : TypeId} {x0 x1 x2 x3 x4 x5 : Value} (h : w.heap[g]? = some (.cells #[x0, x1, x2, x3, x4, x5] t (0, 0))) :
    w.cell? ⟨g, 0, none⟩ = some x0 ∧ w.cell? ⟨g, 1, none⟩ = some x1 ∧ w.cell? ⟨g, 2, none⟩ = some x2 ∧ w.cell? ⟨g, 3, none⟩ = some x3 ∧ w.cell? ⟨g, 4, none⟩ = some x4 ∧ w.cell? ⟨g, 5, none⟩ = some x5 := by
  simp [World.cell?, h]
theorem cells4 {w : World} {g : Nat} {t : TypeId} {x y z u : Value} (h : w.heap[g]? = some (.cells #[x, y, z, u] t (0, 0))) :
    w.cell? ⟨g, 0, none⟩ = some x ∧ w.cell? ⟨g, 1, none⟩ = some y ∧ w.cell? ⟨g, 2, none⟩ = some z ∧ w.cell? ⟨g, 3, none⟩ = some u := by
  simp [World.cell?, h]

set_option maxRecDepth 100000 in
theorem sides_any (v m c r : Int) (w : World) : Calls Try.prog 36 #[.agg #[.int .i64 v, .int .u8 m, .int .u8 c, .int .i64 r]] w
    fun e w' => e = .returned (.agg #[.int .u8 (lcF m), .bool (lhB m), .int .i64 (lvF v m), .int .u8 c, .bool (rhB r), .int .i64 r]) ∧ Bel w w' := by
  unfold lcF lhB lvF rhB
  by_cases hm : m = 0 <;> by_cases hr : r = -1
  all_goals
    have hm2 : (m == 0) = decide (m = 0) := by by_cases h : m = 0 <;> simp [h]
    have hr2 : (r != -1) = decide (r ≠ -1) := by by_cases h : r = -1 <;> simp [h]
    simp only [hm, hr, decide_true, decide_false] at hm2 hr2
    go_enter Try.func36, Try.ntmps36
    go_wp2
    exact bodyPost_ret (v := .agg #[.int .u8 (if m = 0 then 1 else m), .bool (decide (m = 0)), .int .i64 (if m = 0 then v else 0), .int .u8 c, .bool (decide (r ≠ -1)), .int .i64 r]) (by simp [results, Try.results36, go_sem, hm, hr]) rfl ⟨by simp [hm, hr], (((Bel.refl _).alloc _).alloc _).alloc _⟩

end Go.Proofs.Ytlbachjhhjjmfaa.Mu

