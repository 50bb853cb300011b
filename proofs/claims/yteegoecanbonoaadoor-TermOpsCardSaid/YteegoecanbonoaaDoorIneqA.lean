/-
  Layer 3's functions: the sides of an inequality, its text, whether it may be.
-/
import Derived.Test.YteegoecanbonoaaDoorText
import Derived.Test.YteegoecanbonoaaDoorTermG
import Derived.Deep.QuietTactic
import Derived.BigQuiet
import Derived.Deep.RegionWith
namespace Go.Proofs.YteegoecanbonoaaDoor.Mu
open Go.ChangeShapes Go.WideShapes Go.ChangeAt Go.RowKit

def lcF (m : Int) : Int := if m = 0 then 1 else m
def lhB (m : Int) : Bool := decide (m = 0)
def lvF (v m : Int) : Int := if m = 0 then v else 0
def rhB (r : Int) : Bool := decide (r ≠ -1)
theorem cells6 {w : World} {g : Nat} {t : TypeId} {x0 x1 x2 x3 x4 x5 : Value} (h : w.heap[g]? = some (.cells #[x0, x1, x2, x3, x4, x5] t (0, 0))) :
    w.cell? ⟨g, 0, none⟩ = some x0 ∧ w.cell? ⟨g, 1, none⟩ = some x1 ∧ w.cell? ⟨g, 2, none⟩ = some x2 ∧ w.cell? ⟨g, 3, none⟩ = some x3 ∧ w.cell? ⟨g, 4, none⟩ = some x4 ∧ w.cell? ⟨g, 5, none⟩ = some x5 := by
  simp [World.cell?, h]
theorem cells4 {w : World} {g : Nat} {t : TypeId} {x y z u : Value} (h : w.heap[g]? = some (.cells #[x, y, z, u] t (0, 0))) :
    w.cell? ⟨g, 0, none⟩ = some x ∧ w.cell? ⟨g, 1, none⟩ = some y ∧ w.cell? ⟨g, 2, none⟩ = some z ∧ w.cell? ⟨g, 3, none⟩ = some u := by
  simp [World.cell?, h]

set_option maxRecDepth 100000 in
theorem sides_any (v m c r : Int) (w : World) : Calls Tryd.prog 58 #[.agg #[.int .i64 v, .int .u8 m, .int .u8 c, .int .i64 r]] w
    fun e w' => e = .returned (.agg #[.int .u8 (lcF m), .bool (lhB m), .int .i64 (lvF v m), .int .u8 c, .bool (rhB r), .int .i64 r]) ∧ Bel w w' := by
  unfold lcF lhB lvF rhB
  by_cases hm : m = 0 <;> by_cases hr : r = -1
  all_goals
    have hm2 : (m == 0) = decide (m = 0) := by by_cases h : m = 0 <;> simp [h]
    have hr2 : (r != -1) = decide (r ≠ -1) := by by_cases h : r = -1 <;> simp [h]
    simp only [hm, hr, decide_true, decide_false] at hm2 hr2
    go_enter Tryd.func58, Tryd.ntmps58
    go_wp2
    exact bodyPost_ret (v := .agg #[.int .u8 (if m = 0 then 1 else m), .bool (decide (m = 0)), .int .i64 (if m = 0 then v else 0), .int .u8 c, .bool (decide (r ≠ -1)), .int .i64 r]) (by simp [results, Tryd.results58, go_sem, hm, hr]) rfl ⟨by simp [hm, hr], (((Bel.refl _).alloc _).alloc _).alloc _⟩

def sideS (c : Int) (h : Bool) (v : Int) : List UInt8 := if h then textT false c [v] else mulS c
theorem sideS_len {c : Int} {h : Bool} {v : Int} (hv : h = true → 0 ≤ v ∧ v < 1048576) : (sideS c h v).length ≤ 100 := by
  unfold sideS
  cases h
  · have := mulS_len c; simp; omega
  · obtain ⟨a, b⟩ := partsS_len (c := c) (l := [v]) (by simpa using hv rfl)
    have := join_len a
    simp [textT] at *; omega
set_option maxRecDepth 100000 in
theorem stext_any (c : Int) (h : Bool) (v : Int) (hv : h = true → 0 ≤ v ∧ v < 1048576) (h0 : 0 ≤ c) (h1 : c ≤ 255) (w : World) (ht : Tabs w) :
    Calls Tryd.prog 59 #[.agg #[.int .u8 c, .bool h, .int .i64 v]] w fun e w' => e = .returned (.string ⟨(sideS c h v).toArray⟩) ∧ Bel w w' := by
  have HT := Lib.hid ht
  have HV := Lib.hid hv
  clear ht hv
  cases h
  · go_enter Tryd.func59, Tryd.ntmps59
    go_wp2_with (go_at_call 48; refine (mtext_any c h0 h1 _ (HT.out.bel ((Bel.refl _).alloc _))).mono ?_; rintro e w1 ⟨rfl, rfl⟩)
    go_ret
    exact ⟨rfl, (Bel.refl _).alloc _⟩
  · go_enter Tryd.func59, Tryd.ntmps59
    go_wp2_with (go_at_call 17; refine (textT_any false c _ 1 1 [v] _ (by simpa using (ri_one (w.alloc (.cells #[.int .u8 c, .bool true, .int .i64 v] 84)) v)) (by omega) (by simpa using HV.out rfl) h0 h1 (HT.out.bel (((Bel.refl _).alloc _).alloc _))).mono ?_; rintro e w1 ⟨rfl, hb1⟩)
    go_ret
    exact ⟨rfl, (((Bel.refl _).alloc _).alloc _).on hb1⟩
end Go.Proofs.YteegoecanbonoaaDoor.Mu
