/-
  Layer 2's own functions Sum and Scale.
  Layer 2's own function Scale.
-/
import Derived.Test.YtblgligagngpfaaDoorTermCD
import Derived.Deep.RegionHeld3
namespace Go.Proofs.YtblgligagngpfaaDoor.Mu
open Go.ChangeShapes Go.WideShapes Go.ChangeAt Go.RowKit

def sumC (ts : List Tm) : Int := match leftT ts with
  | [] => 0
  | [t] => t.r.c
  | _ => 3
def sumL (ts : List Tm) : List Int := match leftT ts with
  | [t] => t.l
  | _ => []

end Go.Proofs.YtblgligagngpfaaDoor.Mu
namespace Go.Proofs.YtblgligagngpfaaDoor.Mu
open Go.ChangeShapes Go.WideShapes Go.ChangeAt Go.RowKit

theorem cells2 {w : World} {g : Nat} {t : TypeId} {x y : Value} (h : w.heap[g]? = some (.cells #[x, y] t (0, 0))) :
    w.cell? ⟨g, 0, none⟩ = some x ∧ w.cell? ⟨g, 1, none⟩ = some y := by
  simp [World.cell?, h]
theorem ri_one (w : World) (v : Int) : RI .i64 (w.alloc (.cells #[.int .i64 v] 3)) (w.heap.size + 1) (some ⟨w.heap.size, 0, none⟩) 1 [v] :=
  ⟨rfl, fun _ => ⟨_, 0, rfl, by omega, fun k hk => by
    obtain rfl : k = 0 := by omega
    simp⟩⟩
def scaleL (v mc c : Int) (l : List Int) : List Int := greatL (max mc c) (if mc = 0 then l ++ [v] else l)

def scC (nv : Bool) (mc c : Int) : Int := if nv then 0 else max mc c
def scL (nv : Bool) (v mc c : Int) (l : List Int) : List Int := if nv then [] else scaleL v mc c l

end Go.Proofs.YtblgligagngpfaaDoor.Mu

