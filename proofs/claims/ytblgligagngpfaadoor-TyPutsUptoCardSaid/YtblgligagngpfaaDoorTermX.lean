/-
  The statements' own first question of layer 2.
-/
import Derived.Test.YtblgligagngpfaaDoorTermW
import Derived.Deep.RegionHeld3
namespace Go.Proofs.YtblgligagngpfaaDoor.Mu
open Go.ChangeShapes Go.WideShapes Go.ChangeAt Go.RowKit

theorem ri_two (w : World) (x y : Int) : RI .u8 (w.alloc (.cells #[.int .u8 x, .int .u8 y] 22)) (w.alloc (.cells #[.int .u8 x, .int .u8 y] 22)).heap.size (some ⟨w.heap.size, 0, none⟩) 2 [x, y] :=
  ⟨rfl, fun _ => ⟨_, 0, rfl, by simp, fun k hk => by
    match k, hk with
    | 0, _ => simp
    | 1, _ => simp⟩⟩

end Go.Proofs.YtblgligagngpfaaDoor.Mu

