/-
  Layer 1's own functions (package mult), each walked once: what it returns is what the plain function of MultFn says, and the world is as it was.
-/
import Derived.Test.YtblgligagngpfaaDoorRows
import Derived.Test.YtblgligagngpfaaDoorMultFn
import Derived.WalkKit
import Derived.ProofKit
import Derived.OpenShut
import Derived.Outline
import Derived.Lib.Hide
import Derived.WalkLawsBesides
import Derived.Laws.Entries
import Derived.Laws.NewBlocks
import Derived.Laws.Build
namespace Go.Proofs.YtblgligagngpfaaDoor.Mu
open Go.ChangeShapes Go.WideShapes Go.ChangeAt Go.RowKit

theorem ret_int {k : IntKind} {a b : Int} (h : a = b) : Ending.returned (.int k a) = .returned (.int k b) := by rw [h]
theorem ret_bool {a b : Bool} (h : a = b) : Ending.returned (.bool a) = .returned (.bool b) := by rw [h]

theorem known_any (m : Int) (h0 : 0 ≤ m) (h1 : m ≤ 255) (w : World) : Calls Tryd.prog 88 #[.int .u8 m] w fun e w' => e = .returned (.int .u8 (knownF m)) ∧ w = w' := by
  go_enter Tryd.func88, Tryd.ntmps88
  go_wp2
  all_goals
    go_ret
    exact ⟨ret_int (by unfold knownF; repeat' split
                       all_goals omega), rfl⟩

end Go.Proofs.YtblgligagngpfaaDoor.Mu

