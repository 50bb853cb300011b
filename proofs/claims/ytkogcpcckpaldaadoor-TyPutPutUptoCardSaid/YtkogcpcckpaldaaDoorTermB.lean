/-
  Layer 2's own functions that sort, copy and compare: greatest, copied, Least, Same.
-/
import Derived.Test.YtkogcpcckpaldaaDoorTermA
import Derived.Test.YtkogcpcckpaldaaDoorLib
import Derived.Test.YtkogcpcckpaldaaDoorMemBC
namespace Go.Proofs.YtkogcpcckpaldaaDoor.Mu
open Go.ChangeShapes Go.WideShapes Go.ChangeAt Go.RowKit

def leastV (_ : Bool) : Bool := false
def leastC (nv : Bool) (c : Int) : Int := if nv then 2 else c
def leastL (nv : Bool) (l : List Int) : List Int := if nv then [] else l

end Go.Proofs.YtkogcpcckpaldaaDoor.Mu

