/-
  Layer 2's own functions that sort, copy and compare: greatest, copied, Least, Same.
-/
import Derived.Test.YtblgligagngpfaaDoorTermA
import Derived.Test.YtblgligagngpfaaDoorLib
import Derived.Test.YtblgligagngpfaaDoorMemBC
namespace Go.Proofs.YtblgligagngpfaaDoor.Mu
open Go.ChangeShapes Go.WideShapes Go.ChangeAt Go.RowKit

def leastV (_ : Bool) : Bool := false
def leastC (nv : Bool) (c : Int) : Int := if nv then 2 else c
def leastL (nv : Bool) (l : List Int) : List Int := if nv then [] else l

end Go.Proofs.YtblgligagngpfaaDoor.Mu

