/-
  Layer 2's own functions Sum and Scale.
-/
import Derived.Test.YtjgpkolfcpoinaaTermD
namespace Go.Proofs.Ytjgpkolfcpoinaa.Mu
open Go.ChangeShapes Go.WideShapes Go.ChangeAt Go.RowKit

def sumC (ts : List Tm) : Int := match leftT ts with
  | [] => 0
  | [t] => t.r.c
  | _ => 3
def sumL (ts : List Tm) : List Int := match leftT ts with
  | [t] => t.l
  | _ => []

end Go.Proofs.Ytjgpkolfcpoinaa.Mu

