/-
  How a term is written: the text as a list of bytes. Nothing of the translation is used here.
-/
import Derived.Test.YtkogcpcckpaldaaDoorTermFn
import Derived.Lib.ItoaNum
import Derived.Lib.Join
namespace Go.Proofs.YtkogcpcckpaldaaDoor.Mu
open Go.RowKit Go
/-- The text of a multiplicity. -/
def mulS (c : Int) : List UInt8 := if knownF c = 1 then [49] else if knownF c = 2 then [63] else [42]
def varS (v : Int) : List UInt8 := 109 :: Lib.itoa v
def partsS (c : Int) (l : List Int) : List (List UInt8) := (if l.length = 0 ∨ mulS c ≠ [49] then [mulS c] else []) ++ l.map varS
def textT (nv : Bool) (c : Int) (l : List Int) : List UInt8 := if nv then [48] else Lib.join (partsS c l) [124]
end Go.Proofs.YtkogcpcckpaldaaDoor.Mu

