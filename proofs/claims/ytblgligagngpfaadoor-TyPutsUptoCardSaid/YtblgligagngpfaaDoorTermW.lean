/-
  The statements' own first question of layer 2, and terms that a call lays down for a variadic one.
-/
import Derived.Test.YtblgligagngpfaaDoorTermFG
import Derived.Test.YtblgligagngpfaaDoorTermE
namespace Go.Proofs.YtblgligagngpfaaDoor.Mu
open Go.ChangeShapes Go.WideShapes Go.ChangeAt Go.RowKit

def j2C (n1 n2 : Bool) (c1 c2 : Int) : Int := if n1 then (if n2 then 0 else max 2 c2) else (if n2 then max 2 c1 else max (max 1 c1) c2)
def j2L (n1 n2 : Bool) (c1 c2 : Int) (l1 l2 : List Int) : List Int := if n1 then (if n2 then [] else greatL (max 2 c2) l2) else (if n2 then greatL (max 2 c1) l1 else greatL (max (max 1 c1) c2) (l1 ++ l2))
def s2C (n1 n2 : Bool) (c1 c2 : Int) : Int := if n1 then (if n2 then 0 else c2) else (if n2 then c1 else 3)
def s2L (n1 n2 : Bool) (l1 l2 : List Int) : List Int := if n1 then (if n2 then [] else l2) else (if n2 then l1 else [])

theorem j2_eq (n1 n2 : Bool) (c1 c2 : Int) (A1 A2 : Option Addr) (m1 k1 m2 k2 : Nat) (l1 l2 : List Int) :
    decide ((leftT [⟨⟨n1, c1, A1, m1, k1⟩, l1⟩, ⟨⟨n2, c2, A2, m2, k2⟩, l2⟩]).length = 0) = (n1 && n2) ∧ joinC [⟨⟨n1, c1, A1, m1, k1⟩, l1⟩, ⟨⟨n2, c2, A2, m2, k2⟩, l2⟩] = j2C n1 n2 c1 c2 ∧ joinL [⟨⟨n1, c1, A1, m1, k1⟩, l1⟩, ⟨⟨n2, c2, A2, m2, k2⟩, l2⟩] = j2L n1 n2 c1 c2 l1 l2 ∧
    sumC [⟨⟨n1, c1, A1, m1, k1⟩, l1⟩, ⟨⟨n2, c2, A2, m2, k2⟩, l2⟩] = s2C n1 n2 c1 c2 ∧ sumL [⟨⟨n1, c1, A1, m1, k1⟩, l1⟩, ⟨⟨n2, c2, A2, m2, k2⟩, l2⟩] = s2L n1 n2 l1 l2 := by
  cases n1 <;> cases n2 <;> simp [leftT, joinC, joinL, sumC, sumL, j2C, j2L, s2C, s2L, maxC, varsT]

end Go.Proofs.YtblgligagngpfaaDoor.Mu

