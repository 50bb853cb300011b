/-
  No cell of these rows narrows 'for every input' (looked for: loops, veiled, ifaces, maps, wideKeys, modest, calm, conditions, laid).
  DERIVED. THE GIVEN ROWS OF THIS SEAT. 10 by the template 'for every input the law returns true; each argument reads behind the call as it read before'; 0 by the template 'total and deterministic' (their statements: YtghoipgldnfjoaaTotals.lean).
  GIVEN WITH THE SEED: the statements are not yours to turn. If you find one false, say at which input.
  Laid BY PROGRAM, IN A SANDBOX (cutbox-rows.mjs): the forced cells as the released guide's own fill.sh prints them over the translation 72e5b098d9f2b298… (all of the seat's roots in one cut). By AI agents, Wed Nov 11 2026. No macro, syntax, notation, axiom, sorry.
-/
import Derived.Test.YtghoipgldnfjoaaChecked
import GoSem.Claim
import GoSem.ClaimJoined
import GoSem.ClaimMapViews
import Derived.JoinedTies
import Derived.KernelRfl
namespace Go.Proofs.Ytghoipgldnfjoaa
/- THE CELL 'sum', in the pinned program and in every row, IS THE sha256 OF THE DUMP (.gsa) THAT YtghoipgldnfjoaaProg.lean LOADS. Nothing in Lean hashes anything: it is a label: what it is worth is what the hold of that sum in a sandbox is worth. -/
noncomputable def Try.pinned : Pinned := { name := "ytghoipgldnfjoaa", sum := "72e5b098d9f2b298234e495102693a8ca133ab901e8697d429755a7bc2f031fd", checked := Try.checked }
namespace Rows
def none {H : Type} : Left H := { results := [], args := [] }

/-- 'usufructlaw01.MultLists': WHATEVER THE INPUT: true; the input reads as it did. -/
def multListsSpec : ChangeSpec := { name := "multLists", fn := fun _ => fun
  | [d] => { results := [.lit (.bool true)], args := [d] }
  | _ => none }
def multListsRow : OpenClaim := { program := "ytghoipgldnfjoaa", sum := "72e5b098d9f2b298234e495102693a8ca133ab901e8697d429755a7bc2f031fd", func := "usufruct/usufructlaw01.MultLists", spec := "multLists", apart := false }
def MultListsSaid : Prop := multListsRow.holds Try.pinned (OpenSpec.ofChange multListsSpec)

/-- ITS FALSE NEIGHBOUR: 'it returns false'. Refute it at one input. -/
def multListsWrong : ChangeSpec := { name := "multLists", fn := fun _ => fun
  | [d] => { results := [.lit (.bool false)], args := [d] }
  | _ => none }
def MultListsWrongFalsely : Prop := multListsRow.holds Try.pinned (OpenSpec.ofChange multListsWrong)

/-- 'usufructlaw02.TermLists': WHATEVER THE INPUT: true; the input reads as it did. -/
def termListsSpec : ChangeSpec := { name := "termLists", fn := fun _ => fun
  | [d] => { results := [.lit (.bool true)], args := [d] }
  | _ => none }
def termListsRow : OpenClaim := { program := "ytghoipgldnfjoaa", sum := "72e5b098d9f2b298234e495102693a8ca133ab901e8697d429755a7bc2f031fd", func := "usufruct/usufructlaw02.TermLists", spec := "termLists", unfollowed := true, recurses := true, apart := false }
def TermListsSaid : Prop := termListsRow.holds Try.pinned (OpenSpec.ofChange termListsSpec)

/-- ITS FALSE NEIGHBOUR: 'it returns false'. Refute it at one input. -/
def termListsWrong : ChangeSpec := { name := "termLists", fn := fun _ => fun
  | [d] => { results := [.lit (.bool false)], args := [d] }
  | _ => none }
def TermListsWrongFalsely : Prop := termListsRow.holds Try.pinned (OpenSpec.ofChange termListsWrong)

/-- 'usufructlaw02.TermAt': WHATEVER THE INPUT: true; the input reads as it did. -/
def termAtSpec : ChangeSpec := { name := "termAt", fn := fun _ => fun
  | [d1, d2, d3] => { results := [.lit (.bool true)], args := [d1, d2, d3] }
  | _ => none }
def termAtRow : OpenClaim := { program := "ytghoipgldnfjoaa", sum := "72e5b098d9f2b298234e495102693a8ca133ab901e8697d429755a7bc2f031fd", func := "usufruct/usufructlaw02.TermAt", spec := "termAt", unfollowed := true, recurses := true, apart := false }
def TermAtSaid : Prop := termAtRow.holds Try.pinned (OpenSpec.ofChange termAtSpec)

/-- ITS FALSE NEIGHBOUR: 'it returns false'. Refute it at one input. -/
def termAtWrong : ChangeSpec := { name := "termAt", fn := fun _ => fun
  | [d1, d2, d3] => { results := [.lit (.bool false)], args := [d1, d2, d3] }
  | _ => none }
def TermAtWrongFalsely : Prop := termAtRow.holds Try.pinned (OpenSpec.ofChange termAtWrong)

/-- 'usufructlaw02.TermMeans': WHATEVER THE INPUT: true; the input reads as it did. -/
def termMeansSpec : ChangeSpec := { name := "termMeans", fn := fun _ => fun
  | [d1, d2, d3, d4] => { results := [.lit (.bool true)], args := [d1, d2, d3, d4] }
  | _ => none }
def termMeansRow : OpenClaim := { program := "ytghoipgldnfjoaa", sum := "72e5b098d9f2b298234e495102693a8ca133ab901e8697d429755a7bc2f031fd", func := "usufruct/usufructlaw02.TermMeans", spec := "termMeans", unfollowed := true, recurses := true, apart := false }
def TermMeansSaid : Prop := termMeansRow.holds Try.pinned (OpenSpec.ofChange termMeansSpec)

/-- ITS FALSE NEIGHBOUR: 'it returns false'. Refute it at one input. -/
def termMeansWrong : ChangeSpec := { name := "termMeans", fn := fun _ => fun
  | [d1, d2, d3, d4] => { results := [.lit (.bool false)], args := [d1, d2, d3, d4] }
  | _ => none }
def TermMeansWrongFalsely : Prop := termMeansRow.holds Try.pinned (OpenSpec.ofChange termMeansWrong)

/-- 'usufructlaw02.TermApart': WHATEVER THE INPUT: true; the input reads as it did. -/
def termApartSpec : ChangeSpec := { name := "termApart", fn := fun _ => fun
  | [d1, d2] => { results := [.lit (.bool true)], args := [d1, d2] }
  | _ => none }
def termApartRow : OpenClaim := { program := "ytghoipgldnfjoaa", sum := "72e5b098d9f2b298234e495102693a8ca133ab901e8697d429755a7bc2f031fd", func := "usufruct/usufructlaw02.TermApart", spec := "termApart", unfollowed := true, recurses := true, apart := false }
def TermApartSaid : Prop := termApartRow.holds Try.pinned (OpenSpec.ofChange termApartSpec)

/-- ITS FALSE NEIGHBOUR: 'it returns false'. Refute it at one input. -/
def termApartWrong : ChangeSpec := { name := "termApart", fn := fun _ => fun
  | [d1, d2] => { results := [.lit (.bool false)], args := [d1, d2] }
  | _ => none }
def TermApartWrongFalsely : Prop := termApartRow.holds Try.pinned (OpenSpec.ofChange termApartWrong)

/-- 'usufructlaw04.LeastKnown': WHATEVER THE INPUT: true; the input reads as it did. -/
def leastKnownSpec : ChangeSpec := { name := "leastKnown", fn := fun _ => fun
  | [] => { results := [.lit (.bool true)], args := [] }
  | _ => none }
def leastKnownRow : OpenClaim := { program := "ytghoipgldnfjoaa", sum := "72e5b098d9f2b298234e495102693a8ca133ab901e8697d429755a7bc2f031fd", func := "usufruct/usufructlaw04.LeastKnown", spec := "leastKnown", unfollowed := true, recurses := true, apart := false }
def LeastKnownSaid : Prop := leastKnownRow.holds Try.pinned (OpenSpec.ofChange leastKnownSpec)

/-- ITS FALSE NEIGHBOUR: 'it returns false'. Refute it at one input. -/
def leastKnownWrong : ChangeSpec := { name := "leastKnown", fn := fun _ => fun
  | [] => { results := [.lit (.bool false)], args := [] }
  | _ => none }
def LeastKnownWrongFalsely : Prop := leastKnownRow.holds Try.pinned (OpenSpec.ofChange leastKnownWrong)

/-- 'usufructlaw04.LeastSolves': WHATEVER THE INPUT: true; the input reads as it did. -/
def leastSolvesSpec : ChangeSpec := { name := "leastSolves", fn := fun _ => fun
  | [d1, d2, d3] => { results := [.lit (.bool true)], args := [d1, d2, d3] }
  | _ => none }
def leastSolvesRow : OpenClaim := { program := "ytghoipgldnfjoaa", sum := "72e5b098d9f2b298234e495102693a8ca133ab901e8697d429755a7bc2f031fd", func := "usufruct/usufructlaw04.LeastSolves", spec := "leastSolves", unfollowed := true, recurses := true, apart := false }
def LeastSolvesSaid : Prop := leastSolvesRow.holds Try.pinned (OpenSpec.ofChange leastSolvesSpec)

/-- ITS FALSE NEIGHBOUR: 'it returns false'. Refute it at one input. -/
def leastSolvesWrong : ChangeSpec := { name := "leastSolves", fn := fun _ => fun
  | [d1, d2, d3] => { results := [.lit (.bool false)], args := [d1, d2, d3] }
  | _ => none }
def LeastSolvesWrongFalsely : Prop := leastSolvesRow.holds Try.pinned (OpenSpec.ofChange leastSolvesWrong)

/-- 'usufructlaw04.LeastCores': WHATEVER THE INPUT: true; the input reads as it did. -/
def leastCoresSpec : ChangeSpec := { name := "leastCores", fn := fun _ => fun
  | [d1, d2, d3] => { results := [.lit (.bool true)], args := [d1, d2, d3] }
  | _ => none }
def leastCoresRow : OpenClaim := { program := "ytghoipgldnfjoaa", sum := "72e5b098d9f2b298234e495102693a8ca133ab901e8697d429755a7bc2f031fd", func := "usufruct/usufructlaw04.LeastCores", spec := "leastCores", unfollowed := true, recurses := true, apart := false }
def LeastCoresSaid : Prop := leastCoresRow.holds Try.pinned (OpenSpec.ofChange leastCoresSpec)

/-- ITS FALSE NEIGHBOUR: 'it returns false'. Refute it at one input. -/
def leastCoresWrong : ChangeSpec := { name := "leastCores", fn := fun _ => fun
  | [d1, d2, d3] => { results := [.lit (.bool false)], args := [d1, d2, d3] }
  | _ => none }
def LeastCoresWrongFalsely : Prop := leastCoresRow.holds Try.pinned (OpenSpec.ofChange leastCoresWrong)

/-- 'usufructlaw04.LeastBelow': WHATEVER THE INPUT: true; the input reads as it did. -/
def leastBelowSpec : ChangeSpec := { name := "leastBelow", fn := fun _ => fun
  | [d1, d2, d3] => { results := [.lit (.bool true)], args := [d1, d2, d3] }
  | _ => none }
def leastBelowRow : OpenClaim := { program := "ytghoipgldnfjoaa", sum := "72e5b098d9f2b298234e495102693a8ca133ab901e8697d429755a7bc2f031fd", func := "usufruct/usufructlaw04.LeastBelow", spec := "leastBelow", unfollowed := true, recurses := true, apart := false }
def LeastBelowSaid : Prop := leastBelowRow.holds Try.pinned (OpenSpec.ofChange leastBelowSpec)

/-- ITS FALSE NEIGHBOUR: 'it returns false'. Refute it at one input. -/
def leastBelowWrong : ChangeSpec := { name := "leastBelow", fn := fun _ => fun
  | [d1, d2, d3] => { results := [.lit (.bool false)], args := [d1, d2, d3] }
  | _ => none }
def LeastBelowWrongFalsely : Prop := leastBelowRow.holds Try.pinned (OpenSpec.ofChange leastBelowWrong)

/-- 'usufructlaw04.LeastAgain': WHATEVER THE INPUT: true; the input reads as it did. -/
def leastAgainSpec : ChangeSpec := { name := "leastAgain", fn := fun _ => fun
  | [d1, d2, d3, d4] => { results := [.lit (.bool true)], args := [d1, d2, d3, d4] }
  | _ => none }
def leastAgainRow : OpenClaim := { program := "ytghoipgldnfjoaa", sum := "72e5b098d9f2b298234e495102693a8ca133ab901e8697d429755a7bc2f031fd", func := "usufruct/usufructlaw04.LeastAgain", spec := "leastAgain", unfollowed := true, recurses := true, apart := false }
def LeastAgainSaid : Prop := leastAgainRow.holds Try.pinned (OpenSpec.ofChange leastAgainSpec)

/-- ITS FALSE NEIGHBOUR: 'it returns false'. Refute it at one input. -/
def leastAgainWrong : ChangeSpec := { name := "leastAgain", fn := fun _ => fun
  | [d1, d2, d3, d4] => { results := [.lit (.bool false)], args := [d1, d2, d3, d4] }
  | _ => none }
def LeastAgainWrongFalsely : Prop := leastAgainRow.holds Try.pinned (OpenSpec.ofChange leastAgainWrong)

/- THE SECOND FORM. 'bulk': how many values and letters a reading holds, each counted each time it is reached (what is shared counts as often as it is met; a slice's spare places count too). A statement '..UptoSaid' is the law's where the arguments, and the package variables that the reading takes, are together of bulk at most 1048576: NARROWER than '..Said'. Prove '..Said' where nothing that the law and all that it calls make is longer than what came in: it says more and counts as full. Else prove '..UptoSaid'. A law counts once. -/
mutual
def uptoBulk {H : Type} : DataW H → Nat
  | .lit (.string bytes) => bytes.length + 1
  | .lit _ => 1
  | .nil => 1
  | .ptr d => uptoBulk d + 1
  | .slice elems spare => uptoBulkAll elems + uptoBulkAll spare + 1
  | .agg parts => uptoBulkAll parts + 1
  | .iface _ d => uptoBulk d + 1
  | .map entries => uptoBulkEntries entries + 1
  | .held _ => 1
def uptoBulkAll {H : Type} : List (DataW H) → Nat
  | [] => 0
  | d :: r => uptoBulk d + uptoBulkAll r
def uptoBulkEntries {H : Type} : List (Lit × DataW H) → Nat
  | [] => 0
  | x :: r => uptoBulkEntry x + uptoBulkEntries r
def uptoBulkEntry {H : Type} : Lit × DataW H → Nat
  | (.string bytes, d) => bytes.length + uptoBulk d + 1
  | (_, d) => uptoBulk d + 1
 end
def uptoSmall : (H : Type) → List (DataW H) → Bool := fun _ ds => decide (uptoBulkAll ds ≤ 1048576)
def OpenSpec.upto (s : _root_.Go.ChangeSpec) : _root_.Go.OpenSpec := { _root_.Go.OpenSpec.ofChange s with cond := some uptoSmall }

/-- 'usufructlaw01.MultLists', WHERE WHAT IT READS IS OF BULK AT MOST 1048576: true; the input reads as it did. -/
def multListsUptoRow : OpenClaim := { program := "ytghoipgldnfjoaa", sum := "72e5b098d9f2b298234e495102693a8ca133ab901e8697d429755a7bc2f031fd", func := "usufruct/usufructlaw01.MultLists", spec := "multLists", apart := false, narrowed := true }
def MultListsUptoSaid : Prop := multListsUptoRow.holds Try.pinned (OpenSpec.upto multListsSpec)

/-- 'usufructlaw02.TermLists', WHERE WHAT IT READS IS OF BULK AT MOST 1048576: true; the input reads as it did. -/
def termListsUptoRow : OpenClaim := { program := "ytghoipgldnfjoaa", sum := "72e5b098d9f2b298234e495102693a8ca133ab901e8697d429755a7bc2f031fd", func := "usufruct/usufructlaw02.TermLists", spec := "termLists", unfollowed := true, recurses := true, apart := false, narrowed := true }
def TermListsUptoSaid : Prop := termListsUptoRow.holds Try.pinned (OpenSpec.upto termListsSpec)

/-- 'usufructlaw02.TermAt', WHERE WHAT IT READS IS OF BULK AT MOST 1048576: true; the input reads as it did. -/
def termAtUptoRow : OpenClaim := { program := "ytghoipgldnfjoaa", sum := "72e5b098d9f2b298234e495102693a8ca133ab901e8697d429755a7bc2f031fd", func := "usufruct/usufructlaw02.TermAt", spec := "termAt", unfollowed := true, recurses := true, apart := false, narrowed := true }
def TermAtUptoSaid : Prop := termAtUptoRow.holds Try.pinned (OpenSpec.upto termAtSpec)

/-- 'usufructlaw02.TermMeans', WHERE WHAT IT READS IS OF BULK AT MOST 1048576: true; the input reads as it did. -/
def termMeansUptoRow : OpenClaim := { program := "ytghoipgldnfjoaa", sum := "72e5b098d9f2b298234e495102693a8ca133ab901e8697d429755a7bc2f031fd", func := "usufruct/usufructlaw02.TermMeans", spec := "termMeans", unfollowed := true, recurses := true, apart := false, narrowed := true }
def TermMeansUptoSaid : Prop := termMeansUptoRow.holds Try.pinned (OpenSpec.upto termMeansSpec)

/-- 'usufructlaw02.TermApart', WHERE WHAT IT READS IS OF BULK AT MOST 1048576: true; the input reads as it did. -/
def termApartUptoRow : OpenClaim := { program := "ytghoipgldnfjoaa", sum := "72e5b098d9f2b298234e495102693a8ca133ab901e8697d429755a7bc2f031fd", func := "usufruct/usufructlaw02.TermApart", spec := "termApart", unfollowed := true, recurses := true, apart := false, narrowed := true }
def TermApartUptoSaid : Prop := termApartUptoRow.holds Try.pinned (OpenSpec.upto termApartSpec)

/-- 'usufructlaw04.LeastKnown', WHERE WHAT IT READS IS OF BULK AT MOST 1048576: true; the input reads as it did. -/
def leastKnownUptoRow : OpenClaim := { program := "ytghoipgldnfjoaa", sum := "72e5b098d9f2b298234e495102693a8ca133ab901e8697d429755a7bc2f031fd", func := "usufruct/usufructlaw04.LeastKnown", spec := "leastKnown", unfollowed := true, recurses := true, apart := false, narrowed := true }
def LeastKnownUptoSaid : Prop := leastKnownUptoRow.holds Try.pinned (OpenSpec.upto leastKnownSpec)

/-- 'usufructlaw04.LeastSolves', WHERE WHAT IT READS IS OF BULK AT MOST 1048576: true; the input reads as it did. -/
def leastSolvesUptoRow : OpenClaim := { program := "ytghoipgldnfjoaa", sum := "72e5b098d9f2b298234e495102693a8ca133ab901e8697d429755a7bc2f031fd", func := "usufruct/usufructlaw04.LeastSolves", spec := "leastSolves", unfollowed := true, recurses := true, apart := false, narrowed := true }
def LeastSolvesUptoSaid : Prop := leastSolvesUptoRow.holds Try.pinned (OpenSpec.upto leastSolvesSpec)

/-- 'usufructlaw04.LeastCores', WHERE WHAT IT READS IS OF BULK AT MOST 1048576: true; the input reads as it did. -/
def leastCoresUptoRow : OpenClaim := { program := "ytghoipgldnfjoaa", sum := "72e5b098d9f2b298234e495102693a8ca133ab901e8697d429755a7bc2f031fd", func := "usufruct/usufructlaw04.LeastCores", spec := "leastCores", unfollowed := true, recurses := true, apart := false, narrowed := true }
def LeastCoresUptoSaid : Prop := leastCoresUptoRow.holds Try.pinned (OpenSpec.upto leastCoresSpec)

/-- 'usufructlaw04.LeastBelow', WHERE WHAT IT READS IS OF BULK AT MOST 1048576: true; the input reads as it did. -/
def leastBelowUptoRow : OpenClaim := { program := "ytghoipgldnfjoaa", sum := "72e5b098d9f2b298234e495102693a8ca133ab901e8697d429755a7bc2f031fd", func := "usufruct/usufructlaw04.LeastBelow", spec := "leastBelow", unfollowed := true, recurses := true, apart := false, narrowed := true }
def LeastBelowUptoSaid : Prop := leastBelowUptoRow.holds Try.pinned (OpenSpec.upto leastBelowSpec)

/-- 'usufructlaw04.LeastAgain', WHERE WHAT IT READS IS OF BULK AT MOST 1048576: true; the input reads as it did. -/
def leastAgainUptoRow : OpenClaim := { program := "ytghoipgldnfjoaa", sum := "72e5b098d9f2b298234e495102693a8ca133ab901e8697d429755a7bc2f031fd", func := "usufruct/usufructlaw04.LeastAgain", spec := "leastAgain", unfollowed := true, recurses := true, apart := false, narrowed := true }
def LeastAgainUptoSaid : Prop := leastAgainUptoRow.holds Try.pinned (OpenSpec.upto leastAgainSpec)

end Rows
end Go.Proofs.Ytghoipgldnfjoaa
