/-
  NARROWER THAN 'FOR EVERY INPUT', by the rows' own cells (each row's printed sentence says how): MultKnown: laid · MultOps: laid · MultTexts: laid.
  DERIVED. THE GIVEN ROWS OF THIS SEAT. 3 by the template 'for every input the law returns true; each argument reads behind the call as it read before'; 0 by the template 'total and deterministic' (their statements: YtjbnmfgmkcgglaaDoorTotals.lean).
  GIVEN WITH THE SEED: the statements are not yours to turn. If you find one false, say at which input.
  Laid BY PROGRAM, IN A SANDBOX (cutbox-rows.mjs): the forced cells as the released guide's own fill.sh prints them over the translation d3020a210add3d34… (all of the seat's roots in one cut). By AI agents, Wed Nov 11 2026. No macro, syntax, notation, axiom, sorry.
-/
import Derived.Test.YtjbnmfgmkcgglaaDoorChecked
import GoSem.Claim
import GoSem.ClaimJoined
import GoSem.ClaimMapViews
import Derived.JoinedTies
import Derived.KernelRfl
namespace Go.Proofs.YtjbnmfgmkcgglaaDoor
/- THE CELL 'sum', in the pinned program and in every row, IS THE sha256 OF THE DUMP (.gsa) THAT YtjbnmfgmkcgglaaDoorProg.lean LOADS. Nothing in Lean hashes anything: it is a label: what it is worth is what the hold of that sum in a sandbox is worth. -/
noncomputable def Tryd.pinned : Pinned := { name := "ytjbnmfgmkcgglaadoor", sum := "d3020a210add3d341d568a2e566da69c8a71286d30fcbaa9e6a503202654a236", checked := Tryd.checked }
namespace Rows
def none {H : Type} : Left H := { results := [], args := [] }

/- WHAT THE LISTED PACKAGE-LEVEL VARIABLES READ AS WHEN THE CALL BEGINS. Each datum BY PROGRAM (the guide's laid-datum.mjs) off the statement by which the dump's own 'gosem.cut.vars' lays the variable. In a bare row this is a premise. The card (YtjbnmfgmkcgglaaDoorCards.lean) ties it to the program's text. -/
def laid_usufruct_mult_texts {H : Type} : DataW H := .agg [.lit (.string [49]), .lit (.string [63]), .lit (.string [42])]

/-- 'usufructlaw01.MultKnown': WHATEVER THE INPUT: true; the input reads as it did. -/
def multKnownSpec : ChangeSpec := { name := "multKnown", fn := fun _ => fun
  | [] => { results := [.lit (.bool true)], args := [] }
  | _ => none }
def multKnownRow : OpenClaim := { program := "ytjbnmfgmkcgglaadoor", sum := "d3020a210add3d341d568a2e566da69c8a71286d30fcbaa9e6a503202654a236", func := "usufruct/usufructlaw01.MultKnown", spec := "multKnown", named := ["usufruct/mult.texts"], apart := false, laid := [("usufruct/mult.texts", laid_usufruct_mult_texts)] }
def MultKnownSaid : Prop := multKnownRow.holds Tryd.pinned (OpenSpec.ofChange multKnownSpec)

/-- ITS FALSE NEIGHBOUR: 'it returns false'. Refute it at one input. -/
def multKnownWrong : ChangeSpec := { name := "multKnown", fn := fun _ => fun
  | [] => { results := [.lit (.bool false)], args := [] }
  | _ => none }
def MultKnownWrongFalsely : Prop := multKnownRow.holds Tryd.pinned (OpenSpec.ofChange multKnownWrong)

/-- 'usufructlaw01.MultOps': WHATEVER THE INPUT: true; the input reads as it did. -/
def multOpsSpec : ChangeSpec := { name := "multOps", fn := fun _ => fun
  | [d1, d2, d3] => { results := [.lit (.bool true)], args := [d1, d2, d3] }
  | _ => none }
def multOpsRow : OpenClaim := { program := "ytjbnmfgmkcgglaadoor", sum := "d3020a210add3d341d568a2e566da69c8a71286d30fcbaa9e6a503202654a236", func := "usufruct/usufructlaw01.MultOps", spec := "multOps", named := ["usufruct/mult.texts"], apart := false, laid := [("usufruct/mult.texts", laid_usufruct_mult_texts)] }
def MultOpsSaid : Prop := multOpsRow.holds Tryd.pinned (OpenSpec.ofChange multOpsSpec)

/-- ITS FALSE NEIGHBOUR: 'it returns false'. Refute it at one input. -/
def multOpsWrong : ChangeSpec := { name := "multOps", fn := fun _ => fun
  | [d1, d2, d3] => { results := [.lit (.bool false)], args := [d1, d2, d3] }
  | _ => none }
def MultOpsWrongFalsely : Prop := multOpsRow.holds Tryd.pinned (OpenSpec.ofChange multOpsWrong)

/-- 'usufructlaw01.MultTexts': WHATEVER THE INPUT: true; the input reads as it did. -/
def multTextsSpec : ChangeSpec := { name := "multTexts", fn := fun _ => fun
  | [d1, d2] => { results := [.lit (.bool true)], args := [d1, d2] }
  | _ => none }
def multTextsRow : OpenClaim := { program := "ytjbnmfgmkcgglaadoor", sum := "d3020a210add3d341d568a2e566da69c8a71286d30fcbaa9e6a503202654a236", func := "usufruct/usufructlaw01.MultTexts", spec := "multTexts", named := ["usufruct/mult.texts"], apart := false, laid := [("usufruct/mult.texts", laid_usufruct_mult_texts)] }
def MultTextsSaid : Prop := multTextsRow.holds Tryd.pinned (OpenSpec.ofChange multTextsSpec)

/-- ITS FALSE NEIGHBOUR: 'it returns false'. Refute it at one input. -/
def multTextsWrong : ChangeSpec := { name := "multTexts", fn := fun _ => fun
  | [d1, d2] => { results := [.lit (.bool false)], args := [d1, d2] }
  | _ => none }
def MultTextsWrongFalsely : Prop := multTextsRow.holds Tryd.pinned (OpenSpec.ofChange multTextsWrong)

/- THE SECOND FORM. 'bulk': how many values and letters a reading holds, each counted each time it is reached (what is shared counts as often as it is met; a slice's spare places count too). A statement '..UptoSaid' is the law's where the arguments, and the package variables that the reading takes, are together of bulk at most 1048576: NARROWER than '..Said'. Prove '..Said' where nothing that the law and all that it calls make is longer than what came in: it says more and counts as full. Else prove '..UptoSaid'. A law counts once. -/
mutual
def uptoBulk {H : Type} : DataW H → Nat
  | .lit (.string bytes) => bytes.length + 1
  | .lit _ => 1
  | .nil => 1
  | .ptr d => uptoBulk d + 1
  | .slice elems spare => uptoBulkAll elems + uptoBulkAll spare + 1
  | .agg parts => uptoBulkAll parts + 1
  | .iface _ d => uptoBulk d + 1
  | .map entries => uptoBulkEntries entries + 1
  | .held _ => 1
def uptoBulkAll {H : Type} : List (DataW H) → Nat
  | [] => 0
  | d :: r => uptoBulk d + uptoBulkAll r
def uptoBulkEntries {H : Type} : List (Lit × DataW H) → Nat
  | [] => 0
  | x :: r => uptoBulkEntry x + uptoBulkEntries r
def uptoBulkEntry {H : Type} : Lit × DataW H → Nat
  | (.string bytes, d) => bytes.length + uptoBulk d + 1
  | (_, d) => uptoBulk d + 1
 end
def uptoSmall : (H : Type) → List (DataW H) → Bool := fun _ ds => decide (uptoBulkAll ds ≤ 1048576)
def OpenSpec.upto (s : _root_.Go.ChangeSpec) : _root_.Go.OpenSpec := { _root_.Go.OpenSpec.ofChange s with cond := some uptoSmall }

/-- 'usufructlaw01.MultKnown', WHERE WHAT IT READS IS OF BULK AT MOST 1048576: true; the input reads as it did. -/
def multKnownUptoRow : OpenClaim := { program := "ytjbnmfgmkcgglaadoor", sum := "d3020a210add3d341d568a2e566da69c8a71286d30fcbaa9e6a503202654a236", func := "usufruct/usufructlaw01.MultKnown", spec := "multKnown", named := ["usufruct/mult.texts"], apart := false, laid := [("usufruct/mult.texts", laid_usufruct_mult_texts)], narrowed := true }
def MultKnownUptoSaid : Prop := multKnownUptoRow.holds Tryd.pinned (OpenSpec.upto multKnownSpec)

/-- 'usufructlaw01.MultOps', WHERE WHAT IT READS IS OF BULK AT MOST 1048576: true; the input reads as it did. -/
def multOpsUptoRow : OpenClaim := { program := "ytjbnmfgmkcgglaadoor", sum := "d3020a210add3d341d568a2e566da69c8a71286d30fcbaa9e6a503202654a236", func := "usufruct/usufructlaw01.MultOps", spec := "multOps", named := ["usufruct/mult.texts"], apart := false, laid := [("usufruct/mult.texts", laid_usufruct_mult_texts)], narrowed := true }
def MultOpsUptoSaid : Prop := multOpsUptoRow.holds Tryd.pinned (OpenSpec.upto multOpsSpec)

/-- 'usufructlaw01.MultTexts', WHERE WHAT IT READS IS OF BULK AT MOST 1048576: true; the input reads as it did. -/
def multTextsUptoRow : OpenClaim := { program := "ytjbnmfgmkcgglaadoor", sum := "d3020a210add3d341d568a2e566da69c8a71286d30fcbaa9e6a503202654a236", func := "usufruct/usufructlaw01.MultTexts", spec := "multTexts", named := ["usufruct/mult.texts"], apart := false, laid := [("usufruct/mult.texts", laid_usufruct_mult_texts)], narrowed := true }
def MultTextsUptoSaid : Prop := multTextsUptoRow.holds Tryd.pinned (OpenSpec.upto multTextsSpec)

end Rows
end Go.Proofs.YtjbnmfgmkcgglaaDoor
