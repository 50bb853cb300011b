/-
  No cell of these rows narrows 'for every input' (looked for: loops, veiled, ifaces, maps, wideKeys, modest, calm, conditions, laid).
  DERIVED. THE GIVEN ROWS OF THIS SEAT. 4 by the template 'for every input the law returns true; each argument reads behind the call as it read before'; 0 by the template 'total and deterministic' (their statements: YtlbachjhhjjmfaaTotals.lean).
  GIVEN WITH THE SEED: the statements are not yours to turn. If you find one false, say at which input.
  Laid BY PROGRAM, IN A SANDBOX (cutbox-rows.mjs): the forced cells as the released guide's own fill.sh prints them over the translation 835ed1932f1b1782… (all of the seat's roots in one cut). By AI agents, Wed Nov 11 2026. No macro, syntax, notation, axiom, sorry.
-/
import Derived.Test.YtlbachjhhjjmfaaChecked
import GoSem.Claim
import GoSem.ClaimJoined
import GoSem.ClaimMapViews
import Derived.JoinedTies
import Derived.KernelRfl
namespace Go.Proofs.Ytlbachjhhjjmfaa
/- THE CELL 'sum', in the pinned program and in every row, IS THE sha256 OF THE DUMP (.gsa) THAT YtlbachjhhjjmfaaProg.lean LOADS. Nothing in Lean hashes anything: it is a label: what it is worth is what the hold of that sum in a sandbox is worth. -/
noncomputable def Try.pinned : Pinned := { name := "ytlbachjhhjjmfaa", sum := "835ed1932f1b17825e94aa7c4ad91f98df4ee96ecf49a9a451425bfc8c0efef1", checked := Try.checked }
namespace Rows
def none {H : Type} : Left H := { results := [], args := [] }

/-- 'usufructlaw05.ElimKnown': WHATEVER THE INPUT: true; the input reads as it did. -/
def elimKnownSpec : ChangeSpec := { name := "elimKnown", fn := fun _ => fun
  | [] => { results := [.lit (.bool true)], args := [] }
  | _ => none }
def elimKnownRow : OpenClaim := { program := "ytlbachjhhjjmfaa", sum := "835ed1932f1b17825e94aa7c4ad91f98df4ee96ecf49a9a451425bfc8c0efef1", func := "usufruct/usufructlaw05.ElimKnown", spec := "elimKnown", unfollowed := true, recurses := true, apart := false }
def ElimKnownSaid : Prop := elimKnownRow.holds Try.pinned (OpenSpec.ofChange elimKnownSpec)

/-- ITS FALSE NEIGHBOUR: 'it returns false'. Refute it at one input. -/
def elimKnownWrong : ChangeSpec := { name := "elimKnown", fn := fun _ => fun
  | [] => { results := [.lit (.bool false)], args := [] }
  | _ => none }
def ElimKnownWrongFalsely : Prop := elimKnownRow.holds Try.pinned (OpenSpec.ofChange elimKnownWrong)

/-- 'usufructlaw05.ElimTells': WHATEVER THE INPUT: true; the input reads as it did. -/
def elimTellsSpec : ChangeSpec := { name := "elimTells", fn := fun _ => fun
  | [d1, d2, d3] => { results := [.lit (.bool true)], args := [d1, d2, d3] }
  | _ => none }
def elimTellsRow : OpenClaim := { program := "ytlbachjhhjjmfaa", sum := "835ed1932f1b17825e94aa7c4ad91f98df4ee96ecf49a9a451425bfc8c0efef1", func := "usufruct/usufructlaw05.ElimTells", spec := "elimTells", unfollowed := true, recurses := true, apart := false }
def ElimTellsSaid : Prop := elimTellsRow.holds Try.pinned (OpenSpec.ofChange elimTellsSpec)

/-- ITS FALSE NEIGHBOUR: 'it returns false'. Refute it at one input. -/
def elimTellsWrong : ChangeSpec := { name := "elimTells", fn := fun _ => fun
  | [d1, d2, d3] => { results := [.lit (.bool false)], args := [d1, d2, d3] }
  | _ => none }
def ElimTellsWrongFalsely : Prop := elimTellsRow.holds Try.pinned (OpenSpec.ofChange elimTellsWrong)

/-- 'usufructlaw05.ElimExact': WHATEVER THE INPUT: true; the input reads as it did. -/
def elimExactSpec : ChangeSpec := { name := "elimExact", fn := fun _ => fun
  | [d1, d2, d3, d4, d5] => { results := [.lit (.bool true)], args := [d1, d2, d3, d4, d5] }
  | _ => none }
def elimExactRow : OpenClaim := { program := "ytlbachjhhjjmfaa", sum := "835ed1932f1b17825e94aa7c4ad91f98df4ee96ecf49a9a451425bfc8c0efef1", func := "usufruct/usufructlaw05.ElimExact", spec := "elimExact", unfollowed := true, recurses := true, apart := false }
def ElimExactSaid : Prop := elimExactRow.holds Try.pinned (OpenSpec.ofChange elimExactSpec)

/-- ITS FALSE NEIGHBOUR: 'it returns false'. Refute it at one input. -/
def elimExactWrong : ChangeSpec := { name := "elimExact", fn := fun _ => fun
  | [d1, d2, d3, d4, d5] => { results := [.lit (.bool false)], args := [d1, d2, d3, d4, d5] }
  | _ => none }
def ElimExactWrongFalsely : Prop := elimExactRow.holds Try.pinned (OpenSpec.ofChange elimExactWrong)

/-- 'usufructlaw05.ElimAgain': WHATEVER THE INPUT: true; the input reads as it did. -/
def elimAgainSpec : ChangeSpec := { name := "elimAgain", fn := fun _ => fun
  | [d1, d2, d3] => { results := [.lit (.bool true)], args := [d1, d2, d3] }
  | _ => none }
def elimAgainRow : OpenClaim := { program := "ytlbachjhhjjmfaa", sum := "835ed1932f1b17825e94aa7c4ad91f98df4ee96ecf49a9a451425bfc8c0efef1", func := "usufruct/usufructlaw05.ElimAgain", spec := "elimAgain", unfollowed := true, recurses := true, apart := false }
def ElimAgainSaid : Prop := elimAgainRow.holds Try.pinned (OpenSpec.ofChange elimAgainSpec)

/-- ITS FALSE NEIGHBOUR: 'it returns false'. Refute it at one input. -/
def elimAgainWrong : ChangeSpec := { name := "elimAgain", fn := fun _ => fun
  | [d1, d2, d3] => { results := [.lit (.bool false)], args := [d1, d2, d3] }
  | _ => none }
def ElimAgainWrongFalsely : Prop := elimAgainRow.holds Try.pinned (OpenSpec.ofChange elimAgainWrong)

/- THE SECOND FORM. 'bulk': how many values and letters a reading holds, each counted each time it is reached (what is shared counts as often as it is met; a slice's spare places count too). A statement '..UptoSaid' is the law's where the arguments, and the package variables that the reading takes, are together of bulk at most 1048576: NARROWER than '..Said'. Prove '..Said' where nothing that the law and all that it calls make is longer than what came in: it says more and counts as full. Else prove '..UptoSaid'. A law counts once. -/
mutual
def uptoBulk {H : Type} : DataW H → Nat
  | .lit (.string bytes) => bytes.length + 1
  | .lit _ => 1
  | .nil => 1
  | .ptr d => uptoBulk d + 1
  | .slice elems spare => uptoBulkAll elems + uptoBulkAll spare + 1
  | .agg parts => uptoBulkAll parts + 1
  | .iface _ d => uptoBulk d + 1
  | .map entries => uptoBulkEntries entries + 1
  | .held _ => 1
def uptoBulkAll {H : Type} : List (DataW H) → Nat
  | [] => 0
  | d :: r => uptoBulk d + uptoBulkAll r
def uptoBulkEntries {H : Type} : List (Lit × DataW H) → Nat
  | [] => 0
  | x :: r => uptoBulkEntry x + uptoBulkEntries r
def uptoBulkEntry {H : Type} : Lit × DataW H → Nat
  | (.string bytes, d) => bytes.length + uptoBulk d + 1
  | (_, d) => uptoBulk d + 1
 end
def uptoSmall : (H : Type) → List (DataW H) → Bool := fun _ ds => decide (uptoBulkAll ds ≤ 1048576)
def OpenSpec.upto (s : _root_.Go.ChangeSpec) : _root_.Go.OpenSpec := { _root_.Go.OpenSpec.ofChange s with cond := some uptoSmall }

/-- 'usufructlaw05.ElimKnown', WHERE WHAT IT READS IS OF BULK AT MOST 1048576: true; the input reads as it did. -/
def elimKnownUptoRow : OpenClaim := { program := "ytlbachjhhjjmfaa", sum := "835ed1932f1b17825e94aa7c4ad91f98df4ee96ecf49a9a451425bfc8c0efef1", func := "usufruct/usufructlaw05.ElimKnown", spec := "elimKnown", unfollowed := true, recurses := true, apart := false, narrowed := true }
def ElimKnownUptoSaid : Prop := elimKnownUptoRow.holds Try.pinned (OpenSpec.upto elimKnownSpec)

/-- 'usufructlaw05.ElimTells', WHERE WHAT IT READS IS OF BULK AT MOST 1048576: true; the input reads as it did. -/
def elimTellsUptoRow : OpenClaim := { program := "ytlbachjhhjjmfaa", sum := "835ed1932f1b17825e94aa7c4ad91f98df4ee96ecf49a9a451425bfc8c0efef1", func := "usufruct/usufructlaw05.ElimTells", spec := "elimTells", unfollowed := true, recurses := true, apart := false, narrowed := true }
def ElimTellsUptoSaid : Prop := elimTellsUptoRow.holds Try.pinned (OpenSpec.upto elimTellsSpec)

/-- 'usufructlaw05.ElimExact', WHERE WHAT IT READS IS OF BULK AT MOST 1048576: true; the input reads as it did. -/
def elimExactUptoRow : OpenClaim := { program := "ytlbachjhhjjmfaa", sum := "835ed1932f1b17825e94aa7c4ad91f98df4ee96ecf49a9a451425bfc8c0efef1", func := "usufruct/usufructlaw05.ElimExact", spec := "elimExact", unfollowed := true, recurses := true, apart := false, narrowed := true }
def ElimExactUptoSaid : Prop := elimExactUptoRow.holds Try.pinned (OpenSpec.upto elimExactSpec)

/-- 'usufructlaw05.ElimAgain', WHERE WHAT IT READS IS OF BULK AT MOST 1048576: true; the input reads as it did. -/
def elimAgainUptoRow : OpenClaim := { program := "ytlbachjhhjjmfaa", sum := "835ed1932f1b17825e94aa7c4ad91f98df4ee96ecf49a9a451425bfc8c0efef1", func := "usufruct/usufructlaw05.ElimAgain", spec := "elimAgain", unfollowed := true, recurses := true, apart := false, narrowed := true }
def ElimAgainUptoSaid : Prop := elimAgainUptoRow.holds Try.pinned (OpenSpec.upto elimAgainSpec)

end Rows
end Go.Proofs.Ytlbachjhhjjmfaa
