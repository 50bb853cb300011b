/-
  DERIVED. GIVEN WITH THE SEED: THE CARDS: each row of YtjbnmfgmkcgglaaDoorRows.lean that lists a variable, with what it lists TIED to the program's text (the seventh form; the later family's looks); each row that meets fmt, with fmt's text TOLD by the authors' own Lean function (tested against real Go, not proved from fmt's source: count such statements apart). THE CARD IS WHAT COUNTS. Prove the row's statement (the work); the ties are given (YtjbnmfgmkcgglaaDoorTie.lean); close each card by the builder's one call (the guide's Derived/Test/ToyasCard.lean, 'card_holds'). Laid BY PROGRAM, IN A SANDBOX (cutbox-door.mjs). By AI agents, Wed Nov 11 2026. No macro, syntax, notation, axiom, sorry.
-/
import Derived.Test.YtjbnmfgmkcgglaaDoorRows
import GoSem.ClaimSeven
namespace Go.Proofs.YtjbnmfgmkcgglaaDoor
namespace Rows

/-- THE TIED CARD OF 'usufructlaw01.MultKnown'. -/
def multKnownCard : Claim7 := { stood := { row := multKnownRow, standIns := [], harness := (true, "4240dc7cab74447e31c0762fbfbcc5eb8d9f60c02dfb26b47389c05a14284991"), looks := false }, kinds := [], alts := [], laidByText := true, laidKinds := [.data], laidTests := true, laidLooks := .later }
def MultKnownCardSaid : Prop := Claim7.holds Tryd.pinned (.plain (OpenSpec.ofChange multKnownSpec)) multKnownCard

/-- THE TIED CARD OF 'usufructlaw01.MultOps'. -/
def multOpsCard : Claim7 := { stood := { row := multOpsRow, standIns := [], harness := (true, "4240dc7cab74447e31c0762fbfbcc5eb8d9f60c02dfb26b47389c05a14284991"), looks := false }, kinds := [], alts := [], laidByText := true, laidKinds := [.data], laidTests := true, laidLooks := .later }
def MultOpsCardSaid : Prop := Claim7.holds Tryd.pinned (.plain (OpenSpec.ofChange multOpsSpec)) multOpsCard

/-- THE TIED CARD OF 'usufructlaw01.MultTexts'. -/
def multTextsCard : Claim7 := { stood := { row := multTextsRow, standIns := [], harness := (true, "4240dc7cab74447e31c0762fbfbcc5eb8d9f60c02dfb26b47389c05a14284991"), looks := false }, kinds := [], alts := [], laidByText := true, laidKinds := [.data], laidTests := true, laidLooks := .later }
def MultTextsCardSaid : Prop := Claim7.holds Tryd.pinned (.plain (OpenSpec.ofChange multTextsSpec)) multTextsCard

/-- THE SECOND FORM's CARD OF 'usufructlaw01.MultKnown'. -/
def multKnownUptoCard : Claim7 := { stood := { row := multKnownUptoRow, standIns := [], harness := (true, "4240dc7cab74447e31c0762fbfbcc5eb8d9f60c02dfb26b47389c05a14284991"), looks := false }, kinds := [], alts := [], laidByText := true, laidKinds := [.data], laidTests := true, laidLooks := .later }
def MultKnownUptoCardSaid : Prop := Claim7.holds Tryd.pinned (.plain (OpenSpec.upto multKnownSpec)) multKnownUptoCard

/-- THE SECOND FORM's CARD OF 'usufructlaw01.MultOps'. -/
def multOpsUptoCard : Claim7 := { stood := { row := multOpsUptoRow, standIns := [], harness := (true, "4240dc7cab74447e31c0762fbfbcc5eb8d9f60c02dfb26b47389c05a14284991"), looks := false }, kinds := [], alts := [], laidByText := true, laidKinds := [.data], laidTests := true, laidLooks := .later }
def MultOpsUptoCardSaid : Prop := Claim7.holds Tryd.pinned (.plain (OpenSpec.upto multOpsSpec)) multOpsUptoCard

/-- THE SECOND FORM's CARD OF 'usufructlaw01.MultTexts'. -/
def multTextsUptoCard : Claim7 := { stood := { row := multTextsUptoRow, standIns := [], harness := (true, "4240dc7cab74447e31c0762fbfbcc5eb8d9f60c02dfb26b47389c05a14284991"), looks := false }, kinds := [], alts := [], laidByText := true, laidKinds := [.data], laidTests := true, laidLooks := .later }
def MultTextsUptoCardSaid : Prop := Claim7.holds Tryd.pinned (.plain (OpenSpec.upto multTextsSpec)) multTextsUptoCard
end Rows
end Go.Proofs.YtjbnmfgmkcgglaaDoor
