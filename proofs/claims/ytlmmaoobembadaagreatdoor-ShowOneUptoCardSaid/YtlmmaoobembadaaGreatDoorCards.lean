/-
  DERIVED. GIVEN WITH THE SEED: THE CARDS: each row of YtlmmaoobembadaaGreatDoorRows.lean that lists a variable, with what it lists TIED to the program's text (the seventh form; the later family's looks); each row that meets fmt, with fmt's text TOLD by the authors' own Lean function (tested against real Go, not proved from fmt's source: count such statements apart). THE CARD IS WHAT COUNTS. Prove the row's statement (the work); the ties are given (YtlmmaoobembadaaGreatDoorTie.lean); close each card by the builder's one call (the guide's Derived/Test/ToyasCard.lean, 'card_holds'). Laid BY PROGRAM, IN A SANDBOX (cutbox-door.mjs). By AI agents, Wed Nov 11 2026. No macro, syntax, notation, axiom, sorry.
-/
import Derived.Test.YtlmmaoobembadaaGreatDoorRows
import GoSem.ClaimSeven
namespace Go.Proofs.YtlmmaoobembadaaGreatDoor
namespace Rows

/-- THE TIED CARD OF 'usufructlaw11.ShowSames'. -/
def showSamesCard : Claim7 := { stood := { row := showSamesRow, standIns := [], harness := (true, "7759239edb3f9001b1e5ba10027c4425c441cc381a62cded92f7372ad65f3bbc"), looks := true }, kinds := [], alts := [], laidByText := true, laidKinds := [.data, .data, .data, .data, .pinned], laidTests := true, laidLooks := .later }
def ShowSamesCardSaid : Prop := Claim7.holds Tryz.pinned (.plain (OpenSpec.ofChange showSamesSpec)) showSamesCard

/-- THE TIED CARD OF 'usufructlaw11.ShowTexts'. -/
def showTextsCard : Claim7 := { stood := { row := showTextsRow, standIns := [], harness := (true, "7759239edb3f9001b1e5ba10027c4425c441cc381a62cded92f7372ad65f3bbc"), looks := true }, kinds := [], alts := [], laidByText := true, laidKinds := [.data, .data, .data, .data, .pinned], laidTests := true, laidLooks := .later }
def ShowTextsCardSaid : Prop := Claim7.holds Tryz.pinned (.plain (OpenSpec.ofChange showTextsSpec)) showTextsCard

/-- THE TIED CARD OF 'usufructlaw11.ShowOne'. -/
def showOneCard : Claim7 := { stood := { row := showOneRow, standIns := [], harness := (true, "7759239edb3f9001b1e5ba10027c4425c441cc381a62cded92f7372ad65f3bbc"), looks := true }, kinds := [], alts := [], laidByText := true, laidKinds := [.data, .data, .data, .data, .pinned], laidTests := true, laidLooks := .later }
def ShowOneCardSaid : Prop := Claim7.holds Tryz.pinned (.plain (OpenSpec.ofChange showOneSpec)) showOneCard

/-- THE TIED CARD OF 'usufructlaw11.ShowTokens'. -/
def showTokensCard : Claim7 := { stood := { row := showTokensRow, standIns := [], harness := (true, "7759239edb3f9001b1e5ba10027c4425c441cc381a62cded92f7372ad65f3bbc"), looks := true }, kinds := [], alts := [], laidByText := true, laidKinds := [.data, .data, .data, .data, .listed, .data, .pinned], laidTests := true, laidLooks := .later }
def ShowTokensCardSaid : Prop := Claim7.holds Tryz.pinned (.plain (OpenSpec.ofChange showTokensSpec)) showTokensCard

/-- THE SECOND FORM's CARD OF 'usufructlaw11.ShowSames'. -/
def showSamesUptoCard : Claim7 := { stood := { row := showSamesUptoRow, standIns := [], harness := (true, "7759239edb3f9001b1e5ba10027c4425c441cc381a62cded92f7372ad65f3bbc"), looks := true }, kinds := [], alts := [], laidByText := true, laidKinds := [.data, .data, .data, .data, .pinned], laidTests := true, laidLooks := .later }
def ShowSamesUptoCardSaid : Prop := Claim7.holds Tryz.pinned (.plain (OpenSpec.upto showSamesSpec)) showSamesUptoCard

/-- THE SECOND FORM's CARD OF 'usufructlaw11.ShowTexts'. -/
def showTextsUptoCard : Claim7 := { stood := { row := showTextsUptoRow, standIns := [], harness := (true, "7759239edb3f9001b1e5ba10027c4425c441cc381a62cded92f7372ad65f3bbc"), looks := true }, kinds := [], alts := [], laidByText := true, laidKinds := [.data, .data, .data, .data, .pinned], laidTests := true, laidLooks := .later }
def ShowTextsUptoCardSaid : Prop := Claim7.holds Tryz.pinned (.plain (OpenSpec.upto showTextsSpec)) showTextsUptoCard

/-- THE SECOND FORM's CARD OF 'usufructlaw11.ShowOne'. -/
def showOneUptoCard : Claim7 := { stood := { row := showOneUptoRow, standIns := [], harness := (true, "7759239edb3f9001b1e5ba10027c4425c441cc381a62cded92f7372ad65f3bbc"), looks := true }, kinds := [], alts := [], laidByText := true, laidKinds := [.data, .data, .data, .data, .pinned], laidTests := true, laidLooks := .later }
def ShowOneUptoCardSaid : Prop := Claim7.holds Tryz.pinned (.plain (OpenSpec.upto showOneSpec)) showOneUptoCard

/-- THE SECOND FORM's CARD OF 'usufructlaw11.ShowTokens'. -/
def showTokensUptoCard : Claim7 := { stood := { row := showTokensUptoRow, standIns := [], harness := (true, "7759239edb3f9001b1e5ba10027c4425c441cc381a62cded92f7372ad65f3bbc"), looks := true }, kinds := [], alts := [], laidByText := true, laidKinds := [.data, .data, .data, .data, .listed, .data, .pinned], laidTests := true, laidLooks := .later }
def ShowTokensUptoCardSaid : Prop := Claim7.holds Tryz.pinned (.plain (OpenSpec.upto showTokensSpec)) showTokensUptoCard
end Rows
end Go.Proofs.YtlmmaoobembadaaGreatDoor
