/-
  DERIVED. GIVEN WITH THE SEED: THE CARDS: each row of YtomojelaookacaaDoorRows.lean that lists a variable, with what it lists TIED to the program's text (the seventh form; the later family's looks); each row that meets fmt, with fmt's text TOLD by the authors' own Lean function (tested against real Go, not proved from fmt's source: count such statements apart). THE CARD IS WHAT COUNTS. Prove the row's statement (the work); the ties are given (YtomojelaookacaaDoorTie.lean); close each card by the builder's one call (the guide's Derived/Test/ToyasCard.lean, 'card_holds'). Laid BY PROGRAM, IN A SANDBOX (cutbox-door.mjs). By AI agents, Wed Nov 11 2026. No macro, syntax, notation, axiom, sorry.
-/
import Derived.Test.YtomojelaookacaaDoorRows
import GoSem.ClaimSeven
namespace Go.Proofs.YtomojelaookacaaDoor
namespace Rows

/-- THE TIED CARD OF 'usufructlaw06.TyKnown'. -/
def tyKnownCard : Claim7 := { stood := { row := tyKnownRow, standIns := [], harness := (true, "a7bd538482528b2060a0e4e24b8d3ed3f8725fece52cc80417446e959744c749"), looks := false }, kinds := [], alts := [], laidByText := true, laidKinds := [.data, .data, .data, .data], laidTests := true, laidLooks := .later }
def TyKnownCardSaid : Prop := Claim7.holds Tryd.pinned (.plain (OpenSpec.ofChange tyKnownSpec)) tyKnownCard

/-- THE TIED CARD OF 'usufructlaw06.TyMay'. -/
def tyMayCard : Claim7 := { stood := { row := tyMayRow, standIns := [], harness := (true, "a7bd538482528b2060a0e4e24b8d3ed3f8725fece52cc80417446e959744c749"), looks := false }, kinds := [], alts := [], laidByText := true, laidKinds := [.data, .data, .data, .data], laidTests := true, laidLooks := .later }
def TyMayCardSaid : Prop := Claim7.holds Tryd.pinned (.plain (OpenSpec.ofChange tyMaySpec)) tyMayCard

/-- THE TIED CARD OF 'usufructlaw06.TyPuts'. -/
def tyPutsCard : Claim7 := { stood := { row := tyPutsRow, standIns := [], harness := (true, "a7bd538482528b2060a0e4e24b8d3ed3f8725fece52cc80417446e959744c749"), looks := false }, kinds := [], alts := [], laidByText := true, laidKinds := [.data, .data, .data, .data], laidTests := true, laidLooks := .later }
def TyPutsCardSaid : Prop := Claim7.holds Tryd.pinned (.plain (OpenSpec.ofChange tyPutsSpec)) tyPutsCard

/-- THE TIED CARD OF 'usufructlaw06.TyPutPut'. -/
def tyPutPutCard : Claim7 := { stood := { row := tyPutPutRow, standIns := [], harness := (true, "a7bd538482528b2060a0e4e24b8d3ed3f8725fece52cc80417446e959744c749"), looks := false }, kinds := [], alts := [], laidByText := true, laidKinds := [.data, .data, .data, .data], laidTests := true, laidLooks := .later }
def TyPutPutCardSaid : Prop := Claim7.holds Tryd.pinned (.plain (OpenSpec.ofChange tyPutPutSpec)) tyPutPutCard

/-- THE TIED CARD OF 'usufructlaw06.TyCanons'. -/
def tyCanonsCard : Claim7 := { stood := { row := tyCanonsRow, standIns := [], harness := (true, "a7bd538482528b2060a0e4e24b8d3ed3f8725fece52cc80417446e959744c749"), looks := false }, kinds := [], alts := [], laidByText := true, laidKinds := [.data, .data, .data, .data], laidTests := true, laidLooks := .later }
def TyCanonsCardSaid : Prop := Claim7.holds Tryd.pinned (.plain (OpenSpec.ofChange tyCanonsSpec)) tyCanonsCard

/-- THE TIED CARD OF 'usufructlaw06.TyTexts'. -/
def tyTextsCard : Claim7 := { stood := { row := tyTextsRow, standIns := [], harness := (true, "a7bd538482528b2060a0e4e24b8d3ed3f8725fece52cc80417446e959744c749"), looks := false }, kinds := [], alts := [], laidByText := true, laidKinds := [.data, .data, .data, .data], laidTests := true, laidLooks := .later }
def TyTextsCardSaid : Prop := Claim7.holds Tryd.pinned (.plain (OpenSpec.ofChange tyTextsSpec)) tyTextsCard

/-- THE TIED CARD OF 'usufructlaw07.UnifyKnown'. -/
def unifyKnownCard : Claim7 := { stood := { row := unifyKnownRow, standIns := [], harness := (true, "a7bd538482528b2060a0e4e24b8d3ed3f8725fece52cc80417446e959744c749"), looks := false }, kinds := [], alts := [], laidByText := true, laidKinds := [.data, .data, .data, .data], laidTests := true, laidLooks := .later }
def UnifyKnownCardSaid : Prop := Claim7.holds Tryd.pinned (.plain (OpenSpec.ofChange unifyKnownSpec)) unifyKnownCard

/-- THE SECOND FORM's CARD OF 'usufructlaw06.TyKnown'. -/
def tyKnownUptoCard : Claim7 := { stood := { row := tyKnownUptoRow, standIns := [], harness := (true, "a7bd538482528b2060a0e4e24b8d3ed3f8725fece52cc80417446e959744c749"), looks := false }, kinds := [], alts := [], laidByText := true, laidKinds := [.data, .data, .data, .data], laidTests := true, laidLooks := .later }
def TyKnownUptoCardSaid : Prop := Claim7.holds Tryd.pinned (.plain (OpenSpec.upto tyKnownSpec)) tyKnownUptoCard

/-- THE SECOND FORM's CARD OF 'usufructlaw06.TyMay'. -/
def tyMayUptoCard : Claim7 := { stood := { row := tyMayUptoRow, standIns := [], harness := (true, "a7bd538482528b2060a0e4e24b8d3ed3f8725fece52cc80417446e959744c749"), looks := false }, kinds := [], alts := [], laidByText := true, laidKinds := [.data, .data, .data, .data], laidTests := true, laidLooks := .later }
def TyMayUptoCardSaid : Prop := Claim7.holds Tryd.pinned (.plain (OpenSpec.upto tyMaySpec)) tyMayUptoCard

/-- THE SECOND FORM's CARD OF 'usufructlaw06.TyPuts'. -/
def tyPutsUptoCard : Claim7 := { stood := { row := tyPutsUptoRow, standIns := [], harness := (true, "a7bd538482528b2060a0e4e24b8d3ed3f8725fece52cc80417446e959744c749"), looks := false }, kinds := [], alts := [], laidByText := true, laidKinds := [.data, .data, .data, .data], laidTests := true, laidLooks := .later }
def TyPutsUptoCardSaid : Prop := Claim7.holds Tryd.pinned (.plain (OpenSpec.upto tyPutsSpec)) tyPutsUptoCard

/-- THE SECOND FORM's CARD OF 'usufructlaw06.TyPutPut'. -/
def tyPutPutUptoCard : Claim7 := { stood := { row := tyPutPutUptoRow, standIns := [], harness := (true, "a7bd538482528b2060a0e4e24b8d3ed3f8725fece52cc80417446e959744c749"), looks := false }, kinds := [], alts := [], laidByText := true, laidKinds := [.data, .data, .data, .data], laidTests := true, laidLooks := .later }
def TyPutPutUptoCardSaid : Prop := Claim7.holds Tryd.pinned (.plain (OpenSpec.upto tyPutPutSpec)) tyPutPutUptoCard

/-- THE SECOND FORM's CARD OF 'usufructlaw06.TyCanons'. -/
def tyCanonsUptoCard : Claim7 := { stood := { row := tyCanonsUptoRow, standIns := [], harness := (true, "a7bd538482528b2060a0e4e24b8d3ed3f8725fece52cc80417446e959744c749"), looks := false }, kinds := [], alts := [], laidByText := true, laidKinds := [.data, .data, .data, .data], laidTests := true, laidLooks := .later }
def TyCanonsUptoCardSaid : Prop := Claim7.holds Tryd.pinned (.plain (OpenSpec.upto tyCanonsSpec)) tyCanonsUptoCard

/-- THE SECOND FORM's CARD OF 'usufructlaw06.TyTexts'. -/
def tyTextsUptoCard : Claim7 := { stood := { row := tyTextsUptoRow, standIns := [], harness := (true, "a7bd538482528b2060a0e4e24b8d3ed3f8725fece52cc80417446e959744c749"), looks := false }, kinds := [], alts := [], laidByText := true, laidKinds := [.data, .data, .data, .data], laidTests := true, laidLooks := .later }
def TyTextsUptoCardSaid : Prop := Claim7.holds Tryd.pinned (.plain (OpenSpec.upto tyTextsSpec)) tyTextsUptoCard

/-- THE SECOND FORM's CARD OF 'usufructlaw07.UnifyKnown'. -/
def unifyKnownUptoCard : Claim7 := { stood := { row := unifyKnownUptoRow, standIns := [], harness := (true, "a7bd538482528b2060a0e4e24b8d3ed3f8725fece52cc80417446e959744c749"), looks := false }, kinds := [], alts := [], laidByText := true, laidKinds := [.data, .data, .data, .data], laidTests := true, laidLooks := .later }
def UnifyKnownUptoCardSaid : Prop := Claim7.holds Tryd.pinned (.plain (OpenSpec.upto unifyKnownSpec)) unifyKnownUptoCard
end Rows
end Go.Proofs.YtomojelaookacaaDoor
