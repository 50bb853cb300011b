/-
  DERIVED. GIVEN WITH THE SEED: THE CARDS: each row of YtkogcpcckpaldaaDoorRows.lean that lists a variable, with what it lists TIED to the program's text (the seventh form; the later family's looks); each row that meets fmt, with fmt's text TOLD by the authors' own Lean function (tested against real Go, not proved from fmt's source: count such statements apart). THE CARD IS WHAT COUNTS. Prove the row's statement (the work); the ties are given (YtkogcpcckpaldaaDoorTie.lean); close each card by the builder's one call (the guide's Derived/Test/ToyasCard.lean, 'card_holds'). Laid BY PROGRAM, IN A SANDBOX (cutbox-door.mjs). By AI agents, Wed Nov 11 2026. No macro, syntax, notation, axiom, sorry.
-/
import Derived.Test.YtkogcpcckpaldaaDoorRows
import GoSem.ClaimSeven
namespace Go.Proofs.YtkogcpcckpaldaaDoor
namespace Rows

/-- THE TIED CARD OF 'usufructlaw06.TyPuts'. -/
def tyPutsCard : Claim7 := { stood := { row := tyPutsRow, standIns := [], harness := (true, "c3d0d70b1520c8dc1e2d62552bbf958e67cf568eda915444b192ae5a5cf95619"), looks := false }, kinds := [], alts := [], laidByText := true, laidKinds := [.data, .data, .data, .data], laidTests := true, laidLooks := .later }
def TyPutsCardSaid : Prop := Claim7.holds Tryd.pinned (.plain (OpenSpec.ofChange tyPutsSpec)) tyPutsCard

/-- THE TIED CARD OF 'usufructlaw06.TyPutPut'. -/
def tyPutPutCard : Claim7 := { stood := { row := tyPutPutRow, standIns := [], harness := (true, "c3d0d70b1520c8dc1e2d62552bbf958e67cf568eda915444b192ae5a5cf95619"), looks := false }, kinds := [], alts := [], laidByText := true, laidKinds := [.data, .data, .data, .data], laidTests := true, laidLooks := .later }
def TyPutPutCardSaid : Prop := Claim7.holds Tryd.pinned (.plain (OpenSpec.ofChange tyPutPutSpec)) tyPutPutCard

/-- THE SECOND FORM's CARD OF 'usufructlaw06.TyPuts'. -/
def tyPutsUptoCard : Claim7 := { stood := { row := tyPutsUptoRow, standIns := [], harness := (true, "c3d0d70b1520c8dc1e2d62552bbf958e67cf568eda915444b192ae5a5cf95619"), looks := false }, kinds := [], alts := [], laidByText := true, laidKinds := [.data, .data, .data, .data], laidTests := true, laidLooks := .later }
def TyPutsUptoCardSaid : Prop := Claim7.holds Tryd.pinned (.plain (OpenSpec.upto tyPutsSpec)) tyPutsUptoCard

/-- THE SECOND FORM's CARD OF 'usufructlaw06.TyPutPut'. -/
def tyPutPutUptoCard : Claim7 := { stood := { row := tyPutPutUptoRow, standIns := [], harness := (true, "c3d0d70b1520c8dc1e2d62552bbf958e67cf568eda915444b192ae5a5cf95619"), looks := false }, kinds := [], alts := [], laidByText := true, laidKinds := [.data, .data, .data, .data], laidTests := true, laidLooks := .later }
def TyPutPutUptoCardSaid : Prop := Claim7.holds Tryd.pinned (.plain (OpenSpec.upto tyPutPutSpec)) tyPutPutUptoCard
end Rows
end Go.Proofs.YtkogcpcckpaldaaDoor
