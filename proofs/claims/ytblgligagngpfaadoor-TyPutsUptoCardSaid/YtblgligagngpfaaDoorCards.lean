/-
  DERIVED. GIVEN WITH THE SEED: THE CARDS: each row of YtblgligagngpfaaDoorRows.lean that lists a variable, with what it lists TIED to the program's text (the seventh form; the later family's looks); each row that meets fmt, with fmt's text TOLD by the authors' own Lean function (tested against real Go, not proved from fmt's source: count such statements apart). THE CARD IS WHAT COUNTS. Prove the row's statement (the work); the ties are given (YtblgligagngpfaaDoorTie.lean); close each card by the builder's one call (the guide's Derived/Test/ToyasCard.lean, 'card_holds'). Laid BY PROGRAM, IN A SANDBOX (cutbox-door.mjs). By AI agents, Wed Nov 11 2026. No macro, syntax, notation, axiom, sorry.
-/
import Derived.Test.YtblgligagngpfaaDoorRows
import GoSem.ClaimSeven
namespace Go.Proofs.YtblgligagngpfaaDoor
namespace Rows

/-- THE TIED CARD OF 'usufructlaw06.TyPuts'. -/
def tyPutsCard : Claim7 := { stood := { row := tyPutsRow, standIns := [], harness := (true, "3963609c9af2a4aa5447e585ea25e97fbfb8c90788fb2f4f0d8d2dd124029a21"), looks := false }, kinds := [], alts := [], laidByText := true, laidKinds := [.data, .data, .data, .data], laidTests := true, laidLooks := .later }
def TyPutsCardSaid : Prop := Claim7.holds Tryd.pinned (.plain (OpenSpec.ofChange tyPutsSpec)) tyPutsCard

/-- THE SECOND FORM's CARD OF 'usufructlaw06.TyPuts'. -/
def tyPutsUptoCard : Claim7 := { stood := { row := tyPutsUptoRow, standIns := [], harness := (true, "3963609c9af2a4aa5447e585ea25e97fbfb8c90788fb2f4f0d8d2dd124029a21"), looks := false }, kinds := [], alts := [], laidByText := true, laidKinds := [.data, .data, .data, .data], laidTests := true, laidLooks := .later }
def TyPutsUptoCardSaid : Prop := Claim7.holds Tryd.pinned (.plain (OpenSpec.upto tyPutsSpec)) tyPutsUptoCard
end Rows
end Go.Proofs.YtblgligagngpfaaDoor
