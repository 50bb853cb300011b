/-
  A drawn region whose operations read, or lay memory of their own, walked once in the text's order.
-/
import Derived.Test.YtaiogbokmglofaaMem
import Derived.BigQuiet
namespace Go.Proofs.Ytaiogbokmglofaa.Mu
open Go.RowKit

/-- A world in which all that was there is as it was. -/
structure Abv (w : World) where
  wd : World
  bel : Bel w wd
instance (w : World) : Nonempty (Abv w) := ⟨⟨w, Bel.refl w⟩⟩
/-- A region that draws its order and whose operations read, or lay memory of their own, walked once: whatever they lay, what was there is as it was. -/
theorem wp_region_above {P : Program} {id : Nat} {Q : Exit → Act → World → Prop} {a : Act} {w : World} {l : List Oper} (hm : P.follows .mixedOrders = true) (hB : Region.lexB .any l.toArray = true)
    (h : wpQuiet P l.toArray (fun w' => ∃ n : Abv w, w' = n.wd) (fun a' => ∀ w', (∃ n : Abv w, w' = n.wd) → Q .normal a' w') l a) : (Code.region id l.toArray true).wp P Q a w :=
  wp_region_quiet (C := fun w' => ∃ n : Abv w, w' = n.wd) hm hB ⟨⟨_, (Bel.refl w).drew⟩, rfl⟩ (by simpa using h)
end Go.Proofs.Ytaiogbokmglofaa.Mu

