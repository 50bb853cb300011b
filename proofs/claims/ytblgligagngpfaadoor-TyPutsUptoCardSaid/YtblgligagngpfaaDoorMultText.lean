/-
  Layer 1's function Text, walked; what the table of texts holds is a premise.
-/
import Derived.Test.YtblgligagngpfaaDoorMult
import Derived.Test.YtblgligagngpfaaDoorMem
import Derived.Lib.SmallJoins
import Derived.Laws.Strings
import Derived.WalkSpells
import Derived.Lib.ItoaNum
import Derived.KernelRfl
namespace Go.Proofs.YtblgligagngpfaaDoor.Mu
open Go.ChangeShapes Go.WideShapes Go.ChangeAt Go.RowKit

/-- The table's three cells, in block g. -/
def Table (w : World) : Prop := 0 < w.heap.size ∧ w.cell? ⟨1, 0, none⟩ = some (.string ⟨#[49]⟩) ∧ w.cell? ⟨1, 1, none⟩ = some (.string ⟨#[63]⟩) ∧ w.cell? ⟨1, 2, none⟩ = some (.string ⟨#[42]⟩)
theorem Table.bel {w w' : World} (h : Table w) (hb : Bel w w') : Table w' := by
  obtain ⟨hw, a, b, c⟩ := h
  have hlt := World.block_lt_of_cell? w _ a
  exact ⟨Nat.lt_of_lt_of_le hw hb.size, (hb.cell (p := ⟨1, 0, none⟩) hlt).trans a, (hb.cell (p := ⟨1, 1, none⟩) hlt).trans b, (hb.cell (p := ⟨1, 2, none⟩) hlt).trans c⟩
def textS (m : Int) : ByteArray := if knownF m = 1 then ⟨#[49]⟩ else if knownF m = 2 then ⟨#[63]⟩ else ⟨#[42]⟩

theorem text_any (m : Int) (h0 : 0 ≤ m) (h1 : m ≤ 255) (w : World) (ht : Table w) : Calls Tryd.prog 86 #[.int .u8 m] w fun e w' => e = .returned (.string (textS m)) ∧ w = w' := by
  obtain ⟨_, t0, t1, t2⟩ := ht
  obtain ⟨r, e⟩ : ∃ r, textS m = r := ⟨_, rfl⟩
  have E := Lib.hid e
  rcases cm_cases m with y | y | y
  all_goals
    simp only [textS, y] at e
    have E2 := Lib.hid e
    clear e
    go_enter Tryd.func86, Tryd.ntmps86
    go_wp2_with (first | (go_at_call 88; refine (known_any _ (by omega) (by omega) _).mono ?_; rintro e w' ⟨rfl, rfl⟩))
    go_ret
    exact ⟨by rw [E.out, ← E2.out]; rfl, rfl⟩

/-- Both tables that writing looks at. -/
def Tabs (w : World) : Prop := Table w ∧ Lib.TabIs Tryd.prog w "internal/strconv.uint64pow10" .u64 Lib.pow10Tab
theorem gPow : Tryd.prog.globalNamed "internal/strconv.uint64pow10" = some 2 := by kernel_rfl
theorem Tabs.bel {w w' : World} (h : Tabs w) (hb : Bel w w') : Tabs w' := ⟨h.1.bel hb, Joins.tab_stays gPow h.2 hb (Nat.le_refl _)⟩
end Go.Proofs.YtblgligagngpfaaDoor.Mu

