/-
  Layer 1's two functions that read the table of texts (Text, Parse), walked; what the table holds is a premise of each.
-/
import Derived.Test.YtjbnmfgmkcgglaaDoorRef01More
import Derived.Laws.Strings
import Derived.Laws.StructEq
import Derived.WalkSpells
import Derived.Lib.Strings
import Derived.KernelRfl
namespace Go.Proofs.YtjbnmfgmkcgglaaDoor.Mu
open Go.ChangeShapes Go.WideShapes Go.ChangeAt Go.RowKit

/-- The table's three cells. -/
def Table (w : World) : Prop := w.cell? ⟨0, 0, none⟩ = some (.string ⟨#[49]⟩) ∧ w.cell? ⟨0, 1, none⟩ = some (.string ⟨#[63]⟩) ∧ w.cell? ⟨0, 2, none⟩ = some (.string ⟨#[42]⟩)

theorem text_any (m : Int) (h0 : 0 ≤ m) (h1 : m ≤ 255) (w : World) (ht : Table w) : Calls Tryd.prog 17 #[.int .u8 m] w fun e w' => e = .returned (.string (textS m)) ∧ w = w' := by
  obtain ⟨t0, t1, t2⟩ := ht
  obtain ⟨r, e⟩ : ∃ r, textS m = r := ⟨_, rfl⟩
  have E := Lib.hid e
  rcases cm_cases m with y | y | y
  all_goals
    simp only [textS, y] at e
    have E2 := Lib.hid e
    clear e
    go_enter Tryd.func17, Tryd.ntmps17
    go_wp2_with (first | (go_at_call 26; refine (known_any _ (by omega) (by omega) _).mono ?_; rintro e w' ⟨rfl, rfl⟩))
    go_ret
    exact ⟨by rw [E.out, ← E2.out]; rfl, rfl⟩

/-- What a text tells: the multiplicity, or 0, and the error. -/
def parseM (s : ByteArray) : Int := if s.toList == [49] then 1 else if s.toList == [63] then 2 else if s.toList == [42] then 3 else 0
def parseE (s : ByteArray) : Int := if s.toList == [49] then 0 else if s.toList == [63] then 0 else if s.toList == [42] then 0 else 2

theorem parse_any (s : ByteArray) (w : World) (ht : Table w) : Calls Tryd.prog 6 #[.string s] w fun e w' => e = .returned (.tuple #[.int .u8 (parseM s), .int .i64 (parseE s)]) ∧ w = w' := by
  obtain ⟨t0, t1, t2⟩ := ht
  have i0 : ∀ w, (Instr.index 36 (.agg #[.string ⟨#[49]⟩, .string ⟨#[63]⟩, .string ⟨#[42]⟩]) (.int .i64 0)).run Tryd.prog w = .ok (.string ⟨#[49]⟩) w := fun _ => by kernel_rfl
  have i1 : ∀ w, (Instr.index 36 (.agg #[.string ⟨#[49]⟩, .string ⟨#[63]⟩, .string ⟨#[42]⟩]) (.int .i64 1)).run Tryd.prog w = .ok (.string ⟨#[63]⟩) w := fun _ => by kernel_rfl
  have i2 : ∀ w, (Instr.index 36 (.agg #[.string ⟨#[49]⟩, .string ⟨#[63]⟩, .string ⟨#[42]⟩]) (.int .i64 2)).run Tryd.prog w = .ok (.string ⟨#[42]⟩) w := fun _ => by kernel_rfl
  obtain ⟨r, e⟩ : ∃ r, parseM s = r := ⟨_, rfl⟩
  obtain ⟨q, f⟩ : ∃ q, parseE s = q := ⟨_, rfl⟩
  have E := Lib.hid e
  have F := Lib.hid f
  rcases Bool.eq_false_or_eq_true (s.toList == [49]) with h0 | h0 <;> rcases Bool.eq_false_or_eq_true (s.toList == [63]) with h1 | h1 <;> rcases Bool.eq_false_or_eq_true (s.toList == [42]) with h2 | h2
  all_goals
    simp only [parseM, h0, h1, h2, if_true, if_false, Bool.false_eq_true] at e
    simp only [parseE, h0, h1, h2, if_true, if_false, Bool.false_eq_true] at f
    have E2 := Lib.hid e
    have F2 := Lib.hid f
    clear e f
    go_enter Tryd.func6, Tryd.ntmps6
    go_wp2
    refine wp_loop_rounds 4 ?_; rw [rounds_succ]
    go_wp2_with (first | rw [rounds_succ])
    go_ret2
    exact ⟨by rw [E.out, ← E2.out, F.out, ← F2.out]; rfl, rfl⟩

theorem parse_one (s : ByteArray) : (s = ⟨#[49]⟩) ∨ (s = ⟨#[63]⟩) ∨ (s = ⟨#[42]⟩) ∨ (parseM s = 0 ∧ parseE s = 2 ∧ (s.toList == [49]) = false ∧ (s.toList == [63]) = false ∧ (s.toList == [42]) = false ∧ ([49] == s.toList) = false ∧ ([63] == s.toList) = false ∧ ([42] == s.toList) = false) := by
  have key : ∀ c : UInt8, s.toList = [c] → s = ⟨#[c]⟩ := by
    intro c h
    apply ByteArray.ext
    apply Array.toList_inj.1
    rw [← ByteArray.toList_eq]
    exact h
  by_cases h0 : s.toList = [49]
  · exact .inl (key _ h0)
  by_cases h1 : s.toList = [63]
  · exact .inr (.inl (key _ h1))
  by_cases h2 : s.toList = [42]
  · exact .inr (.inr (.inl (key _ h2)))
  refine .inr (.inr (.inr ?_))
  have g0 : (s.toList == [49]) = false := by simpa using h0
  have g1 : (s.toList == [63]) = false := by simpa using h1
  have g2 : (s.toList == [42]) = false := by simpa using h2
  exact ⟨by simp only [parseM, g0, g1, g2, if_false, Bool.false_eq_true], by simp only [parseE, g0, g1, g2, if_false, Bool.false_eq_true], g0, g1, g2, by simpa using Ne.symm h0, by simpa using Ne.symm h1, by simpa using Ne.symm h2⟩
end Go.Proofs.YtjbnmfgmkcgglaaDoor.Mu
