/-
  The built replacer replaces: what it answers, as mathematics.
-/
import Derived.Test.YteockaolmobmeaaGreatDoorLexRep
namespace Go.Proofs.YteockaolmobmeaaGreatDoor.Mu
open Go.RowKit Go.Shelf
set_option maxRecDepth 100000

theorem esc_cases (u : UInt8) : (escT 0 u.toNat = none ∧ escB u = [u]) ∨ (escT 0 u.toNat = some (escB u) ∧ (escB u).length = 2) := by
  by_cases h1 : u = 10
  · subst h1; right; decide
  by_cases h2 : u = 9
  · subst h2; right; decide
  by_cases h3 : u = 34
  · subst h3; right; decide
  by_cases h4 : u = 92
  · subst h4; right; decide
  left
  have n1 : ¬ 10 = u.toNat := fun e => h1 (UInt8.toNat_inj.1 e.symm)
  have n2 : ¬ 9 = u.toNat := fun e => h2 (UInt8.toNat_inj.1 e.symm)
  have n3 : ¬ 34 = u.toNat := fun e => h3 (UInt8.toNat_inj.1 e.symm)
  have n4 : ¬ 92 = u.toNat := fun e => h4 (UInt8.toNat_inj.1 e.symm)
  refine ⟨by simp [escT, prs, n1, n2, n3, n4], ?_⟩
  unfold escB
  rw [if_neg h1, if_neg h2, if_neg (by rintro (h | h) <;> contradiction)]
theorem esc_pos (u : UInt8) : 1 ≤ (escB u).length ∧ (escB u).length ≤ 2 := by
  rcases esc_cases u with ⟨_, h⟩ | ⟨_, h⟩
  · rw [h]; simp
  · omega
theorem escL_ge (s : List UInt8) : s.length ≤ (s.flatMap escB).length ∧ (s.flatMap escB).length ≤ 2 * s.length := by
  induction s with
  | nil => simp
  | cons u s ih =>
    rw [List.flatMap_cons, List.length_append, List.length_cons]
    have := esc_pos u
    omega
theorem esc_same {s : List UInt8} (h : (s.flatMap escB).length = s.length) : s.flatMap escB = s := by
  induction s with
  | nil => rfl
  | cons u s ih =>
    rw [List.flatMap_cons, List.length_append, List.length_cons] at h
    have h1 := esc_pos u
    have h2 := (escL_ge s).1
    rcases esc_cases u with ⟨_, e⟩ | ⟨_, e⟩
    · rw [List.flatMap_cons, e, ih (by rw [e, List.length_singleton] at h; omega)]; rfl
    · omega
def cnt (s : List UInt8) (c : UInt8) : Nat := Lib.countByte s c
theorem esc_cnt (s : List UInt8) : (s.flatMap escB).length = s.length + (cnt s 92 + (cnt s 34 + (cnt s 9 + cnt s 10))) := by
  induction s with
  | nil => rfl
  | cons u s ih =>
    rw [List.flatMap_cons, List.length_append, ih, List.length_cons]
    have hc : ∀ c, cnt (u :: s) c = cnt s c + (if u = c then 1 else 0) := fun c => by
      unfold cnt Lib.countByte
      by_cases h : u = c <;> simp [h]
    rw [hc, hc, hc, hc]
    unfold escB
    by_cases h1 : u = 10
    · subst h1; simp; omega
    by_cases h2 : u = 9
    · subst h2; simp; omega
    by_cases h3 : u = 34
    · subst h3; simp; omega
    by_cases h4 : u = 92
    · subst h4; simp; omega
    simp [h1, h2, h3, h4]; omega
end Go.Proofs.YteockaolmobmeaaGreatDoor.Mu

