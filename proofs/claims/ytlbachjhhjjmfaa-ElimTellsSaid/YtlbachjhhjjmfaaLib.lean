/-
  The library's functions that layer 2 calls, each as one contract over the words for memory: Clone, Equal, Sort and Compact at []int, Clone at the terms.
-/
import Derived.Test.YtlbachjhhjjmfaaMem
import Derived.Test.YtlbachjhhjjmfaaSrt
import Derived.Test.YtlbachjhhjjmfaaShelf
import Derived.Lib.OwnBridge
import Derived.Lib.SmallJoins
namespace Go.Proofs.Ytlbachjhhjjmfaa.Mu
open Go.ChangeShapes Go.WideShapes Go.ChangeAt Go.RowKit Go.Sort

theorem info_int : (Try.prog.info? 3).map (fun i => (i.zero, i.size, i.bytes)) = some (some (.int .i64 0), 1, 8) := by kernel_rfl

theorem owns_grow {w : World} {base size n : Nat} {e : TypeId} {v : Value} {xs : List Value} (h : w.ownsRow base e size v n xs) (os : Array Obj) : (grow w os).ownsRow base e size v n xs :=
  h.kept (row := none) ⟨rfl, rfl, rfl, by rw [size_grow]; exact Nat.le_add_right _ _, fun k hk _ => heap_grow_old w os hk⟩ (by cases h : v.ownBlock <;> simp)
/-- A row put anew, and more blocks: nothing else has turned. -/
theorem grown_row {w : World} {g q : Nat} (d : Array Int) : w.grownBy (putRow (Value.int .i64) (Sort.ahead w q) g 0 d) (some g) :=
  ⟨rfl, rfl, rfl, by simp, fun k _ hne => by
    have : g ≠ k := fun e => hne (by rw [e])
    simp [putRow, mapBlock, Sort.ahead, Array.getElem?_modify, this]⟩
theorem grown_more {a w : World} {row : Option Nat} (h : a.grownBy w row) (os : Array Obj) : a.grownBy (grow w os) row :=
  ⟨h.os, h.tape, h.output, by rw [size_grow]; exact Nat.le_trans h.size (Nat.le_add_right _ _), fun k hk hne => by rw [heap_grow_old w os (Nat.lt_of_lt_of_le hk h.size)]; exact h.block k hk hne⟩

/-- slices.Sort at []int, of a slice of the call's own. -/
theorem sort_any (A : Option Addr) (n cap base : Nat) (l : List Int) (w : World) (hown : w.ownsRow base 3 1 (.slice A n cap) n (l.map (Value.int .i64))) (hmax : n ≤ 1000000000) :
    Calls Try.prog 73 #[.slice A n cap] w fun e w' => e = .returned (.tuple #[]) ∧ w'.ownsRow base 3 1 (.slice A n cap) n ((l.mergeSort fun x y => decide (x ≤ y)).map (Value.int .i64)) ∧ w.grownBy w' (Value.slice A n cap).ownBlock := by
  have hl : l.length = n := by simpa using hown.1
  rcases Nat.eq_zero_or_pos n with h | h
  · subst h
    obtain rfl : l = [] := List.eq_nil_of_length_eq_zero hl
    refine (Try.slices_Sort_int_none A cap w).mono ?_
    rintro e w' ⟨rfl, rfl⟩
    exact ⟨rfl, by simpa using hown, World.grownBy.refl _ _⟩
  · obtain ⟨g, cap', hv, hbg, hlt, hnc, hcm, _, hH⟩ := Lib.holds_of_ownsRow hown (by intro e; injection e; omega)
    injection hv with h1 _ h2
    subst h1 h2
    have hs := Try.slices_Sort_int g 0 cap l w hH hlt (by omega)
    rw [hl] at hs
    refine hs.mono ?_
    rintro e w' ⟨rfl, q, os, rfl⟩
    refine ⟨rfl, owns_grow ?_ os, grown_more (grown_row _) os⟩
    have := Lib.ownsRow_putRow (q := q) (k := n) (ys := l.mergeSort fun x y => decide (x ≤ y)) hown (by simp [hl]) (Nat.le_refl _)
    rwa [List.take_of_length_le (by simp [hl])] at this

end Go.Proofs.Ytlbachjhhjjmfaa.Mu

