/-
  The library's functions that layer 2 calls, each as one contract over the words for memory: Clone, Equal, Sort and Compact at []int, Clone at the terms.
-/
import Derived.Test.YtblgligagngpfaaDoorMem
import Derived.Test.YtblgligagngpfaaDoorSrt
import Derived.Test.YtblgligagngpfaaDoorShelf
import Derived.Lib.OwnBridge
import Derived.Lib.SmallJoins
namespace Go.Proofs.YtblgligagngpfaaDoor.Mu
open Go.ChangeShapes Go.WideShapes Go.ChangeAt Go.RowKit Go.Sort

theorem info_int : (Tryd.prog.info? 3).map (fun i => (i.zero, i.size, i.bytes)) = some (some (.int .i64 0), 1, 8) := by kernel_rfl

/-- slices.Equal at []int. -/
theorem equal_any (A B : Option Addr) (n m c d : Nat) (l k : List Int) (w : World) (ha : RI .i64 w w.heap.size A n l) (hb : RI .i64 w w.heap.size B m k) (hn : n ≤ 1000000000) (hm : m ≤ 1000000000) :
    Calls Tryd.prog 15 #[.slice A n c, .slice B m d] w fun e w' => e = .returned (.bool (decide (l = k))) ∧ Bel w w' := by
  have hl := ha.len
  have hk := hb.len
  by_cases hnm : n = m
  · subst hnm
    rcases Nat.eq_zero_or_pos n with h | h
    · subst h
      obtain rfl : l = [] := List.eq_nil_of_length_eq_zero hl.symm
      obtain rfl : k = [] := List.eq_nil_of_length_eq_zero hk.symm
      refine (Tryd.slices_Equal_int_empty A B c 0 d w (by omega)).mono ?_
      rintro e w' ⟨rfl, rfl⟩
      exact ⟨rfl, Bel.refl _⟩
    · obtain ⟨b1, o1, rfl, _, hc1⟩ := ha.at_ h
      obtain ⟨b2, o2, rfl, _, hc2⟩ := hb.at_ h
      refine (Tryd.slices_Equal_int b1 o1 n c b2 o2 n d l k w (by omega) (by omega) (by omega) (by omega) (fun j hj => by rw [hc1 j (by omega), List.getD_eq_getElem?_getD]) (fun j hj => by rw [hc2 j (by omega), List.getD_eq_getElem?_getD])).mono ?_
      rintro e w' ⟨rfl, q, rfl⟩
      rw [List.take_of_length_le (by omega), List.take_of_length_le (by omega)]
      refine ⟨?_, (Bel.refl _).drewN _⟩
      by_cases h : l = k
      · simp [h]
      · rw [decide_eq_false h, beq_eq_false_iff_ne.2 h]
  · refine (Tryd.slices_Equal_int_lens A B n c m d w hnm).mono ?_
    rintro e w' ⟨rfl, rfl⟩
    exact ⟨by rw [decide_eq_false]; rintro rfl; omega, Bel.refl _⟩

theorem owns_grow {w : World} {base size n : Nat} {e : TypeId} {v : Value} {xs : List Value} (h : w.ownsRow base e size v n xs) (os : Array Obj) : (grow w os).ownsRow base e size v n xs :=
  h.kept (row := none) ⟨rfl, rfl, rfl, by rw [size_grow]; exact Nat.le_add_right _ _, fun k hk _ => heap_grow_old w os hk⟩ (by cases h : v.ownBlock <;> simp)
/-- A row put anew, and more blocks: nothing else has turned. -/
theorem grown_row {w : World} {g q : Nat} (d : Array Int) : w.grownBy (putRow (Value.int .i64) (Sort.ahead w q) g 0 d) (some g) :=
  ⟨rfl, rfl, rfl, by simp, fun k _ hne => by
    have : g ≠ k := fun e => hne (by rw [e])
    simp [putRow, mapBlock, Sort.ahead, Array.getElem?_modify, this]⟩
theorem grown_more {a w : World} {row : Option Nat} (h : a.grownBy w row) (os : Array Obj) : a.grownBy (grow w os) row :=
  ⟨h.os, h.tape, h.output, by rw [size_grow]; exact Nat.le_trans h.size (Nat.le_add_right _ _), fun k hk hne => by rw [heap_grow_old w os (Nat.lt_of_lt_of_le hk h.size)]; exact h.block k hk hne⟩

end Go.Proofs.YtblgligagngpfaaDoor.Mu

