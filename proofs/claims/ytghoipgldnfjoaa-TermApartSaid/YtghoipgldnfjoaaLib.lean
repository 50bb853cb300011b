/-
  The library's functions that layer 2 calls, each as one contract over the words for memory: Clone, Equal, Sort and Compact at []int, Clone at the terms.
-/
import Derived.Test.YtghoipgldnfjoaaMem
import Derived.Test.YtghoipgldnfjoaaSrt
import Derived.Test.YtghoipgldnfjoaaShelf
import Derived.Lib.OwnBridge
import Derived.Lib.SmallJoins
import Derived.Shelf.SlicesE.Clone
namespace Go.Proofs.Ytghoipgldnfjoaa.Mu
open Go.ChangeShapes Go.WideShapes Go.ChangeAt Go.RowKit Go.Sort

theorem info_int : (Try.prog.info? 3).map (fun i => (i.zero, i.size, i.bytes)) = some (some (.int .i64 0), 1, 8) := by kernel_rfl

/-- slices.Clone at []int. -/
theorem clone_any (A : Option Addr) (n cap : Nat) (l : List Int) (w : World) (hr : RI .i64 w w.heap.size A n l) (hmax : n ≤ 1000000000) :
    Calls Try.prog 35 #[.slice A n cap] w fun e w' => ∃ A' c', e = .returned (.slice A' n c') ∧ w'.ownsRow w.heap.size 3 1 (.slice A' n c') n (l.map (Value.int .i64)) ∧ Bel w w' := by
  have hl := hr.len
  rcases A with _ | a
  · have hn : n = 0 := by
      rcases Nat.eq_zero_or_pos n with h | h
      · exact h
      · obtain ⟨_, _, h', _⟩ := hr.at_ h; cases h'
    subst hn
    have hn : l = [] := List.eq_nil_of_length_eq_zero hl.symm
    subst hn
    refine (Try.slices_Clone_int_nil 0 cap w).mono ?_
    rintro e w' ⟨rfl, rfl⟩
    exact ⟨none, 0, rfl, World.ownsRow_nil _ _ _ _, Bel.refl _⟩
  · rcases Nat.eq_zero_or_pos n with h | h
    · subst h
      have hn : l = [] := List.eq_nil_of_length_eq_zero hl.symm
      subst hn
      refine (Try.slices_Clone_int_zero a cap w).mono ?_
      rintro e w' ⟨v', rfl, hown, hne, hb⟩
      rcases hown.2 with ⟨h, _⟩ | ⟨g, c', cur, rfl, _⟩
      · exact absurd h hne
      · exact ⟨_, _, rfl, hown, hb⟩
    · obtain ⟨b, off, e, hb, hc⟩ := hr.at_ h
      injection e with e
      subst e
      refine (Try.slices_Clone_int b off n cap l w (by omega) (by omega) (fun j hj => by rw [hc j (by omega), List.getD_eq_getElem?_getD])).mono ?_
      rintro e w' ⟨v', rfl, hown, hne, hb⟩
      rw [List.take_of_length_le (by omega)] at hown
      rcases hown.2 with ⟨h, _⟩ | ⟨g, c', cur, rfl, _⟩
      · exact absurd h hne
      · exact ⟨_, _, rfl, hown, hb⟩

/-- slices.Equal at []int. -/
theorem equal_any (A B : Option Addr) (n m c d : Nat) (l k : List Int) (w : World) (ha : RI .i64 w w.heap.size A n l) (hb : RI .i64 w w.heap.size B m k) (hn : n ≤ 1000000000) (hm : m ≤ 1000000000) :
    Calls Try.prog 44 #[.slice A n c, .slice B m d] w fun e w' => e = .returned (.bool (decide (l = k))) ∧ Bel w w' := by
  have hl := ha.len
  have hk := hb.len
  by_cases hnm : n = m
  · subst hnm
    rcases Nat.eq_zero_or_pos n with h | h
    · subst h
      obtain rfl : l = [] := List.eq_nil_of_length_eq_zero hl.symm
      obtain rfl : k = [] := List.eq_nil_of_length_eq_zero hk.symm
      refine (Try.slices_Equal_int_empty A B c 0 d w (by omega)).mono ?_
      rintro e w' ⟨rfl, rfl⟩
      exact ⟨rfl, Bel.refl _⟩
    · obtain ⟨b1, o1, rfl, _, hc1⟩ := ha.at_ h
      obtain ⟨b2, o2, rfl, _, hc2⟩ := hb.at_ h
      refine (Try.slices_Equal_int b1 o1 n c b2 o2 n d l k w (by omega) (by omega) (by omega) (by omega) (fun j hj => by rw [hc1 j (by omega), List.getD_eq_getElem?_getD]) (fun j hj => by rw [hc2 j (by omega), List.getD_eq_getElem?_getD])).mono ?_
      rintro e w' ⟨rfl, q, rfl⟩
      rw [List.take_of_length_le (by omega), List.take_of_length_le (by omega)]
      refine ⟨?_, (Bel.refl _).drewN _⟩
      by_cases h : l = k
      · simp [h]
      · rw [decide_eq_false h, beq_eq_false_iff_ne.2 h]
  · refine (Try.slices_Equal_int_lens A B n c m d w hnm).mono ?_
    rintro e w' ⟨rfl, rfl⟩
    exact ⟨by rw [decide_eq_false]; rintro rfl; omega, Bel.refl _⟩

theorem owns_grow {w : World} {base size n : Nat} {e : TypeId} {v : Value} {xs : List Value} (h : w.ownsRow base e size v n xs) (os : Array Obj) : (grow w os).ownsRow base e size v n xs :=
  h.kept (row := none) ⟨rfl, rfl, rfl, by rw [size_grow]; exact Nat.le_add_right _ _, fun k hk _ => heap_grow_old w os hk⟩ (by cases h : v.ownBlock <;> simp)
/-- A row put anew, and more blocks: nothing else has turned. -/
theorem grown_row {w : World} {g q : Nat} (d : Array Int) : w.grownBy (putRow (Value.int .i64) (Sort.ahead w q) g 0 d) (some g) :=
  ⟨rfl, rfl, rfl, by simp, fun k _ hne => by
    have : g ≠ k := fun e => hne (by rw [e])
    simp [putRow, mapBlock, Sort.ahead, Array.getElem?_modify, this]⟩
theorem grown_more {a w : World} {row : Option Nat} (h : a.grownBy w row) (os : Array Obj) : a.grownBy (grow w os) row :=
  ⟨h.os, h.tape, h.output, by rw [size_grow]; exact Nat.le_trans h.size (Nat.le_add_right _ _), fun k hk hne => by rw [heap_grow_old w os (Nat.lt_of_lt_of_le hk h.size)]; exact h.block k hk hne⟩

/-- slices.Sort at []int, of a slice of the call's own. -/
theorem sort_any (A : Option Addr) (n cap base : Nat) (l : List Int) (w : World) (hown : w.ownsRow base 3 1 (.slice A n cap) n (l.map (Value.int .i64))) (hmax : n ≤ 1000000000) :
    Calls Try.prog 83 #[.slice A n cap] w fun e w' => e = .returned (.tuple #[]) ∧ w'.ownsRow base 3 1 (.slice A n cap) n ((l.mergeSort fun x y => decide (x ≤ y)).map (Value.int .i64)) ∧ w.grownBy w' (Value.slice A n cap).ownBlock := by
  have hl : l.length = n := by simpa using hown.1
  rcases Nat.eq_zero_or_pos n with h | h
  · subst h
    obtain rfl : l = [] := List.eq_nil_of_length_eq_zero hl
    refine (Try.slices_Sort_int_none A cap w).mono ?_
    rintro e w' ⟨rfl, rfl⟩
    exact ⟨rfl, by simpa using hown, World.grownBy.refl _ _⟩
  · obtain ⟨g, cap', hv, hbg, hlt, hnc, hcm, _, hH⟩ := Lib.holds_of_ownsRow hown (by intro e; injection e; omega)
    injection hv with h1 _ h2
    subst h1 h2
    have hs := Try.slices_Sort_int g 0 cap l w hH hlt (by omega)
    rw [hl] at hs
    refine hs.mono ?_
    rintro e w' ⟨rfl, q, os, rfl⟩
    refine ⟨rfl, owns_grow ?_ os, grown_more (grown_row _) os⟩
    have := Lib.ownsRow_putRow (q := q) (k := n) (ys := l.mergeSort fun x y => decide (x ≤ y)) hown (by simp [hl]) (Nat.le_refl _)
    rwa [List.take_of_length_le (by simp [hl])] at this

/-- slices.Compact at []int, of a slice of the call's own. -/
theorem compact_any (A : Option Addr) (n cap base : Nat) (l : List Int) (w : World) (hown : w.ownsRow base 3 1 (.slice A n cap) n (l.map (Value.int .i64))) (hmax : n ≤ 1000000000) :
    Calls Try.prog 84 #[.slice A n cap] w fun e w' => e = .returned (.slice A (Lib.compact l).length cap) ∧ w'.ownsRow base 3 1 (.slice A (Lib.compact l).length cap) (Lib.compact l).length ((Lib.compact l).map (Value.int .i64)) ∧ w.grownBy w' (Value.slice A n cap).ownBlock := by
  have hl : l.length = n := by simpa using hown.1
  rcases Nat.eq_zero_or_pos n with h | h
  · subst h
    obtain rfl : l = [] := List.eq_nil_of_length_eq_zero hl
    refine (Try.slices_Compact_int_empty A cap w).mono ?_
    rintro e w' ⟨rfl, rfl⟩
    exact ⟨rfl, hown, World.grownBy.refl _ _⟩
  · obtain ⟨g, cap', hv, hbg, hlt, hnc, hcm, _, hH⟩ := Lib.holds_of_ownsRow hown (by intro e; injection e; omega)
    injection hv with h1 _ h2
    subst h1 h2
    have hs := Try.slices_Compact_int g 0 cap l w hH (by omega) (by omega)
    rw [hl] at hs
    refine hs.mono ?_
    rintro e w' ⟨rfl, q, rfl⟩
    have hle := Lib.compact_length_le l
    refine ⟨rfl, ?_, grown_row _⟩
    have := Lib.ownsRow_putRow (q := q) (k := (Lib.compact l).length) (ys := Lib.compact l ++ List.replicate (n - (Lib.compact l).length) 0) hown (by simp; omega) (by omega)
    rwa [List.take_left' rfl] at this
end Go.Proofs.Ytghoipgldnfjoaa.Mu
