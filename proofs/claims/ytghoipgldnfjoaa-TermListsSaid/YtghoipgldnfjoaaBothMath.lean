/-
  The plain mathematics of two rising lists gone through side by side (usufructref02.both): what is left behind is the rising list of what stands in either.
-/
import Derived.Test.YtghoipgldnfjoaaSrt
namespace Go.Proofs.Ytghoipgldnfjoaa.Mu

/-- Behind i of a and k of b: 'out' rises, holds what has come, and nothing that comes is below it. -/
def InB (a b out : List Int) (i k : Nat) : Prop :=
  out.Pairwise (· < ·) ∧ (∀ x, x ∈ out ↔ x ∈ a.take i ∨ x ∈ b.take k) ∧ ∀ x ∈ out, (∀ y ∈ a.drop i, x ≤ y) ∧ ∀ y ∈ b.drop k, x ≤ y

theorem InB.start (a b : List Int) : InB a b [] 0 0 := ⟨List.Pairwise.nil, by simp, by simp⟩
theorem InB.swap {a b out : List Int} {i k : Nat} (h : InB a b out i k) : InB b a out k i :=
  ⟨h.1, fun x => (h.2.1 x).trans Or.comm, fun x hx => ⟨(h.2.2 x hx).2, (h.2.2 x hx).1⟩⟩

theorem InB.step {a b out : List Int} {i k : Nat} {v : Int} (h : InB a b out i k) (ha : a.Pairwise (· < ·)) (hv : a[i]? = some v) (hb : ∀ y ∈ b.drop k, v ≤ y) :
    InB a b (if v ∈ out then out else out ++ [v]) (i + 1) k := by
  obtain ⟨h1, h2, h3⟩ := h
  obtain ⟨hi, e⟩ := List.getElem?_eq_some_iff.1 hv
  have hd : a.drop i = v :: a.drop (i + 1) := by rw [List.drop_eq_getElem_cons hi, e]
  have ht : a.take (i + 1) = a.take i ++ [v] := by rw [List.take_add_one, hv]; rfl
  have hlt : ∀ y ∈ a.drop (i + 1), v ≤ y := fun y hy => by
    have := ha.sublist (List.drop_sublist i a)
    rw [hd, List.pairwise_cons] at this
    exact Int.le_of_lt (this.1 y hy)
  have hle : ∀ x ∈ out, x ≤ v := fun x hx => (h3 x hx).1 v (by rw [hd]; exact List.mem_cons_self)
  split
  · rename_i hin
    refine ⟨h1, fun x => ?_, fun x hx => ⟨fun y hy => (h3 x hx).1 y (by rw [hd]; exact List.mem_cons_of_mem _ hy), (h3 x hx).2⟩⟩
    rw [h2, ht, List.mem_append, List.mem_singleton]
    constructor
    · rintro (h | h)
      · exact Or.inl (Or.inl h)
      · exact Or.inr h
    · rintro ((h | rfl) | h)
      · exact Or.inl h
      · exact (h2 _).1 hin
      · exact Or.inr h
  · rename_i hout
    refine ⟨List.pairwise_append.2 ⟨h1, List.pairwise_singleton _ _, fun x hx y hy => ?_⟩, fun x => ?_, fun x hx => ?_⟩
    · rw [List.mem_singleton] at hy
      subst hy
      have := hle x hx
      have hne : x ≠ y := fun e => hout (e ▸ hx)
      omega
    · rw [List.mem_append, h2, ht, List.mem_append, List.mem_singleton]
      constructor
      · rintro ((h | h) | h)
        · exact Or.inl (Or.inl h)
        · exact Or.inr h
        · exact Or.inl (Or.inr h)
      · rintro ((h | h) | h)
        · exact Or.inl (Or.inl h)
        · exact Or.inr h
        · exact Or.inl (Or.inr h)
    · rw [List.mem_append, List.mem_singleton] at hx
      rcases hx with hx | rfl
      · exact ⟨fun y hy => (h3 x hx).1 y (by rw [hd]; exact List.mem_cons_of_mem _ hy), (h3 x hx).2⟩
      · exact ⟨hlt, hb⟩

/-- The least of what is left of a rising list is its next. -/
theorem next_le {b : List Int} {k : Nat} {v u : Int} (hb : b.Pairwise (· < ·)) (hk : b[k]? = some u) (h : v ≤ u) : ∀ y ∈ b.drop k, v ≤ y := fun y hy => by
  obtain ⟨hi, e⟩ := List.getElem?_eq_some_iff.1 hk
  have hd : b.drop k = u :: b.drop (k + 1) := by rw [List.drop_eq_getElem_cons hi, e]
  have := hb.sublist (List.drop_sublist k b)
  rw [hd, List.pairwise_cons] at this
  rw [hd, List.mem_cons] at hy
  rcases hy with rfl | hy
  · exact h
  · exact Int.le_trans h (Int.le_of_lt (this.1 y hy))
theorem none_left {b : List Int} {k : Nat} {v : Int} (h : b.length ≤ k) : ∀ y ∈ b.drop k, v ≤ y := by
  rw [List.drop_eq_nil_of_le h]; simp

theorem InB.done {a b out : List Int} {i k : Nat} (h : InB a b out i k) (hi : a.length ≤ i) (hk : b.length ≤ k) : out = srt (a ++ b) := by
  refine rising_eq h.1 (srt_spec _).1 fun x => ?_
  rw [h.2.1, (srt_spec _).2, List.mem_append, List.take_of_length_le hi, List.take_of_length_le hk]
theorem InB.short {a b out : List Int} {i k : Nat} (h : InB a b out i k) : out.length ≤ i + k := by
  have e : out = srt (a.take i ++ b.take k) := rising_eq h.1 (srt_spec _).1 fun x => by rw [h.2.1, (srt_spec _).2, List.mem_append]
  have := srt_length (a.take i ++ b.take k)
  rw [← e, List.length_append, List.length_take, List.length_take] at this
  omega
end Go.Proofs.Ytghoipgldnfjoaa.Mu
