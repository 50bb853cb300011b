/-
  A list of numbers, sorted and with each once: what it has, and that nothing else is so. Nothing of the translation is used here.
-/
import Derived.Lib.SlicesCompact
import Derived.Lib.RowBridge
namespace Go.Proofs.YtblgligagngpfaaDoor.Mu
open Go.Lib

/-- Sorted, each once. -/
def srt (l : List Int) : List Int := compact (l.mergeSort fun x y => decide (x ≤ y))

theorem compactUpTo_sorted (d : Array Int) (hs : ∀ i, i + 1 < d.size → d[i]! ≤ d[i + 1]!) (m : Nat) (hm : m ≤ d.size) :
    (compactUpTo d m).Pairwise (· < ·) ∧ (∀ x, x ∈ compactUpTo d m ↔ ∃ j, j < m ∧ d[j]! = x) ∧ (∀ x ∈ compactUpTo d m, x ≤ d[m - 1]!) := by
  induction m with
  | zero => simp [compactUpTo]
  | succ m ih =>
    obtain ⟨h1, h2, h3⟩ := ih (by omega)
    have hle : ∀ x ∈ compactUpTo d m, x ≤ d[m]! := by
      intro x hx
      rcases Nat.eq_zero_or_pos m with h0 | h0
      · subst h0; simp [compactUpTo] at hx
      · have := hs (m - 1) (by omega)
        rw [show m - 1 + 1 = m by omega] at this
        exact Int.le_trans (h3 x hx) this
    rw [compactUpTo_succ]
    by_cases hk : keeps d m = true
    · rw [if_pos hk]
      have hlt : ∀ x ∈ compactUpTo d m, x < d[m]! := by
        intro x hx
        rcases Nat.eq_zero_or_pos m with h0 | h0
        · subst h0; simp [compactUpTo] at hx
        · have a := h3 x hx
          have b := hle x hx
          have c := hs (m - 1) (by omega)
          rw [show m - 1 + 1 = m by omega] at c
          have e : d[m]! ≠ d[m - 1]! := by
            simp only [keeps, decide_eq_true_eq] at hk
            exact hk.resolve_left (by omega)
          omega
      refine ⟨?_, ?_, ?_⟩
      · rw [List.pairwise_append]
        exact ⟨h1, by simp, by simpa using hlt⟩
      · intro x
        rw [List.mem_append, h2]
        constructor
        · rintro (⟨j, hj, e⟩ | h)
          · exact ⟨j, by omega, e⟩
          · simp at h; exact ⟨m, by omega, h.symm⟩
        · rintro ⟨j, hj, e⟩
          by_cases hjm : j < m
          · exact .inl ⟨j, hjm, e⟩
          · obtain rfl : j = m := by omega
            exact .inr (by simp [e])
      · intro x hx
        rw [List.mem_append] at hx
        rcases hx with hx | hx
        · exact hle x hx
        · simp at hx; simp [hx]
    · rw [if_neg hk, List.append_nil]
      have hpos : 0 < m ∧ d[m]! = d[m - 1]! := by
        simp only [keeps, decide_eq_true_eq, not_or, ne_eq, Decidable.not_not] at hk
        exact ⟨by omega, hk.2⟩
      refine ⟨h1, ?_, hle⟩
      intro x
      rw [h2]
      constructor
      · rintro ⟨j, hj, e⟩; exact ⟨j, by omega, e⟩
      · rintro ⟨j, hj, e⟩
        by_cases hjm : j < m
        · exact ⟨j, hjm, e⟩
        · obtain rfl : j = m := by omega
          exact ⟨j - 1, by omega, by rw [← hpos.2, e]⟩

theorem pairwise_get {l : List Int} (h : l.Pairwise (· ≤ ·)) (i : Nat) (hi : i + 1 < l.length) : l[i] ≤ l[i + 1] :=
  List.pairwise_iff_getElem.1 h i (i + 1) (by omega) hi (by omega)

theorem srt_spec (l : List Int) : (srt l).Pairwise (· < ·) ∧ ∀ x, x ∈ srt l ↔ x ∈ l := by
  have hp : (l.mergeSort fun x y => decide (x ≤ y)).Pairwise (· ≤ ·) := by
    have := List.pairwise_mergeSort (le := fun x y : Int => decide (x ≤ y)) (by intro a b c; simp; omega) (by intro a b; simp; omega) l
    exact this.imp (by simp)
  have hm : ∀ x, x ∈ (l.mergeSort fun x y => decide (x ≤ y)) ↔ x ∈ l := fun x => (List.mergeSort_perm l _).mem_iff
  unfold srt compact
  generalize (l.mergeSort fun x y => decide (x ≤ y)) = z at *
  obtain ⟨h1, h2, _⟩ := compactUpTo_sorted z.toArray (by
    intro i hi
    have hi' : i + 1 < z.length := by simpa using hi
    have := pairwise_get hp i hi'
    simpa [getElem!_pos, show i < z.length by omega, hi'] using this) z.length (by simp)
  refine ⟨h1, fun x => ?_⟩
  rw [h2, ← hm x, List.mem_iff_getElem]
  constructor
  · rintro ⟨j, hj, e⟩; exact ⟨j, hj, by simpa [getElem!_pos, hj] using e⟩
  · rintro ⟨j, hj, e⟩; exact ⟨j, hj, by simpa [getElem!_pos, hj] using e⟩

/-- Two lists that rise and have the same are the same. -/
theorem rising_eq : ∀ {a b : List Int}, a.Pairwise (· < ·) → b.Pairwise (· < ·) → (∀ x, x ∈ a ↔ x ∈ b) → a = b
  | [], b, _, _, h => by
    cases b with
    | nil => rfl
    | cons y b => exact absurd ((h y).2 (by simp)) (by simp)
  | x :: a, b, ha, hb, h => by
    cases b with
    | nil => exact absurd ((h x).1 (by simp)) (by simp)
    | cons y b =>
      rw [List.pairwise_cons] at ha hb
      have e : x = y := by
        have h1 := (h x).1 (by simp)
        have h2 := (h y).2 (by simp)
        rw [List.mem_cons] at h1 h2
        rcases h1 with h1 | h1
        · exact h1
        · rcases h2 with h2 | h2
          · exact h2.symm
          · have := ha.1 y h2; have := hb.1 x h1; omega
      subst e
      congr 1
      refine rising_eq ha.2 hb.2 fun z => ?_
      have hz := h z
      rw [List.mem_cons, List.mem_cons] at hz
      constructor
      · intro hza
        rcases hz.1 (.inr hza) with rfl | h'
        · exact absurd (ha.1 _ hza) (by omega)
        · exact h'
      · intro hzb
        rcases hz.2 (.inr hzb) with rfl | h'
        · exact absurd (hb.1 _ hzb) (by omega)
        · exact h'
theorem srt_rising {l : List Int} (h : l.Pairwise (· < ·)) : srt l = l := rising_eq (srt_spec l).1 h (srt_spec l).2
theorem srt_congr {a b : List Int} (h : ∀ x, x ∈ a ↔ x ∈ b) : srt a = srt b :=
  rising_eq (srt_spec a).1 (srt_spec b).1 fun x => by rw [(srt_spec a).2, (srt_spec b).2, h]
theorem srt_length (l : List Int) : (srt l).length ≤ l.length := by
  unfold srt
  exact Nat.le_trans (compact_length_le _) (by simp)
/-- The variables of the greatest one of c and those. -/
def greatL (c : Int) (l : List Int) : List Int := if c = 3 then [] else srt l
theorem greatL_len (c : Int) (l : List Int) : (greatL c l).length ≤ l.length := by
  unfold greatL; split
  · simp
  · exact srt_length l
end Go.Proofs.YtblgligagngpfaaDoor.Mu

