/-
  The plain mathematics of TermApart: terms that may be, and are alike under all ones and under each of their variables alone at Many, are the same.
-/
import Derived.Test.YtghoipgldnfjoaaTermMath
namespace Go.Proofs.Ytghoipgldnfjoaa.Mu

def alikeB (na : Bool) (ca : Int) (la : List Int) (nb : Bool) (cb : Int) (lb av : List Int) : Bool :=
  decide (atE na ca la av = 0) && decide (atE nb cb lb av = 0) && decide (atR na ca la av = atR nb cb lb av)
def onesL (n : Nat) : List Int := List.replicate n 1
def spikeL (n : Nat) (v : Int) : List Int := (onesL n).set v.toNat 3
def maxN (l : List Int) : Int := l.foldl (fun m v => max m (v + 1)) 1
theorem maxN_snoc (l : List Int) (v : Int) : maxN (l ++ [v]) = max (maxN l) (v + 1) := by simp [maxN]
theorem foldMax (l : List Int) : ∀ c, c ≤ l.foldl (fun m v => max m (v + 1)) c ∧ ∀ v ∈ l, v < l.foldl (fun m v => max m (v + 1)) c := by
  induction l with
  | nil => intro c; simp
  | cons x l ih =>
    intro c
    obtain ⟨h1, h2⟩ := ih (max c (x + 1))
    simp only [List.foldl_cons]
    refine ⟨by omega, fun v hv => ?_⟩
    rcases List.mem_cons.1 hv with rfl | hv
    · omega
    · exact h2 v hv
theorem foldMax_le (l : List Int) {B : Int} (h : ∀ v ∈ l, v < B) : ∀ c, c ≤ B → l.foldl (fun m v => max m (v + 1)) c ≤ B := by
  induction l with
  | nil => intro c hc; exact hc
  | cons x l ih =>
    intro c hc
    simp only [List.foldl_cons]
    exact ih (fun v hv => h v (List.mem_cons_of_mem _ hv)) _ (by have := h x List.mem_cons_self; omega)
theorem maxN_bd (l : List Int) (h : ∀ v ∈ l, v < 1048576) : 1 ≤ maxN l ∧ maxN l ≤ 1048576 ∧ ∀ v ∈ l, v < maxN l :=
  ⟨(foldMax l 1).1, foldMax_le l h 1 (by omega), (foldMax l 1).2⟩

theorem ones_get {n : Nat} {k : Nat} (h : k < n) : (onesL n)[k]?.getD 0 = 1 := by simp [onesL, h]
theorem spike_get {n : Nat} {v : Int} {k : Nat} (h : k < n) : (spikeL n v)[k]?.getD 0 = if v.toNat = k then 3 else 1 := by
  unfold spikeL
  rw [List.getElem?_set]
  by_cases e : v.toNat = k
  · subst e
    have : v.toNat < (onesL n).length := by simpa [onesL] using h
    simp [this]
  · simp [e, ones_get h]
theorem ones_len (n : Nat) : (onesL n).length = n := by simp [onesL]
theorem spike_len (n : Nat) (v : Int) : (spikeL n v).length = n := by simp [spikeL, onesL]

theorem atV_of {c : Int} {l av : List Int} {B : Int} (h1 : ∀ x ∈ l, av[x.toNat]?.getD 0 ≤ max c B) (h2 : B ≤ c ∨ ∃ x ∈ l, av[x.toNat]?.getD 0 = B) : atV c l av = max c B :=
  eq_of_le fun D => by
    rw [atV_le]
    refine ⟨fun ⟨a, b⟩ => ?_, fun h => ⟨by omega, fun x hx => Int.le_trans (h1 x hx) h⟩⟩
    rcases h2 with h2 | ⟨x, hx, e⟩
    · omega
    · have := b x hx; omega
section
variable {nv : Bool} {c : Int} {l : List Int} {n : Nat}
theorem ok_ones (h : mayB nv c l = true) (hn : ∀ v ∈ l, v < (n : Int)) : l.all (okV (onesL n)) = true := by
  rw [List.all_eq_true]
  intro v hv
  have hb := ((mayVars_spec l).1 (mayB_vars h)).1 v hv
  unfold isVarB at hb
  simp at hb
  have := hn v hv
  unfold okV isMultB
  rw [ones_len, ones_get (by omega)]
  simp [this]
theorem ok_spike (h : mayB nv c l = true) (hn : ∀ v ∈ l, v < (n : Int)) (u : Int) : l.all (okV (spikeL n u)) = true := by
  rw [List.all_eq_true]
  intro v hv
  have hb := ((mayVars_spec l).1 (mayB_vars h)).1 v hv
  unfold isVarB at hb
  simp at hb
  have := hn v hv
  unfold okV isMultB
  rw [spike_len, spike_get (by omega)]
  split <;> simp [this]
theorem at_ones (h : mayB nv c l = true) (hn : ∀ v ∈ l, v < (n : Int)) : atE nv c l (onesL n) = 0 ∧ atR nv c l (onesL n) = if nv then 0 else c := by
  obtain ⟨a, b⟩ := at_all h (ok_ones h hn)
  refine ⟨a, ?_⟩
  rw [b]
  cases nv
  · have hc := (mayB_false.1 h).1
    have : atV c l (onesL n) = max c 1 := atV_of (fun x hx => by
      have hb := ((mayVars_spec l).1 (mayB_vars h)).1 x hx
      unfold isVarB at hb
      simp at hb
      have := hn x hx
      rw [ones_get (by omega)]; omega) (.inl (by omega))
    simp [this]; omega
  · rfl
theorem at_spike (h : mayB nv c l = true) (hn : ∀ v ∈ l, v < (n : Int)) {u : Int} (hu : 0 ≤ u) (hun : u < (n : Int)) : atE nv c l (spikeL n u) = 0 ∧ atR nv c l (spikeL n u) = if nv then 0 else if u ∈ l then 3 else c := by
  obtain ⟨a, b⟩ := at_all h (ok_spike h hn u)
  refine ⟨a, ?_⟩
  rw [b]
  cases nv
  · have hc := (mayB_false.1 h).1
    have hv : ∀ x ∈ l, 0 ≤ x ∧ x < (n : Int) := fun x hx => by
      have hb := ((mayVars_spec l).1 (mayB_vars h)).1 x hx
      unfold isVarB at hb
      simp at hb
      exact ⟨hb.1, hn x hx⟩
    by_cases hin : u ∈ l
    · have : atV c l (spikeL n u) = max c 3 := atV_of (fun x hx => by
        have := hv x hx
        rw [spike_get (by omega)]; split <;> omega) (.inr ⟨u, hin, by rw [spike_get (by omega)]; simp⟩)
      simp [this, hin]; omega
    · have : atV c l (spikeL n u) = max c 1 := atV_of (fun x hx => by
        have h1 := hv x hx
        have hne : ¬ u.toNat = x.toNat := fun e => hin ((show u = x by omega) ▸ hx)
        rw [spike_get (by omega), if_neg hne]; omega) (.inl (by omega))
      simp [this, hin]; omega
  · rfl
end

theorem apart_iff {na nb : Bool} {ca cb : Int} {la lb : List Int} {n : Nat} (ha : mayB na ca la = true) (hb : mayB nb cb lb = true) (hn : ∀ v ∈ la ++ lb, v < (n : Int)) :
    (alikeB na ca la nb cb lb (onesL n) && (la ++ lb).all fun v => alikeB na ca la nb cb lb (spikeL n v)) = (decide (na = nb) && decide (ca = cb) && decide (la = lb)) := by
  have hna : ∀ v ∈ la, v < (n : Int) := fun v hv => hn v (List.mem_append.2 (.inl hv))
  have hnb : ∀ v ∈ lb, v < (n : Int) := fun v hv => hn v (List.mem_append.2 (.inr hv))
  obtain ⟨e1, r1⟩ := at_ones ha hna
  obtain ⟨e2, r2⟩ := at_ones hb hnb
  have pos : ∀ v ∈ la ++ lb, 0 ≤ v := fun v hv => by
    rcases List.mem_append.1 hv with hv | hv
    · have h := ((mayVars_spec la).1 (mayB_vars ha)).1 v hv
      unfold isVarB at h; simp at h; exact h.1
    · have h := ((mayVars_spec lb).1 (mayB_vars hb)).1 v hv
      unfold isVarB at h; simp at h; exact h.1
  have sp : ∀ v ∈ la ++ lb, alikeB na ca la nb cb lb (spikeL n v) = decide ((if na then 0 else if v ∈ la then 3 else ca) = (if nb then 0 else if v ∈ lb then 3 else cb)) := fun v hv => by
    obtain ⟨x1, x2⟩ := at_spike ha hna (pos v hv) (hn v hv)
    obtain ⟨y1, y2⟩ := at_spike hb hnb (pos v hv) (hn v hv)
    unfold alikeB
    rw [x1, x2, y1, y2]; simp
  have on : alikeB na ca la nb cb lb (onesL n) = decide ((if na then 0 else ca) = (if nb then 0 else cb)) := by
    unfold alikeB
    rw [e1, e2, r1, r2]; simp
  rw [Bool.eq_iff_iff, on]
  simp only [Bool.and_eq_true, decide_eq_true_eq, List.all_eq_true]
  constructor
  · rintro ⟨h0, h1⟩
    have h1' : ∀ v ∈ la ++ lb, (if na then 0 else if v ∈ la then 3 else ca) = (if nb then 0 else if v ∈ lb then 3 else cb) := fun v hv => by
      have := h1 v hv
      rw [sp v hv] at this
      exact of_decide_eq_true this
    cases na <;> cases nb
    · simp only [Bool.false_eq_true, if_false] at h0 h1'
      have A := mayB_false.1 ha
      have B := mayB_false.1 hb
      refine ⟨⟨rfl, h0⟩, rising_eq A.2.2.2 B.2.2.2 fun x => ⟨fun hx => ?_, fun hx => ?_⟩⟩
      · have h := h1' x (List.mem_append.2 (.inl hx))
        rw [if_pos hx] at h
        by_cases hxb : x ∈ lb
        · exact hxb
        · rw [if_neg hxb] at h
          have := A.2.1 (by omega)
          rw [this] at hx; cases hx
      · have h := h1' x (List.mem_append.2 (.inr hx))
        rw [if_pos hx] at h
        by_cases hxa : x ∈ la
        · exact hxa
        · rw [if_neg hxa] at h
          have := B.2.1 (by omega)
          rw [this] at hx; cases hx
    · have A := mayB_false.1 ha
      simp at h0; omega
    · have B := mayB_false.1 hb
      simp at h0; omega
    · have A := mayB_true.1 ha
      have B := mayB_true.1 hb
      exact ⟨⟨rfl, by rw [A.1, B.1]⟩, by rw [A.2, B.2]⟩
  · rintro ⟨⟨rfl, rfl⟩, rfl⟩
    refine ⟨rfl, fun v hv => ?_⟩
    rw [sp v hv]; simp
end Go.Proofs.Ytghoipgldnfjoaa.Mu
