/-
  The plain mathematics of TermLists: what is joined, or summed, one behind the other is what is joined, or summed, all at once.
-/
import Derived.Test.YtghoipgldnfjoaaTermF
import Derived.Test.YtghoipgldnfjoaaRefSum
import Derived.Test.YtghoipgldnfjoaaRefJoin2
import Derived.Test.YtghoipgldnfjoaaTermMath
namespace Go.Proofs.Ytghoipgldnfjoaa.Mu

theorem leftT_snoc (ts : List Tm) (t : Tm) : leftT (ts ++ [t]) = if t.r.nv then leftT ts else leftT ts ++ [t] := by
  unfold leftT
  rw [List.filter_append]
  cases h : t.r.nv <;> simp [h]
theorem leftT_le (ts : List Tm) : (leftT ts).length ≤ ts.length := List.length_filter_le _ _
theorem maxC_max (c d : Int) (ts : List Tm) : maxC (max c d) ts = max c (maxC d ts) := by
  unfold maxC
  induction ts generalizing d with
  | nil => rfl
  | cons t ts ih => simp only [List.foldl_cons]; rw [show max (max c d) t.r.c = max c (max d t.r.c) by omega, ih]
theorem maxC_snoc (c : Int) (ts : List Tm) (t : Tm) : maxC c (ts ++ [t]) = max (maxC c ts) t.r.c := by simp [maxC]
theorem maxC_bd {c : Int} {ts : List Tm} (h1 : 1 ≤ c) (h3 : c ≤ 3) (h : ∀ t ∈ ts, mayT t = true ∧ t.r.nv = false) : 1 ≤ maxC c ts ∧ maxC c ts ≤ 3 := by
  induction ts generalizing c with
  | nil => exact ⟨h1, h3⟩
  | cons t ts ih =>
    obtain ⟨hm, hn⟩ := h t List.mem_cons_self
    unfold mayT at hm
    rw [hn] at hm
    have := (mayB_false.1 hm).1
    exact ih (c := max c t.r.c) (by omega) (by omega) fun x hx => h x (List.mem_cons_of_mem _ hx)
theorem left_may {ts : List Tm} (h : ts.all mayT = true) : ∀ t ∈ leftT ts, mayT t = true ∧ t.r.nv = false := fun t ht => by
  have := List.mem_filter.1 ht
  exact ⟨List.all_eq_true.1 h t this.1, by simpa using this.2⟩
theorem varsT_snoc (ts : List Tm) (t : Tm) : varsT (ts ++ [t]) = varsT ts ++ t.l := by simp [varsT]

/-- What a ref's Join tells of what was joined so far, and one more. -/
theorem join_snoc {ts : List Tm} {t : Tm} (hne : ts ≠ []) (h : ts.all mayT = true) (ht : mayT t = true) :
    decide ((leftT (ts ++ [t])).length = 0) = (decide ((leftT ts).length = 0) && t.r.nv) ∧
    joinC (ts ++ [t]) = rjC (decide ((leftT ts).length = 0)) t.r.nv (joinC ts) t.r.c ∧
    joinL (ts ++ [t]) = rjL (decide ((leftT ts).length = 0)) t.r.nv (joinC ts) t.r.c (joinL ts) t.l := by
  have hlen : 0 < ts.length := List.length_pos_iff.2 hne
  have hle := leftT_le ts
  unfold mayT at ht
  cases hn : t.r.nv
  · rw [hn] at ht
    have b1 := (mayB_false.1 ht).1
    have e : leftT (ts ++ [t]) = leftT ts ++ [t] := by rw [leftT_snoc, hn]; rfl
    by_cases h0 : (leftT ts).length = 0
    · have h0' : leftT ts = [] := List.eq_nil_of_length_eq_zero h0
      have c1 : (leftT (ts ++ [t])).length = 1 := by rw [e, h0']; rfl
      have j0 : joinC (ts ++ [t]) = max 2 t.r.c := by
        unfold joinC; rw [if_neg (by omega), c1, if_pos (by simp; omega), e, h0']; simp [maxC]
      refine ⟨by simp [h0, c1], ?_, ?_⟩
      · rw [j0]; simp [rjC, h0]
      · unfold joinL
        rw [if_neg (by omega), j0, e, h0']
        simp [rjL, varsT]
    · have c1 : (leftT (ts ++ [t])).length = (leftT ts).length + 1 := by rw [e]; simp
      obtain ⟨x0, hx0⟩ : ∃ x0 : Int, x0 = if (leftT ts).length < ts.length then 2 else 1 := ⟨_, rfl⟩
      have hx : 1 ≤ x0 ∧ x0 ≤ 3 := by split at hx0 <;> omega
      have jC : joinC ts = maxC x0 (leftT ts) := by unfold joinC; rw [if_neg h0, ← hx0]
      have j0 : joinC (ts ++ [t]) = max (maxC x0 (leftT ts)) t.r.c := by
        have hcond : ((leftT (ts ++ [t])).length < (ts ++ [t]).length) ↔ ((leftT ts).length < ts.length) := by rw [c1]; simp
        unfold joinC
        simp only [hcond]
        rw [if_neg (by omega), ← hx0, e, maxC_snoc]
      have hb := maxC_bd hx.1 hx.2 (left_may h)
      refine ⟨by simp [h0, c1], ?_, ?_⟩
      · rw [j0, jC]; simp [rjC, h0]
      · have jL : joinL ts = greatL (maxC x0 (leftT ts)) (varsT (leftT ts)) := by unfold joinL; rw [if_neg h0, jC]
        have jL2 : joinL (ts ++ [t]) = greatL (max (maxC x0 (leftT ts)) t.r.c) (varsT (leftT ts) ++ t.l) := by
          unfold joinL; rw [if_neg (by omega), j0, e, varsT_snoc]
        rw [jL2, jL, jC]
        simp only [rjL, h0, decide_false, Bool.false_eq_true, if_false]
        obtain ⟨C, hC⟩ : ∃ C, C = max (maxC x0 (leftT ts)) t.r.c := ⟨_, rfl⟩
        rw [← hC]
        unfold greatL
        by_cases h3 : C = 3
        · simp [h3]
        · rw [if_neg h3, if_neg h3, if_neg (by omega)]
          exact srt_congr fun x => by simp [(srt_spec _).2]
  · rw [hn] at ht
    have b1 := mayB_true.1 ht
    have e : leftT (ts ++ [t]) = leftT ts := by rw [leftT_snoc, hn]; rfl
    by_cases h0 : (leftT ts).length = 0
    · refine ⟨by simp [h0, e], ?_, ?_⟩
      · unfold joinC; rw [e, if_pos h0, if_pos h0]; simp [rjC, h0]
      · unfold joinL joinC; rw [e, if_pos h0, if_pos h0]; simp [rjL, h0]
    · obtain ⟨x0, hx0⟩ : ∃ x0 : Int, x0 = if (leftT ts).length < ts.length then 2 else 1 := ⟨_, rfl⟩
      have hx : x0 = 1 ∨ x0 = 2 := by split at hx0 <;> omega
      have jC : joinC ts = maxC x0 (leftT ts) := by unfold joinC; rw [if_neg h0, ← hx0]
      have j0 : joinC (ts ++ [t]) = max 2 (maxC x0 (leftT ts)) := by
        unfold joinC
        rw [e, if_neg h0, if_pos (by simp; omega), ← maxC_max]
        congr 1; omega
      have hb := maxC_bd (c := x0) (by omega) (by omega) (left_may h)
      refine ⟨by simp [h0, e], ?_, ?_⟩
      · rw [j0, jC]; simp [rjC, h0]
      · have jL : joinL ts = greatL (maxC x0 (leftT ts)) (varsT (leftT ts)) := by unfold joinL; rw [if_neg h0, jC]
        have jL2 : joinL (ts ++ [t]) = greatL (max 2 (maxC x0 (leftT ts))) (varsT (leftT ts)) := by
          unfold joinL; rw [e, if_neg h0, j0]
        rw [jL2, jL, jC]
        simp only [rjL, h0, decide_false, Bool.false_eq_true, if_false, if_true]
        obtain ⟨C, hC⟩ : ∃ C, C = max 2 (maxC x0 (leftT ts)) := ⟨_, rfl⟩
        rw [← hC]
        unfold greatL
        by_cases h3 : C = 3
        · simp [h3]
        · rw [if_neg h3, if_neg h3, if_neg (by omega)]
          exact srt_congr fun x => by simp [(srt_spec _).2]

theorem join_one {t : Tm} (ht : mayT t = true) : decide ((leftT [t]).length = 0) = t.r.nv ∧ joinC [t] = t.r.c ∧ joinL [t] = t.l := by
  unfold mayT at ht
  cases hn : t.r.nv
  · rw [hn] at ht
    have b := mayB_false.1 ht
    have e : leftT [t] = [t] := by simp [leftT, hn]
    have j0 : joinC [t] = t.r.c := by unfold joinC; rw [e]; simp [maxC]; omega
    refine ⟨by rw [e]; simp, j0, ?_⟩
    unfold joinL
    rw [j0, e]
    unfold greatL
    by_cases h3 : t.r.c = 3
    · simp [h3, b.2.1 h3]
    · simp [h3, varsT, srt_rising b.2.2.2]
  · rw [hn] at ht
    have b := mayB_true.1 ht
    have e : leftT [t] = [] := by simp [leftT, hn]
    exact ⟨by rw [e]; simp, by unfold joinC; rw [e]; simp [b.1], by unfold joinL; rw [e]; simp [b.2]⟩

theorem sum_snoc {ts : List Tm} {t : Tm} (ht : mayT t = true) :
    sumC (ts ++ [t]) = rsC (decide ((leftT ts).length = 0)) t.r.nv (sumC ts) t.r.c ∧
    sumL (ts ++ [t]) = rsL (decide ((leftT ts).length = 0)) t.r.nv (sumL ts) t.l := by
  unfold mayT at ht
  have e := leftT_snoc ts t
  unfold sumC sumL
  rw [e]
  rcases hL : leftT ts with _ | ⟨a, _ | ⟨b, us⟩⟩ <;> cases hn : t.r.nv
  all_goals first
    | (rw [hn] at ht; have b := mayB_true.1 ht; simp [rsC, rsL, b.1, b.2]; done)
    | (simp [rsC, rsL]; done)
theorem sum_one {t : Tm} (ht : mayT t = true) : sumC [t] = t.r.c ∧ sumL [t] = t.l := by
  unfold mayT at ht
  unfold sumC sumL
  cases hn : t.r.nv
  · have e : leftT [t] = [t] := by simp [leftT, hn]
    rw [e]; exact ⟨rfl, rfl⟩
  · rw [hn] at ht
    have b := mayB_true.1 ht
    have e : leftT [t] = [] := by simp [leftT, hn]
    rw [e]; exact ⟨b.1.symm, b.2.symm⟩
end Go.Proofs.Ytghoipgldnfjoaa.Mu
