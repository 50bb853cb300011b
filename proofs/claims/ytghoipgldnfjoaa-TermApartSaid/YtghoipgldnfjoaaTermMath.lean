/-
  What follows of joined, summed and scaled terms: plain mathematics over the functions that the walks name.
-/
import Derived.Test.YtghoipgldnfjoaaTermW
import Derived.Test.YtghoipgldnfjoaaTermE
namespace Go.Proofs.Ytghoipgldnfjoaa.Mu
open Go.RowKit

theorem mayVars_spec (l : List Int) : mayVarsB l = true ↔ (∀ x ∈ l, isVarB x = true) ∧ l.Pairwise (· < ·) := by
  rw [mayVarsB_iff]
  constructor
  · intro h
    have h1 : ∀ k, k < l.length → isVarB (l[k]?.getD 0) = true ∧ (0 < k → l[k - 1]?.getD 0 < l[k]?.getD 0) := by
      intro k hk
      have := h k hk
      unfold mayAt at this
      simp only [Bool.and_eq_true, Bool.or_eq_true, decide_eq_true_eq] at this
      exact ⟨this.1, fun h0 => this.2.resolve_left (by omega)⟩
    refine ⟨?_, ?_⟩
    · intro x hx
      obtain ⟨k, hk, rfl⟩ := List.mem_iff_getElem.1 hx
      have := (h1 k hk).1
      rwa [List.getElem?_eq_getElem hk] at this
    · have key : ∀ j, ∀ i, i < j → j < l.length → l[i]?.getD 0 < l[j]?.getD 0 := by
        intro j
        induction j with
        | zero => intro i hi; omega
        | succ j ih =>
          intro i hi hj
          have h2 := (h1 (j + 1) hj).2 (by omega)
          simp only [Nat.add_sub_cancel] at h2
          rcases Nat.lt_or_ge i j with hlt | hge
          · exact Int.lt_trans (ih i hlt (by omega)) h2
          · obtain rfl : i = j := by omega
            exact h2
      rw [List.pairwise_iff_getElem]
      intro i j hi hj hij
      have := key j i hij hj
      rwa [List.getElem?_eq_getElem hi, List.getElem?_eq_getElem hj] at this
  · rintro ⟨h1, h2⟩ k hk
    unfold mayAt
    simp only [Bool.and_eq_true, Bool.or_eq_true, decide_eq_true_eq]
    refine ⟨by rw [List.getElem?_eq_getElem hk]; exact h1 _ (List.getElem_mem hk), ?_⟩
    rcases Nat.eq_zero_or_pos k with h0 | h0
    · exact .inl h0
    · refine .inr ?_
      rw [List.getElem?_eq_getElem hk, List.getElem?_eq_getElem (show k - 1 < l.length by omega)]
      exact List.pairwise_iff_getElem.1 h2 (k - 1) k (by omega) hk (by omega)

theorem mayB_false {c : Int} {l : List Int} : mayB false c l = true ↔ (1 ≤ c ∧ c ≤ 3) ∧ (c = 3 → l = []) ∧ (∀ x ∈ l, isVarB x = true) ∧ l.Pairwise (· < ·) := by
  unfold mayB
  rw [Bool.and_eq_true, mayVars_spec]
  simp [isMultB]
  constructor
  · rintro ⟨⟨h1, h2⟩, h3⟩
    exact ⟨h1, fun h => h2.resolve_left (by simp [h]), h3⟩
  · rintro ⟨h1, h2, h3⟩
    refine ⟨⟨h1, ?_⟩, h3⟩
    by_cases h : c = 3
    · exact .inr (h2 h)
    · exact .inl h
theorem mayB_true {c : Int} {l : List Int} : mayB true c l = true ↔ c = 0 ∧ l = [] := by
  unfold mayB
  rw [Bool.and_eq_true, mayVars_spec]
  simp
  intro _ h2
  subst h2
  exact ⟨by simp, by simp⟩

theorem may_great {c : Int} {l : List Int} (h1 : 1 ≤ c) (h3 : c ≤ 3) (h : ∀ x ∈ l, isVarB x = true) : mayB false c (greatL c l) = true := by
  rw [mayB_false]
  unfold greatL
  refine ⟨⟨h1, h3⟩, fun e => by rw [if_pos e], ?_⟩
  split
  · simp
  · exact ⟨fun x hx => h x ((srt_spec l).2 x |>.1 hx), (srt_spec l).1⟩

theorem j2_may {n1 n2 : Bool} {c1 c2 : Int} {l1 l2 : List Int} (h1 : mayB n1 c1 l1 = true) (h2 : mayB n2 c2 l2 = true) : mayB (n1 && n2) (j2C n1 n2 c1 c2) (j2L n1 n2 c1 c2 l1 l2) = true := by
  cases n1 <;> cases n2
  · obtain ⟨a1, _, a3, _⟩ := mayB_false.1 h1
    obtain ⟨b1, _, b3, _⟩ := mayB_false.1 h2
    refine may_great (by simp only [j2C]; simp; omega) (by simp only [j2C]; simp; omega) ?_
    intro x hx
    rw [List.mem_append] at hx
    exact hx.elim (a3 x) (b3 x)
  · obtain ⟨a1, _, a3, _⟩ := mayB_false.1 h1
    exact may_great (by simp only [j2C]; simp; omega) (by simp only [j2C]; simp; omega) a3
  · obtain ⟨b1, _, b3, _⟩ := mayB_false.1 h2
    exact may_great (by simp only [j2C]; simp; omega) (by simp only [j2C]; simp; omega) b3
  · exact mayB_true.2 ⟨rfl, rfl⟩
theorem s2_may {n1 n2 : Bool} {c1 c2 : Int} {l1 l2 : List Int} (h1 : mayB n1 c1 l1 = true) (h2 : mayB n2 c2 l2 = true) : mayB (n1 && n2) (s2C n1 n2 c1 c2) (s2L n1 n2 l1 l2) = true := by
  cases n1 <;> cases n2
  · exact mayB_false.2 ⟨⟨by simp [s2C], by simp [s2C]⟩, fun _ => rfl, by simp [s2L], by simp [s2L]⟩
  · exact h1
  · exact h2
  · exact mayB_true.2 ⟨rfl, rfl⟩
theorem isB_spec {v m : Int} (h : isB v m = true) : (m = 0 ∧ isVarB v = true) ∨ (1 ≤ m ∧ m ≤ 3 ∧ v = 0) := by
  simp [isB, isMultB] at h
  rcases h with h | h
  · exact .inl h
  · exact .inr ⟨h.1.1, h.1.2, h.2⟩
theorem sc_may {nv : Bool} {v m c : Int} {l : List Int} (hi : isB v m = true) (h : mayB nv c l = true) : mayB nv (scC nv m c) (scL nv v m c l) = true := by
  cases nv
  · obtain ⟨a1, _, a3, _⟩ := mayB_false.1 h
    refine may_great (by simp only [scC]; simp; omega) (by rcases isB_spec hi with h | h <;> (simp only [scC]; simp; omega)) ?_
    split
    · rcases isB_spec hi with h | h
      · intro x hx
        rw [List.mem_append] at hx
        rcases hx with hx | hx
        · exact a3 x hx
        · simp at hx; rw [hx]; exact h.2
      · omega
    · exact a3
  · exact mayB_true.2 ⟨rfl, rfl⟩

/-- What a term is, is no more than B just if its number and all its variables are. -/
theorem atV_le (c : Int) (l av : List Int) (B : Int) : atV c l av ≤ B ↔ c ≤ B ∧ ∀ v ∈ l, av[v.toNat]?.getD 0 ≤ B := by
  induction l generalizing c with
  | nil => simp [atV]
  | cons v l ih =>
    have := ih (max c (av[v.toNat]?.getD 0))
    unfold atV at *
    rw [List.foldl_cons, this]
    simp only [List.mem_cons, forall_eq_or_imp]
    constructor
    · rintro ⟨h1, h2⟩; exact ⟨by omega, by omega, h2⟩
    · rintro ⟨h1, h2, h3⟩; exact ⟨by omega, h3⟩
theorem eq_of_le {a b : Int} (h : ∀ B, a ≤ B ↔ b ≤ B) : a = b := Int.le_antisymm ((h b).2 (Int.le_refl _)) ((h a).1 (Int.le_refl _))
theorem ok_great {c : Int} {l av : List Int} (h : l.all (okV av) = true) : (greatL c l).all (okV av) = true := by
  rw [List.all_eq_true] at h ⊢
  unfold greatL
  split
  · simp
  · exact fun x hx => h x ((srt_spec l).2 x |>.1 hx)
theorem at_great {c : Int} {l av : List Int} (h3 : c ≤ 3) (h : l.all (okV av) = true) : atV c (greatL c l) av = atV c l av := by
  rw [List.all_eq_true] at h
  refine eq_of_le fun B => ?_
  rw [atV_le, atV_le]
  unfold greatL
  split
  · rename_i e
    subst e
    constructor
    · rintro ⟨h1, _⟩
      exact ⟨h1, fun v hv => by have := (okV_parts (h v hv)).2.2; omega⟩
    · rintro ⟨h1, _⟩; exact ⟨h1, by simp⟩
  · simp only [(srt_spec l).2]
theorem atV_max (d c : Int) (l av : List Int) : atV (max d c) l av = max d (atV c l av) := by
  refine eq_of_le fun B => ?_
  rw [atV_le, show (max d (atV c l av) ≤ B ↔ d ≤ B ∧ atV c l av ≤ B) by omega, atV_le]
  constructor
  · rintro ⟨h1, h2⟩; exact ⟨by omega, by omega, h2⟩
  · rintro ⟨h1, h2, h3⟩; exact ⟨by omega, h3⟩
theorem atV_app (c d : Int) (l k av : List Int) : atV (max c d) (l ++ k) av = max (atV c l av) (atV d k av) := by
  refine eq_of_le fun B => ?_
  rw [atV_le, show (max (atV c l av) (atV d k av) ≤ B ↔ atV c l av ≤ B ∧ atV d k av ≤ B) by omega, atV_le, atV_le]
  simp only [List.mem_append]
  constructor
  · rintro ⟨h1, h2⟩; exact ⟨⟨by omega, fun v hv => h2 v (.inl hv)⟩, by omega, fun v hv => h2 v (.inr hv)⟩
  · rintro ⟨⟨h1, h2⟩, h3, h4⟩; exact ⟨by omega, fun v hv => hv.elim (h2 v) (h4 v)⟩

theorem join_max {a b : Int} (h1 : 1 ≤ a) (h2 : a ≤ 3) (h3 : 1 ≤ b) (h4 : b ≤ 3) : joinF [a, b] = max a b ∧ joinF [0, b] = max 2 b ∧ joinF [a, 0] = max 2 a ∧ joinF [0, 0] = 0 ∧ sumF [a, b] = 3 ∧ sumF [0, b] = b ∧ sumF [a, 0] = a ∧ sumF [0, 0] = 0 := by
  have e1 : a = 1 ∨ a = 2 ∨ a = 3 := by omega
  have e2 : b = 1 ∨ b = 2 ∨ b = 3 := by omega
  rcases e1 with rfl | rfl | rfl <;> rcases e2 with rfl | rfl | rfl <;> decide +kernel

theorem at_all {nv : Bool} {c : Int} {l av : List Int} (hm : mayB nv c l = true) (h : l.all (okV av) = true) : atE nv c l av = 0 ∧ atR nv c l av = if nv then 0 else atV c l av := by
  unfold atE atR; rw [hm, h]; cases nv <;> simp
theorem at_zero {nv : Bool} {c : Int} {l av : List Int} (h : atE nv c l av = 0) : mayB nv c l = true ∧ l.all (okV av) = true := by
  unfold atE at h
  split at h
  · split at h
    · exact ⟨by assumption, by assumption⟩
    · omega
  · omega

/-- What is told of two terms together is told of each. -/
theorem j2_at {n1 n2 : Bool} {c1 c2 : Int} {l1 l2 av : List Int} (h1 : atE n1 c1 l1 av = 0) (h2 : atE n2 c2 l2 av = 0) :
    atE (n1 && n2) (j2C n1 n2 c1 c2) (j2L n1 n2 c1 c2 l1 l2) av = 0 ∧ atR (n1 && n2) (j2C n1 n2 c1 c2) (j2L n1 n2 c1 c2 l1 l2) av = joinF [atR n1 c1 l1 av, atR n2 c2 l2 av] := by
  obtain ⟨m1, o1⟩ := at_zero h1
  obtain ⟨m2, o2⟩ := at_zero h2
  have hm := j2_may m1 m2
  have ho : (j2L n1 n2 c1 c2 l1 l2).all (okV av) = true := by
    cases n1 <;> cases n2
    · exact ok_great (by rw [List.all_append, o1, o2]; rfl)
    · exact ok_great o1
    · exact ok_great o2
    · rfl
  obtain ⟨e1, e2⟩ := at_all hm ho
  obtain ⟨_, e3⟩ := at_all m1 o1
  obtain ⟨_, e4⟩ := at_all m2 o2
  refine ⟨e1, ?_⟩
  rw [e2, e3, e4]
  cases n1 <;> cases n2
  · obtain ⟨a1, _⟩ := mayB_false.1 m1
    obtain ⟨b1, _⟩ := mayB_false.1 m2
    obtain ⟨p1, p3⟩ := atV_bd a1.1 a1.2 o1
    obtain ⟨q1, q3⟩ := atV_bd b1.1 b1.2 o2
    show atV (max (max 1 c1) c2) (greatL (max (max 1 c1) c2) (l1 ++ l2)) av = joinF [atV c1 l1 av, atV c2 l2 av]
    rw [at_great (by omega) (by rw [List.all_append, o1, o2]; rfl), show max (max 1 c1) c2 = max c1 c2 by omega, atV_app, (join_max p1 p3 q1 q3).1]
  · obtain ⟨a1, _⟩ := mayB_false.1 m1
    obtain ⟨p1, p3⟩ := atV_bd a1.1 a1.2 o1
    show atV (max 2 c1) (greatL (max 2 c1) l1) av = joinF [atV c1 l1 av, 0]
    rw [at_great (by omega) o1, atV_max, (join_max p1 p3 p1 p3).2.2.1]
  · obtain ⟨b1, _⟩ := mayB_false.1 m2
    obtain ⟨q1, q3⟩ := atV_bd b1.1 b1.2 o2
    show atV (max 2 c2) (greatL (max 2 c2) l2) av = joinF [0, atV c2 l2 av]
    rw [at_great (by omega) o2, atV_max, (join_max q1 q3 q1 q3).2.1]
  · exact (join_max (a := 1) (b := 1) (by omega) (by omega) (by omega) (by omega)).2.2.2.1.symm

theorem s2_at {n1 n2 : Bool} {c1 c2 : Int} {l1 l2 av : List Int} (h1 : atE n1 c1 l1 av = 0) (h2 : atE n2 c2 l2 av = 0) :
    atE (n1 && n2) (s2C n1 n2 c1 c2) (s2L n1 n2 l1 l2) av = 0 ∧ atR (n1 && n2) (s2C n1 n2 c1 c2) (s2L n1 n2 l1 l2) av = sumF [atR n1 c1 l1 av, atR n2 c2 l2 av] := by
  obtain ⟨m1, o1⟩ := at_zero h1
  obtain ⟨m2, o2⟩ := at_zero h2
  have hm := s2_may m1 m2
  have ho : (s2L n1 n2 l1 l2).all (okV av) = true := by
    cases n1 <;> cases n2
    · rfl
    · exact o1
    · exact o2
    · rfl
  obtain ⟨e1, e2⟩ := at_all hm ho
  obtain ⟨_, e3⟩ := at_all m1 o1
  obtain ⟨_, e4⟩ := at_all m2 o2
  refine ⟨e1, ?_⟩
  rw [e2, e3, e4]
  cases n1 <;> cases n2
  · obtain ⟨a1, _⟩ := mayB_false.1 m1
    obtain ⟨b1, _⟩ := mayB_false.1 m2
    obtain ⟨p1, p3⟩ := atV_bd a1.1 a1.2 o1
    obtain ⟨q1, q3⟩ := atV_bd b1.1 b1.2 o2
    exact (join_max p1 p3 q1 q3).2.2.2.2.1.symm
  · obtain ⟨a1, _⟩ := mayB_false.1 m1
    obtain ⟨p1, p3⟩ := atV_bd a1.1 a1.2 o1
    exact (join_max p1 p3 p1 p3).2.2.2.2.2.2.1.symm
  · obtain ⟨b1, _⟩ := mayB_false.1 m2
    obtain ⟨q1, q3⟩ := atV_bd b1.1 b1.2 o2
    exact (join_max q1 q3 q1 q3).2.2.2.2.2.1.symm
  · exact (join_max (a := 1) (b := 1) (by omega) (by omega) (by omega) (by omega)).2.2.2.2.2.2.2.symm

/-- The multiplicity that a Mu stands for. -/
def byF (v m : Int) (av : List Int) : Int := if m = 0 then av[v.toNat]?.getD 0 else m
theorem scale_zero (m : Int) (h : 1 ≤ m) (h3 : m ≤ 3) : scaleF m 0 = 0 := by
  have e1 : m = 1 ∨ m = 2 ∨ m = 3 := by omega
  rcases e1 with rfl | rfl | rfl <;> decide +kernel
theorem sc_at {nv : Bool} {v m c : Int} {l av : List Int} (hi : isB v m = true) (hv : m = 0 → okV av v = true) (h : atE nv c l av = 0) :
    atE nv (scC nv m c) (scL nv v m c l) av = 0 ∧ atR nv (scC nv m c) (scL nv v m c l) av = scaleF (byF v m av) (atR nv c l av) := by
  obtain ⟨m1, o1⟩ := at_zero h
  have hm := sc_may hi m1
  have hall : (if m = 0 then l ++ [v] else l).all (okV av) = true := by
    split
    · rename_i e
      rw [List.all_append, o1]; simp [hv e]
    · exact o1
  have ho : (scL nv v m c l).all (okV av) = true := by
    cases nv
    · exact ok_great hall
    · rfl
  have hb : 1 ≤ byF v m av ∧ byF v m av ≤ 3 := by
    unfold byF
    rcases isB_spec hi with h' | h'
    · rw [if_pos h'.1]; exact (okV_parts (hv h'.1)).2
    · rw [if_neg (by omega)]; omega
  obtain ⟨e1, e2⟩ := at_all hm ho
  obtain ⟨_, e3⟩ := at_all m1 o1
  refine ⟨e1, ?_⟩
  rw [e2, e3]
  cases nv
  · obtain ⟨a1, _⟩ := mayB_false.1 m1
    obtain ⟨p1, p3⟩ := atV_bd a1.1 a1.2 o1
    have hm3 : m ≤ 3 ∧ 0 ≤ m := by rcases isB_spec hi with h' | h' <;> omega
    show atV (max m c) (greatL (max m c) (if m = 0 then l ++ [v] else l)) av = scaleF (byF v m av) (atV c l av)
    rw [at_great (by omega) hall, scale_max hb.1 hb.2 p1 p3]
    unfold byF
    split
    · rename_i e
      subst e
      rw [atV_snoc, show max 0 c = c by omega]
    · rw [atV_max]; omega
  · exact (scale_zero _ hb.1 hb.2).symm
end Go.Proofs.Ytghoipgldnfjoaa.Mu
