/-
  What the inequalities of a table say: plain mathematics.
-/
import Derived.Test.YtlbachjhhjjmfaaIneqsT
namespace Go.Proofs.Ytlbachjhhjjmfaa.Mu
open Go.ChangeShapes Go.WideShapes Go.ChangeAt Go.RowKit Go.Shelf

theorem mem_inqs {L U : List Int} {rows : List (Option Addr × Nat × Nat × List Int)} {kn : Nat} {x : Iq} : x ∈ inqs L U rows kn kn ↔ ∃ i, i < kn ∧ (x ∈ inqLow i (L[i]?.getD 0) ∨ x ∈ inqUp i (U[i]?.getD 0) ∨ ∃ j, j < kn ∧ x ∈ inqPair i j ((rowL rows i)[j]?.getD 0)) := by
  unfold inqs inqAt inqRow
  simp only [List.mem_flatMap, List.mem_range, List.mem_append, or_assoc]
theorem mem_low {i : Nat} {lo : Int} {x : Iq} : x ∈ inqLow i lo ↔ lo ≠ 1 ∧ x = ⟨0, lo, 1, i⟩ := by unfold inqLow; by_cases h : lo = 1 <;> simp [h]
theorem mem_up {i : Nat} {up : Int} {x : Iq} : x ∈ inqUp i up ↔ up ≠ 3 ∧ x = ⟨i, 0, up, -1⟩ := by unfold inqUp; by_cases h : up = 3 <;> simp [h]
theorem mem_pair {i j : Nat} {p : Int} {x : Iq} : x ∈ inqPair i j p ↔ (j ≠ i ∧ p ≠ 3) ∧ x = ⟨i, 0, p, j⟩ := by unfold inqPair; by_cases h : j = i ∨ p = 3 <;> simp [h] <;> omega
section
variable {n : Nat} {xs : List Iq} {G L U S : List Int} {kp : List Nat} {rows : List (Option Addr × Nat × Nat × List Int)}
theorem atL (h : TabIs xs G kp L U (rows.map fun r => r.2.2.2)) (i v : Nat) (hi : kp[i]? = some v) : L[i]?.getD 0 = G[v]?.getD 0 := by rw [h.low, List.getElem?_map, hi]; rfl
theorem atU (h : TabIs xs G kp L U (rows.map fun r => r.2.2.2)) (i v : Nat) (hi : kp[i]? = some v) : U[i]?.getD 0 = upM xs v := by rw [h.up, List.getElem?_map, hi]; rfl
theorem atP (h : TabIs xs G kp L U (rows.map fun r => r.2.2.2)) (i j v w : Nat) (hi : kp[i]? = some v) (hj : kp[j]? = some w) : (rowL rows i)[j]?.getD 0 = pairM xs G v w := by
  have e : (rows.map fun r => r.2.2.2)[i]? = (kp.map fun v => kp.map fun w => pairM xs G v w)[i]? := by rw [h.pair]
  rw [List.getElem?_map, List.getElem?_map, hi] at e
  unfold rowL
  rw [e]
  simp only [Option.map_some, Option.getD_some]
  rw [List.getElem?_map, hj]
  rfl
theorem up_bd (v : Nat) : 1 ≤ upM xs v ∧ upM xs v ≤ 3 := gr_bd _
theorem pair_bd (v w : Nat) : 1 ≤ pairM xs G v w ∧ pairM xs G v w ≤ 3 := gr_bd _
/-- The solutions of a table's inequalities are what the table lets be. -/
theorem inq_sol (hG : SolQ n xs G) (hk : ∀ v ∈ kp, v < n) (h : TabIs xs G kp L U (rows.map fun r => r.2.2.2)) : SolQ kp.length (inqs L U rows kp.length kp.length) S ↔ LetM xs G kp S := by
  have kat : ∀ i, i < kp.length → ∃ v, kp[i]? = some v ∧ v < n := fun i hi => ⟨kp[i], List.getElem?_eq_getElem hi, hk _ (List.getElem_mem hi)⟩
  constructor
  · intro hs
    refine ⟨hs.len, fun i v hi => ?_, fun i v hi => ?_, fun i j v w hi hj => ?_⟩
    · have hil := (List.getElem?_eq_some_iff.1 hi).1
      have hm := hs.mult i hil
      have hg := (hG.mult v (hk v (List.mem_of_getElem? hi))).1
      by_cases e : G[v]?.getD 0 = 1
      · omega
      · have hx := hs.sat ⟨0, G[v]?.getD 0, 1, i⟩ (mem_inqs.2 ⟨i, hil, .inl (mem_low.2 (by rw [atL h i v hi]; exact ⟨e, rfl⟩))⟩)
        unfold SatQ lft at hx
        simp only at hx
        rw [if_neg (by omega)] at hx
        rcases hx with hx | ⟨_, hx⟩
        · omega
        · simpa using hx
    · have hil := (List.getElem?_eq_some_iff.1 hi).1
      have hm := hs.mult i hil
      by_cases e : upM xs v = 3
      · omega
      · have hx := hs.sat ⟨i, 0, upM xs v, -1⟩ (mem_inqs.2 ⟨i, hil, .inr (.inl (mem_up.2 (by rw [atU h i v hi]; exact ⟨e, rfl⟩)))⟩)
        unfold SatQ lft at hx
        simpa using hx
    · have hil := (List.getElem?_eq_some_iff.1 hi).1
      have hjl := (List.getElem?_eq_some_iff.1 hj).1
      have hm := hs.mult i hil
      by_cases e : j = i ∨ pairM xs G v w = 3
      · rcases e with e | e
        · subst e; omega
        · omega
      · have hx := hs.sat ⟨i, 0, pairM xs G v w, j⟩ (mem_inqs.2 ⟨i, hil, .inr (.inr ⟨j, hjl, mem_pair.2 (by rw [atP h i j v w hi hj]; exact ⟨⟨fun e1 => e (.inl e1), fun e1 => e (.inr e1)⟩, rfl⟩)⟩)⟩)
        unfold SatQ lft at hx
        simp at hx
        omega
  · intro hl
    have hub : ∀ (i v : Nat), kp[i]? = some v → 1 ≤ S[i]?.getD 0 ∧ S[i]?.getD 0 ≤ 3 := fun i v hi => by
      have := hl.low i v hi
      have := (hG.mult v (hk v (List.mem_of_getElem? hi))).1
      have := hl.up i v hi
      have := (up_bd (xs := xs) v).2
      omega
    refine ⟨hl.len, fun i hi => ?_, fun x hx => ?_⟩
    · obtain ⟨v, hv, _⟩ := kat i hi
      exact hub i v hv
    · obtain ⟨i, hi, hx | hx | ⟨j, hj, hx⟩⟩ := mem_inqs.1 hx
      · obtain ⟨v, hv, hvn⟩ := kat i hi
        obtain ⟨e, rfl⟩ := mem_low.1 hx
        rw [atL h i v hv] at e ⊢
        have := hl.low i v hv
        have := (hG.mult v hvn).1
        unfold SatQ lft
        simp only
        rw [if_neg (by omega)]
        right
        simp
        omega
      · obtain ⟨v, hv, hvn⟩ := kat i hi
        obtain ⟨e, rfl⟩ := mem_up.1 hx
        rw [atU h i v hv] at e ⊢
        have := hl.up i v hv
        unfold SatQ lft
        left
        simpa using this
      · obtain ⟨v, hv, hvn⟩ := kat i hi
        obtain ⟨w, hw, _⟩ := kat j hj
        obtain ⟨e, rfl⟩ := mem_pair.1 hx
        rw [atP h i j v w hv hw] at e ⊢
        have := hl.pair i j v w hv hw
        unfold SatQ lft
        simp
        omega
/-- They may be solved. -/
theorem inq_good (hG : SolQ n xs G) (hk : ∀ v ∈ kp, v < n) (h : TabIs xs G kp L U (rows.map fun r => r.2.2.2)) {x : Iq} (hx : x ∈ inqs L U rows kp.length kp.length) : GoodQ kp.length x := by
  have kat : ∀ i, i < kp.length → ∃ v, kp[i]? = some v ∧ v < n := fun i hi => ⟨kp[i], List.getElem?_eq_getElem hi, hk _ (List.getElem_mem hi)⟩
  obtain ⟨i, hi, hx | hx | ⟨j, hj, hx⟩⟩ := mem_inqs.1 hx
  · obtain ⟨v, hv, hvn⟩ := kat i hi
    obtain ⟨e, rfl⟩ := mem_low.1 hx
    rw [atL h i v hv] at e ⊢
    have := hG.mult v hvn
    refine ⟨.inr (by simpa using this), by simp, .inr (by simp; omega)⟩
  · obtain ⟨v, hv, hvn⟩ := kat i hi
    obtain ⟨e, rfl⟩ := mem_up.1 hx
    rw [atU h i v hv] at e ⊢
    refine ⟨.inl ⟨rfl, by simp, by simp; omega⟩, up_bd v, .inl rfl⟩
  · obtain ⟨v, hv, hvn⟩ := kat i hi
    obtain ⟨w, hw, _⟩ := kat j hj
    obtain ⟨e, rfl⟩ := mem_pair.1 hx
    rw [atP h i j v w hv hw] at e ⊢
    exact ⟨.inl ⟨rfl, by simp, by simp; omega⟩, pair_bd v w, .inr ⟨by simp, by simp; omega⟩⟩
/-- The table of a table's inequalities is that table. -/
theorem again_tab (hg : ∀ x ∈ xs, GoodQ n x) (hG : SolQ n xs G) (hGl : ∀ S, SolQ n xs S → ∀ v, v < n → G[v]?.getD 0 ≤ S[v]?.getD 0) (hk : ∀ v ∈ kp, v < n) (h : TabIs xs G kp L U (rows.map fun r => r.2.2.2))
    {G' L' U' : List Int} {rr : List (List Int)} (hG' : SolQ kp.length (inqs L U rows kp.length kp.length) G') (hGl' : ∀ S, SolQ kp.length (inqs L U rows kp.length kp.length) S → ∀ v, v < kp.length → G'[v]?.getD 0 ≤ S[v]?.getD 0)
    (h' : TabIs (inqs L U rows kp.length kp.length) G' (List.range kp.length) L' U' rr) : L' = L ∧ U' = U ∧ rr = rows.map fun r => r.2.2.2 := by
  have hgood : ∀ x ∈ inqs L U rows kp.length kp.length, GoodQ kp.length x := fun x hx => inq_good hG hk h hx
  have toY : ∀ S, SolQ n xs S → SolQ kp.length (inqs L U rows kp.length kp.length) (kp.map fun v => S[v]?.getD 0) := fun S hS => (inq_sol hG hk h).2 (let_sol hGl hS hk)
  have toL : ∀ S, SolQ kp.length (inqs L U rows kp.length kp.length) S → LetM xs G kp S := fun S hS => (inq_sol hG hk h).1 hS
  have at_ : ∀ (S : List Int) (i v : Nat), kp[i]? = some v → (kp.map fun v => S[v]?.getD 0)[i]?.getD 0 = S[v]?.getD 0 := fun S i v hi => by rw [List.getElem?_map, hi]; rfl
  have kk : kp = (List.range kp.length).map fun i => kp[i]?.getD 0 := by
    apply List.ext_getElem?
    intro i
    rw [List.getElem?_map]
    by_cases hi : i < kp.length
    · rw [List.getElem?_range hi]
      simp [hi]
    · rw [List.getElem?_eq_none (by omega), List.getElem?_eq_none (by simp; omega)]; rfl
  have ki : ∀ i, i < kp.length → kp[i]? = some (kp[i]?.getD 0) := fun i hi => by rw [List.getElem?_eq_getElem hi]; rfl
  have kn : ∀ i, i < kp.length → kp[i]?.getD 0 < n := fun i hi => hk _ (List.mem_of_getElem? (ki i hi))
  refine ⟨?_, ?_, ?_⟩
  · rw [h'.low]
    refine Eq.trans ?_ h.low.symm
    conv => rhs; rw [kk, List.map_map]
    apply List.map_congr_left
    intro i hi
    have hi := List.mem_range.1 hi
    have h1 := hGl' _ (toY G hG) i hi
    rw [at_ G i _ (ki i hi)] at h1
    have h2 := (toL G' hG').low i _ (ki i hi)
    simp only [Function.comp]
    omega
  · rw [h'.up]
    refine Eq.trans ?_ h.up.symm
    conv => rhs; rw [kk, List.map_map]
    apply List.map_congr_left
    intro i hi
    have hi := List.mem_range.1 hi
    refine up_eq hgood hG' hi ?_ fun S hS => (toL S hS).up i _ (ki i hi)
    obtain ⟨S, hS, e⟩ := up_met hg hG (kn i hi)
    exact ⟨_, toY S hS, by rw [at_ S i _ (ki i hi)]; exact e⟩
  · rw [h'.pair]
    refine Eq.trans ?_ h.pair.symm
    conv => rhs; rw [kk, List.map_map]
    apply List.map_congr_left
    intro i hi
    have hi := List.mem_range.1 hi
    simp only [Function.comp]
    rw [List.map_map]
    apply List.map_congr_left
    intro j hj
    have hj := List.mem_range.1 hj
    simp only [Function.comp]
    by_cases e : pairM xs G (kp[i]?.getD 0) (kp[j]?.getD 0) = 1
    · rw [e]
      refine pair_one hgood hG' hi hj fun S hS => ?_
      have h1 := (toL S hS).pair i j _ _ (ki i hi) (ki j hj)
      have h2 := (hS.mult j hj).1
      rw [e] at h1
      omega
    · obtain ⟨S, hS, e1, e2, _⟩ := pair_met hg hG (kn i hi) (kn j hj) e
      refine pair_eq hgood hG' hGl' hi hj ⟨_, toY S hS, by rw [at_ S i _ (ki i hi)]; exact e1, by rw [at_ S j _ (ki j hj)]; exact e2⟩ fun S hS hlt => ?_
      have h1 := (toL S hS).pair i j _ _ (ki i hi) (ki j hj)
      omega
/-- Least solutions are one. -/
theorem least_one {G1 G2 : List Int} (h1 : SolQ n xs G1) (h2 : SolQ n xs G2) (l1 : ∀ S, SolQ n xs S → ∀ v, v < n → G1[v]?.getD 0 ≤ S[v]?.getD 0) (l2 : ∀ S, SolQ n xs S → ∀ v, v < n → G2[v]?.getD 0 ≤ S[v]?.getD 0) : G1 = G2 := by
  apply List.ext_getElem?
  intro i
  by_cases hi : i < n
  · have a := l1 G2 h2 i hi
    have b := l2 G1 h1 i hi
    have e1 : G1[i]? = some (G1[i]?.getD 0) := by rw [List.getElem?_eq_getElem (by rw [h1.len]; exact hi)]; rfl
    have e2 : G2[i]? = some (G2[i]?.getD 0) := by rw [List.getElem?_eq_getElem (by rw [h2.len]; exact hi)]; rfl
    rw [e1, e2]
    congr 1
    omega
  · rw [List.getElem?_eq_none (by rw [h1.len]; omega), List.getElem?_eq_none (by rw [h2.len]; omega)]
end
end Go.Proofs.Ytlbachjhhjjmfaa.Mu

