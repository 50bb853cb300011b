/-
  What must hold holds just if the term fits the bound; a greater bound asks no more: plain mathematics. Nothing of the translation's text is walked here.
-/
import Derived.Test.YteegoecanbonoaaDoorIneqW
namespace Go.Proofs.YteegoecanbonoaaDoor.Mu
open Go.RowKit

theorem atS_mono {c d : Int} (h : c ≤ d) (hh : Bool) (v : Int) (av : List Int) : atS c hh v av ≤ atS d hh v av := by
  unfold atS; cases hh <;> simp <;> omega
theorem atS_ge (c : Int) (hh : Bool) (v : Int) (av : List Int) : c ≤ atS c hh v av := by
  unfold atS; cases hh <;> simp <;> omega
theorem always_le {v m b r : Int} {av : List Int} (h : alwaysB v m b r = true) (hb : 1 ≤ b) (hv : lhB m = true → av[(lvF v m).toNat]?.getD 0 ≤ 3) : atS (lcF m) (lhB m) (lvF v m) av ≤ atS b (rhB r) r av := by
  unfold alwaysB at h
  cases hl : lhB m with
  | false =>
    rw [hl] at h
    simp at h
    have h1 : atS (lcF m) false (lvF v m) av = lcF m := rfl
    rw [h1]; exact Int.le_trans h (atS_ge _ _ _ _)
  | true =>
    rw [hl] at h
    simp only [if_true, Bool.or_eq_true, decide_eq_true_eq, Bool.and_eq_true, beq_iff_eq] at h
    have hc : lcF m = 1 := by unfold lhB at hl; simp at hl; unfold lcF; rw [if_pos hl]
    have h1 : atS (lcF m) true (lvF v m) av = max (lcF m) (av[(lvF v m).toNat]?.getD 0) := rfl
    rw [h1, hc]
    have h3 := hv hl
    rcases h with h | ⟨h, e⟩
    · have := atS_ge b (rhB r) r av; omega
    · rw [h, e]
      have h2 : atS b true (lvF v m) av = max b (av[(lvF v m).toNat]?.getD 0) := rfl
      rw [h2]; omega
theorem lay_bad {v m b r : Int} {av : List Int} (hb : 1 ≤ b) (hv : lhB m = true → av[(lvF v m).toNat]?.getD 0 ≤ 3) : (layL v m b r).all (fun x => !x.bad av) = decide (atS (lcF m) (lhB m) (lvF v m) av ≤ atS b (rhB r) r av) := by
  unfold layL
  by_cases h : alwaysB v m b r = true
  · rw [if_pos h, decide_eq_true (always_le h hb hv)]; rfl
  · rw [if_neg h]
    simp only [List.all_cons, List.all_nil, Bool.and_true, Iq.bad]
    by_cases hh : atS (lcF m) (lhB m) (lvF v m) av ≤ atS b (rhB r) r av
    · rw [decide_eq_true hh, decide_eq_false (by omega)]; rfl
    · rw [decide_eq_false hh, decide_eq_true (by omega)]; rfl
theorem idxF_neg {p : Iq → Bool} {xs : List Iq} : idxF p xs < 0 ↔ xs.all (fun x => !p x) = true := by
  refine ⟨fun h => ?_, fun h => by rw [idxF_none h]; omega⟩
  induction xs with
  | nil => rfl
  | cons x xs ih =>
    unfold idxF at h
    cases hp : p x with
    | true => rw [hp] at h; simp at h
    | false =>
      rw [hp] at h
      simp only [Bool.false_eq_true, if_false] at h
      have := idxF_ge p xs
      have : idxF p xs < 0 := by
        split at h <;> omega
      simp [hp, ih this]
theorem lcv (v : Int) : lcF 0 = 1 ∧ lhB 0 = true ∧ lvF v 0 = v := ⟨rfl, rfl, rfl⟩
theorem lcm {c : Int} (h : 1 ≤ c) : lcF c = c ∧ lhB c = false := by
  unfold lcF lhB; exact ⟨if_neg (by omega), decide_eq_false (by omega)⟩
theorem each_bad {c b r : Int} {l av : List Int} (hc : 1 ≤ c) (hb : 1 ≤ b) (hl : l.all (okV av) = true) : (eachL c l b r).all (fun x => !x.bad av) = decide (atV c l av ≤ atS b (rhB r) r av) := by
  unfold eachL
  obtain ⟨a1, a2⟩ := lcm hc
  rw [List.all_append, lay_bad hb (by rw [a2]; intro h; cases h), a1, a2]
  have h0 : atS c false (lvF 0 c) av = c := rfl
  rw [h0]
  have hB := atS_ge b (rhB r) r av
  generalize hBB : atS b (rhB r) r av = B at hB ⊢
  induction l generalizing c with
  | nil => simp only [List.flatMap_nil, List.all_nil, Bool.and_true]; rfl
  | cons v l ih =>
    simp only [List.all_cons, Bool.and_eq_true] at hl
    obtain ⟨_, v1, v3⟩ := okV_parts hl.1
    have hlay := lay_bad (v := v) (m := 0) (r := r) (av := av) hb (fun _ => v3)
    rw [hBB] at hlay
    obtain ⟨q1, q2, q3⟩ := lcv v
    rw [q1, q2, q3] at hlay
    have hat : atS 1 true v av = max 1 (av[v.toNat]?.getD 0) := rfl
    rw [hat] at hlay
    have hstep := ih (c := max c (av[v.toNat]?.getD 0)) (by omega) hl.2 (lcm (by omega)).1 (lcm (by omega)).2 rfl
    rw [List.flatMap_cons, List.all_append, hlay]
    have hatv : atV c (v :: l) av = atV (max c (av[v.toNat]?.getD 0)) l av := rfl
    rw [hatv, ← hstep]
    by_cases h1 : c ≤ B <;> by_cases h2 : max 1 (av[v.toNat]?.getD 0) ≤ B
    · rw [decide_eq_true h1, decide_eq_true h2, decide_eq_true (show max c (av[v.toNat]?.getD 0) ≤ B by omega)]; rfl
    · rw [decide_eq_true h1, decide_eq_false h2, decide_eq_false (show ¬ max c (av[v.toNat]?.getD 0) ≤ B by omega)]; rfl
    · rw [decide_eq_false h1, decide_eq_false (show ¬ max c (av[v.toNat]?.getD 0) ≤ B by omega)]; rfl
    · rw [decide_eq_false h1, decide_eq_false (show ¬ max c (av[v.toNat]?.getD 0) ≤ B by omega)]; rfl
theorem lay_stands {v m b r : Int} {av : List Int} (h1 : standsB (lhB m) (lvF v m) av = true) (h2 : standsB (rhB r) r av = true) : (layL v m b r).all (Iq.stands av) = true := by
  unfold layL; split
  · rfl
  · simp [Iq.stands, h1, h2]
theorem each_stands {c b r : Int} {l av : List Int} (hc : 1 ≤ c) (hl : l.all (okV av) = true) (h2 : standsB (rhB r) r av = true) : (eachL c l b r).all (Iq.stands av) = true := by
  unfold eachL
  obtain ⟨a1, a2⟩ := lcm hc
  rw [List.all_append, lay_stands (by rw [a2]; rfl) h2, Bool.true_and, List.all_eq_true]
  intro x hx
  obtain ⟨v, hv, hx⟩ := List.mem_flatMap.1 hx
  exact List.all_eq_true.1 (lay_stands (by obtain ⟨q1, q2, q3⟩ := lcv v; rw [q2, q3]; unfold standsB; rw [List.all_eq_true.1 hl v hv]; rfl) h2) x hx

/-- The bound as it is there. -/
def boundF (v m : Int) (av : List Int) : Int := if m = 0 ∧ 0 ≤ v ∧ v < av.length then av[v.toNat]?.getD 0 else m
theorem bound_right {g v m : Int} {av : List Int} (hg : isMultB g = true) (hm : isB v m = true) (h1 : 1 ≤ boundF v m av) (h3 : boundF v m av ≤ 3) :
    standsB (rhB (bndF v m)) (bndF v m) av = true ∧ atS (max g m) (rhB (bndF v m)) (bndF v m) av = max g (boundF v m av) := by
  obtain ⟨g1, g3⟩ := isMultB_bd hg
  rcases isB_parts hm with ⟨p, q, s⟩ | ⟨p, q, s⟩
  · subst p
    have e : bndF v 0 = v := rfl
    have hr : rhB v = true := by unfold rhB; simp; omega
    rw [e, hr]
    have hv : v < av.length := by
      by_cases h : v < av.length
      · exact h
      · unfold boundF at h1; rw [if_neg (by omega)] at h1; omega
    have eb : boundF v 0 av = av[v.toNat]?.getD 0 := by unfold boundF; rw [if_pos ⟨rfl, q, hv⟩]
    rw [eb] at h1 h3 ⊢
    refine ⟨?_, ?_⟩
    · unfold standsB okV; rw [decide_eq_true hv, isMultB_mk h1 h3]; rfl
    · have : atS (max g 0) true v av = max (max g 0) (av[v.toNat]?.getD 0) := rfl
      rw [this]; omega
  · have e : bndF v m = -1 := by unfold bndF; rw [if_neg (by omega)]
    have eb : boundF v m av = m := by unfold boundF; rw [if_neg (by omega)]
    have hr : rhB (-1) = false := by decide +kernel
    rw [e, hr, eb]
    exact ⟨rfl, rfl⟩
theorem fits_dec : ∀ u M : Int, 0 ≤ u → u ≤ 3 → 1 ≤ M → M ≤ 3 → fitsF u M = decide ((if u = 0 then 2 else u) ≤ M) := by
  intro u M h0 h1 h2 h3
  have hu : u = 0 ∨ u = 1 ∨ u = 2 ∨ u = 3 := by omega
  have hM : M = 1 ∨ M = 2 ∨ M = 3 := by omega
  rcases hu with rfl | rfl | rfl | rfl <;> rcases hM with rfl | rfl | rfl <;> decide +kernel
theorem means {nv : Bool} {c g v m : Int} {l av : List Int} (ht : mayB nv c l = true) (ha : l.all (okV av) = true) (hg : isMultB g = true) (hm : isB v m = true) (h1 : 1 ≤ boundF v m av) (h3 : boundF v m av ≤ 3) :
    holdsE av (fitsL nv c l g v m) = 0 ∧ decide (holdsN av (fitsL nv c l g v m) < 0) = fitsF (atR nv c l av) (max g (boundF v m av)) := by
  obtain ⟨s1, s2⟩ := bound_right hg hm h1 h3
  obtain ⟨c1, c3⟩ := leastC_bd ht
  obtain ⟨g1, g3⟩ := isMultB_bd hg
  have hl : (leastL nv l).all (okV av) = true := by unfold leastL; cases nv <;> simp_all
  obtain ⟨b1, b3⟩ := isMultB_bd (max_bd hg hm)
  have hst : (fitsL nv c l g v m).all (Iq.stands av) = true := each_stands c1 hl s1
  have hma := fits_may ht hg hm
  have hbad := each_bad (r := bndF v m) c1 b1 hl
  refine ⟨by unfold holdsE; rw [hma, hst]; rfl, ?_⟩
  unfold holdsN
  rw [hma, hst]
  simp only [if_true]
  have key : decide (idxF (Iq.bad av) (fitsL nv c l g v m) < 0) = (fitsL nv c l g v m).all (fun x => !x.bad av) := by
    rw [Bool.eq_iff_iff, decide_eq_true_iff]; exact idxF_neg
  rw [key]
  unfold fitsL
  rw [hbad, s2]
  cases nv with
  | true =>
    have e1 : atR true c l av = 0 := by unfold atR; simp
    have e2 : leastC true c = 2 := rfl
    have e3 : leastL true l = [] := rfl
    rw [e1, e2, e3, fits_dec 0 _ (by omega) (by omega) (by omega) (by omega)]
    rfl
  | false =>
    have e1 : atR false c l av = atV c l av := by unfold atR; rw [ht, ha]; rfl
    have e2 : leastC false c = c := rfl
    have e3 : leastL false l = l := rfl
    obtain ⟨k1, k3⟩ := mayB_c ht
    obtain ⟨a1, a3⟩ := atV_bd k1 k3 ha
    rw [e1, e2, e3, fits_dec _ _ (by omega) (by omega) (by omega) (by omega), if_neg (by omega)]

theorem always_mono {v m b B r : Int} (h : alwaysB v m b r = true) (hb : b ≤ B) (hB : B ≤ 3) : alwaysB v m B r = true := by
  unfold alwaysB at h ⊢
  cases hl : lhB m with
  | true =>
    rw [hl] at h
    simp only [if_true, Bool.or_eq_true, decide_eq_true_eq] at h ⊢
    rcases h with h | h
    · exact .inl (by omega)
    · exact .inr h
  | false =>
    rw [hl] at h
    simp at h ⊢
    omega
/-- What a greater bound asks is asked by the lesser one, too. -/
theorem lay_order {v m b B r : Int} (hb : b ≤ B) (hB : B ≤ 3) : layL v m B r = [] ∨ (layL v m b r = [⟨v, m, b, r⟩] ∧ layL v m B r = [⟨v, m, B, r⟩]) := by
  unfold layL
  by_cases h : alwaysB v m B r = true
  · exact .inl (if_pos h)
  · exact .inr ⟨if_neg (fun h' => h (always_mono h' hb hB)), if_neg h⟩
theorem lay_order_len {v m b B r : Int} (hb : b ≤ B) (hB : B ≤ 3) : (layL v m B r).length ≤ (layL v m b r).length := by
  rcases lay_order (v := v) (m := m) (r := r) hb hB with h | ⟨h1, h2⟩
  · rw [h]; simp
  · rw [h1, h2]; simp
theorem lay_order_all {v m b B r : Int} {p q : Iq → Bool} (hb : b ≤ B) (hB : B ≤ 3) (hpq : p ⟨v, m, b, r⟩ = true → q ⟨v, m, B, r⟩ = true) (h : (layL v m b r).all p = true) : (layL v m B r).all q = true := by
  rcases lay_order (v := v) (m := m) (r := r) hb hB with h0 | ⟨h1, h2⟩
  · rw [h0]; rfl
  · rw [h1] at h; rw [h2]; simp at h ⊢; exact hpq h
theorem each_order_len {c b B r : Int} {l : List Int} (hb : b ≤ B) (hB : B ≤ 3) : (eachL c l B r).length ≤ (eachL c l b r).length := by
  unfold eachL
  have h0 := lay_order_len (v := 0) (m := c) (r := r) hb hB
  have : (l.flatMap fun v => layL v 0 B r).length ≤ (l.flatMap fun v => layL v 0 b r).length := by
    induction l with
    | nil => simp
    | cons v l ih => have := lay_order_len (v := v) (m := 0) (r := r) hb hB; simp only [List.flatMap_cons, List.length_append]; omega
  simp only [List.length_append]; omega
theorem each_order_all {c b B r : Int} {l : List Int} {p q : Iq → Bool} (hb : b ≤ B) (hB : B ≤ 3) (hpq : ∀ v m, p ⟨v, m, b, r⟩ = true → q ⟨v, m, B, r⟩ = true) (h : (eachL c l b r).all p = true) : (eachL c l B r).all q = true := by
  unfold eachL at h ⊢
  rw [List.all_append, Bool.and_eq_true] at h ⊢
  refine ⟨lay_order_all hb hB (hpq _ _) h.1, ?_⟩
  rw [List.all_eq_true]
  intro x hx
  obtain ⟨v, hv, hx⟩ := List.mem_flatMap.1 hx
  have h2 : (layL v 0 b r).all p = true := by
    rw [List.all_eq_true]; intro y hy
    exact List.all_eq_true.1 h.2 y (List.mem_flatMap.2 ⟨v, hv, hy⟩)
  exact List.all_eq_true.1 (lay_order_all hb hB (hpq _ _) h2) x hx
theorem order {nv : Bool} {c g h v m : Int} {l av : List Int} (ht : mayB nv c l = true) (hg : isMultB g = true) (hh : isMultB (max g h) = true) (hm : isB v m = true) (h0 : holdsE av (fitsL nv c l g v m) = 0) :
    holdsE av (fitsL nv c l (max g h) v m) = 0 ∧ (0 ≤ holdsN av (fitsL nv c l g v m) ∨ holdsN av (fitsL nv c l (max g h) v m) < 0) := by
  have m1 := fits_may ht hg hm
  have m2 := fits_may ht hh hm
  have st : (fitsL nv c l g v m).all (Iq.stands av) = true := by
    unfold holdsE at h0; rw [m1] at h0
    cases hs : (fitsL nv c l g v m).all (Iq.stands av) with
    | true => rfl
    | false => rw [hs] at h0; simp at h0
  obtain ⟨_, b3⟩ := isMultB_bd (max_bd hh hm)
  have hb : max g m ≤ max (max g h) m := by omega
  have st2 : (fitsL nv c l (max g h) v m).all (Iq.stands av) = true := each_order_all hb b3 (fun v m hx => hx) st
  refine ⟨by unfold holdsE; rw [m2, st2]; rfl, ?_⟩
  unfold holdsN
  rw [m1, m2, st, st2]
  simp only [if_true]
  by_cases hn : idxF (Iq.bad av) (fitsL nv c l g v m) < 0
  · refine .inr (idxF_neg.2 (each_order_all hb b3 (fun u k hx => ?_) (idxF_neg.1 hn)))
    simp only [Iq.bad, Bool.not_eq_true', decide_eq_false_iff_not] at hx ⊢
    have := atS_mono hb (rhB (bndF v m)) (bndF v m) av
    omega
  · exact .inl (by omega)
theorem order_len {nv : Bool} {c g h v m : Int} {l : List Int} (hh : isMultB (max g h) = true) (hm : isB v m = true) : (fitsL nv c l (max g h) v m).length ≤ (fitsL nv c l g v m).length :=
  each_order_len (by omega) (isMultB_bd (max_bd hh hm)).2
end Go.Proofs.YteegoecanbonoaaDoor.Mu
