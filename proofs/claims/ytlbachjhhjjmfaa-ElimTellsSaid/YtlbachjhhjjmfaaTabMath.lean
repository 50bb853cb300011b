/-
  What a table says: plain mathematics. Arrows hand a multiplicity on; what is handed on to the wall can't be.
-/
import Derived.Test.YtlbachjhhjjmfaaDfs
import Derived.Test.YtlbachjhhjjmfaaSolveA
namespace Go.Proofs.Ytlbachjhhjjmfaa.Mu
open Go

/-- Where a variable hands a multiplicity on to. -/
def arrM (xs : List Iq) (m : Int) (v : Nat) : List Nat := (xs.filter fun x => decide (x.m = 0 ∧ x.c < m ∧ x.r ≠ -1 ∧ x.v = (v : Int))).map fun x => x.r.toNat
theorem mem_arrM {xs : List Iq} {m : Int} {v w : Nat} : w ∈ arrM xs m v ↔ ∃ x ∈ xs, (x.m = 0 ∧ x.c < m ∧ x.r ≠ -1 ∧ x.v = (v : Int)) ∧ x.r.toNat = w := by
  simp only [arrM, List.mem_map, List.mem_filter, decide_eq_true_eq]
  constructor
  · rintro ⟨x, ⟨h1, h2⟩, h3⟩; exact ⟨x, h1, h2, h3⟩
  · rintro ⟨x, h1, h2, h3⟩; exact ⟨x, ⟨h1, h2⟩, h3⟩
def wallM (xs : List Iq) (m : Int) (v : Nat) : Prop := ∃ x ∈ xs, x.m = 0 ∧ x.c < m ∧ x.r = -1 ∧ x.v = (v : Int)
/-- It is handed on to the wall. -/
def Hits (xs : List Iq) (m : Int) (v : Nat) : Prop := ∃ u, Rch (arrM xs m) v u ∧ wallM xs m u
theorem rch_more {adj adj' : Nat → List Nat} (h : ∀ v w, w ∈ adj v → w ∈ adj' v) {a b : Nat} (hr : Rch adj a b) : Rch adj' a b := by
  induction hr with
  | refl => exact .refl _
  | step h1 _ ih => exact .step (h _ _ h1) ih
theorem rch_up {xs : List Iq} {m m' : Int} (hm : m ≤ m') {a b : Nat} (hr : Rch (arrM xs m) a b) : Rch (arrM xs m') a b :=
  rch_more (fun v w hw => by
    obtain ⟨x, h1, ⟨h2, h3, h4, h5⟩, h6⟩ := mem_arrM.1 hw
    exact mem_arrM.2 ⟨x, h1, ⟨h2, by omega, h4, h5⟩, h6⟩) hr
theorem hits_up {xs : List Iq} {m m' : Int} (hm : m ≤ m') {a : Nat} (h : Hits xs m a) : Hits xs m' a := by
  obtain ⟨u, h1, x, h2, h3, h4, h5, h6⟩ := h
  exact ⟨u, rch_up hm h1, x, h2, h3, by omega, h5, h6⟩

/-- A solution. -/
structure SolQ (n : Nat) (xs : List Iq) (S : List Int) : Prop where
  len : S.length = n
  mult : ∀ v, v < n → 1 ≤ S[v]?.getD 0 ∧ S[v]?.getD 0 ≤ 3
  sat : ∀ x ∈ xs, SatQ S x
section
variable {n : Nat} {xs : List Iq} {S : List Int} {m : Int}
theorem sol_arrow (h : SolQ n xs S) {v w : Nat} (hw : w ∈ arrM xs m v) (hv : m ≤ S[v]?.getD 0) : m ≤ S[w]?.getD 0 := by
  obtain ⟨x, h1, ⟨h2, h3, h4, h5⟩, h6⟩ := mem_arrM.1 hw
  have hl : lft S x = S[v]?.getD 0 := by unfold lft; rw [if_pos h2, h5]; simp
  rcases h.sat x h1 with h7 | ⟨_, h7⟩
  · rw [hl] at h7; omega
  · rw [hl, h6] at h7; omega
theorem sol_rch (h : SolQ n xs S) {v w : Nat} (hr : Rch (arrM xs m) v w) (hv : m ≤ S[v]?.getD 0) : m ≤ S[w]?.getD 0 := by
  induction hr with
  | refl => exact hv
  | step h1 _ ih => exact ih (sol_arrow h h1 hv)
theorem sol_wall (h : SolQ n xs S) {v : Nat} (hr : Hits xs m v) (hv : m ≤ S[v]?.getD 0) : False := by
  obtain ⟨u, h1, x, h2, h3, h4, h5, h6⟩ := hr
  have hu := sol_rch h h1 hv
  have hl : lft S x = S[u]?.getD 0 := by unfold lft; rw [if_pos h3, h6]; simp
  rcases h.sat x h2 with h7 | ⟨h7, _⟩
  · rw [hl] at h7; omega
  · omega
/-- Raised by levels that are closed under what is handed on. -/
theorem sol_raise (hg : ∀ x ∈ xs, GoodQ n x) (h : SolQ n xs S) (lev : Nat → Int) (h1 : ∀ v, v < n → lev v ≤ 3) (hcl : ∀ m, 1 < m → m ≤ 3 → ∀ v w, v < n → m ≤ lev v → w ∈ arrM xs m v → m ≤ lev w) (hw : ∀ m, 1 < m → m ≤ 3 → ∀ v, v < n → m ≤ lev v → ¬ wallM xs m v) :
    SolQ n xs ((List.range n).map fun v => max (S[v]?.getD 0) (lev v)) := by
  have at_ : ∀ v, v < n → ((List.range n).map fun v => max (S[v]?.getD 0) (lev v))[v]?.getD 0 = max (S[v]?.getD 0) (lev v) := fun v hv => by simp [hv]
  refine ⟨by simp, fun v hv => ?_, fun x hx => ?_⟩
  · rw [at_ v hv]
    have := h.mult v hv
    have := h1 v hv
    omega
  · obtain ⟨g1, g2, g3⟩ := hg x hx
    have hs := h.sat x hx
    rcases g1 with ⟨a1, a2, a3⟩ | ⟨a1, a2⟩
    · have hvn : x.v.toNat < n := by omega
      have e : lft ((List.range n).map fun v => max (S[v]?.getD 0) (lev v)) x = max (S[x.v.toNat]?.getD 0) (lev x.v.toNat) := by unfold lft; rw [if_pos a1, at_ _ hvn]
      have e0 : lft S x = S[x.v.toNat]?.getD 0 := by unfold lft; rw [if_pos a1]
      unfold SatQ
      rw [e]
      rw [SatQ, e0] at hs
      by_cases hc : max (S[x.v.toNat]?.getD 0) (lev x.v.toNat) ≤ x.c
      · exact .inl hc
      · right
        have hm := h.mult _ hvn
        have hl := h1 _ hvn
        rcases g3 with g3 | ⟨g3, g4⟩
        · exfalso
          rcases hs with hs | ⟨hs, _⟩
          · exact hw (lev x.v.toNat) (by omega) hl x.v.toNat hvn (Int.le_refl _) ⟨x, hx, a1, by omega, g3, by omega⟩
          · omega
        · have hrn : x.r.toNat < n := by omega
          refine ⟨g3, ?_⟩
          rw [at_ _ hrn]
          rcases Int.le_total (S[x.v.toNat]?.getD 0) (lev x.v.toNat) with h5 | h5
          · have h6 := hcl (lev x.v.toNat) (by omega) hl x.v.toNat x.r.toNat hvn (Int.le_refl _) (mem_arrM.2 ⟨x, hx, ⟨a1, by omega, by omega, by omega⟩, rfl⟩)
            omega
          · rcases hs with hs | ⟨_, hs⟩
            · omega
            · omega
    · have e : ∀ T : List Int, lft T x = x.m := fun T => by unfold lft; rw [if_neg (by omega)]
      unfold SatQ
      rw [e]
      rw [SatQ, e] at hs
      rcases hs with hs | ⟨hs, hs'⟩
      · exact .inl hs
      · right
        rcases g3 with g3 | ⟨g3, g4⟩
        · omega
        · exact ⟨hs, by rw [at_ _ (by omega)]; omega⟩
theorem arr_lt (hg : ∀ x ∈ xs, GoodQ n x) {v w : Nat} (hw : w ∈ arrM xs m v) : v < n ∧ w < n := by
  obtain ⟨x, h1, ⟨h2, h3, h4, h5⟩, h6⟩ := mem_arrM.1 hw
  obtain ⟨g1, g2, g3⟩ := hg x h1
  constructor
  · omega
  · omega
theorem rch_lt (hg : ∀ x ∈ xs, GoodQ n x) {v w : Nat} (h : Rch (arrM xs m) v w) (hv : v < n) : w < n := by
  induction h with
  | refl => exact hv
  | step h1 _ ih => exact ih (arr_lt hg h1).2
end

/-! ### The table -/
open Classical in
/-- The greatest one of 3 and 2 of which it is so; else 1. -/
noncomputable def gr (p : Int → Prop) : Int := if p 3 then 3 else if p 2 then 2 else 1
theorem gr_cases (p : Int → Prop) : (gr p = 3 ∧ p 3) ∨ (gr p = 2 ∧ p 2 ∧ ¬ p 3) ∨ (gr p = 1 ∧ ¬ p 2 ∧ ¬ p 3) := by
  unfold gr
  by_cases h3 : p 3
  · left; rw [if_pos h3]; exact ⟨rfl, h3⟩
  · right; rw [if_neg h3]
    by_cases h2 : p 2
    · left; rw [if_pos h2]; exact ⟨rfl, h2, h3⟩
    · right; rw [if_neg h2]; exact ⟨rfl, h2, h3⟩
theorem gr_ge {p : Int → Prop} {m : Int} (h1 : 1 ≤ m) (h3 : m ≤ 3) (h : m ≠ 1 → p m) : m ≤ gr p := by
  rcases gr_cases p with ⟨e, _⟩ | ⟨e, _, hn⟩ | ⟨e, hn, hn'⟩
  · omega
  · by_cases e3 : m = 3
    · subst e3; exact absurd (h (by omega)) hn
    · omega
  · by_cases e3 : m = 3
    · subst e3; exact absurd (h (by omega)) hn'
    · by_cases e2 : m = 2
      · subst e2; exact absurd (h (by omega)) hn
      · omega
theorem gr_is {p : Int → Prop} (h : gr p ≠ 1) : p (gr p) := by
  rcases gr_cases p with ⟨e, h3⟩ | ⟨e, h2, _⟩ | ⟨e, _⟩
  · rw [e]; exact h3
  · rw [e]; exact h2
  · exact absurd e h
theorem gr_bd (p : Int → Prop) : 1 ≤ gr p ∧ gr p ≤ 3 := by rcases gr_cases p with ⟨e, _⟩ | ⟨e, _⟩ | ⟨e, _⟩ <;> omega
theorem gr_congr {p q : Int → Prop} (h2 : p 2 ↔ q 2) (h3 : p 3 ↔ q 3) : gr p = gr q := by
  unfold gr
  by_cases a : p 3
  · rw [if_pos a, if_pos (h3.1 a)]
  · rw [if_neg a, if_neg (fun h => a (h3.2 h))]
    by_cases b : p 2
    · rw [if_pos b, if_pos (h2.1 b)]
    · rw [if_neg b, if_neg (fun h => b (h2.2 h))]

/-- The greatest one that a variable may be. -/
noncomputable def upM (xs : List Iq) (v : Nat) : Int := gr fun m => ¬ Hits xs m v
/-- The least one so that the one variable is never above the greater one of it and the other. -/
noncomputable def pairM (xs : List Iq) (G : List Int) (v w : Nat) : Int := gr fun m => m ≤ upM xs v ∧ G[w]?.getD 0 < m ∧ ¬ Rch (arrM xs m) v w

section
variable {n : Nat} {xs : List Iq} {G : List Int}
theorem up_above {S : List Int} (hS : SolQ n xs S) {v : Nat} (hv : v < n) : S[v]?.getD 0 ≤ upM xs v :=
  gr_ge (hS.mult v hv).1 (hS.mult v hv).2 fun _ h => sol_wall hS h (Int.le_refl _)
theorem pair_above {S : List Int} (hS : SolQ n xs S) (hl : ∀ v, v < n → G[v]?.getD 0 ≤ S[v]?.getD 0) {v w : Nat} (hv : v < n) (hw : w < n) (hlt : S[w]?.getD 0 < S[v]?.getD 0) : S[v]?.getD 0 ≤ pairM xs G v w :=
  gr_ge (hS.mult v hv).1 (hS.mult v hv).2 fun _ => ⟨up_above hS hv, by have := hl w hw; omega, fun h => by have := sol_rch hS h (Int.le_refl _); omega⟩
theorem up_no {v : Nat} {m : Int} (hm : m ≤ upM xs v) (h1 : 1 < m) : ¬ Hits xs m v := fun h => by
  have h2 : upM xs v ≠ 1 := by omega
  exact gr_is (p := fun m => ¬ Hits xs m v) h2 (hits_up hm h)
/-- What the table lets be. -/
structure LetM (xs : List Iq) (G : List Int) (keep : List Nat) (a : List Int) : Prop where
  len : a.length = keep.length
  low : ∀ (i v : Nat), keep[i]? = some v → G[v]?.getD 0 ≤ a[i]?.getD 0
  up : ∀ (i v : Nat), keep[i]? = some v → a[i]?.getD 0 ≤ upM xs v
  pair : ∀ (i j v w : Nat), keep[i]? = some v → keep[j]? = some w → a[i]?.getD 0 ≤ max (pairM xs G v w) (a[j]?.getD 0)
theorem let_sol (hG : ∀ S, SolQ n xs S → ∀ v, v < n → G[v]?.getD 0 ≤ S[v]?.getD 0) {S : List Int} (hS : SolQ n xs S) {keep : List Nat} (hk : ∀ v ∈ keep, v < n) : LetM xs G keep (keep.map fun v => S[v]?.getD 0) := by
  refine ⟨by simp, fun i v hi => ?_, fun i v hi => ?_, fun i j v w hi hj => ?_⟩
  · simp only [List.getElem?_map, hi, Option.map_some, Option.getD_some]
    exact hG S hS v (hk v (List.mem_of_getElem? hi))
  · simp only [List.getElem?_map, hi, Option.map_some, Option.getD_some]
    exact up_above hS (hk v (List.mem_of_getElem? hi))
  · simp only [List.getElem?_map, hi, hj, Option.map_some, Option.getD_some]
    have h1 := hk v (List.mem_of_getElem? hi)
    have h2 := hk w (List.mem_of_getElem? hj)
    by_cases hlt : S[w]?.getD 0 < S[v]?.getD 0
    · have := pair_above hS (hG S hS) h1 h2 hlt; omega
    · omega
open Classical in
/-- The level to which a variable is raised. -/
noncomputable def levM (xs : List Iq) (keep : List Nat) (a : List Int) (x : Nat) : Int := gr fun m => ∃ (i v : Nat), keep[i]? = some v ∧ m ≤ a[i]?.getD 0 ∧ Rch (arrM xs m) v x
theorem lev_up {keep : List Nat} {a : List Int} {x : Nat} {m : Int} (h : m ≤ levM xs keep a x) (h1 : 1 < m) : ∃ (i v : Nat), keep[i]? = some v ∧ m ≤ a[i]?.getD 0 ∧ levM xs keep a x ≤ a[i]?.getD 0 ∧ Rch (arrM xs (levM xs keep a x)) v x := by
  have h2 : levM xs keep a x ≠ 1 := by omega
  obtain ⟨i, v, h3, h4, h5⟩ := gr_is (p := fun m => ∃ (i v : Nat), keep[i]? = some v ∧ m ≤ a[i]?.getD 0 ∧ Rch (arrM xs m) v x) h2
  have e : (gr fun m => ∃ (i v : Nat), keep[i]? = some v ∧ m ≤ a[i]?.getD 0 ∧ Rch (arrM xs m) v x) = levM xs keep a x := rfl
  rw [e] at h4 h5
  exact ⟨i, v, h3, by omega, h4, h5⟩
/-- What the table lets be can be gone on to a solution. -/
theorem let_exact (hg : ∀ x ∈ xs, GoodQ n x) (hS : SolQ n xs G) {keep : List Nat} (hk : ∀ v ∈ keep, v < n) {a : List Int} (ha : LetM xs G keep a) :
    ∃ S, SolQ n xs S ∧ ∀ (i v : Nat), keep[i]? = some v → S[v]?.getD 0 = a[i]?.getD 0 := by
  have hup3 : ∀ (i v : Nat), keep[i]? = some v → a[i]?.getD 0 ≤ 3 := fun i v hi => by have := ha.up i v hi; have := (gr_bd fun m => ¬ Hits xs m v).2; unfold upM at *; omega
  refine ⟨_, sol_raise hg hS (levM xs keep a) (fun v _ => (gr_bd _).2) (fun m h1 h3 v w hv hl hw => ?_) (fun m h1 h3 v hv hl hwall => ?_), fun i v hi => ?_⟩
  · obtain ⟨i, u, e1, e2, e3, e4⟩ := lev_up hl h1
    refine Int.le_trans hl (gr_ge (by omega) (gr_bd _).2 fun _ => ⟨i, u, e1, e3, e4.snoc ?_⟩)
    obtain ⟨x, q1, ⟨q2, q3, q4, q5⟩, q6⟩ := mem_arrM.1 hw
    exact mem_arrM.2 ⟨x, q1, ⟨q2, by omega, q4, q5⟩, q6⟩
  · obtain ⟨i, u, e1, e2, e3, e4⟩ := lev_up hl h1
    obtain ⟨x, q1, q2, q3, q4, q5⟩ := hwall
    exact up_no (v := u) (m := levM xs keep a v) (by have := ha.up i u e1; omega) (by omega) ⟨v, e4, x, q1, q2, by omega, q4, q5⟩
  · have hvn := hk v (List.mem_of_getElem? hi)
    simp only [List.getElem?_map, List.getElem?_range hvn, Option.map_some, Option.getD_some]
    have h1 := ha.low i v hi
    have h0 := (hS.mult v hvn).1
    have h2 : a[i]?.getD 0 ≤ levM xs keep a v ∨ a[i]?.getD 0 = 1 := by
      by_cases e : a[i]?.getD 0 = 1
      · exact .inr e
      · exact .inl (gr_ge (by omega) (hup3 i v hi) fun _ => ⟨i, v, hi, Int.le_refl _, .refl v⟩)
    have h3 : levM xs keep a v ≤ a[i]?.getD 0 := by
      rcases Int.lt_or_le (a[i]?.getD 0) (levM xs keep a v) with hlt | hle
      · exfalso
        obtain ⟨j, u, e1, e2, e3, e4⟩ := lev_up (xs := xs) (keep := keep) (a := a) (x := v) (Int.le_refl _) (by omega)
        have hp := ha.pair j i u v e1 hi
        have hpm : levM xs keep a v ≤ pairM xs G u v := by omega
        have hne : pairM xs G u v ≠ 1 := by omega
        have := gr_is (p := fun m => m ≤ upM xs u ∧ G[v]?.getD 0 < m ∧ ¬ Rch (arrM xs m) u v) hne
        exact this.2.2 (rch_up hpm e4)
      · exact hle
    omega
/-- One variable raised alone. -/
theorem raise_one (hg : ∀ x ∈ xs, GoodQ n x) (hS : SolQ n xs G) {v : Nat} {m : Int} (h1 : 1 < m) (h3 : m ≤ 3) (hm : m ≤ upM xs v) : ∃ S, SolQ n xs S ∧ (∀ u, u < n → Rch (arrM xs m) v u → S[u]?.getD 0 = max (G[u]?.getD 0) m) ∧ ∀ u, u < n → ¬ Rch (arrM xs m) v u → S[u]?.getD 0 = G[u]?.getD 0 := by
  classical
  refine ⟨_, sol_raise hg hS (fun u => if Rch (arrM xs m) v u then m else 1) (fun u _ => by split <;> omega) (fun k k1 k3 u w hu hl hw => ?_) (fun k k1 k3 u hu hl hwall => ?_), fun u hu hr => ?_, fun u hu hr => ?_⟩
  · split at hl
    · rename_i hr
      rw [if_pos (hr.snoc ?_)]
      · exact hl
      · obtain ⟨x, q1, ⟨q2, q3, q4, q5⟩, q6⟩ := mem_arrM.1 hw
        exact mem_arrM.2 ⟨x, q1, ⟨q2, by omega, q4, q5⟩, q6⟩
    · omega
  · split at hl
    · rename_i hr
      obtain ⟨x, q1, q2, q3, q4, q5⟩ := hwall
      exact up_no hm h1 ⟨u, hr, x, q1, q2, by omega, q4, q5⟩
    · omega
  · simp only [List.getElem?_map, List.getElem?_range hu, Option.map_some, Option.getD_some, if_pos hr]
  · simp only [List.getElem?_map, List.getElem?_range hu, Option.map_some, Option.getD_some, if_neg hr]
    have := (hS.mult u hu).1; omega
theorem low_up (hS : SolQ n xs G) {v : Nat} (hv : v < n) : G[v]?.getD 0 ≤ upM xs v := up_above hS hv
/-- The greatest one is come to. -/
theorem up_met (hg : ∀ x ∈ xs, GoodQ n x) (hS : SolQ n xs G) {v : Nat} (hv : v < n) : ∃ S, SolQ n xs S ∧ S[v]?.getD 0 = upM xs v := by
  have hb := gr_bd fun m => ¬ Hits xs m v
  have hl := low_up hS hv
  by_cases h1 : upM xs v = 1
  · exact ⟨G, hS, by have := (hS.mult v hv).1; omega⟩
  · obtain ⟨S, h2, h3, _⟩ := raise_one hg hS (v := v) (m := upM xs v) (by unfold upM at *; omega) hb.2 (Int.le_refl _)
    exact ⟨S, h2, by rw [h3 v hv (.refl v)]; omega⟩
/-- The pair's is come to, with the other one below. -/
theorem pair_met (hg : ∀ x ∈ xs, GoodQ n x) (hS : SolQ n xs G) {v w : Nat} (hv : v < n) (hw : w < n) (h1 : pairM xs G v w ≠ 1) : ∃ S, SolQ n xs S ∧ S[v]?.getD 0 = pairM xs G v w ∧ S[w]?.getD 0 < pairM xs G v w ∧ S[w]?.getD 0 = G[w]?.getD 0 := by
  have hb := gr_bd fun m => m ≤ upM xs v ∧ G[w]?.getD 0 < m ∧ ¬ Rch (arrM xs m) v w
  obtain ⟨a1, a2, a3⟩ := gr_is (p := fun m => m ≤ upM xs v ∧ G[w]?.getD 0 < m ∧ ¬ Rch (arrM xs m) v w) h1
  have e : (gr fun m => m ≤ upM xs v ∧ G[w]?.getD 0 < m ∧ ¬ Rch (arrM xs m) v w) = pairM xs G v w := rfl
  rw [e] at a1 a2 a3 hb
  obtain ⟨S, h2, h3, h4⟩ := raise_one hg hS (v := v) (m := pairM xs G v w) (by omega) hb.2 a1
  have hle : G[v]?.getD 0 ≤ pairM xs G v w := by
    by_cases hlt : G[w]?.getD 0 < G[v]?.getD 0
    · exact pair_above hS (fun _ _ => Int.le_refl _) hv hw hlt
    · omega
  have q1 := h3 v hv (.refl v)
  have q2 := h4 w hw a3
  exact ⟨S, h2, by omega, by omega, q2⟩
theorem pair_self {v : Nat} : pairM xs G v v = 1 := by
  rcases gr_cases fun m => m ≤ upM xs v ∧ G[v]?.getD 0 < m ∧ ¬ Rch (arrM xs m) v v with ⟨_, h⟩ | ⟨_, h, _⟩ | ⟨e, _⟩
  · exact absurd (.refl v) h.2.2
  · exact absurd (.refl v) h.2.2
  · exact e
end
end Go.Proofs.Ytlbachjhhjjmfaa.Mu

