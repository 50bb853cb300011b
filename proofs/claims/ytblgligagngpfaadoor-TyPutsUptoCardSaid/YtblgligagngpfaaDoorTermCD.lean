/-
  The library's functions that layer 2 calls at the terms (Clone, IndexFunc, DeleteFunc), and what is left of them.
  Layer 2's own functions that make terms: whether all may be, Join, Sum, Scale; and At.
-/
import Derived.Test.YtblgligagngpfaaDoorTermB
import Derived.Test.YtblgligagngpfaaDoorMemBC
import Derived.KernelRfl
import Derived.Test.YtblgligagngpfaaDoorApp
namespace Go.Proofs.YtblgligagngpfaaDoor.Mu
open Go.ChangeShapes Go.WideShapes Go.ChangeAt Go.RowKit

/-- The place of the first one that is Never, or -1. -/
def IsIdx (rs : List Raw) (x : Int) : Prop := (x = -1 ∧ ∀ r ∈ rs, r.nv = false) ∨ ∃ (k : Nat) (r : Raw), x = k ∧ rs[k]? = some r ∧ r.nv = true ∧ ∀ r ∈ rs.take k, r.nv = false

/-- Those that are not Never. -/
def leftR (rs : List Raw) : List Raw := rs.filter fun r => !r.nv
theorem leftR_snoc {rs : List Raw} {k : Nat} {r : Raw} (h : rs[k]? = some r) : leftR (rs.take (k + 1)) = leftR (rs.take k) ++ (if r.nv then [] else [r]) := by
  rw [take_snoc_ h]; unfold leftR; rw [List.filter_append]; cases h : r.nv <;> simp [h]
theorem leftR_all {rs : List Raw} (h : ∀ r ∈ rs, r.nv = false) : leftR rs = rs := by
  unfold leftR; exact List.filter_eq_self.2 (fun r hr => by simp [h r hr])
theorem leftR_len (rs : List Raw) : (leftR rs).length ≤ rs.length := List.length_filter_le _ _
/-- While it goes on: what stands ahead is what is left, what stands behind is as it was. -/
def Doing (rs ys : List Raw) (i j : Nat) : Prop := ys.length = rs.length ∧ i < j ∧ j ≤ rs.length ∧ ys.take i = leftR (rs.take j) ∧ ∀ t, j ≤ t → ys[t]? = rs[t]?

theorem first_never {rs : List Raw} (h : ¬ ∀ r ∈ rs, r.nv = false) : ∃ (k : Nat) (r : Raw), rs[k]? = some r ∧ r.nv = true ∧ ∀ r ∈ rs.take k, r.nv = false := by
  induction rs with
  | nil => exact absurd (by simp) h
  | cons x rs ih =>
    rcases Bool.eq_false_or_eq_true x.nv with hx | hx
    · exact ⟨0, x, rfl, hx, by simp⟩
    · obtain ⟨k, r, h1, h2, h3⟩ := ih (fun h' => h (by simpa [hx] using h'))
      exact ⟨k + 1, r, by simpa using h1, h2, by simpa [hx] using h3⟩
theorem first_same {rs : List Raw} {k m : Nat} {r q : Raw} (hk : rs[k]? = some r) (hr : r.nv = true) (hb : ∀ r ∈ rs.take k, r.nv = false) (hm : rs[m]? = some q) (hq : q.nv = true) (hc : ∀ r ∈ rs.take m, r.nv = false) : k = m := by
  have key : ∀ {a b : Nat} {r : Raw}, rs[a]? = some r → r.nv = true → (∀ r ∈ rs.take b, r.nv = false) → b ≤ a := by
    intro a b r ha hr hb
    rcases Nat.lt_or_ge a b with h | h
    · have := hb r (List.mem_of_getElem? (i := a) (by rw [List.getElem?_take_of_lt h]; exact ha))
      rw [hr] at this; cases this
    · exact h
  have h1 := key hk hr hc
  have h2 := key hm hq hb
  omega
theorem doing_start {rs : List Raw} {k : Nat} {r : Raw} (hk : rs[k]? = some r) (hr : r.nv = true) (hb : ∀ r ∈ rs.take k, r.nv = false) : Doing rs rs k (k + 1) := by
  have hlt := (List.getElem?_eq_some_iff.1 hk).1
  refine ⟨rfl, by omega, by omega, ?_, fun _ _ => rfl⟩
  rw [leftR_snoc hk, leftR_all hb, hr]; simp
theorem doing_skip {rs ys : List Raw} {i j : Nat} {r : Raw} (h : Doing rs ys i j) (hk : rs[j]? = some r) (hr : r.nv = true) : Doing rs ys i (j + 1) := by
  obtain ⟨h1, h2, h3, h4, h5⟩ := h
  have hlt := (List.getElem?_eq_some_iff.1 hk).1
  refine ⟨h1, by omega, by omega, ?_, fun t ht => h5 t (by omega)⟩
  rw [leftR_snoc hk, hr, h4]; simp
theorem doing_keep {rs ys : List Raw} {i j : Nat} {r : Raw} (h : Doing rs ys i j) (hk : rs[j]? = some r) (hr : r.nv = false) : Doing rs (ys.set i r) (i + 1) (j + 1) := by
  obtain ⟨h1, h2, h3, h4, h5⟩ := h
  have hlt := (List.getElem?_eq_some_iff.1 hk).1
  refine ⟨by simpa using h1, by omega, by omega, ?_, fun t ht => ?_⟩
  · rw [leftR_snoc hk, hr, ← h4]
    have hi : i < ys.length := by omega
    rw [List.take_add_one, List.getElem?_set_self hi, List.take_set_of_le (Nat.le_refl _)]
    simp
  · rw [List.getElem?_set_ne (by omega)]; exact h5 t (by omega)

/-- The cells of terms one behind the other. -/
def flat (rs : List Raw) : List Value := rs.flatMap fun r => [.bool r.nv, .int .u8 r.c, .slice r.A r.n r.k]
theorem flat_len (rs : List Raw) : (flat rs).length = rs.length * 3 := by
  induction rs with
  | nil => rfl
  | cons r rs ih => simp only [flat, List.flatMap_cons, List.length_append, List.length_cons, List.length_nil] at *; omega
theorem flat_get : ∀ (rs : List Raw) (k : Nat) (r : Raw), rs[k]? = some r → (flat rs)[k * 3]? = some (.bool r.nv) ∧ (flat rs)[k * 3 + 1]? = some (.int .u8 r.c) ∧ (flat rs)[k * 3 + 2]? = some (.slice r.A r.n r.k)
  | [], k, r, h => by simp at h
  | x :: rs, 0, r, h => by
    simp at h; subst h
    simp [flat]
  | x :: rs, k + 1, r, h => by
    have := flat_get rs k r (by simpa using h)
    have e : flat (x :: rs) = [.bool x.nv, .int .u8 x.c, .slice x.A x.n x.k] ++ flat rs := by simp [flat]
    rw [e, List.getElem?_append_right (by simp; omega), List.getElem?_append_right (by simp; omega), List.getElem?_append_right (by simp; omega)]
    simp only [List.length_cons, List.length_nil]
    rw [show (k + 1) * 3 - 3 = k * 3 by omega, show (k + 1) * 3 + 1 - 3 = k * 3 + 1 by omega, show (k + 1) * 3 + 2 - 3 = k * 3 + 2 by omega]
    exact this
theorem flat_one (rs : List Raw) : ∀ u ∈ flat rs, u.oneCell' = true := by
  intro u hu
  simp only [flat, List.mem_flatMap] at hu
  obtain ⟨r, _, h⟩ := hu
  simp at h
  rcases h with rfl | rfl | rfl <;> rfl
theorem flat_reads {w : World} {b off : Nat} {rs : List Raw} (h : ∀ k r, rs[k]? = some r → w.cell? ⟨b, off + k * 3, none⟩ = some (.bool r.nv) ∧ w.cell? ⟨b, off + k * 3 + 1, none⟩ = some (.int .u8 r.c) ∧ w.cell? ⟨b, off + k * 3 + 2, none⟩ = some (.slice r.A r.n r.k)) :
    ∀ j u, (flat rs)[j]? = some u → w.cell? ⟨b, off + j, none⟩ = some u := by
  intro j u hu
  have hlt : j < (flat rs).length := (List.getElem?_eq_some_iff.1 hu).1
  rw [flat_len] at hlt
  have hk : j / 3 < rs.length := by omega
  obtain ⟨a0, a1, a2⟩ := h (j / 3) rs[j / 3] (List.getElem?_eq_getElem hk)
  obtain ⟨b0, b1, b2⟩ := flat_get rs (j / 3) rs[j / 3] (List.getElem?_eq_getElem hk)
  have h3 : j % 3 = 0 ∨ j % 3 = 1 ∨ j % 3 = 2 := by omega
  rcases h3 with h3 | h3 | h3
  · rw [show j / 3 * 3 = j by omega] at b0
    rw [show off + j / 3 * 3 = off + j by omega] at a0
    rw [hu] at b0; rw [a0, ← b0]
  · rw [show j / 3 * 3 + 1 = j by omega] at b1
    rw [show off + j / 3 * 3 + 1 = off + j by omega] at a1
    rw [hu] at b1; rw [a1, ← b1]
  · rw [show j / 3 * 3 + 2 = j by omega] at b2
    rw [show off + j / 3 * 3 + 2 = off + j by omega] at a2
    rw [hu] at b2; rw [a2, ← b2]
theorem row_of_own {w : World} {base g n cap : Nat} {e : TypeId} {rs : List Raw} (h : w.ownsRow base e 3 (.slice (some ⟨g, 0, none⟩) n cap) n (flat rs)) (hl : n = rs.length) : Row3 w g rs := by
  refine ⟨fun k r hk => ?_, fun o => h.frozenAt o⟩
  have hlt := (List.getElem?_eq_some_iff.1 hk).1
  obtain ⟨b0, b1, b2⟩ := flat_get rs k r hk
  unfold Raw.lies
  rw [h.cellAt _ (by omega), h.cellAt _ (by omega), h.cellAt _ (by omega)]
  exact ⟨b0, b1, b2⟩

end Go.Proofs.YtblgligagngpfaaDoor.Mu
namespace Go.Proofs.YtblgligagngpfaaDoor.Mu
open Go.ChangeShapes Go.WideShapes Go.ChangeAt Go.RowKit

/-- A term as it lies in memory, and the list that its third part reads as. -/
structure Tm where
  r : Raw
  l : List Int
def Lies (w : World) (ts : List Tm) : Prop := ∀ t ∈ ts, RI .i64 w w.heap.size t.r.A t.r.n t.l
theorem Lies.bel {w w' : World} {ts : List Tm} (h : Lies w ts) (hb : Bel w w') : Lies w' ts := fun t ht => (h t ht).bel hb
def raws (ts : List Tm) : List Raw := ts.map (·.r)
def mayT (t : Tm) : Bool := mayB t.r.nv t.r.c t.l
def leftT (ts : List Tm) : List Tm := ts.filter fun t => !t.r.nv
theorem raws_left (ts : List Tm) : leftR (raws ts) = raws (leftT ts) := by
  unfold leftR raws leftT; rw [List.filter_map]; rfl
theorem Lies.left {w : World} {ts : List Tm} (h : Lies w ts) : Lies w (leftT ts) := fun t ht => h t (List.mem_filter.1 ht).1

def maxC (c : Int) (ts : List Tm) : Int := ts.foldl (fun c t => max c t.r.c) c
def varsT (ts : List Tm) : List Int := ts.flatMap (·.l)
def joinC (ts : List Tm) : Int := if (leftT ts).length = 0 then 0 else maxC (if (leftT ts).length < ts.length then 2 else 1) (leftT ts)
def joinL (ts : List Tm) : List Int := if (leftT ts).length = 0 then [] else greatL (joinC ts) (varsT (leftT ts))
/-- It tells a term and an error. -/
def GivesTE (nv : Bool) (c : Int) (l : List Int) (x : Int) (w : World) (e : Ending) (w' : World) : Prop :=
  ∃ A' n' c', e = .returned (.tuple #[.agg #[.bool nv, .int .u8 c, .slice A' n' c'], .int .i64 x]) ∧ RI .i64 w' w'.heap.size A' n' l ∧ Bel w w'

theorem varsT_take {us : List Tm} {k : Nat} {t : Tm} (h : us[k]? = some t) : (varsT (us.take k)).length + t.l.length ≤ (varsT us).length := by
  have e := take_snoc_ h
  have h2 : varsT us = varsT (us.take (k + 1)) ++ varsT (us.drop (k + 1)) := by
    unfold varsT; rw [← List.flatMap_append, List.take_append_drop]
  rw [h2, e]
  simp [varsT]
theorem varsT_left (ts : List Tm) : (varsT (leftT ts)).length ≤ (varsT ts).length := by
  induction ts with
  | nil => simp [leftT, varsT]
  | cons t ts ih =>
    unfold leftT varsT at *
    rw [List.filter_cons]
    split <;> simp <;> simp at ih <;> omega

end Go.Proofs.YtblgligagngpfaaDoor.Mu

