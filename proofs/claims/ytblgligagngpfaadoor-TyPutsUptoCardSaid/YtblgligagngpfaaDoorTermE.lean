/-
  Layer 2's own function At: what a term is under an assignment.
-/
import Derived.Test.YtblgligagngpfaaDoorTermB
namespace Go.Proofs.YtblgligagngpfaaDoor.Mu
open Go.ChangeShapes Go.WideShapes Go.ChangeAt Go.RowKit

/-- Has a variable its place, at which a multiplicity stands? -/
def okV (av : List Int) (v : Int) : Bool := decide (v < av.length) && isMultB (av[v.toNat]?.getD 0)
def atV (c : Int) (l av : List Int) : Int := l.foldl (fun m v => max m (av[v.toNat]?.getD 0)) c
def atE (nv : Bool) (c : Int) (l av : List Int) : Int := if mayB nv c l then (if l.all (okV av) then 0 else 5) else 2
def atR (nv : Bool) (c : Int) (l av : List Int) : Int := if mayB nv c l && l.all (okV av) && !nv then atV c l av else 0
def Tells2 (u x : Int) (w : World) (e : Ending) (w' : World) : Prop := e = .returned (.tuple #[.int .u8 u, .int .i64 x]) ∧ Bel w w'

theorem mayB_vars {nv : Bool} {c : Int} {l : List Int} (h : mayB nv c l = true) : mayVarsB l = true := by
  unfold mayB at h; rw [Bool.and_eq_true] at h; exact h.2
theorem mayB_c {c : Int} {l : List Int} (h : mayB false c l = true) : 1 ≤ c ∧ c ≤ 3 := by
  unfold mayB at h; simp [isMultB] at h; omega
theorem var_bd {l : List Int} (h : mayVarsB l = true) {k : Nat} {v : Int} (hk : l[k]? = some v) : 0 ≤ v ∧ v < 1048576 := by
  have hlt := (List.getElem?_eq_some_iff.1 hk).1
  have h2 := (mayVarsB_iff l).1 h k hlt
  unfold mayAt isVarB at h2
  simp [hk] at h2
  omega
theorem scale_max {m u : Int} (hm : 1 ≤ m) (hm2 : m ≤ 3) (hu : 1 ≤ u) (hu2 : u ≤ 3) : scaleF m u = max u m := by
  have h1 : m = 1 ∨ m = 2 ∨ m = 3 := by omega
  have h2 : u = 1 ∨ u = 2 ∨ u = 3 := by omega
  rcases h1 with rfl | rfl | rfl <;> rcases h2 with rfl | rfl | rfl <;> decide +kernel
theorem atV_snoc (c : Int) (l av : List Int) (v : Int) : atV c (l ++ [v]) av = max (atV c l av) (av[v.toNat]?.getD 0) := by simp [atV]
theorem atV_bd {c : Int} {l av : List Int} (h1 : 1 ≤ c) (h3 : c ≤ 3) (h : l.all (okV av) = true) : 1 ≤ atV c l av ∧ atV c l av ≤ 3 := by
  induction l generalizing c with
  | nil => exact ⟨h1, h3⟩
  | cons v l ih =>
    simp only [List.all_cons, Bool.and_eq_true] at h
    obtain ⟨hv, hl⟩ := h
    unfold okV isMultB at hv
    simp at hv
    exact ih (c := max c (av[v.toNat]?.getD 0)) (by omega) (by omega) hl

theorem okV_parts {av : List Int} {v : Int} (h : okV av v = true) : v < av.length ∧ 1 ≤ av[v.toNat]?.getD 0 ∧ av[v.toNat]?.getD 0 ≤ 3 := by
  unfold okV isMultB at h
  simpa using h
theorem all_take {α : Type} {p : α → Bool} {l : List α} (h : l.all p = true) (k : Nat) : (l.take k).all p = true := by
  rw [List.all_eq_true] at h ⊢
  exact fun x hx => h x (List.mem_of_mem_take hx)

end Go.Proofs.YtblgligagngpfaaDoor.Mu

