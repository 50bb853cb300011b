/-
  Layer 3's functions: whether a side stands, what it is, Holds.
  Layer 3's function Holds: its closure, and the first one that does not hold.
  Layer 3's function Holds, walked.
-/
import Derived.Test.YtblgligagngpfaaDoorIneqDE
import Derived.Test.YtblgligagngpfaaDoorTermX
import Derived.Deep.QuietTactic
import Derived.BigQuiet
import Derived.Deep.RegionHeld3
import Derived.LoopN
namespace Go.Proofs.YtblgligagngpfaaDoor.Mu
open Go.ChangeShapes Go.WideShapes Go.ChangeAt Go.RowKit

def standsB (h : Bool) (v : Int) (av : List Int) : Bool := !h || okV av v
def atS (c : Int) (h : Bool) (v : Int) (av : List Int) : Int := if h then max c (av[v.toNat]?.getD 0) else c

end Go.Proofs.YtblgligagngpfaaDoor.Mu
namespace Go.Proofs.YtblgligagngpfaaDoor.Mu
open Go.ChangeShapes Go.WideShapes Go.ChangeAt Go.RowKit

def Iq.may (x : Iq) : Bool := mayI x.v x.m x.c x.r
def Iq.stands (av : List Int) (x : Iq) : Bool := standsB (lhB x.m) (lvF x.v x.m) av && standsB (rhB x.r) x.r av
def Iq.bad (av : List Int) (x : Iq) : Bool := decide (atS x.c (rhB x.r) x.r av < atS (lcF x.m) (lhB x.m) (lvF x.v x.m) av)
theorem may_left {x : Iq} (h : x.may = true) : lhB x.m = true → 0 ≤ lvF x.v x.m ∧ lvF x.v x.m < 1048576 := by
  unfold Iq.may mayI at h; simp only [Bool.and_eq_true] at h; exact lh_var h.1.1.1
theorem may_right {x : Iq} (h : x.may = true) : rhB x.r = true → 0 ≤ x.r ∧ x.r < 1048576 := by
  unfold Iq.may mayI at h; simp only [Bool.and_eq_true, decide_eq_true_eq] at h; exact rh_var h.1.2 h.2
theorem stands_lt {h : Bool} {v : Int} {av : List Int} {gn : Nat} (hs : standsB h v av = true) (hl : gn = av.length) (hv : h = true → 0 ≤ v ∧ v < 1048576) : h = true → 0 ≤ v ∧ v < gn := by
  intro hh
  refine ⟨(hv hh).1, ?_⟩
  unfold standsB okV at hs
  rw [hh] at hs
  simp at hs
  rw [hl]; exact hs.1

def idxF (p : Iq → Bool) : List Iq → Int
  | [] => -1
  | x :: xs => if p x then 0 else if idxF p xs = -1 then -1 else idxF p xs + 1
theorem idxF_ge (p : Iq → Bool) (xs : List Iq) : -1 ≤ idxF p xs := by
  induction xs with
  | nil => simp [idxF]
  | cons x xs ih => unfold idxF; split; omega; split <;> omega
theorem idxF_none {p : Iq → Bool} {xs : List Iq} (h : xs.all (fun x => !p x) = true) : idxF p xs = -1 := by
  induction xs with
  | nil => rfl
  | cons x xs ih =>
    simp only [List.all_cons, Bool.and_eq_true] at h
    have hx : p x = false := by simpa using h.1
    unfold idxF; rw [hx, ih h.2]; simp
theorem idxF_at {p : Iq → Bool} {xs : List Iq} {j : Nat} {x : Iq} (hx : xs[j]? = some x) (hp : p x = true) (h : (xs.take j).all (fun x => !p x) = true) : idxF p xs = j := by
  induction xs generalizing j with
  | nil => simp at hx
  | cons y xs ih =>
    match j with
    | 0 => simp at hx; subst hx; unfold idxF; rw [hp]; simp
    | j + 1 =>
      simp only [List.take_succ_cons, List.all_cons, Bool.and_eq_true] at h
      have hy : p y = false := by simpa using h.1
      have := ih (by simpa using hx) h.2
      unfold idxF; rw [hy, this]; simp

end Go.Proofs.YtblgligagngpfaaDoor.Mu
namespace Go.Proofs.YtblgligagngpfaaDoor.Mu
open Go.ChangeShapes Go.WideShapes Go.ChangeAt Go.RowKit

def TellsN (x y : Int) (w : World) (e : Ending) (w' : World) : Prop := e = .returned (.tuple #[.int .i64 x, .int .i64 y]) ∧ Bel w w'
def holdsN (av : List Int) (xs : List Iq) : Int := if xs.all Iq.may then (if xs.all (Iq.stands av) then idxF (Iq.bad av) xs else 0) else 0
def holdsE (av : List Int) (xs : List Iq) : Int := if xs.all Iq.may then (if xs.all (Iq.stands av) then 0 else 5) else 2
theorem all_no {p : Iq → Bool} {xs : List Iq} {k : Nat} {x : Iq} (hx : xs[k]? = some x) (h : p x = false) : xs.all p = false := by
  rw [Bool.eq_false_iff]; intro h'
  have := List.all_eq_true.1 h' x (List.mem_of_getElem? hx)
  rw [h] at this; cases this

theorem cell1 {w : World} {g : Nat} {t : TypeId} {x : Value} (h : w.heap[g]? = some (.cells #[x] t (0, 0))) : w.cell? ⟨g, 0, none⟩ = some x := by simp [World.cell?, h]
end Go.Proofs.YtblgligagngpfaaDoor.Mu

