/-
  Layer 2's own functions that make terms: whether all may be, Join, Sum, Scale; and At.
-/
import Derived.Test.YtjgpkolfcpoinaaTermC
import Derived.Test.YtjgpkolfcpoinaaApp
namespace Go.Proofs.Ytjgpkolfcpoinaa.Mu
open Go.ChangeShapes Go.WideShapes Go.ChangeAt Go.RowKit

/-- A term as it lies in memory, and the list that its third part reads as. -/
structure Tm where
  r : Raw
  l : List Int
def Lies (w : World) (ts : List Tm) : Prop := ∀ t ∈ ts, RI .i64 w w.heap.size t.r.A t.r.n t.l
theorem Lies.bel {w w' : World} {ts : List Tm} (h : Lies w ts) (hb : Bel w w') : Lies w' ts := fun t ht => (h t ht).bel hb
def raws (ts : List Tm) : List Raw := ts.map (·.r)
def mayT (t : Tm) : Bool := mayB t.r.nv t.r.c t.l
def leftT (ts : List Tm) : List Tm := ts.filter fun t => !t.r.nv
theorem raws_left (ts : List Tm) : leftR (raws ts) = raws (leftT ts) := by
  unfold leftR raws leftT; rw [List.filter_map]; rfl
theorem Lies.left {w : World} {ts : List Tm} (h : Lies w ts) : Lies w (leftT ts) := fun t ht => h t (List.mem_filter.1 ht).1

def maxC (c : Int) (ts : List Tm) : Int := ts.foldl (fun c t => max c t.r.c) c
def varsT (ts : List Tm) : List Int := ts.flatMap (·.l)
def joinC (ts : List Tm) : Int := if (leftT ts).length = 0 then 0 else maxC (if (leftT ts).length < ts.length then 2 else 1) (leftT ts)
def joinL (ts : List Tm) : List Int := if (leftT ts).length = 0 then [] else greatL (joinC ts) (varsT (leftT ts))
/-- It tells a term and an error. -/
def GivesTE (nv : Bool) (c : Int) (l : List Int) (x : Int) (w : World) (e : Ending) (w' : World) : Prop :=
  ∃ A' n' c', e = .returned (.tuple #[.agg #[.bool nv, .int .u8 c, .slice A' n' c'], .int .i64 x]) ∧ RI .i64 w' w'.heap.size A' n' l ∧ Bel w w'

theorem varsT_take {us : List Tm} {k : Nat} {t : Tm} (h : us[k]? = some t) : (varsT (us.take k)).length + t.l.length ≤ (varsT us).length := by
  have e := take_snoc_ h
  have h2 : varsT us = varsT (us.take (k + 1)) ++ varsT (us.drop (k + 1)) := by
    unfold varsT; rw [← List.flatMap_append, List.take_append_drop]
  rw [h2, e]
  simp [varsT]
theorem varsT_left (ts : List Tm) : (varsT (leftT ts)).length ≤ (varsT ts).length := by
  induction ts with
  | nil => simp [leftT, varsT]
  | cons t ts ih =>
    unfold leftT varsT at *
    rw [List.filter_cons]
    split <;> simp <;> simp at ih <;> omega

end Go.Proofs.Ytjgpkolfcpoinaa.Mu

