/-
  The document's own answers for layer 1 (package usufructref01), walked: they come to the same plain functions.
-/
import Derived.Test.YtjbnmfgmkcgglaaDoorMultLoop
import Derived.Laws.Rows
namespace Go.Proofs.YtjbnmfgmkcgglaaDoor.Mu
open Go.ChangeShapes Go.WideShapes Go.ChangeAt Go.RowKit

/-- New blocks at most: said in both ways. -/
def Fresh (w w' : World) : Prop := Grown w w' ∧ Below w.heap.size w w'
theorem Fresh.refl (w : World) : Fresh w w := ⟨Grown.refl _, Below.refl _ _⟩
theorem Fresh.on {a b c : World} (h : Fresh a b) (k : Fresh b c) : Fresh a c :=
  ⟨grown_on h.1 k.1, h.2.trans (k.2.mono h.2.size)⟩
theorem Fresh.alloc {a b : World} (h : Fresh a b) (c : Array Value) (t : TypeId) : Fresh a (b.alloc (.cells c t)) :=
  ⟨h.1.alloc c t, h.2.alloc h.2.size _⟩
theorem Fresh.set_ {a b : World} (h : Fresh a b) {p : Addr} (hp : a.heap.size ≤ p.block) (v : Value) : Fresh a (b.setCell p v) :=
  ⟨h.1.setCell hp v, h.2.setCell hp v⟩
theorem Fresh.cells {w w1 : World} (h : Fresh w w1) : (∀ b o, b < w.heap.size → w1.cell? ⟨b, o, none⟩ = w.cell? ⟨b, o, none⟩) ∧ (∀ b o, b < w.heap.size → w1.frozen? ⟨b, o, none⟩ = w.frozen? ⟨b, o, none⟩) :=
  ⟨fun b o hb => h.2.cell (p := ⟨b, o, none⟩) hb, fun b o hb => h.2.frozen (p := ⟨b, o, none⟩) hb⟩

theorem lets_ref (u n : Int) (w : World) : Calls Tryd.prog 23 #[.int .u8 u, .int .i64 n] w fun e w' => e = .returned (.bool (letsF u n)) ∧ w = w' := by
  by_cases c0 : u = 0
  · subst c0
    go_enter Tryd.func23, Tryd.ntmps23
    go_wp2
    go_ret
    exact ⟨rfl, rfl⟩
  by_cases c1 : u = 1
  · subst c1
    go_enter Tryd.func23, Tryd.ntmps23
    go_wp2
    go_ret
    exact ⟨rfl, rfl⟩
  by_cases c2 : u = 2
  · subst c2
    go_enter Tryd.func23, Tryd.ntmps23
    go_wp2
    go_ret
    exact ⟨rfl, rfl⟩
  have e0 : (u == 0) = false := by simpa using c0
  have e1 : (u == 1) = false := by simpa using c1
  have e2 : (u == 2) = false := by simpa using c2
  have e : letsF u n = true := by simp [letsF, c0, c1, c2]
  have E := Lib.hid e
  clear e c0 c1 c2
  go_enter Tryd.func23, Tryd.ntmps23
  go_wp2
  go_ret
  exact ⟨by rw [E.out]; rfl, rfl⟩

def okB (b0 b1 b2 b3 : Bool) (u : Int) : Bool := (((true && (!b0 || letsF u 0)) && (!b1 || letsF u 1)) && (!b2 || letsF u 2)) && (!b3 || letsF u 3)
def leastB (b0 b1 b2 b3 : Bool) : Int := if okB b0 b1 b2 b3 0 then 0 else if okB b0 b1 b2 b3 1 then 1 else if okB b0 b1 b2 b3 2 then 2 else 3

set_option maxHeartbeats 4000000 in
theorem least_ref (b0 b1 b2 b3 : Bool) (w : World) : Calls Tryd.prog 25 #[.agg #[.bool b0, .bool b1, .bool b2, .bool b3]] w fun e w' => e = .returned (.int .u8 (leastB b0 b1 b2 b3)) ∧ Fresh w w' := by
  have c00 : letsF 0 0 = true := rfl
  have c01 : letsF 0 1 = false := rfl
  have c02 : letsF 0 2 = false := rfl
  have c03 : letsF 0 3 = false := rfl
  have c10 : letsF 1 0 = false := rfl
  have c11 : letsF 1 1 = true := rfl
  have c12 : letsF 1 2 = false := rfl
  have c13 : letsF 1 3 = false := rfl
  have c20 : letsF 2 0 = true := rfl
  have c21 : letsF 2 1 = true := rfl
  have c22 : letsF 2 2 = false := rfl
  have c23 : letsF 2 3 = false := rfl
  cases b0 <;> cases b1 <;> cases b2 <;> cases b3
  all_goals
    go_enter Tryd.func25, Tryd.ntmps25
    go_wp2
    refine wp_loop_rounds 5 ?_; rw [rounds_succ]
    go_wp2_with (first | (go_at_call 23; refine (lets_ref _ _ _).mono ?_; rintro e w' ⟨rfl, rfl⟩) | rw [rounds_succ] | refine wp_loop_rounds 6 ?_)
    go_ret
    exact ⟨rfl, (Fresh.refl _).alloc _ _⟩

/-- What each of the four uses lets be of 0 to 3 times. -/
theorem lets_row (u : Int) :
    (cu u = 0 ∧ letsF u 0 = true ∧ letsF u 1 = false ∧ letsF u 2 = false ∧ letsF u 3 = false) ∨
    (cu u = 1 ∧ letsF u 0 = false ∧ letsF u 1 = true ∧ letsF u 2 = false ∧ letsF u 3 = false) ∨
    (cu u = 2 ∧ letsF u 0 = true ∧ letsF u 1 = true ∧ letsF u 2 = false ∧ letsF u 3 = false) ∨
    (cu u = 3 ∧ letsF u 0 = true ∧ letsF u 1 = true ∧ letsF u 2 = true ∧ letsF u 3 = true) := by
  simp only [letsF_cu u]
  rcases cu_cases u with e | e | e | e <;> rw [e] <;> decide
end Go.Proofs.YtjbnmfgmkcgglaaDoor.Mu
