/-
  What two inequalities compare to.
-/
import Derived.Test.YteegoecanbonoaaDoorIneqX
import Derived.Laws.StructEq
namespace Go.Proofs.YteegoecanbonoaaDoor.Mu
open Go.ChangeShapes Go.WideShapes Go.ChangeAt Go.RowKit

theorem fI : ((Tryd.prog.fieldsOf 50).toList.map fun f => (f.name, f.type, f.offset)) = [("L", 32, 0), ("C", 22, 2), ("R", 3, 3)] := by kernel_rfl
theorem fM : ((Tryd.prog.fieldsOf 32).toList.map fun f => (f.name, f.type, f.offset)) = [("V", 3, 0), ("C", 22, 1)] := by kernel_rfl
theorem map2 {α β : Type} {f : α → β} {l : List α} {x y : β} (h : l.map f = [x, y]) : ∃ a b, l = [a, b] ∧ f a = x ∧ f b = y := by
  match l, h with
  | [a, b], h => simp at h; exact ⟨a, b, rfl, h.1, h.2⟩
theorem map3 {α β : Type} {f : α → β} {l : List α} {x y z : β} (h : l.map f = [x, y, z]) : ∃ a b c, l = [a, b, c] ∧ f a = x ∧ f b = y ∧ f c = z := by
  match l, h with
  | [a, b, c], h => simp at h; exact ⟨a, b, c, rfl, h.1, h.2.1, h.2.2⟩
set_option maxRecDepth 100000 in
theorem mu_eql (d : Nat) (v m v' m' : Int) (w : World) : (Op.equalIn (d + 2) 32 (.agg #[.int .i64 v, .int .u8 m]) (.agg #[.int .i64 v', .int .u8 m'])).run Tryd.prog w = .ok (decide (v = v') && decide (m = m')) w := by
  rw [run_equalIn_struct w (d + 1) 32 _ _ (by kernel_rfl) (by kernel_rfl)]
  obtain ⟨a, b, e, ea, eb⟩ := map2 fM
  simp only [Prod.mk.injEq] at ea eb
  obtain ⟨a0, a1, a2⟩ := ea
  obtain ⟨b0, b1, b2⟩ := eb
  rw [e]
  have p0 : ∀ x y : Value, (part 3 #[x, y] 0).run Tryd.prog w = .ok x w := fun x y => by kernel_rfl
  have q0 : ∀ x y : Value, (part 22 #[x, y] 1).run Tryd.prog w = .ok y w := fun x y => by kernel_rfl
  have n0 : ¬ ("V" : String) = "_" := by decide +kernel
  have n1 : ¬ ("C" : String) = "_" := by decide +kernel
  simp only [Op.eqFields, a0, a1, a2, b0, b1, b2, ne_eq, n0, n1, not_false_eq_true, if_true, Sem.run_bind, p0, q0, Result.andThen_ok, run_equalIn_int w d 3 _ _ _ _ Tryd.underlying3, run_equalIn_int w d 22 _ _ _ _ Tryd.underlying22, Sem.run_ite, Sem.run_pure]
  by_cases h1 : v = v' <;> by_cases h2 : m = m' <;> simp [h1, h2]
set_option maxRecDepth 100000 in
theorem ineq_in (x y : Iq) (w : World) : (Op.equalIn 10000 50 (.agg #[.int .i64 x.v, .int .u8 x.m, .int .u8 x.c, .int .i64 x.r]) (.agg #[.int .i64 y.v, .int .u8 y.m, .int .u8 y.c, .int .i64 y.r])).run Tryd.prog w = .ok (decide (x = y)) w := by
  rw [run_equalIn_struct w 9999 50 _ _ (by kernel_rfl) (by kernel_rfl)]
  obtain ⟨a, b, c, e, ea, eb, ec⟩ := map3 fI
  simp only [Prod.mk.injEq] at ea eb ec
  obtain ⟨a0, a1, a2⟩ := ea
  obtain ⟨b0, b1, b2⟩ := eb
  obtain ⟨c0, c1, c2⟩ := ec
  rw [e]
  have p0 : ∀ x y z u : Value, (part 32 #[x, y, z, u] 0).run Tryd.prog w = .ok (.agg #[x, y]) w := fun x y z u => by kernel_rfl
  have q0 : ∀ x y z u : Value, (part 22 #[x, y, z, u] 2).run Tryd.prog w = .ok z w := fun x y z u => by kernel_rfl
  have r0 : ∀ x y z u : Value, (part 3 #[x, y, z, u] 3).run Tryd.prog w = .ok u w := fun x y z u => by kernel_rfl
  have n0 : ¬ ("L" : String) = "_" := by decide +kernel
  have n1 : ¬ ("C" : String) = "_" := by decide +kernel
  have n2 : ¬ ("R" : String) = "_" := by decide +kernel
  have g1 := mu_eql 9997 x.v x.m y.v y.m w
  have g2 := run_equalIn_int (P := Tryd.prog) w 9998 22 .u8 .u8 x.c y.c Tryd.underlying22
  have g3 := run_equalIn_int (P := Tryd.prog) w 9998 3 .i64 .i64 x.r y.r Tryd.underlying3
  simp only [Op.eqFields, a0, a1, a2, b0, b1, b2, c0, c1, c2, ne_eq, n0, n1, n2, not_false_eq_true, if_true, Sem.run_bind, p0, q0, r0, Result.andThen_ok, g1, g2, g3, Sem.run_ite, Sem.run_pure]
  obtain ⟨v, m, c, r⟩ := x
  obtain ⟨v', m', c', r'⟩ := y
  by_cases h1 : v = v' <;> by_cases h2 : m = m' <;> by_cases h3 : c = c' <;> by_cases h4 : r = r' <;> simp [h1, h2, h3, h4]
end Go.Proofs.YteegoecanbonoaaDoor.Mu
