/-
  What two places, two errors with places, two points compare to.
-/
import Derived.Test.YtaiogbokmglofaaUtfP
import Derived.Laws.StructEq
namespace Go.Proofs.Ytaiogbokmglofaa.Mu
open Go.RowKit

theorem fPos : ((Try.prog.fieldsOf 26).toList.map fun f => (f.name, f.type, f.offset)) = [("At", 3, 0), ("Line", 3, 1), ("Col", 3, 2)] := by kernel_rfl
theorem fDiag : ((Try.prog.fieldsOf 28).toList.map fun f => (f.name, f.type, f.offset)) = [("E", 24, 0), ("At", 26, 1)] := by kernel_rfl
theorem fPoint : ((Try.prog.fieldsOf 42).toList.map fun f => (f.name, f.type, f.offset)) = [("R", 21, 0), ("At", 26, 1)] := by kernel_rfl
theorem map2 {α β : Type} {f : α → β} {l : List α} {x y : β} (h : l.map f = [x, y]) : ∃ a b, l = [a, b] ∧ f a = x ∧ f b = y := by
  match l, h with
  | [a, b], h => simp at h; exact ⟨a, b, rfl, h.1, h.2⟩
theorem map3 {α β : Type} {f : α → β} {l : List α} {x y z : β} (h : l.map f = [x, y, z]) : ∃ a b c, l = [a, b, c] ∧ f a = x ∧ f b = y ∧ f c = z := by
  match l, h with
  | [a, b, c], h => simp at h; exact ⟨a, b, c, rfl, h.1, h.2.1, h.2.2⟩
set_option maxRecDepth 100000 in
theorem pos_eql (d : Nat) (x y : Pl) (w : World) : (Op.equalIn (d + 2) 26 (.agg #[.int .i64 x.a, .int .i64 x.l, .int .i64 x.c]) (.agg #[.int .i64 y.a, .int .i64 y.l, .int .i64 y.c])).run Try.prog w = .ok (decide (x = y)) w := by
  rw [run_equalIn_struct w (d + 1) 26 _ _ (by kernel_rfl) (by kernel_rfl)]
  obtain ⟨a, b, c, e, ea, eb, ec⟩ := map3 fPos
  simp only [Prod.mk.injEq] at ea eb ec
  obtain ⟨a0, a1, a2⟩ := ea
  obtain ⟨b0, b1, b2⟩ := eb
  obtain ⟨c0, c1, c2⟩ := ec
  rw [e]
  have p0 : ∀ x y z : Value, (part 3 #[x, y, z] 0).run Try.prog w = .ok x w := fun x y z => by kernel_rfl
  have q0 : ∀ x y z : Value, (part 3 #[x, y, z] 1).run Try.prog w = .ok y w := fun x y z => by kernel_rfl
  have r0 : ∀ x y z : Value, (part 3 #[x, y, z] 2).run Try.prog w = .ok z w := fun x y z => by kernel_rfl
  have n0 : ¬ ("At" : String) = "_" := by decide +kernel
  have n1 : ¬ ("Line" : String) = "_" := by decide +kernel
  have n2 : ¬ ("Col" : String) = "_" := by decide +kernel
  simp only [Op.eqFields, a0, a1, a2, b0, b1, b2, c0, c1, c2, ne_eq, n0, n1, n2, not_false_eq_true, if_true, Sem.run_bind, p0, q0, r0, Result.andThen_ok, run_equalIn_int w d 3 _ _ _ _ Try.underlying3, Sem.run_ite, Sem.run_pure]
  obtain ⟨v, m, c⟩ := x
  obtain ⟨v', m', c'⟩ := y
  by_cases h1 : v = v' <;> by_cases h2 : m = m' <;> by_cases h3 : c = c' <;> simp [h1, h2, h3]
theorem pos_in (x y : Pl) (w : World) : (Op.equalIn 10000 26 (.agg #[.int .i64 x.a, .int .i64 x.l, .int .i64 x.c]) (.agg #[.int .i64 y.a, .int .i64 y.l, .int .i64 y.c])).run Try.prog w = .ok (decide (x = y)) w := pos_eql 9998 x y w
set_option maxRecDepth 100000 in
theorem diag_in (i j : Int) (x y : Pl) (w : World) : (Op.equalIn 10000 28 (.agg #[.int .i64 i, .int .i64 x.a, .int .i64 x.l, .int .i64 x.c]) (.agg #[.int .i64 j, .int .i64 y.a, .int .i64 y.l, .int .i64 y.c])).run Try.prog w = .ok (decide (i = j) && decide (x = y)) w := by
  rw [run_equalIn_struct w 9999 28 _ _ (by kernel_rfl) (by kernel_rfl)]
  obtain ⟨a, b, e, ea, eb⟩ := map2 fDiag
  simp only [Prod.mk.injEq] at ea eb
  obtain ⟨a0, a1, a2⟩ := ea
  obtain ⟨b0, b1, b2⟩ := eb
  rw [e]
  have p0 : ∀ x y z u : Value, (part 24 #[x, y, z, u] 0).run Try.prog w = .ok x w := fun x y z u => by kernel_rfl
  have q0 : ∀ x y z u : Value, (part 26 #[x, y, z, u] 1).run Try.prog w = .ok (.agg #[y, z, u]) w := fun x y z u => by kernel_rfl
  have n0 : ¬ ("E" : String) = "_" := by decide +kernel
  have n1 : ¬ ("At" : String) = "_" := by decide +kernel
  have g1 := pos_eql 9997 x y w
  have g2 := run_equalIn_int (P := Try.prog) w 9998 24 .i64 .i64 i j Try.underlying24
  simp only [Op.eqFields, a0, a1, a2, b0, b1, b2, ne_eq, n0, n1, not_false_eq_true, if_true, Sem.run_bind, p0, q0, Result.andThen_ok, g1, g2, Sem.run_ite, Sem.run_pure]
  by_cases h1 : i = j <;> by_cases h2 : x = y <;> simp [h1, h2]
set_option maxRecDepth 100000 in
theorem point_in (x y : Pn) (w : World) : (Op.equalIn 10000 42 (.agg #[.int .i32 x.r, .int .i64 x.p.a, .int .i64 x.p.l, .int .i64 x.p.c]) (.agg #[.int .i32 y.r, .int .i64 y.p.a, .int .i64 y.p.l, .int .i64 y.p.c])).run Try.prog w = .ok (decide (x = y)) w := by
  rw [run_equalIn_struct w 9999 42 _ _ (by kernel_rfl) (by kernel_rfl)]
  obtain ⟨a, b, e, ea, eb⟩ := map2 fPoint
  simp only [Prod.mk.injEq] at ea eb
  obtain ⟨a0, a1, a2⟩ := ea
  obtain ⟨b0, b1, b2⟩ := eb
  rw [e]
  have p0 : ∀ x y z u : Value, (part 21 #[x, y, z, u] 0).run Try.prog w = .ok x w := fun x y z u => by kernel_rfl
  have q0 : ∀ x y z u : Value, (part 26 #[x, y, z, u] 1).run Try.prog w = .ok (.agg #[y, z, u]) w := fun x y z u => by kernel_rfl
  have n0 : ¬ ("R" : String) = "_" := by decide +kernel
  have n1 : ¬ ("At" : String) = "_" := by decide +kernel
  have g1 := pos_eql 9997 x.p y.p w
  have g2 := run_equalIn_int (P := Try.prog) w 9998 21 .i32 .i32 x.r y.r Try.underlying21
  simp only [Op.eqFields, a0, a1, a2, b0, b1, b2, ne_eq, n0, n1, not_false_eq_true, if_true, Sem.run_bind, p0, q0, Result.andThen_ok, g1, g2, Sem.run_ite, Sem.run_pure]
  obtain ⟨r, p⟩ := x
  obtain ⟨r', p'⟩ := y
  by_cases h1 : r = r' <;> by_cases h2 : p = p' <;> simp [h1, h2]
end Go.Proofs.Ytaiogbokmglofaa.Mu

