/-
  What two Mus compare to.
  isNode, walked.
  ty.May, walked.
-/
import Derived.Test.YtblgligagngpfaaDoorThruMR
import Derived.Laws.StructEq
import Derived.Test.YtblgligagngpfaaDoorThruS
namespace Go.Proofs.YtblgligagngpfaaDoor.Mu
open Go.ChangeShapes Go.WideShapes Go.ChangeAt Go.RowKit

theorem fM : ((Tryd.prog.fieldsOf 24).toList.map fun f => (f.name, f.type, f.offset)) = [("V", 3, 0), ("C", 22, 1)] := by kernel_rfl
theorem map2 {α β : Type} {f : α → β} {l : List α} {x y : β} (h : l.map f = [x, y]) : ∃ a b, l = [a, b] ∧ f a = x ∧ f b = y := by
  match l, h with
  | [a, b], h => simp at h; exact ⟨a, b, rfl, h.1, h.2⟩
theorem map3 {α β : Type} {f : α → β} {l : List α} {x y z : β} (h : l.map f = [x, y, z]) : ∃ a b c, l = [a, b, c] ∧ f a = x ∧ f b = y ∧ f c = z := by
  match l, h with
  | [a, b, c], h => simp at h; exact ⟨a, b, c, rfl, h.1, h.2.1, h.2.2⟩
set_option maxRecDepth 100000 in
theorem mu_eql (d : Nat) (v m v' m' : Int) (w : World) : (Op.equalIn (d + 2) 24 (.agg #[.int .i64 v, .int .u8 m]) (.agg #[.int .i64 v', .int .u8 m'])).run Tryd.prog w = .ok (decide (v = v') && decide (m = m')) w := by
  rw [run_equalIn_struct w (d + 1) 24 _ _ (by kernel_rfl) (by kernel_rfl)]
  obtain ⟨a, b, e, ea, eb⟩ := map2 fM
  simp only [Prod.mk.injEq] at ea eb
  obtain ⟨a0, a1, a2⟩ := ea
  obtain ⟨b0, b1, b2⟩ := eb
  rw [e]
  have p0 : ∀ x y : Value, (part 3 #[x, y] 0).run Tryd.prog w = .ok x w := fun x y => by kernel_rfl
  have q0 : ∀ x y : Value, (part 22 #[x, y] 1).run Tryd.prog w = .ok y w := fun x y => by kernel_rfl
  have n0 : ¬ ("V" : String) = "_" := by decide +kernel
  have n1 : ¬ ("C" : String) = "_" := by decide +kernel
  simp only [Op.eqFields, a0, a1, a2, b0, b1, b2, ne_eq, n0, n1, not_false_eq_true, if_true, Sem.run_bind, p0, q0, Result.andThen_ok, run_equalIn_int w d 3 _ _ _ _ Tryd.underlying3, run_equalIn_int w d 22 _ _ _ _ Tryd.underlying22, Sem.run_ite, Sem.run_pure]
  by_cases h1 : v = v' <;> by_cases h2 : m = m' <;> simp [h1, h2]
end Go.Proofs.YtblgligagngpfaaDoor.Mu
namespace Go.Proofs.YtblgligagngpfaaDoor.Mu
open Go.ChangeShapes Go.WideShapes Go.ChangeAt Go.RowKit Go.Shelf

attribute [local go_sem] Oper.semAt_some
set_option linter.unusedVariables false

/-- Whether a node's fields are those of a type. -/
def nodeB (k n v c : Int) (len : Nat) : Bool :=
  (decide (k = 7) || (decide (v = 0) && decide (c = 0))) && (decide (k = 1) || decide (k = 8) || decide (n = 0)) &&
  (if k = 1 then decide (0 ≤ n) && decide (n < 1048576) && decide (len = 0)
   else if k = 2 ∨ k = 3 ∨ k = 4 ∨ k = 5 then decide (len = 0)
   else if k = 6 then decide (len = 1)
   else if k = 7 then decide (len = 2) && isB v c
   else if k = 8 then decide (0 ≤ n) && decide (n < 40) && decide (len ≤ 4)
   else false)
def NodeIs (r : Bool) (w : World) (e : Ending) (w' : World) : Prop := e = .returned (.bool r) ∧ Bel w w'
set_option maxHeartbeats 1000000 in
theorem isNode_xM (k : Int) (n v c : Int) (A : Option Addr) (len cap b o : Nat) (w : World) (a1 : w.cell? ⟨b, o, none⟩ = some (.int .u8 k)) (a2 : w.cell? ⟨b, o + 1, none⟩ = some (.int .i64 n)) (a3 : w.cell? ⟨b, o + 2, none⟩ = some (.int .i64 v)) (a4 : w.cell? ⟨b, o + 3, none⟩ = some (.int .u8 c)) (a5 : w.cell? ⟨b, o + 4, none⟩ = some (.slice A len cap)) (hk : k ≠ 1 ∧ k ≠ 2 ∧ k ≠ 3 ∧ k ≠ 4 ∧ k ≠ 5 ∧ k ≠ 6 ∧ k ≠ 7 ∧ k ≠ 8) (hM : (decide (v = 0) && decide (c = 0)) = false) :
    Calls Tryd.prog 65 #[.pointer (some ⟨b, o, none⟩)] w (NodeIs (nodeB k n v c len) w) := by
  have hr : nodeB k n v c len = false := by simp [nodeB, hk.1, hk.2.1, hk.2.2.1, hk.2.2.2.1, hk.2.2.2.2.1, hk.2.2.2.2.2.1, hk.2.2.2.2.2.2.1, hk.2.2.2.2.2.2.2, hM]
  rw [hr]
  have qm := fun W => mu_eql 9998 v c 0 0 W
  have dk1 : (k == 1) = false := by simpa using hk.1
  have dk2 : (k == 2) = false := by simpa using hk.2.1
  have dk3 : (k == 3) = false := by simpa using hk.2.2.1
  have dk4 : (k == 4) = false := by simpa using hk.2.2.2.1
  have dk5 : (k == 5) = false := by simpa using hk.2.2.2.2.1
  have dk6 : (k == 6) = false := by simpa using hk.2.2.2.2.2.1
  have dk7 : (k == 7) = false := by simpa using hk.2.2.2.2.2.2.1
  have dk8 : (k == 8) = false := by simpa using hk.2.2.2.2.2.2.2
  have hk1 := hk.1
  have hk2 := hk.2.1
  have hk3 := hk.2.2.1
  have hk4 := hk.2.2.2.1
  have hk5 := hk.2.2.2.2.1
  have hk6 := hk.2.2.2.2.2.1
  have hk7 := hk.2.2.2.2.2.2.1
  have hk8 := hk.2.2.2.2.2.2.2
  clear hr
  go_enter Tryd.func65, Tryd.ntmps65
  go_wp2_with fail
  go_ret
  exact ⟨rfl, Bel.refl _⟩
set_option maxHeartbeats 1000000 in
theorem isNode_xN (k : Int) (n v c : Int) (A : Option Addr) (len cap b o : Nat) (w : World) (a1 : w.cell? ⟨b, o, none⟩ = some (.int .u8 k)) (a2 : w.cell? ⟨b, o + 1, none⟩ = some (.int .i64 n)) (a3 : w.cell? ⟨b, o + 2, none⟩ = some (.int .i64 v)) (a4 : w.cell? ⟨b, o + 3, none⟩ = some (.int .u8 c)) (a5 : w.cell? ⟨b, o + 4, none⟩ = some (.slice A len cap)) (hk : k ≠ 1 ∧ k ≠ 2 ∧ k ≠ 3 ∧ k ≠ 4 ∧ k ≠ 5 ∧ k ≠ 6 ∧ k ≠ 7 ∧ k ≠ 8) (hM : (decide (v = 0) && decide (c = 0)) = true) (hn : n ≠ 0) :
    Calls Tryd.prog 65 #[.pointer (some ⟨b, o, none⟩)] w (NodeIs (nodeB k n v c len) w) := by
  have hr : nodeB k n v c len = false := by simp [nodeB, hk.1, hk.2.1, hk.2.2.1, hk.2.2.2.1, hk.2.2.2.2.1, hk.2.2.2.2.2.1, hk.2.2.2.2.2.2.1, hk.2.2.2.2.2.2.2, hM, hn]
  rw [hr]
  have qm := fun W => mu_eql 9998 v c 0 0 W
  have dk1 : (k == 1) = false := by simpa using hk.1
  have dk2 : (k == 2) = false := by simpa using hk.2.1
  have dk3 : (k == 3) = false := by simpa using hk.2.2.1
  have dk4 : (k == 4) = false := by simpa using hk.2.2.2.1
  have dk5 : (k == 5) = false := by simpa using hk.2.2.2.2.1
  have dk6 : (k == 6) = false := by simpa using hk.2.2.2.2.2.1
  have dk7 : (k == 7) = false := by simpa using hk.2.2.2.2.2.2.1
  have dk8 : (k == 8) = false := by simpa using hk.2.2.2.2.2.2.2
  have hk1 := hk.1
  have hk2 := hk.2.1
  have hk3 := hk.2.2.1
  have hk4 := hk.2.2.2.1
  have hk5 := hk.2.2.2.2.1
  have hk6 := hk.2.2.2.2.2.1
  have hk7 := hk.2.2.2.2.2.2.1
  have hk8 := hk.2.2.2.2.2.2.2
  have dn : (n == 0) = false := by simpa using hn
  clear hr
  go_enter Tryd.func65, Tryd.ntmps65
  go_wp2_with fail
  go_ret
  exact ⟨rfl, Bel.refl _⟩
set_option maxHeartbeats 1000000 in
theorem isNode_xx (k : Int) (n v c : Int) (A : Option Addr) (len cap b o : Nat) (w : World) (a1 : w.cell? ⟨b, o, none⟩ = some (.int .u8 k)) (a2 : w.cell? ⟨b, o + 1, none⟩ = some (.int .i64 n)) (a3 : w.cell? ⟨b, o + 2, none⟩ = some (.int .i64 v)) (a4 : w.cell? ⟨b, o + 3, none⟩ = some (.int .u8 c)) (a5 : w.cell? ⟨b, o + 4, none⟩ = some (.slice A len cap)) (hk : k ≠ 1 ∧ k ≠ 2 ∧ k ≠ 3 ∧ k ≠ 4 ∧ k ≠ 5 ∧ k ≠ 6 ∧ k ≠ 7 ∧ k ≠ 8) (hM : (decide (v = 0) && decide (c = 0)) = true) (hn : n = 0) :
    Calls Tryd.prog 65 #[.pointer (some ⟨b, o, none⟩)] w (NodeIs (nodeB k n v c len) w) := by
  have hr : nodeB k n v c len = false := by simp [nodeB, hk.1, hk.2.1, hk.2.2.1, hk.2.2.2.1, hk.2.2.2.2.1, hk.2.2.2.2.2.1, hk.2.2.2.2.2.2.1, hk.2.2.2.2.2.2.2]
  rw [hr]
  have qm := fun W => mu_eql 9998 v c 0 0 W
  have dk1 : (k == 1) = false := by simpa using hk.1
  have dk2 : (k == 2) = false := by simpa using hk.2.1
  have dk3 : (k == 3) = false := by simpa using hk.2.2.1
  have dk4 : (k == 4) = false := by simpa using hk.2.2.2.1
  have dk5 : (k == 5) = false := by simpa using hk.2.2.2.2.1
  have dk6 : (k == 6) = false := by simpa using hk.2.2.2.2.2.1
  have dk7 : (k == 7) = false := by simpa using hk.2.2.2.2.2.2.1
  have dk8 : (k == 8) = false := by simpa using hk.2.2.2.2.2.2.2
  have hk1 := hk.1
  have hk2 := hk.2.1
  have hk3 := hk.2.2.1
  have hk4 := hk.2.2.2.1
  have hk5 := hk.2.2.2.2.1
  have hk6 := hk.2.2.2.2.2.1
  have hk7 := hk.2.2.2.2.2.2.1
  have hk8 := hk.2.2.2.2.2.2.2
  clear hr
  go_enter Tryd.func65, Tryd.ntmps65
  go_wp2_with fail
  go_ret
  exact ⟨rfl, Bel.refl _⟩
set_option maxHeartbeats 1000000 in
theorem isNode_1M (n v c : Int) (A : Option Addr) (len cap b o : Nat) (w : World) (a1 : w.cell? ⟨b, o, none⟩ = some (.int .u8 1)) (a2 : w.cell? ⟨b, o + 1, none⟩ = some (.int .i64 n)) (a3 : w.cell? ⟨b, o + 2, none⟩ = some (.int .i64 v)) (a4 : w.cell? ⟨b, o + 3, none⟩ = some (.int .u8 c)) (a5 : w.cell? ⟨b, o + 4, none⟩ = some (.slice A len cap)) (hM : (decide (v = 0) && decide (c = 0)) = false) :
    Calls Tryd.prog 65 #[.pointer (some ⟨b, o, none⟩)] w (NodeIs (nodeB 1 n v c len) w) := by
  have hr : nodeB 1 n v c len = false := by simp [nodeB, hM]
  rw [hr]
  have qm := fun W => mu_eql 9998 v c 0 0 W
  clear hr
  go_enter Tryd.func65, Tryd.ntmps65
  go_wp2_with fail
  go_ret
  exact ⟨rfl, Bel.refl _⟩
set_option maxHeartbeats 1000000 in
theorem isNode_2M (n v c : Int) (A : Option Addr) (len cap b o : Nat) (w : World) (a1 : w.cell? ⟨b, o, none⟩ = some (.int .u8 2)) (a2 : w.cell? ⟨b, o + 1, none⟩ = some (.int .i64 n)) (a3 : w.cell? ⟨b, o + 2, none⟩ = some (.int .i64 v)) (a4 : w.cell? ⟨b, o + 3, none⟩ = some (.int .u8 c)) (a5 : w.cell? ⟨b, o + 4, none⟩ = some (.slice A len cap)) (hM : (decide (v = 0) && decide (c = 0)) = false) :
    Calls Tryd.prog 65 #[.pointer (some ⟨b, o, none⟩)] w (NodeIs (nodeB 2 n v c len) w) := by
  have hr : nodeB 2 n v c len = false := by simp [nodeB, hM]
  rw [hr]
  have qm := fun W => mu_eql 9998 v c 0 0 W
  clear hr
  go_enter Tryd.func65, Tryd.ntmps65
  go_wp2_with fail
  go_ret
  exact ⟨rfl, Bel.refl _⟩
set_option maxHeartbeats 1000000 in
theorem isNode_3M (n v c : Int) (A : Option Addr) (len cap b o : Nat) (w : World) (a1 : w.cell? ⟨b, o, none⟩ = some (.int .u8 3)) (a2 : w.cell? ⟨b, o + 1, none⟩ = some (.int .i64 n)) (a3 : w.cell? ⟨b, o + 2, none⟩ = some (.int .i64 v)) (a4 : w.cell? ⟨b, o + 3, none⟩ = some (.int .u8 c)) (a5 : w.cell? ⟨b, o + 4, none⟩ = some (.slice A len cap)) (hM : (decide (v = 0) && decide (c = 0)) = false) :
    Calls Tryd.prog 65 #[.pointer (some ⟨b, o, none⟩)] w (NodeIs (nodeB 3 n v c len) w) := by
  have hr : nodeB 3 n v c len = false := by simp [nodeB, hM]
  rw [hr]
  have qm := fun W => mu_eql 9998 v c 0 0 W
  clear hr
  go_enter Tryd.func65, Tryd.ntmps65
  go_wp2_with fail
  go_ret
  exact ⟨rfl, Bel.refl _⟩
set_option maxHeartbeats 1000000 in
theorem isNode_4M (n v c : Int) (A : Option Addr) (len cap b o : Nat) (w : World) (a1 : w.cell? ⟨b, o, none⟩ = some (.int .u8 4)) (a2 : w.cell? ⟨b, o + 1, none⟩ = some (.int .i64 n)) (a3 : w.cell? ⟨b, o + 2, none⟩ = some (.int .i64 v)) (a4 : w.cell? ⟨b, o + 3, none⟩ = some (.int .u8 c)) (a5 : w.cell? ⟨b, o + 4, none⟩ = some (.slice A len cap)) (hM : (decide (v = 0) && decide (c = 0)) = false) :
    Calls Tryd.prog 65 #[.pointer (some ⟨b, o, none⟩)] w (NodeIs (nodeB 4 n v c len) w) := by
  have hr : nodeB 4 n v c len = false := by simp [nodeB, hM]
  rw [hr]
  have qm := fun W => mu_eql 9998 v c 0 0 W
  clear hr
  go_enter Tryd.func65, Tryd.ntmps65
  go_wp2_with fail
  go_ret
  exact ⟨rfl, Bel.refl _⟩
set_option maxHeartbeats 1000000 in
theorem isNode_5M (n v c : Int) (A : Option Addr) (len cap b o : Nat) (w : World) (a1 : w.cell? ⟨b, o, none⟩ = some (.int .u8 5)) (a2 : w.cell? ⟨b, o + 1, none⟩ = some (.int .i64 n)) (a3 : w.cell? ⟨b, o + 2, none⟩ = some (.int .i64 v)) (a4 : w.cell? ⟨b, o + 3, none⟩ = some (.int .u8 c)) (a5 : w.cell? ⟨b, o + 4, none⟩ = some (.slice A len cap)) (hM : (decide (v = 0) && decide (c = 0)) = false) :
    Calls Tryd.prog 65 #[.pointer (some ⟨b, o, none⟩)] w (NodeIs (nodeB 5 n v c len) w) := by
  have hr : nodeB 5 n v c len = false := by simp [nodeB, hM]
  rw [hr]
  have qm := fun W => mu_eql 9998 v c 0 0 W
  clear hr
  go_enter Tryd.func65, Tryd.ntmps65
  go_wp2_with fail
  go_ret
  exact ⟨rfl, Bel.refl _⟩
set_option maxHeartbeats 1000000 in
theorem isNode_6M (n v c : Int) (A : Option Addr) (len cap b o : Nat) (w : World) (a1 : w.cell? ⟨b, o, none⟩ = some (.int .u8 6)) (a2 : w.cell? ⟨b, o + 1, none⟩ = some (.int .i64 n)) (a3 : w.cell? ⟨b, o + 2, none⟩ = some (.int .i64 v)) (a4 : w.cell? ⟨b, o + 3, none⟩ = some (.int .u8 c)) (a5 : w.cell? ⟨b, o + 4, none⟩ = some (.slice A len cap)) (hM : (decide (v = 0) && decide (c = 0)) = false) :
    Calls Tryd.prog 65 #[.pointer (some ⟨b, o, none⟩)] w (NodeIs (nodeB 6 n v c len) w) := by
  have hr : nodeB 6 n v c len = false := by simp [nodeB, hM]
  rw [hr]
  have qm := fun W => mu_eql 9998 v c 0 0 W
  clear hr
  go_enter Tryd.func65, Tryd.ntmps65
  go_wp2_with fail
  go_ret
  exact ⟨rfl, Bel.refl _⟩
set_option maxHeartbeats 1000000 in
theorem isNode_8M (n v c : Int) (A : Option Addr) (len cap b o : Nat) (w : World) (a1 : w.cell? ⟨b, o, none⟩ = some (.int .u8 8)) (a2 : w.cell? ⟨b, o + 1, none⟩ = some (.int .i64 n)) (a3 : w.cell? ⟨b, o + 2, none⟩ = some (.int .i64 v)) (a4 : w.cell? ⟨b, o + 3, none⟩ = some (.int .u8 c)) (a5 : w.cell? ⟨b, o + 4, none⟩ = some (.slice A len cap)) (hM : (decide (v = 0) && decide (c = 0)) = false) :
    Calls Tryd.prog 65 #[.pointer (some ⟨b, o, none⟩)] w (NodeIs (nodeB 8 n v c len) w) := by
  have hr : nodeB 8 n v c len = false := by simp [nodeB, hM]
  rw [hr]
  have qm := fun W => mu_eql 9998 v c 0 0 W
  clear hr
  go_enter Tryd.func65, Tryd.ntmps65
  go_wp2_with fail
  go_ret
  exact ⟨rfl, Bel.refl _⟩
set_option maxHeartbeats 1000000 in
theorem isNode_2N (n v c : Int) (A : Option Addr) (len cap b o : Nat) (w : World) (a1 : w.cell? ⟨b, o, none⟩ = some (.int .u8 2)) (a2 : w.cell? ⟨b, o + 1, none⟩ = some (.int .i64 n)) (a3 : w.cell? ⟨b, o + 2, none⟩ = some (.int .i64 v)) (a4 : w.cell? ⟨b, o + 3, none⟩ = some (.int .u8 c)) (a5 : w.cell? ⟨b, o + 4, none⟩ = some (.slice A len cap)) (hM : (decide (v = 0) && decide (c = 0)) = true) (hn : n ≠ 0) :
    Calls Tryd.prog 65 #[.pointer (some ⟨b, o, none⟩)] w (NodeIs (nodeB 2 n v c len) w) := by
  have hr : nodeB 2 n v c len = false := by simp [nodeB, hn]
  rw [hr]
  have qm := fun W => mu_eql 9998 v c 0 0 W
  have dn : (n == 0) = false := by simpa using hn
  clear hr
  go_enter Tryd.func65, Tryd.ntmps65
  go_wp2_with fail
  go_ret
  exact ⟨rfl, Bel.refl _⟩
set_option maxHeartbeats 1000000 in
theorem isNode_3N (n v c : Int) (A : Option Addr) (len cap b o : Nat) (w : World) (a1 : w.cell? ⟨b, o, none⟩ = some (.int .u8 3)) (a2 : w.cell? ⟨b, o + 1, none⟩ = some (.int .i64 n)) (a3 : w.cell? ⟨b, o + 2, none⟩ = some (.int .i64 v)) (a4 : w.cell? ⟨b, o + 3, none⟩ = some (.int .u8 c)) (a5 : w.cell? ⟨b, o + 4, none⟩ = some (.slice A len cap)) (hM : (decide (v = 0) && decide (c = 0)) = true) (hn : n ≠ 0) :
    Calls Tryd.prog 65 #[.pointer (some ⟨b, o, none⟩)] w (NodeIs (nodeB 3 n v c len) w) := by
  have hr : nodeB 3 n v c len = false := by simp [nodeB, hn]
  rw [hr]
  have qm := fun W => mu_eql 9998 v c 0 0 W
  have dn : (n == 0) = false := by simpa using hn
  clear hr
  go_enter Tryd.func65, Tryd.ntmps65
  go_wp2_with fail
  go_ret
  exact ⟨rfl, Bel.refl _⟩
set_option maxHeartbeats 1000000 in
theorem isNode_4N (n v c : Int) (A : Option Addr) (len cap b o : Nat) (w : World) (a1 : w.cell? ⟨b, o, none⟩ = some (.int .u8 4)) (a2 : w.cell? ⟨b, o + 1, none⟩ = some (.int .i64 n)) (a3 : w.cell? ⟨b, o + 2, none⟩ = some (.int .i64 v)) (a4 : w.cell? ⟨b, o + 3, none⟩ = some (.int .u8 c)) (a5 : w.cell? ⟨b, o + 4, none⟩ = some (.slice A len cap)) (hM : (decide (v = 0) && decide (c = 0)) = true) (hn : n ≠ 0) :
    Calls Tryd.prog 65 #[.pointer (some ⟨b, o, none⟩)] w (NodeIs (nodeB 4 n v c len) w) := by
  have hr : nodeB 4 n v c len = false := by simp [nodeB, hn]
  rw [hr]
  have qm := fun W => mu_eql 9998 v c 0 0 W
  have dn : (n == 0) = false := by simpa using hn
  clear hr
  go_enter Tryd.func65, Tryd.ntmps65
  go_wp2_with fail
  go_ret
  exact ⟨rfl, Bel.refl _⟩
set_option maxHeartbeats 1000000 in
theorem isNode_5N (n v c : Int) (A : Option Addr) (len cap b o : Nat) (w : World) (a1 : w.cell? ⟨b, o, none⟩ = some (.int .u8 5)) (a2 : w.cell? ⟨b, o + 1, none⟩ = some (.int .i64 n)) (a3 : w.cell? ⟨b, o + 2, none⟩ = some (.int .i64 v)) (a4 : w.cell? ⟨b, o + 3, none⟩ = some (.int .u8 c)) (a5 : w.cell? ⟨b, o + 4, none⟩ = some (.slice A len cap)) (hM : (decide (v = 0) && decide (c = 0)) = true) (hn : n ≠ 0) :
    Calls Tryd.prog 65 #[.pointer (some ⟨b, o, none⟩)] w (NodeIs (nodeB 5 n v c len) w) := by
  have hr : nodeB 5 n v c len = false := by simp [nodeB, hn]
  rw [hr]
  have qm := fun W => mu_eql 9998 v c 0 0 W
  have dn : (n == 0) = false := by simpa using hn
  clear hr
  go_enter Tryd.func65, Tryd.ntmps65
  go_wp2_with fail
  go_ret
  exact ⟨rfl, Bel.refl _⟩
set_option maxHeartbeats 1000000 in
theorem isNode_6N (n v c : Int) (A : Option Addr) (len cap b o : Nat) (w : World) (a1 : w.cell? ⟨b, o, none⟩ = some (.int .u8 6)) (a2 : w.cell? ⟨b, o + 1, none⟩ = some (.int .i64 n)) (a3 : w.cell? ⟨b, o + 2, none⟩ = some (.int .i64 v)) (a4 : w.cell? ⟨b, o + 3, none⟩ = some (.int .u8 c)) (a5 : w.cell? ⟨b, o + 4, none⟩ = some (.slice A len cap)) (hM : (decide (v = 0) && decide (c = 0)) = true) (hn : n ≠ 0) :
    Calls Tryd.prog 65 #[.pointer (some ⟨b, o, none⟩)] w (NodeIs (nodeB 6 n v c len) w) := by
  have hr : nodeB 6 n v c len = false := by simp [nodeB, hn]
  rw [hr]
  have qm := fun W => mu_eql 9998 v c 0 0 W
  have dn : (n == 0) = false := by simpa using hn
  clear hr
  go_enter Tryd.func65, Tryd.ntmps65
  go_wp2_with fail
  go_ret
  exact ⟨rfl, Bel.refl _⟩
set_option maxHeartbeats 1000000 in
theorem isNode_7N (n v c : Int) (A : Option Addr) (len cap b o : Nat) (w : World) (a1 : w.cell? ⟨b, o, none⟩ = some (.int .u8 7)) (a2 : w.cell? ⟨b, o + 1, none⟩ = some (.int .i64 n)) (a3 : w.cell? ⟨b, o + 2, none⟩ = some (.int .i64 v)) (a4 : w.cell? ⟨b, o + 3, none⟩ = some (.int .u8 c)) (a5 : w.cell? ⟨b, o + 4, none⟩ = some (.slice A len cap)) (hn : n ≠ 0) :
    Calls Tryd.prog 65 #[.pointer (some ⟨b, o, none⟩)] w (NodeIs (nodeB 7 n v c len) w) := by
  have hr : nodeB 7 n v c len = false := by simp [nodeB, hn]
  rw [hr]
  have qm := fun W => mu_eql 9998 v c 0 0 W
  have dn : (n == 0) = false := by simpa using hn
  clear hr
  go_enter Tryd.func65, Tryd.ntmps65
  go_wp2_with fail
  go_ret
  exact ⟨rfl, Bel.refl _⟩
set_option maxHeartbeats 1000000 in
theorem isNode_2L (n v c : Int) (A : Option Addr) (len cap b o : Nat) (w : World) (a1 : w.cell? ⟨b, o, none⟩ = some (.int .u8 2)) (a2 : w.cell? ⟨b, o + 1, none⟩ = some (.int .i64 n)) (a3 : w.cell? ⟨b, o + 2, none⟩ = some (.int .i64 v)) (a4 : w.cell? ⟨b, o + 3, none⟩ = some (.int .u8 c)) (a5 : w.cell? ⟨b, o + 4, none⟩ = some (.slice A len cap)) (hM : (decide (v = 0) && decide (c = 0)) = true) (hn : n = 0) (hl : len ≠ 0) :
    Calls Tryd.prog 65 #[.pointer (some ⟨b, o, none⟩)] w (NodeIs (nodeB 2 n v c len) w) := by
  have hr : nodeB 2 n v c len = false := by simp [nodeB, hl]
  rw [hr]
  have qm := fun W => mu_eql 9998 v c 0 0 W
  have dl : ((len : Int) == 0) = false := by simp; omega
  clear hr
  go_enter Tryd.func65, Tryd.ntmps65
  go_wp2_with fail
  go_ret
  exact ⟨rfl, Bel.refl _⟩
set_option maxHeartbeats 1000000 in
theorem isNode_2y (n v c : Int) (A : Option Addr) (len cap b o : Nat) (w : World) (a1 : w.cell? ⟨b, o, none⟩ = some (.int .u8 2)) (a2 : w.cell? ⟨b, o + 1, none⟩ = some (.int .i64 n)) (a3 : w.cell? ⟨b, o + 2, none⟩ = some (.int .i64 v)) (a4 : w.cell? ⟨b, o + 3, none⟩ = some (.int .u8 c)) (a5 : w.cell? ⟨b, o + 4, none⟩ = some (.slice A len cap)) (hM : (decide (v = 0) && decide (c = 0)) = true) (hn : n = 0) (hl : len = 0) :
    Calls Tryd.prog 65 #[.pointer (some ⟨b, o, none⟩)] w (NodeIs (nodeB 2 n v c len) w) := by
  have hr : nodeB 2 n v c len = true := by simp [nodeB, hM, hn, hl]
  rw [hr]
  have qm := fun W => mu_eql 9998 v c 0 0 W
  have dl : ((len : Int) == 0) = true := by simp; omega
  clear hr
  go_enter Tryd.func65, Tryd.ntmps65
  go_wp2_with fail
  go_ret
  exact ⟨rfl, Bel.refl _⟩
set_option maxHeartbeats 1000000 in
theorem isNode_3L (n v c : Int) (A : Option Addr) (len cap b o : Nat) (w : World) (a1 : w.cell? ⟨b, o, none⟩ = some (.int .u8 3)) (a2 : w.cell? ⟨b, o + 1, none⟩ = some (.int .i64 n)) (a3 : w.cell? ⟨b, o + 2, none⟩ = some (.int .i64 v)) (a4 : w.cell? ⟨b, o + 3, none⟩ = some (.int .u8 c)) (a5 : w.cell? ⟨b, o + 4, none⟩ = some (.slice A len cap)) (hM : (decide (v = 0) && decide (c = 0)) = true) (hn : n = 0) (hl : len ≠ 0) :
    Calls Tryd.prog 65 #[.pointer (some ⟨b, o, none⟩)] w (NodeIs (nodeB 3 n v c len) w) := by
  have hr : nodeB 3 n v c len = false := by simp [nodeB, hl]
  rw [hr]
  have qm := fun W => mu_eql 9998 v c 0 0 W
  have dl : ((len : Int) == 0) = false := by simp; omega
  clear hr
  go_enter Tryd.func65, Tryd.ntmps65
  go_wp2_with fail
  go_ret
  exact ⟨rfl, Bel.refl _⟩
set_option maxHeartbeats 1000000 in
theorem isNode_3y (n v c : Int) (A : Option Addr) (len cap b o : Nat) (w : World) (a1 : w.cell? ⟨b, o, none⟩ = some (.int .u8 3)) (a2 : w.cell? ⟨b, o + 1, none⟩ = some (.int .i64 n)) (a3 : w.cell? ⟨b, o + 2, none⟩ = some (.int .i64 v)) (a4 : w.cell? ⟨b, o + 3, none⟩ = some (.int .u8 c)) (a5 : w.cell? ⟨b, o + 4, none⟩ = some (.slice A len cap)) (hM : (decide (v = 0) && decide (c = 0)) = true) (hn : n = 0) (hl : len = 0) :
    Calls Tryd.prog 65 #[.pointer (some ⟨b, o, none⟩)] w (NodeIs (nodeB 3 n v c len) w) := by
  have hr : nodeB 3 n v c len = true := by simp [nodeB, hM, hn, hl]
  rw [hr]
  have qm := fun W => mu_eql 9998 v c 0 0 W
  have dl : ((len : Int) == 0) = true := by simp; omega
  clear hr
  go_enter Tryd.func65, Tryd.ntmps65
  go_wp2_with fail
  go_ret
  exact ⟨rfl, Bel.refl _⟩
set_option maxHeartbeats 1000000 in
theorem isNode_4L (n v c : Int) (A : Option Addr) (len cap b o : Nat) (w : World) (a1 : w.cell? ⟨b, o, none⟩ = some (.int .u8 4)) (a2 : w.cell? ⟨b, o + 1, none⟩ = some (.int .i64 n)) (a3 : w.cell? ⟨b, o + 2, none⟩ = some (.int .i64 v)) (a4 : w.cell? ⟨b, o + 3, none⟩ = some (.int .u8 c)) (a5 : w.cell? ⟨b, o + 4, none⟩ = some (.slice A len cap)) (hM : (decide (v = 0) && decide (c = 0)) = true) (hn : n = 0) (hl : len ≠ 0) :
    Calls Tryd.prog 65 #[.pointer (some ⟨b, o, none⟩)] w (NodeIs (nodeB 4 n v c len) w) := by
  have hr : nodeB 4 n v c len = false := by simp [nodeB, hl]
  rw [hr]
  have qm := fun W => mu_eql 9998 v c 0 0 W
  have dl : ((len : Int) == 0) = false := by simp; omega
  clear hr
  go_enter Tryd.func65, Tryd.ntmps65
  go_wp2_with fail
  go_ret
  exact ⟨rfl, Bel.refl _⟩
set_option maxHeartbeats 1000000 in
theorem isNode_4y (n v c : Int) (A : Option Addr) (len cap b o : Nat) (w : World) (a1 : w.cell? ⟨b, o, none⟩ = some (.int .u8 4)) (a2 : w.cell? ⟨b, o + 1, none⟩ = some (.int .i64 n)) (a3 : w.cell? ⟨b, o + 2, none⟩ = some (.int .i64 v)) (a4 : w.cell? ⟨b, o + 3, none⟩ = some (.int .u8 c)) (a5 : w.cell? ⟨b, o + 4, none⟩ = some (.slice A len cap)) (hM : (decide (v = 0) && decide (c = 0)) = true) (hn : n = 0) (hl : len = 0) :
    Calls Tryd.prog 65 #[.pointer (some ⟨b, o, none⟩)] w (NodeIs (nodeB 4 n v c len) w) := by
  have hr : nodeB 4 n v c len = true := by simp [nodeB, hM, hn, hl]
  rw [hr]
  have qm := fun W => mu_eql 9998 v c 0 0 W
  have dl : ((len : Int) == 0) = true := by simp; omega
  clear hr
  go_enter Tryd.func65, Tryd.ntmps65
  go_wp2_with fail
  go_ret
  exact ⟨rfl, Bel.refl _⟩
set_option maxHeartbeats 1000000 in
theorem isNode_5L (n v c : Int) (A : Option Addr) (len cap b o : Nat) (w : World) (a1 : w.cell? ⟨b, o, none⟩ = some (.int .u8 5)) (a2 : w.cell? ⟨b, o + 1, none⟩ = some (.int .i64 n)) (a3 : w.cell? ⟨b, o + 2, none⟩ = some (.int .i64 v)) (a4 : w.cell? ⟨b, o + 3, none⟩ = some (.int .u8 c)) (a5 : w.cell? ⟨b, o + 4, none⟩ = some (.slice A len cap)) (hM : (decide (v = 0) && decide (c = 0)) = true) (hn : n = 0) (hl : len ≠ 0) :
    Calls Tryd.prog 65 #[.pointer (some ⟨b, o, none⟩)] w (NodeIs (nodeB 5 n v c len) w) := by
  have hr : nodeB 5 n v c len = false := by simp [nodeB, hl]
  rw [hr]
  have qm := fun W => mu_eql 9998 v c 0 0 W
  have dl : ((len : Int) == 0) = false := by simp; omega
  clear hr
  go_enter Tryd.func65, Tryd.ntmps65
  go_wp2_with fail
  go_ret
  exact ⟨rfl, Bel.refl _⟩
set_option maxHeartbeats 1000000 in
theorem isNode_5y (n v c : Int) (A : Option Addr) (len cap b o : Nat) (w : World) (a1 : w.cell? ⟨b, o, none⟩ = some (.int .u8 5)) (a2 : w.cell? ⟨b, o + 1, none⟩ = some (.int .i64 n)) (a3 : w.cell? ⟨b, o + 2, none⟩ = some (.int .i64 v)) (a4 : w.cell? ⟨b, o + 3, none⟩ = some (.int .u8 c)) (a5 : w.cell? ⟨b, o + 4, none⟩ = some (.slice A len cap)) (hM : (decide (v = 0) && decide (c = 0)) = true) (hn : n = 0) (hl : len = 0) :
    Calls Tryd.prog 65 #[.pointer (some ⟨b, o, none⟩)] w (NodeIs (nodeB 5 n v c len) w) := by
  have hr : nodeB 5 n v c len = true := by simp [nodeB, hM, hn, hl]
  rw [hr]
  have qm := fun W => mu_eql 9998 v c 0 0 W
  have dl : ((len : Int) == 0) = true := by simp; omega
  clear hr
  go_enter Tryd.func65, Tryd.ntmps65
  go_wp2_with fail
  go_ret
  exact ⟨rfl, Bel.refl _⟩
set_option maxHeartbeats 1000000 in
theorem isNode_6L (n v c : Int) (A : Option Addr) (len cap b o : Nat) (w : World) (a1 : w.cell? ⟨b, o, none⟩ = some (.int .u8 6)) (a2 : w.cell? ⟨b, o + 1, none⟩ = some (.int .i64 n)) (a3 : w.cell? ⟨b, o + 2, none⟩ = some (.int .i64 v)) (a4 : w.cell? ⟨b, o + 3, none⟩ = some (.int .u8 c)) (a5 : w.cell? ⟨b, o + 4, none⟩ = some (.slice A len cap)) (hM : (decide (v = 0) && decide (c = 0)) = true) (hn : n = 0) (hl : len ≠ 1) :
    Calls Tryd.prog 65 #[.pointer (some ⟨b, o, none⟩)] w (NodeIs (nodeB 6 n v c len) w) := by
  have hr : nodeB 6 n v c len = false := by simp [nodeB, hl]
  rw [hr]
  have qm := fun W => mu_eql 9998 v c 0 0 W
  have dl : ((len : Int) == 1) = false := by simp; omega
  clear hr
  go_enter Tryd.func65, Tryd.ntmps65
  go_wp2_with fail
  go_ret
  exact ⟨rfl, Bel.refl _⟩
set_option maxHeartbeats 1000000 in
theorem isNode_6y (n v c : Int) (A : Option Addr) (len cap b o : Nat) (w : World) (a1 : w.cell? ⟨b, o, none⟩ = some (.int .u8 6)) (a2 : w.cell? ⟨b, o + 1, none⟩ = some (.int .i64 n)) (a3 : w.cell? ⟨b, o + 2, none⟩ = some (.int .i64 v)) (a4 : w.cell? ⟨b, o + 3, none⟩ = some (.int .u8 c)) (a5 : w.cell? ⟨b, o + 4, none⟩ = some (.slice A len cap)) (hM : (decide (v = 0) && decide (c = 0)) = true) (hn : n = 0) (hl : len = 1) :
    Calls Tryd.prog 65 #[.pointer (some ⟨b, o, none⟩)] w (NodeIs (nodeB 6 n v c len) w) := by
  have hr : nodeB 6 n v c len = true := by simp [nodeB, hM, hn, hl]
  rw [hr]
  have qm := fun W => mu_eql 9998 v c 0 0 W
  have dl : ((len : Int) == 1) = true := by simp; omega
  clear hr
  go_enter Tryd.func65, Tryd.ntmps65
  go_wp2_with fail
  go_ret
  exact ⟨rfl, Bel.refl _⟩
set_option maxHeartbeats 1000000 in
theorem isNode_7L (n v c : Int) (A : Option Addr) (len cap b o : Nat) (w : World) (a1 : w.cell? ⟨b, o, none⟩ = some (.int .u8 7)) (a2 : w.cell? ⟨b, o + 1, none⟩ = some (.int .i64 n)) (a3 : w.cell? ⟨b, o + 2, none⟩ = some (.int .i64 v)) (a4 : w.cell? ⟨b, o + 3, none⟩ = some (.int .u8 c)) (a5 : w.cell? ⟨b, o + 4, none⟩ = some (.slice A len cap)) (hn : n = 0) (hl : len ≠ 2) :
    Calls Tryd.prog 65 #[.pointer (some ⟨b, o, none⟩)] w (NodeIs (nodeB 7 n v c len) w) := by
  have hr : nodeB 7 n v c len = false := by simp [nodeB, hl]
  rw [hr]
  have qm := fun W => mu_eql 9998 v c 0 0 W
  have dl : ((len : Int) == 2) = false := by simp; omega
  clear hr
  go_enter Tryd.func65, Tryd.ntmps65
  go_wp2_with fail
  go_ret
  exact ⟨rfl, Bel.refl _⟩
set_option maxHeartbeats 1000000 in
theorem isNode_7y (n v c : Int) (A : Option Addr) (len cap b o : Nat) (w : World) (a1 : w.cell? ⟨b, o, none⟩ = some (.int .u8 7)) (a2 : w.cell? ⟨b, o + 1, none⟩ = some (.int .i64 n)) (a3 : w.cell? ⟨b, o + 2, none⟩ = some (.int .i64 v)) (a4 : w.cell? ⟨b, o + 3, none⟩ = some (.int .u8 c)) (a5 : w.cell? ⟨b, o + 4, none⟩ = some (.slice A len cap)) (hn : n = 0) (hl : len = 2) :
    Calls Tryd.prog 65 #[.pointer (some ⟨b, o, none⟩)] w (NodeIs (nodeB 7 n v c len) w) := by
  have hr : nodeB 7 n v c len = isB v c := by simp [nodeB, hn, hl]
  rw [hr]
  have qm := fun W => mu_eql 9998 v c 0 0 W
  have dl : ((len : Int) == 2) = true := by simp; omega
  clear hr
  go_enter Tryd.func65, Tryd.ntmps65
  go_wp2_with fail
  refine (is_any v c _).mono ?_
  rintro e w1 ⟨rfl, hb1⟩
  have HB1 := Lib.hid hb1
  clear hb1
  cases hi : isB v c
  · have e2 : errF false = 2 := rfl
    rw [e2]
    go_wp2_with fail
    go_ret
    exact ⟨by rw [hi]; rfl, HB1.out⟩
  · have e2 : errF true = 0 := rfl
    rw [e2]
    go_wp2_with fail
    go_ret
    exact ⟨by rw [hi]; rfl, HB1.out⟩
set_option maxHeartbeats 1000000 in
theorem isNode_1a (n v c : Int) (A : Option Addr) (len cap b o : Nat) (w : World) (a1 : w.cell? ⟨b, o, none⟩ = some (.int .u8 1)) (a2 : w.cell? ⟨b, o + 1, none⟩ = some (.int .i64 n)) (a3 : w.cell? ⟨b, o + 2, none⟩ = some (.int .i64 v)) (a4 : w.cell? ⟨b, o + 3, none⟩ = some (.int .u8 c)) (a5 : w.cell? ⟨b, o + 4, none⟩ = some (.slice A len cap)) (hM : (decide (v = 0) && decide (c = 0)) = true) (hn : n < 0) :
    Calls Tryd.prog 65 #[.pointer (some ⟨b, o, none⟩)] w (NodeIs (nodeB 1 n v c len) w) := by
  have hr : nodeB 1 n v c len = false := by simp [nodeB, show ¬ 0 ≤ n by omega]
  rw [hr]
  have qm := fun W => mu_eql 9998 v c 0 0 W
  have d0 : decide (0 ≤ n) = false := by simp; omega
  clear hr
  go_enter Tryd.func65, Tryd.ntmps65
  go_wp2_with fail
  go_ret
  exact ⟨rfl, Bel.refl _⟩
set_option maxHeartbeats 1000000 in
theorem isNode_1b (n v c : Int) (A : Option Addr) (len cap b o : Nat) (w : World) (a1 : w.cell? ⟨b, o, none⟩ = some (.int .u8 1)) (a2 : w.cell? ⟨b, o + 1, none⟩ = some (.int .i64 n)) (a3 : w.cell? ⟨b, o + 2, none⟩ = some (.int .i64 v)) (a4 : w.cell? ⟨b, o + 3, none⟩ = some (.int .u8 c)) (a5 : w.cell? ⟨b, o + 4, none⟩ = some (.slice A len cap)) (hM : (decide (v = 0) && decide (c = 0)) = true) (hn : 0 ≤ n ∧ 1048576 ≤ n) :
    Calls Tryd.prog 65 #[.pointer (some ⟨b, o, none⟩)] w (NodeIs (nodeB 1 n v c len) w) := by
  have hr : nodeB 1 n v c len = false := by simp [nodeB, show ¬ n < 1048576 by omega]
  rw [hr]
  have qm := fun W => mu_eql 9998 v c 0 0 W
  have d0 : decide (0 ≤ n) = true := by simp; omega
  have d1 : decide (n < 1048576) = false := by simp; omega
  clear hr
  go_enter Tryd.func65, Tryd.ntmps65
  go_wp2_with fail
  go_ret
  exact ⟨rfl, Bel.refl _⟩
set_option maxHeartbeats 1000000 in
theorem isNode_1L (n v c : Int) (A : Option Addr) (len cap b o : Nat) (w : World) (a1 : w.cell? ⟨b, o, none⟩ = some (.int .u8 1)) (a2 : w.cell? ⟨b, o + 1, none⟩ = some (.int .i64 n)) (a3 : w.cell? ⟨b, o + 2, none⟩ = some (.int .i64 v)) (a4 : w.cell? ⟨b, o + 3, none⟩ = some (.int .u8 c)) (a5 : w.cell? ⟨b, o + 4, none⟩ = some (.slice A len cap)) (hM : (decide (v = 0) && decide (c = 0)) = true) (hn : 0 ≤ n ∧ n < 1048576) (hl : len ≠ 0) :
    Calls Tryd.prog 65 #[.pointer (some ⟨b, o, none⟩)] w (NodeIs (nodeB 1 n v c len) w) := by
  have hr : nodeB 1 n v c len = false := by simp [nodeB, show ¬ len = 0 by omega]
  rw [hr]
  have qm := fun W => mu_eql 9998 v c 0 0 W
  have d0 : decide (0 ≤ n) = true := by simp; omega
  have d1 : decide (n < 1048576) = true := by simp; omega
  have dl : ((len : Int) == 0) = false := by simp; omega
  clear hr
  go_enter Tryd.func65, Tryd.ntmps65
  go_wp2_with fail
  go_ret
  exact ⟨rfl, Bel.refl _⟩
set_option maxHeartbeats 1000000 in
theorem isNode_1y (n v c : Int) (A : Option Addr) (len cap b o : Nat) (w : World) (a1 : w.cell? ⟨b, o, none⟩ = some (.int .u8 1)) (a2 : w.cell? ⟨b, o + 1, none⟩ = some (.int .i64 n)) (a3 : w.cell? ⟨b, o + 2, none⟩ = some (.int .i64 v)) (a4 : w.cell? ⟨b, o + 3, none⟩ = some (.int .u8 c)) (a5 : w.cell? ⟨b, o + 4, none⟩ = some (.slice A len cap)) (hM : (decide (v = 0) && decide (c = 0)) = true) (hn : 0 ≤ n ∧ n < 1048576) (hl : len = 0) :
    Calls Tryd.prog 65 #[.pointer (some ⟨b, o, none⟩)] w (NodeIs (nodeB 1 n v c len) w) := by
  have hr : nodeB 1 n v c len = true := by simp [nodeB, hM, hn.1, hn.2, hl]
  rw [hr]
  have qm := fun W => mu_eql 9998 v c 0 0 W
  have d0 : decide (0 ≤ n) = true := by simp; omega
  have d1 : decide (n < 1048576) = true := by simp; omega
  have dl : ((len : Int) == 0) = true := by simp; omega
  clear hr
  go_enter Tryd.func65, Tryd.ntmps65
  go_wp2_with fail
  go_ret
  exact ⟨rfl, Bel.refl _⟩
set_option maxHeartbeats 1000000 in
theorem isNode_8a (n v c : Int) (A : Option Addr) (len cap b o : Nat) (w : World) (a1 : w.cell? ⟨b, o, none⟩ = some (.int .u8 8)) (a2 : w.cell? ⟨b, o + 1, none⟩ = some (.int .i64 n)) (a3 : w.cell? ⟨b, o + 2, none⟩ = some (.int .i64 v)) (a4 : w.cell? ⟨b, o + 3, none⟩ = some (.int .u8 c)) (a5 : w.cell? ⟨b, o + 4, none⟩ = some (.slice A len cap)) (hM : (decide (v = 0) && decide (c = 0)) = true) (hn : n < 0) :
    Calls Tryd.prog 65 #[.pointer (some ⟨b, o, none⟩)] w (NodeIs (nodeB 8 n v c len) w) := by
  have hr : nodeB 8 n v c len = false := by simp [nodeB, show ¬ 0 ≤ n by omega]
  rw [hr]
  have qm := fun W => mu_eql 9998 v c 0 0 W
  have d0 : decide (0 ≤ n) = false := by simp; omega
  clear hr
  go_enter Tryd.func65, Tryd.ntmps65
  go_wp2_with fail
  go_ret
  exact ⟨rfl, Bel.refl _⟩
set_option maxHeartbeats 1000000 in
theorem isNode_8b (n v c : Int) (A : Option Addr) (len cap b o : Nat) (w : World) (a1 : w.cell? ⟨b, o, none⟩ = some (.int .u8 8)) (a2 : w.cell? ⟨b, o + 1, none⟩ = some (.int .i64 n)) (a3 : w.cell? ⟨b, o + 2, none⟩ = some (.int .i64 v)) (a4 : w.cell? ⟨b, o + 3, none⟩ = some (.int .u8 c)) (a5 : w.cell? ⟨b, o + 4, none⟩ = some (.slice A len cap)) (hM : (decide (v = 0) && decide (c = 0)) = true) (hn : 0 ≤ n ∧ 40 ≤ n) :
    Calls Tryd.prog 65 #[.pointer (some ⟨b, o, none⟩)] w (NodeIs (nodeB 8 n v c len) w) := by
  have hr : nodeB 8 n v c len = false := by simp [nodeB, show ¬ n < 40 by omega]
  rw [hr]
  have qm := fun W => mu_eql 9998 v c 0 0 W
  have d0 : decide (0 ≤ n) = true := by simp; omega
  have d1 : decide (n < 40) = false := by simp; omega
  clear hr
  go_enter Tryd.func65, Tryd.ntmps65
  go_wp2_with fail
  go_ret
  exact ⟨rfl, Bel.refl _⟩
set_option maxHeartbeats 1000000 in
theorem isNode_8L (n v c : Int) (A : Option Addr) (len cap b o : Nat) (w : World) (a1 : w.cell? ⟨b, o, none⟩ = some (.int .u8 8)) (a2 : w.cell? ⟨b, o + 1, none⟩ = some (.int .i64 n)) (a3 : w.cell? ⟨b, o + 2, none⟩ = some (.int .i64 v)) (a4 : w.cell? ⟨b, o + 3, none⟩ = some (.int .u8 c)) (a5 : w.cell? ⟨b, o + 4, none⟩ = some (.slice A len cap)) (hM : (decide (v = 0) && decide (c = 0)) = true) (hn : 0 ≤ n ∧ n < 40) (hl : 4 < len) :
    Calls Tryd.prog 65 #[.pointer (some ⟨b, o, none⟩)] w (NodeIs (nodeB 8 n v c len) w) := by
  have hr : nodeB 8 n v c len = false := by simp [nodeB, show ¬ len ≤ 4 by omega]
  rw [hr]
  have qm := fun W => mu_eql 9998 v c 0 0 W
  have d0 : decide (0 ≤ n) = true := by simp; omega
  have d1 : decide (n < 40) = true := by simp; omega
  have dl : decide ((len : Int) ≤ 4) = false := by simp; omega
  clear hr
  go_enter Tryd.func65, Tryd.ntmps65
  go_wp2_with fail
  go_ret
  exact ⟨rfl, Bel.refl _⟩
set_option maxHeartbeats 1000000 in
theorem isNode_8y (n v c : Int) (A : Option Addr) (len cap b o : Nat) (w : World) (a1 : w.cell? ⟨b, o, none⟩ = some (.int .u8 8)) (a2 : w.cell? ⟨b, o + 1, none⟩ = some (.int .i64 n)) (a3 : w.cell? ⟨b, o + 2, none⟩ = some (.int .i64 v)) (a4 : w.cell? ⟨b, o + 3, none⟩ = some (.int .u8 c)) (a5 : w.cell? ⟨b, o + 4, none⟩ = some (.slice A len cap)) (hM : (decide (v = 0) && decide (c = 0)) = true) (hn : 0 ≤ n ∧ n < 40) (hl : len ≤ 4) :
    Calls Tryd.prog 65 #[.pointer (some ⟨b, o, none⟩)] w (NodeIs (nodeB 8 n v c len) w) := by
  have hr : nodeB 8 n v c len = true := by simp [nodeB, hM, hn.1, hn.2, hl]
  rw [hr]
  have qm := fun W => mu_eql 9998 v c 0 0 W
  have d0 : decide (0 ≤ n) = true := by simp; omega
  have d1 : decide (n < 40) = true := by simp; omega
  have dl : decide ((len : Int) ≤ 4) = true := by simp; omega
  clear hr
  go_enter Tryd.func65, Tryd.ntmps65
  go_wp2_with fail
  go_ret
  exact ⟨rfl, Bel.refl _⟩
theorem isNode_any (k n v c : Int) (A : Option Addr) (len cap b o : Nat) (w : World) (a1 : w.cell? ⟨b, o, none⟩ = some (.int .u8 k)) (a2 : w.cell? ⟨b, o + 1, none⟩ = some (.int .i64 n)) (a3 : w.cell? ⟨b, o + 2, none⟩ = some (.int .i64 v)) (a4 : w.cell? ⟨b, o + 3, none⟩ = some (.int .u8 c)) (a5 : w.cell? ⟨b, o + 4, none⟩ = some (.slice A len cap)) :
    Calls Tryd.prog 65 #[.pointer (some ⟨b, o, none⟩)] w (NodeIs (nodeB k n v c len) w) := by
  by_cases h7 : k = 7
  · subst h7
    by_cases hn : n = 0
    · by_cases hl : len = 2
      · exact isNode_7y n v c A len cap b o w a1 a2 a3 a4 a5 hn hl
      · exact isNode_7L n v c A len cap b o w a1 a2 a3 a4 a5 hn hl
    · exact isNode_7N n v c A len cap b o w a1 a2 a3 a4 a5 hn
  cases hM : (decide (v = 0) && decide (c = 0))
  · by_cases h1 : k = 1
    · subst h1
      exact isNode_1M n v c A len cap b o w a1 a2 a3 a4 a5 hM
    by_cases h2 : k = 2
    · subst h2
      exact isNode_2M n v c A len cap b o w a1 a2 a3 a4 a5 hM
    by_cases h3 : k = 3
    · subst h3
      exact isNode_3M n v c A len cap b o w a1 a2 a3 a4 a5 hM
    by_cases h4 : k = 4
    · subst h4
      exact isNode_4M n v c A len cap b o w a1 a2 a3 a4 a5 hM
    by_cases h5 : k = 5
    · subst h5
      exact isNode_5M n v c A len cap b o w a1 a2 a3 a4 a5 hM
    by_cases h6 : k = 6
    · subst h6
      exact isNode_6M n v c A len cap b o w a1 a2 a3 a4 a5 hM
    by_cases h8 : k = 8
    · subst h8
      exact isNode_8M n v c A len cap b o w a1 a2 a3 a4 a5 hM
    exact isNode_xM k n v c A len cap b o w a1 a2 a3 a4 a5 ⟨h1, h2, h3, h4, h5, h6, h7, h8⟩ hM
  · by_cases h1 : k = 1
    · subst h1
      by_cases g0 : n < 0
      · exact isNode_1a n v c A len cap b o w a1 a2 a3 a4 a5 hM g0
      · by_cases g1 : n < 1048576
        · by_cases hl : len = 0
          · exact isNode_1y n v c A len cap b o w a1 a2 a3 a4 a5 hM ⟨by omega, g1⟩ hl
          · exact isNode_1L n v c A len cap b o w a1 a2 a3 a4 a5 hM ⟨by omega, g1⟩ (by omega)
        · exact isNode_1b n v c A len cap b o w a1 a2 a3 a4 a5 hM ⟨by omega, by omega⟩
    by_cases h2 : k = 2
    · subst h2
      by_cases hn : n = 0
      · by_cases hl : len = 0
        · exact isNode_2y n v c A len cap b o w a1 a2 a3 a4 a5 hM hn hl
        · exact isNode_2L n v c A len cap b o w a1 a2 a3 a4 a5 hM hn hl
      · exact isNode_2N n v c A len cap b o w a1 a2 a3 a4 a5 hM hn
    by_cases h3 : k = 3
    · subst h3
      by_cases hn : n = 0
      · by_cases hl : len = 0
        · exact isNode_3y n v c A len cap b o w a1 a2 a3 a4 a5 hM hn hl
        · exact isNode_3L n v c A len cap b o w a1 a2 a3 a4 a5 hM hn hl
      · exact isNode_3N n v c A len cap b o w a1 a2 a3 a4 a5 hM hn
    by_cases h4 : k = 4
    · subst h4
      by_cases hn : n = 0
      · by_cases hl : len = 0
        · exact isNode_4y n v c A len cap b o w a1 a2 a3 a4 a5 hM hn hl
        · exact isNode_4L n v c A len cap b o w a1 a2 a3 a4 a5 hM hn hl
      · exact isNode_4N n v c A len cap b o w a1 a2 a3 a4 a5 hM hn
    by_cases h5 : k = 5
    · subst h5
      by_cases hn : n = 0
      · by_cases hl : len = 0
        · exact isNode_5y n v c A len cap b o w a1 a2 a3 a4 a5 hM hn hl
        · exact isNode_5L n v c A len cap b o w a1 a2 a3 a4 a5 hM hn hl
      · exact isNode_5N n v c A len cap b o w a1 a2 a3 a4 a5 hM hn
    by_cases h6 : k = 6
    · subst h6
      by_cases hn : n = 0
      · by_cases hl : len = 1
        · exact isNode_6y n v c A len cap b o w a1 a2 a3 a4 a5 hM hn hl
        · exact isNode_6L n v c A len cap b o w a1 a2 a3 a4 a5 hM hn hl
      · exact isNode_6N n v c A len cap b o w a1 a2 a3 a4 a5 hM hn
    by_cases h8 : k = 8
    · subst h8
      by_cases g0 : n < 0
      · exact isNode_8a n v c A len cap b o w a1 a2 a3 a4 a5 hM g0
      · by_cases g1 : n < 40
        · by_cases hl : len ≤ 4
          · exact isNode_8y n v c A len cap b o w a1 a2 a3 a4 a5 hM ⟨by omega, g1⟩ hl
          · exact isNode_8L n v c A len cap b o w a1 a2 a3 a4 a5 hM ⟨by omega, g1⟩ (by omega)
        · exact isNode_8b n v c A len cap b o w a1 a2 a3 a4 a5 hM ⟨by omega, by omega⟩
    by_cases hn : n = 0
    · exact isNode_xx k n v c A len cap b o w a1 a2 a3 a4 a5 ⟨h1, h2, h3, h4, h5, h6, h7, h8⟩ hM hn
    · exact isNode_xN k n v c A len cap b o w a1 a2 a3 a4 a5 ⟨h1, h2, h3, h4, h5, h6, h7, h8⟩ hM hn
end Go.Proofs.YtblgligagngpfaaDoor.Mu
namespace Go.Proofs.YtblgligagngpfaaDoor.Mu
open Go.ChangeShapes Go.WideShapes Go.ChangeAt Go.RowKit Go.Shelf

attribute [local go_sem] Oper.semAt_some
set_option linter.unusedVariables false

/-- How many nodes were gone to, and whether they all are nodes of types. -/
def mayN (s : Int × Bool) (k n v c : Int) (len : Nat) : (Int × Bool) × Bool := ((wrap64 (s.1 + 1), s.2 && nodeB k n v c len), decide (wrap64 (s.1 + 1) ≤ 300))
def MayI (cb : Nat) (s : Int × Bool) (w : World) : Prop := w.heap[cb]? = some (.cells #[.int .i64 s.1] 3 (0, 0)) ∧ w.heap[cb + 1]? = some (.cells #[.bool s.2] 4 (0, 0))
theorem one_of {w : World} {g : Nat} {t : TypeId} {x : Value} (h : w.heap[g]? = some (.cells #[x] t (0, 0))) : w.cell? ⟨g, 0, none⟩ = some x ∧ w.frozen? ⟨g, 0, none⟩ = false := by simp [World.cell?, World.frozen?, h]
def MayPost (cb : Nat) (s : Int × Bool) (r : (Int × Bool) × Bool) (w : World) (e : Ending) (w1 : World) : Prop := e = .returned (.bool r.2) ∧ MayI cb r.1 w1 ∧ Fr (fun j => j = cb ∨ j = cb + 1) w w1 (fun j => j = cb ∨ j = cb + 1)
theorem put_one {w : World} {g : Nat} {t : TypeId} {x v : Value} (h : w.heap[g]? = some (.cells #[x] t (0, 0))) : (w.setCell ⟨g, 0, none⟩ v).heap[g]? = some (.cells #[v] t (0, 0)) := by rw [heap_setCell_same w g 0 _ _ v h]; rfl
set_option maxHeartbeats 1000000 in
theorem may_closure (cb : Nat) (s : Int × Bool) (k n v c : Int) (A : Option Addr) (len cap b o : Nat) (w : World) (hI : MayI cb s w) (a1 : w.cell? ⟨b, o, none⟩ = some (.int .u8 k)) (a2 : w.cell? ⟨b, o + 1, none⟩ = some (.int .i64 n)) (a3 : w.cell? ⟨b, o + 2, none⟩ = some (.int .i64 v)) (a4 : w.cell? ⟨b, o + 3, none⟩ = some (.int .u8 c)) (a5 : w.cell? ⟨b, o + 4, none⟩ = some (.slice A len cap)) (hb : b ≠ cb ∧ b ≠ cb + 1) :
    Calls Tryd.prog 64 #[.pointer (some ⟨b, o, none⟩), .pointer (some ⟨cb, 0, none⟩), .pointer (some ⟨cb + 1, 0, none⟩)] w (MayPost cb s (mayN s k n v c len) w) := by
  obtain ⟨x, y⟩ := s
  obtain ⟨h0, h1⟩ := hI
  obtain ⟨c0, f0⟩ := one_of h0
  obtain ⟨c1, f1⟩ := one_of h1
  have q0 := put_one (v := .int .i64 (wrap64 (x + 1))) h0
  have ho : ∀ j, j ≠ cb → (w.setCell ⟨cb, 0, none⟩ (.int .i64 (wrap64 (x + 1)))).heap[j]? = w.heap[j]? := fun j hj => heap_setCell_other w _ j _ (fun e => hj e)
  have q1 : (w.setCell ⟨cb, 0, none⟩ (.int .i64 (wrap64 (x + 1)))).heap[cb + 1]? = some (.cells #[.bool y] 4 (0, 0)) := (ho _ (by omega)).trans h1
  have hs : (w.setCell ⟨cb, 0, none⟩ (.int .i64 (wrap64 (x + 1)))).heap.size = w.heap.size := by simp [World.setCell]
  have hcl : cb + 1 < w.heap.size := (Array.getElem?_eq_some_iff.1 h1).1
  have HND : Hid (∀ W, (∀ x, W.cell? ⟨b, x, none⟩ = w.cell? ⟨b, x, none⟩) → Calls Tryd.prog 65 #[.pointer (some ⟨b, o, none⟩)] W (NodeIs (nodeB k n v c len) W)) := Lib.hid fun W hW => isNode_any k n v c A len cap b o W ((hW _).trans a1) ((hW _).trans a2) ((hW _).trans a3) ((hW _).trans a4) ((hW _).trans a5)
  have HBC : Hid (∀ x', (w.setCell ⟨cb, 0, none⟩ (.int .i64 (wrap64 (x + 1)))).cell? ⟨b, x', none⟩ = w.cell? ⟨b, x', none⟩) := Lib.hid fun x' => World.cell?_of_block (a := ⟨b, x', none⟩) (ho b hb.1)
  obtain ⟨nb, hnb⟩ : ∃ nb, nb = nodeB k n v c len := ⟨_, rfl⟩
  have HR : Hid (mayN (x, y) k n v c len = ((wrap64 (x + 1), y && nb), decide (wrap64 (x + 1) ≤ 300))) := Lib.hid (by rw [hnb]; rfl)
  rw [← hnb] at HND
  obtain ⟨x1, hx1⟩ : ∃ x1, x1 = wrap64 (x + 1) := ⟨_, rfl⟩
  rw [← hx1] at HR q0 q1 ho hs HBC
  have HX1 := Lib.hid hx1
  have HO := Lib.hid ho
  have Q0 := Lib.hid q0
  have Q1 := Lib.hid q1
  have HS := Lib.hid hs
  obtain ⟨d0, g0⟩ := one_of q0
  obtain ⟨d1, g1⟩ := one_of q1
  obtain ⟨r, hr⟩ : ∃ r, r = mayN (x, y) k n v c len := ⟨_, rfl⟩
  rw [← hr]
  rw [← hr] at HR
  clear h0 h1 a1 a2 a3 a4 a5 hnb q0 q1 ho hs hr hx1
  go_enter Tryd.func64, Tryd.ntmps64
  go_upto_region 2 with fail
  rw [← HX1.out]
  obtain ⟨wz, hwz⟩ : ∃ wz, wz = w.setCell ⟨cb, 0, none⟩ (.int .i64 x1) := ⟨_, rfl⟩
  rw [← hwz]
  rw [← hwz] at HO Q0 Q1 HS HBC d0 g0 d1 g1
  have HOS : Hid (wz.os = w.os ∧ wz.tape = w.tape ∧ wz.output = w.output) := Lib.hid (by rw [hwz]; exact ⟨rfl, rfl, rfl⟩)
  have HC := Lib.hid (HND.out wz HBC.out)
  clear hwz c0 f0 c1 f1 HND HBC
  have fin : ∀ (wq : World) (z : Bool), Bel wz wq → z = (y && nb) → MayPost cb (x, y) r w (.returned (.bool (decide (x1 ≤ 300)))) (wq.setCell ⟨cb + 1, 0, none⟩ (.bool z)) := fun wq z hb hz => by
    have e1 : r.2 = decide (x1 ≤ 300) := by rw [HR.out]
    have e2 : r.1 = (x1, z) := by rw [HR.out, hz]
    have hq1 := hb.blk Q1.out
    have ho2 : ∀ j, j ≠ cb + 1 → (wq.setCell ⟨cb + 1, 0, none⟩ (.bool z)).heap[j]? = wq.heap[j]? := fun j hj => heap_setCell_other wq _ j _ (fun e => hj e)
    refine ⟨by rw [e1], ⟨by rw [e2]; exact (ho2 cb (by omega)).trans (hb.blk Q0.out), by rw [e2]; exact put_one hq1⟩, hb.os.trans HOS.out.1, hb.tape.trans HOS.out.2.1, hb.output.trans HOS.out.2.2, by have := hb.size; have := HS.out; simp [World.setCell]; omega, fun j hj hn => ?_, fun j h => .inl h⟩
    have h1 : j ≠ cb := fun e => hn (.inl e)
    have h2 : j ≠ cb + 1 := fun e => hn (.inr e)
    exact (ho2 j h2).trans ((hb.block j (by have := HS.out; omega)).trans (HO.out j h1))
  have HFIN := Lib.hid fin
  clear fin
  cases y
  · go_wp2_with fail
    go_ret
    exact HFIN.out wz false (Bel.refl _) rfl
  · go_wp2_with fail
    refine HC.out.mono ?_
    rintro e wq ⟨rfl, hb⟩
    have d0' := (hb.blk Q0.out)
    obtain ⟨e0, _⟩ := one_of d0'
    obtain ⟨e1, g1'⟩ := one_of (hb.blk Q1.out)
    have HB := Lib.hid hb
    clear hb d0'
    cases nb
    · go_wp2_with fail
      go_ret
      exact HFIN.out wq false HB.out rfl
    · go_wp2_with fail
      go_ret
      exact HFIN.out wq true HB.out rfl
theorem may_read (cb : Nat) (Ok : Nat → Prop) : ReadC Tryd.prog 64 #[.pointer (some ⟨cb, 0, none⟩), .pointer (some ⟨cb + 1, 0, none⟩)] none mayN noU (fun _ _ _ _ _ => True) Ok (fun s m w => MayI cb s w ∧ m = fun j => j = cb ∨ j = cb + 1) where
  keep := fun s m w w' h _ hk _ => ⟨⟨(hk cb (by rw [h.2]; exact .inl rfl)).trans h.1.1, (hk (cb + 1) (by rw [h.2]; exact .inr rfl)).trans h.1.2⟩, h.2⟩
  lt := fun s m w h j hj => by
    rw [h.2] at hj
    have h1 := (Array.getElem?_eq_some_iff.1 h.1.1).1
    have h2 := (Array.getElem?_eq_some_iff.1 h.1.2).1
    rcases hj with rfl | rfl
    · exact h1
    · exact h2
  node := fun s m w b o k n v c A len cap hI _ a1 a2 a3 a4 a5 hm => by
    obtain ⟨hI, rfl⟩ := hI
    refine (may_closure cb s k n v c A len cap b o w hI a1 a2 a3 a4 a5 ⟨fun e => hm (.inl e), fun e => hm (.inr e)⟩).mono ?_
    rintro e w1 ⟨h1, h2, h3⟩
    exact ⟨h1, _, ⟨h2, rfl⟩, h3⟩
  mu := fun gm cm e => by cases e
/-- All are nodes of types. -/
def Fo.well : Fo → Bool
  | .nil => true
  | .cons k n v c kids rest => nodeB k n v c kids.len && (kids.well && rest.well)
theorem may_run : ∀ (f : Fo) (x : Int) (y : Bool), 0 ≤ x → x + f.size ≤ 4611686018427387904 → (x ≤ (runF mayN noU false f none (x, y)).1) ∧ (x + f.size ≤ 300 → runF mayN noU false f none (x, y) = (x + f.size, y && f.well)) ∧ (300 < x + f.size → 300 < (runF mayN noU false f none (x, y)).1) ∧ (runF mayN noU false f none (x, y)).1 ≤ x + f.size
  | .nil, x, y, _, _ => by
    simp only [runF, Fo.size, Fo.well, Bool.and_true]
    refine ⟨Int.le_refl _, fun _ => ?_, fun h => ?_, by omega⟩
    · rw [show x + ((0 : Nat) : Int) = x by omega]
    · omega
  | .cons k n v c kids rest, x, y, h0, h1 => by
    simp only [Fo.size] at h1 ⊢
    have hw : wrap64 (x + 1) = x + 1 := wrap64_id (by omega) (by omega)
    simp only [runF, mayN, hw, Bool.false_eq_true, and_false, if_false, decide_eq_true_eq, Fo.well]
    by_cases hx : x + 1 ≤ 300
    · rw [if_pos hx]
      obtain ⟨k1, k2, k3, k4⟩ := may_run kids (x + 1) (y && nodeB k n v c kids.len) (by omega) (by omega)
      obtain ⟨q, hq⟩ : ∃ q, q = runF mayN noU false kids none (x + 1, y && nodeB k n v c kids.len) := ⟨_, rfl⟩
      rw [← hq] at k1 k2 k3 k4 ⊢
      obtain ⟨q1, q2⟩ := q
      simp only at k1 k3 k4
      obtain ⟨r1, r2, r3, r4⟩ := may_run rest q1 q2 (by omega) (by omega)
      refine ⟨by omega, fun h => ?_, fun h => ?_, by omega⟩
      · have e := k2 (by omega)
        injection e with e1 e2
        rw [r2 (by omega), e1, e2]
        simp only [Bool.and_assoc, Prod.mk.injEq, and_true]
        omega
      · by_cases hk : x + 1 + kids.size ≤ 300
        · have e := k2 hk
          injection e with e1 e2
          exact r3 (by omega)
        · have := k3 (by omega)
          omega
    · rw [if_neg hx]
      obtain ⟨r1, r2, r3, r4⟩ := may_run rest (x + 1) (y && nodeB k n v c kids.len) (by omega) (by omega)
      exact ⟨by omega, fun h => by omega, fun h => by omega, by omega⟩
def tyErr (f : Fo) : Int := if 300 < f.size then 3 else if f.well = true then 0 else 2
set_option maxRecDepth 100000 in
set_option maxHeartbeats 1000000 in
theorem tmay_any (k n v c : Int) (A : Option Addr) (len cap : Nat) (kids : Fo) (w : World) (h : KidsAt w (Old w) A len cap kids) (hsz : kids.size ≤ 1400000) :
    Calls Tryd.prog 50 #[.agg #[.int .u8 k, .int .i64 n, .int .i64 v, .int .u8 c, .slice A len cap]] w fun e w' => e = .returned (.int .i64 (tyErr (.cons k n v c kids .nil))) ∧ Bel w w' := by
  have H := Lib.hid h
  clear h
  go_enter Tryd.func50, Tryd.ntmps50
  go_wp2_with fail
  obtain ⟨q1, q2, q3⟩ := blk3 w (.cells #[.int .u8 k, .int .i64 n, .int .i64 v, .int .u8 c, .slice A len cap] 27) (.cells #[.int .i64 0] 3) (.cells #[.bool true] 4)
  have hb2 : Bel w (((w.alloc (.cells #[.int .u8 k, .int .i64 n, .int .i64 v, .int .u8 c, .slice A len cap] 27)).alloc (.cells #[.int .i64 0] 3)).alloc (.cells #[.bool true] 4)) := (((Bel.refl w).alloc _).alloc _).alloc _
  have hs2 : (((w.alloc (.cells #[.int .u8 k, .int .i64 n, .int .i64 v, .int .u8 c, .slice A len cap] 27)).alloc (.cells #[.int .i64 0] 3)).alloc (.cells #[.bool true] 4)).heap.size = w.heap.size + 3 := by simp
  obtain ⟨w2, hw2⟩ : ∃ w2, w2 = ((w.alloc (.cells #[.int .u8 k, .int .i64 n, .int .i64 v, .int .u8 c, .slice A len cap] 27)).alloc (.cells #[.int .i64 0] 3)).alloc (.cells #[.bool true] 4) := ⟨_, rfl⟩
  rw [← hw2] at q1 q2 q3 hb2 hs2 ⊢
  have hk2 : KidsAt w2 (fun j => j ≤ w.heap.size) A len cap kids := (H.out.keep fun _ hj => hb2.block _ hj).wide fun _ hj => Nat.le_of_lt hj
  refine (through_read (M := none) (may_read (w.heap.size + 1) _) (enters_of Tryd.func64 (by kernel_rfl) rfl) (fun _ _ e => by cases e) k n v c kids w.heap.size 0 w2 _ (0, true) (Ok := fun j => j ≤ w.heap.size) (box_fo q1 hk2) (Fo.all_true _) (Nat.le_refl _) ⟨⟨q2, q3⟩, rfl⟩ (fun j hj => ⟨by omega, fun e => by rcases e with e | e <;> omega⟩) hsz).mono ?_
  rintro e w3 ⟨rfl, m3, ⟨hI3, _⟩, hfr⟩
  obtain ⟨r1, r2, r3, r4⟩ := may_run (.cons k n v c kids .nil) 0 true (Int.le_refl _) (by simp only [Fo.size]; omega)
  have hB3 : Bel w w3 := ⟨hfr.os.trans hb2.os, hfr.tape.trans hb2.tape, hfr.output.trans hb2.output, Nat.le_trans hb2.size hfr.size, fun j hj => (hfr.keep j (by omega) (fun e => by rcases e with e | e <;> omega)).trans (hb2.block j hj)⟩
  have HB3 := Lib.hid hB3
  obtain ⟨f, hf⟩ : ∃ f, f = Fo.cons k n v c kids .nil := ⟨_, rfl⟩
  rw [← hf] at r1 r2 r3 r4
  have hI4 : MayI (w.heap.size + 1) (runF mayN noU false f none (0, true)) w3 := by rw [hf]; exact hI3
  have HF := Lib.hid hf
  by_cases hsz3 : 300 < f.size
  · have hr := r3 (by omega)
    have he : tyErr f = 3 := by unfold tyErr; rw [if_pos hsz3]
    have HE := Lib.hid he
    obtain ⟨x, hx⟩ : ∃ x, x = (runF mayN noU false f none (0, true)).1 := ⟨_, rfl⟩
    have c3 : w3.cell? ⟨w.heap.size + 1, 0, none⟩ = some (.int .i64 x) := by rw [hx]; exact (one_of hI4.1).1
    rw [← hx] at hr
    clear q1 q2 q3 hb2 hs2 hw2 hk2 hI3 hfr r1 r2 r3 r4 hB3 hf hI4 hsz3 he hx
    go_wp2_with fail
    go_ret
    exact ⟨by rw [← HF.out, HE.out]; rfl, HB3.out⟩
  · have hr := r2 (by omega)
    rw [hr] at hI4
    obtain ⟨i1, i2⟩ := hI4
    have c3 : w3.cell? ⟨w.heap.size + 1, 0, none⟩ = some (.int .i64 (0 + f.size)) := (one_of i1).1
    rw [Int.zero_add] at c3
    have c4 : w3.cell? ⟨w.heap.size + 1 + 1, 0, none⟩ = some (.bool f.well) := by have := (one_of i2).1; simpa using this
    have d3 : decide ((300 : Int) < (f.size : Int)) = false := by simp; omega
    have HE : Hid (tyErr f = if f.well = true then 0 else 2) := Lib.hid (by unfold tyErr; rw [if_neg hsz3])
    obtain ⟨z, hz⟩ : ∃ z, z = (f.size : Int) := ⟨_, rfl⟩
    obtain ⟨y, hy⟩ : ∃ y, y = f.well := ⟨_, rfl⟩
    rw [← hz] at c3 d3
    rw [← hy] at c4 HE
    clear q1 q2 q3 hb2 hs2 hw2 hk2 hI3 hfr r1 r2 r3 r4 hB3 hf i1 i2 hsz3 hr hz hy
    cases y
    · go_wp2_with fail
      go_ret
      exact ⟨by rw [← HF.out, HE.out]; rfl, HB3.out⟩
    · go_wp2_with fail
      go_ret
      exact ⟨by rw [← HF.out, HE.out]; rfl, HB3.out⟩
end Go.Proofs.YtblgligagngpfaaDoor.Mu

