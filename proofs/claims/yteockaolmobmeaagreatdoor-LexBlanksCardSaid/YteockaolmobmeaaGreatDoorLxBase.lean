/-
  What layer 1's functions come to, as plain functions on numbers, and the laws between them, by the cases that there are. Nothing of the translation is used here.
  What layer 2's functions come to, as plain functions on numbers and lists, and what follows of them. Nothing of the translation is used here.
  Words for memory: a slice value that reads as a list of integers, nil and empty ones let in; what a call leaves as it was.
  append of a slice of integers, nil and empty ones let in, onto a slice of the call's own: one way through for all of them.
  append of one element that stands in a block of its own, onto a slice of the call's own; a row of strings.
-/
import Derived.WalkKit
import Derived.Laws.BitsAllLaws
import Derived.Below
import Derived.Calls
import Derived.Laws.OwnMore
import Derived.Deep.AppendLies
import Derived.Deep.Draws
import Derived.Lib.Hide
import Derived.Laws.AppendOwn
import Derived.OwnWalk
namespace Go.Proofs.YteockaolmobmeaaGreatDoor.Mu
open Go.RowKit

/-- The set of a use. -/
def usedF (u : Int) : Int := if u = 0 then 1 else if u = 1 then 2 else if u = 2 then 3 else 7
/-- One of the three multiplicities. -/
def knownF (m : Int) : Int := if m ≤ 1 then 1 else if m = 2 then 2 else 3
/-- The set of a multiplicity. -/
def letBeF (m : Int) : Int := if m ≤ 1 then 2 else if m = 2 then 3 else 7
def leastF (t : Int) : Int :=
  if bits .andNot .u8 t (usedF 0) == 0 then 0 else if bits .andNot .u8 t (usedF 1) == 0 then 1 else if bits .andNot .u8 t (usedF 2) == 0 then 2 else 3
def addF (a b : Int) : Int :=
  let t1 := if bits .and .u8 a 1 != 0 then bits .or .u8 0 b else 0
  let t2 := if bits .and .u8 b 1 != 0 then bits .or .u8 t1 a else t1
  if bits .andNot .u8 a 1 != 0 && bits .andNot .u8 b 1 != 0 then bits .or .u8 t2 4 else t2
def joinT (l : List Int) : Int := l.foldl (fun t u => bits .or .u8 t (usedF u)) 0
def sumT (l : List Int) : Int := l.foldl (fun t u => addF t (usedF u)) 1
def joinF (l : List Int) : Int := leastF (joinT l)
def sumF (l : List Int) : Int := leastF (sumT l)
def scaleF (m u : Int) : Int :=
  let t1 := if bits .and .u8 (letBeF m) 1 != 0 then bits .or .u8 0 1 else 0
  let t2 := if bits .and .u8 (letBeF m) 2 != 0 then bits .or .u8 t1 (usedF u) else t1
  leastF (if bits .and .u8 (letBeF m) 4 != 0 then bits .or .u8 t2 (addF (usedF u) (usedF u)) else t2)
def fitsF (u m : Int) : Bool := bits .andNot .u8 (usedF u) (letBeF m) == 0
def leastMF (u : Int) : Int := if fitsF u 1 then 1 else if fitsF u 2 then 2 else 3
/-- Does a use let be so many times? -/
def letsF (u n : Int) : Bool := if u = 0 then n == 0 else if u = 1 then n == 1 else if u = 2 then decide (n ≤ 1) else true

/-- The use that another one is as. -/
def cu (u : Int) : Int := if u = 0 then 0 else if u = 1 then 1 else if u = 2 then 2 else 3
theorem cu_cases (u : Int) : cu u = 0 ∨ cu u = 1 ∨ cu u = 2 ∨ cu u = 3 := by unfold cu; (repeat' split) <;> omega
theorem cm_cases (m : Int) : knownF m = 1 ∨ knownF m = 2 ∨ knownF m = 3 := by unfold knownF; (repeat' split) <;> omega
theorem usedF_cu (u : Int) : usedF u = usedF (cu u) := by
  unfold cu; split
  · subst_vars; rfl
  split
  · subst_vars; rfl
  split
  · subst_vars; rfl
  · simp [usedF, *]
theorem letBeF_cm (m : Int) : letBeF m = letBeF (knownF m) := by
  unfold letBeF knownF; repeat' split
  all_goals first | rfl | omega
theorem letsF_cu (u n : Int) : letsF u n = letsF (cu u) n := by
  unfold cu; split
  · subst_vars; rfl
  split
  · subst_vars; rfl
  split
  · subst_vars; rfl
  · simp [letsF, *]
theorem fitsF_c (u m : Int) : fitsF u m = fitsF (cu u) (knownF m) := by unfold fitsF; rw [usedF_cu u, letBeF_cm m]
theorem leastMF_c (u : Int) : leastMF u = leastMF (cu u) := by unfold leastMF fitsF; rw [usedF_cu u]
theorem scaleF_c (m u : Int) : scaleF m u = scaleF (knownF m) (cu u) := by unfold scaleF; rw [usedF_cu u, letBeF_cm m]
theorem joinF_c (a b : Int) : joinF [a, b] = joinF [cu a, cu b] := by simp only [joinF, joinT, List.foldl]; rw [usedF_cu a, usedF_cu b]
theorem sumF_c (a b : Int) : sumF [a, b] = sumF [cu a, cu b] := by simp only [sumF, sumT, List.foldl]; rw [usedF_cu a, usedF_cu b]
/-- All four uses at once; all three multiplicities. -/
theorem all_use {p : Int → Prop} (u : Int) (h : p 0 ∧ p 1 ∧ p 2 ∧ p 3) : p (cu u) := by
  obtain ⟨a, b, c, d⟩ := h
  rcases cu_cases u with e | e | e | e <;> rw [e] <;> assumption
theorem all_mult {p : Int → Prop} (m : Int) (h : p 1 ∧ p 2 ∧ p 3) : p (knownF m) := by
  obtain ⟨a, b, c⟩ := h
  rcases cm_cases m with e | e | e <;> rw [e] <;> assumption
theorem cu_mem (u : Int) : cu u ∈ ([0, 1, 2, 3] : List Int) := by rcases cu_cases u with e | e | e | e <;> rw [e] <;> decide
theorem cm_mem (m : Int) : knownF m ∈ ([1, 2, 3] : List Int) := by rcases cm_cases m with e | e | e <;> rw [e] <;> decide
theorem bne_of {a b : Int} (h : a = b) : (a != b) = false := by simp [h]
theorem beq_of {a b : Int} (h : a = b) : (a == b) = true := by simp [h]
theorem cu_split (u : Int) : (u = 0 ∧ cu u = 0) ∨ (u = 1 ∧ cu u = 1) ∨ (u = 2 ∧ cu u = 2) ∨ (u ≠ 0 ∧ u ≠ 1 ∧ u ≠ 2 ∧ cu u = 3) := by unfold cu; (repeat' split) <;> omega
theorem sum_tab (a b : Int) : sumF [a, b] = if cu a = 0 then cu b else if cu b = 0 then cu a else 3 := by
  simp only [sumF, sumT, List.foldl]
  rw [usedF_cu a, usedF_cu b]
  have ha := cu_mem a
  have hb := cu_mem b
  generalize cu a = x at *
  generalize cu b = y at *
  revert x y
  decide +kernel
theorem join_tab (a b : Int) : joinF [a, b] = if cu a = cu b then cu a else if cu a = 3 then 3 else if cu b = 3 then 3 else 2 := by
  simp only [joinF, joinT, List.foldl]
  rw [usedF_cu a, usedF_cu b]
  have ha := cu_mem a
  have hb := cu_mem b
  generalize cu a = x at *
  generalize cu b = y at *
  revert x y
  decide +kernel
theorem scale_tab (a : Int) : scaleF 1 a = cu a ∧ scaleF 2 a = (if cu a = 1 then 2 else cu a) ∧ scaleF 3 a = (if cu a = 0 then 0 else 3) := by
  simp only [scaleF]
  rw [usedF_cu a]
  have ha := cu_mem a
  generalize cu a = x at *
  revert x
  decide +kernel
end Go.Proofs.YteockaolmobmeaaGreatDoor.Mu
namespace Go.Proofs.YteockaolmobmeaaGreatDoor.Mu
open Go.RowKit

def errF (b : Bool) : Int := if b then 0 else 2
def isVarB (v : Int) : Bool := decide (0 ≤ v) && decide (v < 1048576)
def isMultB (c : Int) : Bool := decide (1 ≤ c) && decide (c ≤ 3)
def mayAt (l : List Int) (k : Nat) : Bool := isVarB (l[k]?.getD 0) && (decide (k = 0) || decide (l[k - 1]?.getD 0 < l[k]?.getD 0))
def mayVarsB (l : List Int) : Bool := (List.range l.length).all (mayAt l)
def mayB (nv : Bool) (c : Int) (l : List Int) : Bool :=
  (if nv then decide (c = 0) && decide (l.length = 0) else isMultB c && (decide (c ≠ 3) || decide (l.length = 0))) && mayVarsB l
def isB (v c : Int) : Bool := (decide (c = 0) && isVarB v) || (isMultB c && decide (v = 0))

theorem range_all_succ (p : Nat → Bool) (k : Nat) : (List.range (k + 1)).all p = ((List.range k).all p && p k) := by
  rw [List.range_succ, List.all_append]; simp
theorem mayVarsB_iff (l : List Int) : mayVarsB l = true ↔ ∀ k, k < l.length → mayAt l k = true := by
  unfold mayVarsB; simp
theorem mayVarsB_no {l : List Int} {k : Nat} (hk : k < l.length) (h : mayAt l k = false) : mayVarsB l = false := by
  rw [Bool.eq_false_iff]; intro h'
  have := (mayVarsB_iff l).1 h' k hk
  rw [h] at this; cases this
theorem mayVarsB_yes {l : List Int} (h : (List.range l.length).all (mayAt l) = true) : mayVarsB l = true := h
theorem mayAt_yes {l : List Int} {k : Nat} (hv : isVarB (l[k]?.getD 0) = true) (h : 0 < k → l[k - 1]?.getD 0 < l[k]?.getD 0) : mayAt l k = true := by
  unfold mayAt; rw [hv]
  rcases Nat.eq_zero_or_pos k with e | e
  · simp [e]
  · simp [h e]
theorem mayAt_no1 {l : List Int} {k : Nat} (hv : isVarB (l[k]?.getD 0) = false) : mayAt l k = false := by unfold mayAt; rw [hv]; rfl
theorem mayAt_no2 {l : List Int} {k : Nat} (h0 : 0 < k) (h : l[k]?.getD 0 ≤ l[k - 1]?.getD 0) : mayAt l k = false := by
  unfold mayAt
  rw [decide_eq_false (show ¬ k = 0 by omega), decide_eq_false (show ¬ l[k - 1]?.getD 0 < l[k]?.getD 0 by omega)]; simp
/-- A term as it lies in memory: its three parts, the last one a slice value. -/
structure Raw where
  nv : Bool
  c : Int
  A : Option Addr
  n : Nat
  k : Nat
def greatN (rs : List Raw) : Int := (rs.map fun r => 1 + (if 5000 < (r.n : Int) then 5000 else (r.n : Int))).sum
theorem greatN_snoc (rs : List Raw) (r : Raw) : greatN (rs ++ [r]) = greatN rs + (1 + (if 5000 < (r.n : Int) then 5000 else (r.n : Int))) := by
  simp [greatN]
theorem greatN_bd (rs : List Raw) : 0 ≤ greatN rs ∧ greatN rs ≤ rs.length * 5001 := by
  induction rs with
  | nil => simp [greatN]
  | cons r rs ih => simp only [greatN, List.map_cons, List.sum_cons, List.length_cons] at *; split <;> omega
theorem take_snoc_ {α : Type} {l : List α} {k : Nat} {x : α} (h : l[k]? = some x) : l.take (k + 1) = l.take k ++ [x] := by
  rw [List.take_add_one, h]; rfl
def greatB (rs : List Raw) : Bool := decide (5000 < greatN rs)
theorem natz (n : Nat) : ((n : Int) == 0) = decide (n = 0) := by
  rcases Nat.eq_zero_or_pos n with h | h
  · subst h; rfl
  · rw [decide_eq_false (by omega), beq_eq_false_iff_ne]; omega
theorem errF_no {b : Bool} (h : b = false) : (2 : Int) = errF b := by rw [h]; rfl
theorem errF_yes {b : Bool} (h : b = true) : (0 : Int) = errF b := by rw [h]; rfl
end Go.Proofs.YteockaolmobmeaaGreatDoor.Mu
namespace Go.Proofs.YteockaolmobmeaaGreatDoor.Mu
open Go.RowKit

/-- All that was there is as it was. -/
def Bel (w w' : World) : Prop := Below w.heap.size w w'
theorem Bel.refl (w : World) : Bel w w := Below.refl _ _
theorem Bel.on {a b c : World} (h : Bel a b) (k : Bel b c) : Bel a c := Below.trans h (Below.mono k h.size)
theorem Bel.alloc {a b : World} (h : Bel a b) (o : Obj) : Bel a (b.alloc o) := Below.alloc h h.size o
theorem Bel.set_ {a b : World} (h : Bel a b) {p : Addr} (hp : a.heap.size ≤ p.block) (v : Value) : Bel a (b.setCell p v) := Below.setCell h hp v
theorem Bel.drewN {a b : World} (h : Bel a b) (n : Nat) : Bel a (b.drewN n) := ⟨h.os, h.tape, h.output, h.size, h.block⟩
theorem Bel.drew {a b : World} (h : Bel a b) : Bel a b.drew := ⟨h.os, h.tape, h.output, h.size, h.block⟩
theorem Bel.cells {w w1 : World} (h : Bel w w1) : (∀ b o, b < w.heap.size → w1.cell? ⟨b, o, none⟩ = w.cell? ⟨b, o, none⟩) ∧ (∀ b o, b < w.heap.size → w1.frozen? ⟨b, o, none⟩ = w.frozen? ⟨b, o, none⟩) :=
  ⟨fun b o hb => h.cell (p := ⟨b, o, none⟩) hb, fun b o hb => h.frozen (p := ⟨b, o, none⟩) hb⟩
/-- From some block on nothing is promised; what lies below is as it was. -/
theorem Bel.of {a b : World} {B : Nat} (h : Below B a b) (hB : a.heap.size ≤ B) : Bel a b := Below.mono h hB

theorem cells3 {w : World} {g : Nat} {t : TypeId} {x y z : Value} (h : w.heap[g]? = some (.cells #[x, y, z] t (0, 0))) :
    w.cell? ⟨g, 0, none⟩ = some x ∧ w.cell? ⟨g, 1, none⟩ = some y ∧ w.cell? ⟨g, 2, none⟩ = some z ∧ w.frozen? ⟨g, 0, none⟩ = false ∧ w.frozen? ⟨g, 1, none⟩ = false ∧ w.frozen? ⟨g, 2, none⟩ = false := by
  simp [World.cell?, World.frozen?, h]
theorem Bel.blk {w w1 : World} (h : Bel w w1) {g : Nat} {o : Obj} (hg : w.heap[g]? = some o) : w1.heap[g]? = some o := by
  have hlt : g < w.heap.size := by
    rcases Nat.lt_or_ge g w.heap.size with h' | h'
    · exact h'
    · rw [Array.getElem?_eq_none h'] at hg; cases hg
  rw [h.block g hlt]; exact hg
theorem blk1 (w : World) (o : Obj) : (w.alloc o).heap[w.heap.size]? = some o := heap_alloc_new w o
theorem blk2 (w : World) (o o2 : Obj) : ((w.alloc o).alloc o2).heap[w.heap.size]? = some o ∧ ((w.alloc o).alloc o2).heap[w.heap.size + 1]? = some o2 := by
  refine ⟨((Bel.refl _).alloc o2).blk (blk1 w o), ?_⟩
  have := blk1 (w.alloc o) o2
  simpa using this
theorem blk3 (w : World) (o o2 o3 : Obj) : (((w.alloc o).alloc o2).alloc o3).heap[w.heap.size]? = some o ∧ (((w.alloc o).alloc o2).alloc o3).heap[w.heap.size + 1]? = some o2 ∧ (((w.alloc o).alloc o2).alloc o3).heap[w.heap.size + 2]? = some o3 := by
  have h := blk2 w o o2
  refine ⟨((Bel.refl _).alloc o3).blk h.1, ((Bel.refl _).alloc o3).blk h.2, ?_⟩
  have := blk1 ((w.alloc o).alloc o2) o3
  simpa using this

/-- A slice value, by its three parts, reads as a list of integers; its block lies below B. -/
def RI (kd : IntKind) (w : World) (B : Nat) (A : Option Addr) (n : Nat) (l : List Int) : Prop :=
  n = l.length ∧ (0 < n → ∃ b off, A = some ⟨b, off, none⟩ ∧ b < B ∧ ∀ k, k < n → w.cell? ⟨b, off + k, none⟩ = some (.int kd (l[k]?.getD 0)))

section
variable {kd : IntKind} {w w' : World} {B B' n : Nat} {A : Option Addr} {l : List Int}
theorem RI.nil_ : RI kd w B A 0 [] := ⟨rfl, fun h => absurd h (by omega)⟩
theorem RI.len (h : RI kd w B A n l) : n = l.length := h.1
theorem RI.at_ (h : RI kd w B A n l) (hn : 0 < n) : ∃ b off, A = some ⟨b, off, none⟩ ∧ b < B ∧ ∀ k, k < n → w.cell? ⟨b, off + k, none⟩ = some (.int kd (l[k]?.getD 0)) := h.2 hn
theorem RI.keep (h : RI kd w B A n l) (hk : ∀ b o, b < B → w'.cell? ⟨b, o, none⟩ = w.cell? ⟨b, o, none⟩) : RI kd w' B A n l :=
  ⟨h.1, fun hn => by
    obtain ⟨b, off, e, hb, hc⟩ := h.2 hn
    exact ⟨b, off, e, hb, fun k hk' => (hk _ _ hb).trans (hc k hk')⟩⟩
theorem RI.more (h : RI kd w B A n l) (hB : B ≤ B') : RI kd w B' A n l :=
  ⟨h.1, fun hn => by
    obtain ⟨b, off, e, hb, hc⟩ := h.2 hn
    exact ⟨b, off, e, by omega, hc⟩⟩
theorem RI.below (h : RI kd w B A n l) (hb : Below B w w') : RI kd w' B A n l := h.keep fun b o hp => hb.cell (p := ⟨b, o, none⟩) hp
theorem RI.bel (h : RI kd w w.heap.size A n l) (hb : Bel w w') : RI kd w' w'.heap.size A n l := (h.below hb).more hb.size
theorem RI.drewN (h : RI kd w B A n l) (k : Nat) : RI kd (w.drewN k) B A n l := h
theorem RI.alloc (h : RI kd w w.heap.size A n l) (o : Obj) : RI kd (w.alloc o) (w.alloc o).heap.size A n l := h.bel ((Bel.refl w).alloc o)
theorem RI.lt (h : RI kd w B A n l) (hB : B ≤ w.heap.size) : RI kd w w.heap.size A n l := h.more hB
/-- Out of a row of the call's own. -/
theorem RI.of_own {base : Nat} {e : TypeId} {c : Nat} (h : w.ownsRow base e 1 (.slice A n c) n (l.map (Value.int kd))) : RI kd w w.heap.size A n l := by
  refine ⟨by simpa using h.1.symm, fun hn => ?_⟩
  obtain ⟨g, cap, hv, _, hlt⟩ := h.form hn
  have hA : A = some ⟨g, 0, none⟩ := by injection hv
  subst hA
  refine ⟨g, 0, rfl, hlt, fun k hk => ?_⟩
  have hl : l.length = n := by simpa using h.1
  have := h.cells (g := g) rfl k (.int kd (l[k]?.getD 0)) (by simp [List.getElem?_map, List.getElem?_eq_getElem (show k < l.length by omega)])
  have e : (⟨g, 0, none⟩ : Addr).add k = ⟨g, 0 + k, none⟩ := by unfold Addr.add; split <;> simp_all
  rw [← e]; exact this
theorem RI.of_own_lt {base : Nat} {e : TypeId} {c : Nat} (h : w.ownsRow base e 1 (.slice A n c) n (l.map (Value.int kd))) (hB : ∀ k, (Value.slice A n c).ownBlock = some k → k < B) : RI kd w B A n l := by
  have h1 := RI.of_own h
  refine ⟨h1.1, fun hn => ?_⟩
  obtain ⟨b, off, e, hb, hc⟩ := h1.2 hn
  subst e
  exact ⟨b, off, rfl, hB b rfl, hc⟩
theorem RI.set_ (h : RI kd w B A n l) {p : Addr} (hp : B ≤ p.block) (v : Value) : RI kd (w.setCell p v) B A n l :=
  h.keep fun b o hb => World.cell?_setCell_other w p ⟨b, o, none⟩ v (fun e => by subst e; exact absurd hp (by simp; omega))
theorem own_same (A : Option Addr) (n c m d : Nat) : (Value.slice A n c).ownBlock = (Value.slice A m d).ownBlock := by cases A <;> rfl
/-- What is not the row's is as it was. -/
theorem far {row : Option Nat} (hg : w.grownBy w' row) {b : Nat} (hb : b < w.heap.size) (hne : some b ≠ row) : (∀ o, w'.cell? ⟨b, o, none⟩ = w.cell? ⟨b, o, none⟩) ∧ (∀ o, w'.frozen? ⟨b, o, none⟩ = w.frozen? ⟨b, o, none⟩) :=
  ⟨fun o => World.cell?_of_block (a := ⟨b, o, none⟩) (hg.block b hb hne), fun o => World.frozen?_of_block (a := ⟨b, o, none⟩) (hg.block b hb hne)⟩
/-- It tells a term, whose list reads so; below base all is as it was. -/
def GivesT (nv : Bool) (c : Int) (l : List Int) (base : Nat) (w : World) (e : Ending) (w' : World) : Prop :=
  ∃ A' n' c', e = .returned (.agg #[.bool nv, .int .u8 c, .slice A' n' c']) ∧ RI .i64 w' w'.heap.size A' n' l ∧ Below base w w'
/-- A slice value reads as a list of terms as they lie in memory. -/
def RT (w : World) (B : Nat) (A : Option Addr) (n : Nat) (rs : List Raw) : Prop :=
  n = rs.length ∧ (0 < n → ∃ b off, A = some ⟨b, off, none⟩ ∧ b < B ∧ ∀ k r, rs[k]? = some r → w.cell? ⟨b, off + k * 3, none⟩ = some (.bool r.nv) ∧ w.cell? ⟨b, off + k * 3 + 1, none⟩ = some (.int .u8 r.c) ∧ w.cell? ⟨b, off + k * 3 + 2, none⟩ = some (.slice r.A r.n r.k))
theorem RT.nil_ : RT w B A 0 [] := ⟨rfl, fun h => absurd h (by omega)⟩
theorem RT.len {rs : List Raw} (h : RT w B A n rs) : n = rs.length := h.1
theorem RT.at_ {rs : List Raw} (h : RT w B A n rs) (hn : 0 < n) : ∃ b off, A = some ⟨b, off, none⟩ ∧ b < B ∧ ∀ k r, rs[k]? = some r → w.cell? ⟨b, off + k * 3, none⟩ = some (.bool r.nv) ∧ w.cell? ⟨b, off + k * 3 + 1, none⟩ = some (.int .u8 r.c) ∧ w.cell? ⟨b, off + k * 3 + 2, none⟩ = some (.slice r.A r.n r.k) := h.2 hn
theorem RT.keep {rs : List Raw} (h : RT w B A n rs) (hk : ∀ b o, b < B → w'.cell? ⟨b, o, none⟩ = w.cell? ⟨b, o, none⟩) : RT w' B A n rs :=
  ⟨h.1, fun hn => by
    obtain ⟨b, off, e, hb, hc⟩ := h.2 hn
    exact ⟨b, off, e, hb, fun k r hr => by rw [hk _ _ hb, hk _ _ hb, hk _ _ hb]; exact hc k r hr⟩⟩
theorem RT.more {rs : List Raw} (h : RT w B A n rs) (hB : B ≤ B') : RT w B' A n rs :=
  ⟨h.1, fun hn => by
    obtain ⟨b, off, e, hb, hc⟩ := h.2 hn
    exact ⟨b, off, e, by omega, hc⟩⟩
theorem RT.below {rs : List Raw} (h : RT w B A n rs) (hb : Below B w w') : RT w' B A n rs := h.keep fun b o hp => hb.cell (p := ⟨b, o, none⟩) hp
theorem RT.bel {rs : List Raw} (h : RT w w.heap.size A n rs) (hb : Bel w w') : RT w' w'.heap.size A n rs := (h.below hb).more hb.size
end
end Go.Proofs.YteockaolmobmeaaGreatDoor.Mu
namespace Go.Proofs.YteockaolmobmeaaGreatDoor.Mu
open Go.RowKit

theorem own_form {w : World} {base e n : Nat} {v : Value} {xs : List Value} (h : w.ownsRow base e 1 v n xs) : ∃ A c, v = .slice A n c := by
  rcases h.2 with ⟨rfl, rfl⟩ | ⟨g, cap, _, rfl, _⟩
  · exact ⟨_, _, rfl⟩
  · exact ⟨_, _, rfl⟩

section
variable {P : Program} {w : World}
theorem run_append_nil (base : Nat) (t ty e : TypeId) (i : TypeInfo) (ht : P.underlying t = some (.slice e)) (hi : P.info? e = some i)
    (v : Value) (n : Nat) (xs : List Value) (hown : w.ownsRow base e 1 v n xs) (d : Nat) : (Builtin.append_ #[t, t] ty #[v, .slice none 0 d]).run P w = .ok v w := by
  rcases hown.2 with ⟨rfl, _⟩ | ⟨g, cap, cur, rfl, _, _, hnc, _⟩
  · simp [Builtin.append_, run_underlying ht, sizeOf, typeInfo, hi, Builtin.lenOf, Builtin.firstCells]
  · simp [Builtin.append_, run_underlying ht, sizeOf, typeInfo, hi, Builtin.lenOf, Builtin.firstCells, hnc, storeCells]

theorem wpList_append_ri {ops : Array Oper} {rest : List Oper} {o : Oper} {a : Act} {Q : Exit → Act → World → Prop} (hgd : o.guard = none) (s x : Operand) (t : TypeId)
    (ho : o.op = .call { callee := .builtin .append, args := #[s, x], argTypes := #[t, t] })
    (base : Nat) (e : TypeId) (ht : P.underlying t = some (.slice e)) (hinfo : (P.info? e).map (fun i => (i.zero, i.size, i.bytes)) = some (some (.int .i64 0), 1, 8))
    (A : Option Addr) (n c : Nat) (xs : List Int) (hs : a.eval s = .slice A n c) (hown : w.ownsRow base e 1 (.slice A n c) n (xs.map (Value.int .i64)))
    (B0 : Nat) (B : Option Addr) (m d : Nat) (l : List Int) (hx : a.eval x = .slice B m d) (hr : RI .i64 w B0 B m l)
    (hmax : n + m ≤ 1000000000) (hbase : base ≤ w.heap.size)
    (h : ∀ A' c' w', w'.ownsRow base e 1 (.slice A' (n + m) c') (n + m) ((xs ++ l).map (Value.int .i64)) → w.grownBy w' (Value.slice A n c).ownBlock → wpList P ops Q rest (a.put o.dst (.slice A' (n + m) c')) w') : wpList P ops Q (o :: rest) a w := by
  obtain ⟨i, hi, hz0, hz1, hz2⟩ := info_parts hinfo
  have hl := hr.len
  rcases B with _ | ad
  · have hm : m = 0 := by
      rcases Nat.eq_zero_or_pos m with h' | h'
      · exact h'
      · obtain ⟨_, _, h', _⟩ := hr.at_ h'; cases h'
    subst hm
    obtain rfl : l = [] := List.eq_nil_of_length_eq_zero hl.symm
    refine wpList_plain hgd fun K hK => ?_
    have hrun := run_append_nil (P := P) base t o.type e i ht hi _ n _ hown d
    have h' := h A c w (by simpa using hown) (World.grownBy.refl _ _)
    unfold Oper.wp
    simp only [execOp, ho, resolve, invoke, builtin, Sem.run_bind, Sem.run_pure, Result.andThen_ok, List.map_toArray, List.map_cons, List.map_nil, hs, hx, hrun]
    exact hK _ _ h'
  · refine wpList_append_own w hgd s x t ho base e i (.int .i64 0) 1 8 ht hi hz0 hz1 hz2 rfl (by decide) _ n _ hs hown ad m d (l.map (Value.int .i64)) hx (by simp [hl]) ?_ ?_ (by unfold maxLen; omega) (by omega) hbase ?_
    · intro j u hu
      have hj : j < l.length := by have := (List.getElem?_eq_some_iff.1 hu).1; simpa using this
      obtain ⟨b, off, e', _, hc⟩ := hr.at_ (by omega)
      injection e' with e'
      subst e'
      rw [Addr.add_lit, hc j (by omega)]
      simp [List.getElem?_eq_getElem hj] at hu
      rw [List.getElem?_eq_getElem hj]
      simp [hu]
    · intro u hu
      simp at hu
      obtain ⟨y, _, rfl⟩ := hu
      rfl
    · intro v' w' hown' hg _
      obtain ⟨A', c', rfl⟩ := own_form hown'
      exact h A' c' w' (by simpa using hown') hg
end
end Go.Proofs.YteockaolmobmeaaGreatDoor.Mu
namespace Go.Proofs.YteockaolmobmeaaGreatDoor.Mu
open Go.RowKit

theorem own_form_n {w : World} {base e size n : Nat} {v : Value} {xs : List Value} (h : w.ownsRow base e size v n xs) : ∃ A c, v = .slice A n c := by
  rcases h.2 with ⟨rfl, rfl⟩ | ⟨g, cap, _, rfl, _⟩
  · exact ⟨_, _, rfl⟩
  · exact ⟨_, _, rfl⟩

section
variable {P : Program} {w : World}
theorem wpList_append_one {ops : Array Oper} {rest : List Oper} {o : Oper} {a : Act} {Q : Exit → Act → World → Prop} (hgd : o.guard = none) (s x : Operand) (t : TypeId)
    (ho : o.op = .call { callee := .builtin .append, args := #[s, x], argTypes := #[t, t] })
    (base : Nat) (e : TypeId) (z : Value) (size bytes : Nat) (ht : P.underlying t = some (.slice e)) (hinfo : (P.info? e).map (fun i => (i.zero, i.size, i.bytes)) = some (some z, size, bytes))
    (hzs : z.cells.size = size) (hsz : 0 < size) (hby : bytes ≤ 1000)
    (A : Option Addr) (n c : Nat) (xs : List Value) (hs : a.eval s = .slice A n c) (hown : w.ownsRow base e size (.slice A n c) n xs)
    (b : Nat) (news : List Value) (hx : a.eval x = .slice (some ⟨b, 0, none⟩) 1 1) (hl : news.length = size) (hnews : ∀ j u, news[j]? = some u → w.cell? ⟨b, j, none⟩ = some u) (h1 : ∀ u ∈ news, u.oneCell' = true)
    (hmax : n ≤ 1000000000) (hbase : base ≤ w.heap.size)
    (h : ∀ A' c' w', w'.ownsRow base e size (.slice A' (n + 1) c') (n + 1) (xs ++ news) → w.grownBy w' (Value.slice A n c).ownBlock → wpList P ops Q rest (a.put o.dst (.slice A' (n + 1) c')) w') : wpList P ops Q (o :: rest) a w := by
  obtain ⟨i, hi, hz0, hz1, hz2⟩ := info_parts hinfo
  refine wpList_append_own w hgd s x t ho base e i z size bytes ht hi hz0 hz1 hz2 hzs hsz _ n _ hs hown ⟨b, 0, none⟩ 1 1 news hx (by omega) ?_ h1 (by unfold maxLen; omega) ?_ hbase ?_
  · intro j u hu
    rw [Addr.add_lit]
    simpa using hnews j u hu
  · calc (n + 1) * bytes ≤ 1000000001 * 1000 := Nat.mul_le_mul (by omega) hby
      _ ≤ _ := by omega
  · intro v' w' hown' hg _
    obtain ⟨A', c', rfl⟩ := own_form_n hown'
    exact h A' c' w' hown' hg
end

theorem owns_bel {w w' : World} {base e size n : Nat} {v : Value} {xs : List Value} (h : w.ownsRow base e size v n xs) (hb : Bel w w') : w'.ownsRow base e size v n xs :=
  h.kept (row := none) ⟨hb.os, hb.tape, hb.output, hb.size, fun k hk _ => hb.block k hk⟩ (by cases h : v.ownBlock <;> simp)
/-- Strings as values. -/
def strs (xs : List (List UInt8)) : List Value := xs.map fun l => .string ⟨l.toArray⟩
theorem strs_snoc (xs : List (List UInt8)) (l : List UInt8) : strs (xs ++ [l]) = strs xs ++ [.string ⟨l.toArray⟩] := by simp [strs]
theorem strs_len (xs : List (List UInt8)) : (strs xs).length = xs.length := by simp [strs]
theorem one_cell_at (w : World) (v : Value) (t : TypeId) : ∀ j u, [v][j]? = some u → (w.alloc (.cells #[v] t)).cell? ⟨w.heap.size, j, none⟩ = some u := by
  intro j u hu
  match j, hu with
  | 0, hu => simp at hu; subst hu; simp
/-- A row of strings of the call's own reads as its strings. -/
theorem strs_reads {w : World} {base e n c : Nat} {A : Option Addr} {xs : List (List UInt8)} (h : w.ownsRow base e 1 (.slice A n c) n (strs xs)) (hn : xs ≠ []) :
    ∃ g, A = some ⟨g, 0, none⟩ ∧ g < w.heap.size ∧ n = xs.length ∧ n ≤ c ∧ ∀ (j : Nat) (x : ByteArray), (xs.map fun l => (⟨l.toArray⟩ : ByteArray))[j]? = some x → w.cell? ⟨g, 0 + j, none⟩ = some (.string x) := by
  have hl : n = xs.length := by have := h.1; rw [strs_len] at this; omega
  have hpos : 0 < n := by
    rcases Nat.eq_zero_or_pos n with h0 | h0
    · exact absurd (List.eq_nil_of_length_eq_zero (by omega)) hn
    · exact h0
  obtain ⟨g, cap, hv, _, hlt⟩ := h.form hpos
  injection hv with h1 _ h2
  subst h1
  refine ⟨g, rfl, hlt, hl, ?_, fun j x hx => ?_⟩
  · rcases h.2 with ⟨h, _⟩ | ⟨g', cap', cur, h', _, _, hc, _⟩
    · injection h with h _ _; cases h
    · injection h' with _ _ h'; omega
  · have := h.cells (g := g) rfl j (.string x) (by
      simp only [List.getElem?_map, Option.map_eq_some_iff] at hx
      obtain ⟨l, hl, rfl⟩ := hx
      simp [strs, List.getElem?_map, hl])
    rw [Addr.add_lit] at this
    exact this
end Go.Proofs.YteockaolmobmeaaGreatDoor.Mu

