/-
  Layer 3's functions: what always holds; what must hold so that a term is below a bound.
-/
import Derived.Test.YtblgligagngpfaaDoorIneqB
import Derived.Test.YtblgligagngpfaaDoorOne
import Derived.RegionTactic
import Derived.ChangeAlike
import Derived.Deep.RegionLaw
namespace Go.Proofs.YtblgligagngpfaaDoor.Mu
open Go.ChangeShapes Go.WideShapes Go.ChangeAt Go.RowKit

def alwaysB (v m c r : Int) : Bool := if lhB m then decide (c = 3) || (rhB r && (r == lvF v m)) else decide (lcF m ≤ c)

theorem step_append_own {P : Program} {ops : Array Oper} {o : Oper} {a : Act} {w : World} {K : Act → World → Prop} {Q : Exit → Act → World → Prop} {E : Prop}
    (hg : o.guard = none) (s x : Operand) (t : TypeId) (hop : o.op = Op.call { callee := Callee.builtin Builtin.append, args := #[s, x], argTypes := #[t, t] })
    (base : Nat) (e : TypeId) (z : Value) (size bytes : Nat) (h1 : P.underlying t = some (.slice e)) (hinfo : (P.info? e).map (fun i => (i.zero, i.size, i.bytes)) = some (some z, size, bytes)) (h6 : z.cells.size = size) (h7 : 0 < size) (hby : bytes ≤ 1000)
    (A : Option Addr) (n cap : Nat) (xs : List Value) (hs : a.eval s = .slice A n cap) (hown : w.ownsRow base e size (.slice A n cap) n xs)
    (b : Nat) (news : List Value) (hx : a.eval x = .slice (some ⟨b, 0, none⟩) 1 1) (hn : news.length = size) (hc : ∀ j u, news[j]? = some u → w.cell? ⟨b, j, none⟩ = some u) (h1c : ∀ u ∈ news, u.oneCell' = true)
    (hmax : n ≤ 1000000000) (hbase : base ≤ w.heap.size)
    (hK : ∀ A' c' w', w'.ownsRow base e size (.slice A' (n + 1) c') (n + 1) (xs ++ news) → w.grownBy w' (Value.slice A n cap).ownBlock → K (a.put o.dst (.slice A' (n + 1) c')) w') :
    if Region.wanted o (yielded ops a.tmps) = true then Oper.wp P o a w K Q else E := by
  have hw : Region.wanted o (yielded ops a.tmps) = true := by simp [Region.wanted, hg]
  rw [if_pos hw]
  obtain ⟨i, hi, hz0, hz1, hz2⟩ := info_parts hinfo
  obtain ⟨v', w', hrun, r1, r2, _⟩ := run_append_own (P := P) w base t o.type e i z size bytes h1 hi hz0 hz1 hz2 h6 h7 (.slice A n cap) n xs hown ⟨b, 0, none⟩ 1 1 news (by omega) (fun j u hu => by rw [Addr.add_lit]; simpa using hc j u hu) h1c (by unfold maxLen; omega)
    (Nat.le_trans (Nat.mul_le_mul (show n + 1 ≤ 1000000001 by omega) hby) (by omega)) hbase
  unfold Oper.wp
  simp [execOp, hop, resolve, invoke, builtin, hs, hx, hrun, Result.andThen]
  obtain ⟨A', c', rfl⟩ := own_form_n r1
  exact hK A' c' w' r1 r2

structure Iq where
  v : Int
  m : Int
  c : Int
  r : Int
deriving DecidableEq
def Iq.cells (x : Iq) : List Value := [.int .i64 x.v, .int .u8 x.m, .int .u8 x.c, .int .i64 x.r]
def flatI (xs : List Iq) : List Value := xs.flatMap Iq.cells
theorem flatI_len (xs : List Iq) : (flatI xs).length = xs.length * 4 := by
  induction xs with
  | nil => rfl
  | cons x xs ih => simp only [flatI, List.flatMap_cons, List.length_append, List.length_cons, Iq.cells, List.length_nil] at *; omega
theorem flatI_snoc (xs : List Iq) (x : Iq) : flatI (xs ++ [x]) = flatI xs ++ x.cells := by simp [flatI]
def layL (v m b r : Int) : List Iq := if alwaysB v m b r then [] else [⟨v, m, b, r⟩]
/-- But for block g, and for what stands from base on, all is as it was. -/
structure Kp (g base : Nat) (w w' : World) : Prop where
  os : w'.os = w.os
  tape : w'.tape = w.tape
  output : w'.output = w.output
  size : w.heap.size ≤ w'.heap.size
  block : ∀ i, i < base → i ≠ g → w'.heap[i]? = w.heap[i]?
theorem Kp.of_bel {g base : Nat} {w w' : World} (h : Bel w w') (hb : base ≤ w.heap.size) : Kp g base w w' := ⟨h.os, h.tape, h.output, h.size, fun i hi _ => h.block i (by omega)⟩
theorem Kp.on {g base : Nat} {a b c : World} (h : Kp g base a b) (k : Kp g base b c) : Kp g base a c :=
  ⟨k.os.trans h.os, k.tape.trans h.tape, k.output.trans h.output, Nat.le_trans h.size k.size, fun i hi hn => (k.block i hi hn).trans (h.block i hi hn)⟩
theorem Kp.of_grown {g base : Nat} {w w' : World} {row : Option Nat} (h : w.grownBy w' row) (hb : base ≤ w.heap.size) (hr : ∀ k, row = some k → base ≤ k) : Kp g base w w' :=
  ⟨h.os, h.tape, h.output, h.size, fun i hi _ => h.block i (by omega) (fun e => by have := hr i e.symm; omega)⟩
theorem Kp.of_only {g base : Nat} {w w' : World} (h : Only g w w') (hb : base ≤ w.heap.size) : Kp g base w w' :=
  ⟨h.os, h.tape, h.output, h.size, fun i hi hn => h.block i (by omega) (fun e => hn (by injection e))⟩
theorem Kp.below {g base : Nat} {w w' : World} (h : Kp g base w w') (hb : g < base) : Below g w w' :=
  ⟨h.os, h.tape, h.output, h.size, fun i hi => h.block i (by omega) (by omega)⟩
theorem Kp.cell {g base : Nat} {w w' : World} (h : Kp g base w w') {b : Nat} (hb : b < base) (hn : b ≠ g) (o : Nat) : w'.cell? ⟨b, o, none⟩ = w.cell? ⟨b, o, none⟩ :=
  World.cell?_of_block (a := ⟨b, o, none⟩) (h.block b hb hn)
theorem four_at (w : World) (a b c d : Value) (t : TypeId) : ∀ j u, [a, b, c, d][j]? = some u → (w.alloc (.cells #[a, b, c, d] t)).cell? ⟨w.heap.size, j, none⟩ = some u := by
  intro j u hu
  match j, hu with
  | 0, hu => simp at hu; subst hu; simp
  | 1, hu => simp at hu; subst hu; simp
  | 2, hu => simp at hu; subst hu; simp
  | 3, hu => simp at hu; subst hu; simp
theorem set3_2 {w : World} {b : Nat} {x y z u : Value} {t : TypeId} (h : w.heap[b]? = some (.cells #[x, y, z] t (0, 0))) : (w.setCell ⟨b, 2, none⟩ u).heap[b]? = some (.cells #[x, y, u] t (0, 0)) := by
  have hlt := (Array.getElem?_eq_some_iff.1 h).1
  have h' : w.heap[b] = .cells #[x, y, z] t (0, 0) := by simpa [Array.getElem?_eq_getElem hlt] using h
  show (w.heap.modify b _)[b]? = _
  rw [Array.getElem?_eq_getElem (by simpa using hlt), Array.getElem_modify_self, h']
  rfl
theorem blk_far {w w' : World} {row : Option Nat} {b : Nat} {o : Obj} (hg : w.grownBy w' row) (h : w.heap[b]? = some o) (hne : some b ≠ row) : w'.heap[b]? = some o := by
  rw [hg.block b (Array.getElem?_eq_some_iff.1 h).1 hne]; exact h


/-- It tells a term whose list reads so, and lies in a block of the call's own. -/
def GivesF (nv : Bool) (c : Int) (l : List Int) (w : World) (e : Ending) (w' : World) : Prop :=
  ∃ A' n' c', e = .returned (.agg #[.bool nv, .int .u8 c, .slice A' n' c']) ∧ RI .i64 w' w'.heap.size A' n' l ∧ Bel w w' ∧ ∀ a, A' = some a → 0 < n' → w.heap.size ≤ a.block
end Go.Proofs.YtblgligagngpfaaDoor.Mu

