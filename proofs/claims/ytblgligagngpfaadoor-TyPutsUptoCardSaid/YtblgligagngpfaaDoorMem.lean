/-
  Words for memory: a slice value that reads as a list of integers, nil and empty ones let in; what a call leaves as it was.
-/
import Derived.Below
import Derived.Calls
import Derived.Laws.OwnMore
import Derived.Deep.AppendLies
import Derived.Deep.Draws
import Derived.Lib.Hide
import Derived.Test.YtblgligagngpfaaDoorTermFn
namespace Go.Proofs.YtblgligagngpfaaDoor.Mu
open Go.RowKit

/-- All that was there is as it was. -/
def Bel (w w' : World) : Prop := Below w.heap.size w w'
theorem Bel.refl (w : World) : Bel w w := Below.refl _ _
theorem Bel.on {a b c : World} (h : Bel a b) (k : Bel b c) : Bel a c := Below.trans h (Below.mono k h.size)
theorem Bel.alloc {a b : World} (h : Bel a b) (o : Obj) : Bel a (b.alloc o) := Below.alloc h h.size o
theorem Bel.set_ {a b : World} (h : Bel a b) {p : Addr} (hp : a.heap.size ≤ p.block) (v : Value) : Bel a (b.setCell p v) := Below.setCell h hp v
theorem Bel.drewN {a b : World} (h : Bel a b) (n : Nat) : Bel a (b.drewN n) := ⟨h.os, h.tape, h.output, h.size, h.block⟩
theorem Bel.drew {a b : World} (h : Bel a b) : Bel a b.drew := ⟨h.os, h.tape, h.output, h.size, h.block⟩
theorem Bel.cells {w w1 : World} (h : Bel w w1) : (∀ b o, b < w.heap.size → w1.cell? ⟨b, o, none⟩ = w.cell? ⟨b, o, none⟩) ∧ (∀ b o, b < w.heap.size → w1.frozen? ⟨b, o, none⟩ = w.frozen? ⟨b, o, none⟩) :=
  ⟨fun b o hb => h.cell (p := ⟨b, o, none⟩) hb, fun b o hb => h.frozen (p := ⟨b, o, none⟩) hb⟩
/-- From some block on nothing is promised; what lies below is as it was. -/
theorem Bel.of {a b : World} {B : Nat} (h : Below B a b) (hB : a.heap.size ≤ B) : Bel a b := Below.mono h hB

theorem cells3 {w : World} {g : Nat} {t : TypeId} {x y z : Value} (h : w.heap[g]? = some (.cells #[x, y, z] t (0, 0))) :
    w.cell? ⟨g, 0, none⟩ = some x ∧ w.cell? ⟨g, 1, none⟩ = some y ∧ w.cell? ⟨g, 2, none⟩ = some z ∧ w.frozen? ⟨g, 0, none⟩ = false ∧ w.frozen? ⟨g, 1, none⟩ = false ∧ w.frozen? ⟨g, 2, none⟩ = false := by
  simp [World.cell?, World.frozen?, h]
theorem Bel.blk {w w1 : World} (h : Bel w w1) {g : Nat} {o : Obj} (hg : w.heap[g]? = some o) : w1.heap[g]? = some o := by
  have hlt : g < w.heap.size := by
    rcases Nat.lt_or_ge g w.heap.size with h' | h'
    · exact h'
    · rw [Array.getElem?_eq_none h'] at hg; cases hg
  rw [h.block g hlt]; exact hg
theorem blk1 (w : World) (o : Obj) : (w.alloc o).heap[w.heap.size]? = some o := heap_alloc_new w o
theorem blk2 (w : World) (o o2 : Obj) : ((w.alloc o).alloc o2).heap[w.heap.size]? = some o ∧ ((w.alloc o).alloc o2).heap[w.heap.size + 1]? = some o2 := by
  refine ⟨((Bel.refl _).alloc o2).blk (blk1 w o), ?_⟩
  have := blk1 (w.alloc o) o2
  simpa using this
theorem blk3 (w : World) (o o2 o3 : Obj) : (((w.alloc o).alloc o2).alloc o3).heap[w.heap.size]? = some o ∧ (((w.alloc o).alloc o2).alloc o3).heap[w.heap.size + 1]? = some o2 ∧ (((w.alloc o).alloc o2).alloc o3).heap[w.heap.size + 2]? = some o3 := by
  have h := blk2 w o o2
  refine ⟨((Bel.refl _).alloc o3).blk h.1, ((Bel.refl _).alloc o3).blk h.2, ?_⟩
  have := blk1 ((w.alloc o).alloc o2) o3
  simpa using this

/-- A slice value, by its three parts, reads as a list of integers; its block lies below B. -/
def RI (kd : IntKind) (w : World) (B : Nat) (A : Option Addr) (n : Nat) (l : List Int) : Prop :=
  n = l.length ∧ (0 < n → ∃ b off, A = some ⟨b, off, none⟩ ∧ b < B ∧ ∀ k, k < n → w.cell? ⟨b, off + k, none⟩ = some (.int kd (l[k]?.getD 0)))

section
variable {kd : IntKind} {w w' : World} {B B' n : Nat} {A : Option Addr} {l : List Int}
theorem RI.nil_ : RI kd w B A 0 [] := ⟨rfl, fun h => absurd h (by omega)⟩
theorem RI.len (h : RI kd w B A n l) : n = l.length := h.1
theorem RI.at_ (h : RI kd w B A n l) (hn : 0 < n) : ∃ b off, A = some ⟨b, off, none⟩ ∧ b < B ∧ ∀ k, k < n → w.cell? ⟨b, off + k, none⟩ = some (.int kd (l[k]?.getD 0)) := h.2 hn
theorem RI.keep (h : RI kd w B A n l) (hk : ∀ b o, b < B → w'.cell? ⟨b, o, none⟩ = w.cell? ⟨b, o, none⟩) : RI kd w' B A n l :=
  ⟨h.1, fun hn => by
    obtain ⟨b, off, e, hb, hc⟩ := h.2 hn
    exact ⟨b, off, e, hb, fun k hk' => (hk _ _ hb).trans (hc k hk')⟩⟩
theorem RI.more (h : RI kd w B A n l) (hB : B ≤ B') : RI kd w B' A n l :=
  ⟨h.1, fun hn => by
    obtain ⟨b, off, e, hb, hc⟩ := h.2 hn
    exact ⟨b, off, e, by omega, hc⟩⟩
theorem RI.below (h : RI kd w B A n l) (hb : Below B w w') : RI kd w' B A n l := h.keep fun b o hp => hb.cell (p := ⟨b, o, none⟩) hp
theorem RI.bel (h : RI kd w w.heap.size A n l) (hb : Bel w w') : RI kd w' w'.heap.size A n l := (h.below hb).more hb.size
theorem RI.drewN (h : RI kd w B A n l) (k : Nat) : RI kd (w.drewN k) B A n l := h
theorem RI.alloc (h : RI kd w w.heap.size A n l) (o : Obj) : RI kd (w.alloc o) (w.alloc o).heap.size A n l := h.bel ((Bel.refl w).alloc o)
theorem RI.lt (h : RI kd w B A n l) (hB : B ≤ w.heap.size) : RI kd w w.heap.size A n l := h.more hB
/-- Out of a row of the call's own. -/
theorem RI.of_own {base : Nat} {e : TypeId} {c : Nat} (h : w.ownsRow base e 1 (.slice A n c) n (l.map (Value.int kd))) : RI kd w w.heap.size A n l := by
  refine ⟨by simpa using h.1.symm, fun hn => ?_⟩
  obtain ⟨g, cap, hv, _, hlt⟩ := h.form hn
  have hA : A = some ⟨g, 0, none⟩ := by injection hv
  subst hA
  refine ⟨g, 0, rfl, hlt, fun k hk => ?_⟩
  have hl : l.length = n := by simpa using h.1
  have := h.cells (g := g) rfl k (.int kd (l[k]?.getD 0)) (by simp [List.getElem?_map, List.getElem?_eq_getElem (show k < l.length by omega)])
  have e : (⟨g, 0, none⟩ : Addr).add k = ⟨g, 0 + k, none⟩ := by unfold Addr.add; split <;> simp_all
  rw [← e]; exact this
theorem RI.of_own_lt {base : Nat} {e : TypeId} {c : Nat} (h : w.ownsRow base e 1 (.slice A n c) n (l.map (Value.int kd))) (hB : ∀ k, (Value.slice A n c).ownBlock = some k → k < B) : RI kd w B A n l := by
  have h1 := RI.of_own h
  refine ⟨h1.1, fun hn => ?_⟩
  obtain ⟨b, off, e, hb, hc⟩ := h1.2 hn
  subst e
  exact ⟨b, off, rfl, hB b rfl, hc⟩
theorem RI.set_ (h : RI kd w B A n l) {p : Addr} (hp : B ≤ p.block) (v : Value) : RI kd (w.setCell p v) B A n l :=
  h.keep fun b o hb => World.cell?_setCell_other w p ⟨b, o, none⟩ v (fun e => by subst e; exact absurd hp (by simp; omega))
theorem own_same (A : Option Addr) (n c m d : Nat) : (Value.slice A n c).ownBlock = (Value.slice A m d).ownBlock := by cases A <;> rfl
/-- What is not the row's is as it was. -/
theorem far {row : Option Nat} (hg : w.grownBy w' row) {b : Nat} (hb : b < w.heap.size) (hne : some b ≠ row) : (∀ o, w'.cell? ⟨b, o, none⟩ = w.cell? ⟨b, o, none⟩) ∧ (∀ o, w'.frozen? ⟨b, o, none⟩ = w.frozen? ⟨b, o, none⟩) :=
  ⟨fun o => World.cell?_of_block (a := ⟨b, o, none⟩) (hg.block b hb hne), fun o => World.frozen?_of_block (a := ⟨b, o, none⟩) (hg.block b hb hne)⟩
/-- It tells a term, whose list reads so; below base all is as it was. -/
def GivesT (nv : Bool) (c : Int) (l : List Int) (base : Nat) (w : World) (e : Ending) (w' : World) : Prop :=
  ∃ A' n' c', e = .returned (.agg #[.bool nv, .int .u8 c, .slice A' n' c']) ∧ RI .i64 w' w'.heap.size A' n' l ∧ Below base w w'
/-- A slice value reads as a list of terms as they lie in memory. -/
def RT (w : World) (B : Nat) (A : Option Addr) (n : Nat) (rs : List Raw) : Prop :=
  n = rs.length ∧ (0 < n → ∃ b off, A = some ⟨b, off, none⟩ ∧ b < B ∧ ∀ k r, rs[k]? = some r → w.cell? ⟨b, off + k * 3, none⟩ = some (.bool r.nv) ∧ w.cell? ⟨b, off + k * 3 + 1, none⟩ = some (.int .u8 r.c) ∧ w.cell? ⟨b, off + k * 3 + 2, none⟩ = some (.slice r.A r.n r.k))
theorem RT.nil_ : RT w B A 0 [] := ⟨rfl, fun h => absurd h (by omega)⟩
theorem RT.len {rs : List Raw} (h : RT w B A n rs) : n = rs.length := h.1
theorem RT.at_ {rs : List Raw} (h : RT w B A n rs) (hn : 0 < n) : ∃ b off, A = some ⟨b, off, none⟩ ∧ b < B ∧ ∀ k r, rs[k]? = some r → w.cell? ⟨b, off + k * 3, none⟩ = some (.bool r.nv) ∧ w.cell? ⟨b, off + k * 3 + 1, none⟩ = some (.int .u8 r.c) ∧ w.cell? ⟨b, off + k * 3 + 2, none⟩ = some (.slice r.A r.n r.k) := h.2 hn
theorem RT.keep {rs : List Raw} (h : RT w B A n rs) (hk : ∀ b o, b < B → w'.cell? ⟨b, o, none⟩ = w.cell? ⟨b, o, none⟩) : RT w' B A n rs :=
  ⟨h.1, fun hn => by
    obtain ⟨b, off, e, hb, hc⟩ := h.2 hn
    exact ⟨b, off, e, hb, fun k r hr => by rw [hk _ _ hb, hk _ _ hb, hk _ _ hb]; exact hc k r hr⟩⟩
theorem RT.more {rs : List Raw} (h : RT w B A n rs) (hB : B ≤ B') : RT w B' A n rs :=
  ⟨h.1, fun hn => by
    obtain ⟨b, off, e, hb, hc⟩ := h.2 hn
    exact ⟨b, off, e, by omega, hc⟩⟩
theorem RT.below {rs : List Raw} (h : RT w B A n rs) (hb : Below B w w') : RT w' B A n rs := h.keep fun b o hp => hb.cell (p := ⟨b, o, none⟩) hp
theorem RT.bel {rs : List Raw} (h : RT w w.heap.size A n rs) (hb : Bel w w') : RT w' w'.heap.size A n rs := (h.below hb).more hb.size
end
end Go.Proofs.YtblgligagngpfaaDoor.Mu

