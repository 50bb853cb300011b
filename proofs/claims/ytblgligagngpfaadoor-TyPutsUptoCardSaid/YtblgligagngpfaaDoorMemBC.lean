/-
  Words for memory, more: a list of integers does not lie in the block of a term.
  Words for memory, more: a block that holds terms one behind the other, and what a store into it does; only one block has turned.
-/
import Derived.Test.YtblgligagngpfaaDoorMem
import Derived.Laws.IdiomCopy
import Derived.Deep.Upon
namespace Go.Proofs.YtblgligagngpfaaDoor.Mu
open Go.RowKit

section
variable {w : World} {B n g : Nat} {A a : Option Addr} {l : List Int} {t : TypeId} {x : Bool} {y : Int} {m k : Nat}
theorem RI.put3 (h : RI .i64 w B A n l) (hg : w.heap[g]? = some (.cells #[.bool x, .int .u8 y, .slice a m k] t (0, 0))) (v0 v1 v2 : Value) :
    RI .i64 (((w.setCell ⟨g, 0, none⟩ v0).setCell ⟨g, 1, none⟩ v1).setCell ⟨g, 2, none⟩ v2) B A n l := by
  refine ⟨h.1, fun hn => ?_⟩
  obtain ⟨b, off, e, hb, hc⟩ := h.2 hn
  have hne : b ≠ g := by
    rintro rfl
    have h0 := hc 0 hn
    simp only [World.cell?, hg, Option.isSome_none, Bool.false_eq_true, if_false] at h0
    match off, h0 with
    | 0, h0 => simp at h0
    | 1, h0 => simp at h0
    | 2, h0 => simp at h0
    | _ + 3, h0 => simp at h0
  refine ⟨b, off, e, hb, fun j hj => ?_⟩
  rw [World.cell?_setCell_other, World.cell?_setCell_other, World.cell?_setCell_other]
  · exact hc j hj
  all_goals (intro e; injection e; omega)
end
theorem Bel.put3 {w w1 : World} (h : Bel w w1) {g : Nat} (hg : w.heap.size ≤ g) (v0 v1 v2 : Value) : Bel w (((w1.setCell ⟨g, 0, none⟩ v0).setCell ⟨g, 1, none⟩ v1).setCell ⟨g, 2, none⟩ v2) :=
  ((h.set_ hg _).set_ hg _).set_ hg _
end Go.Proofs.YtblgligagngpfaaDoor.Mu
namespace Go.Proofs.YtblgligagngpfaaDoor.Mu
open Go.RowKit

def Raw.lies (w : World) (b o : Nat) (r : Raw) : Prop := w.cell? ⟨b, o, none⟩ = some (.bool r.nv) ∧ w.cell? ⟨b, o + 1, none⟩ = some (.int .u8 r.c) ∧ w.cell? ⟨b, o + 2, none⟩ = some (.slice r.A r.n r.k)
/-- Block g holds these terms from its beginning on; nothing of it is frozen. -/
def Row3 (w : World) (g : Nat) (ys : List Raw) : Prop := (∀ (k : Nat) (r : Raw), ys[k]? = some r → r.lies w g (k * 3)) ∧ ∀ o, w.frozen? ⟨g, o, none⟩ = false

section
variable {w w' : World} {g : Nat} {ys : List Raw}
theorem Row3.far (h : Row3 w g ys) (hk : ∀ o, w'.cell? ⟨g, o, none⟩ = w.cell? ⟨g, o, none⟩) (hf : ∀ o, w'.frozen? ⟨g, o, none⟩ = w.frozen? ⟨g, o, none⟩) : Row3 w' g ys :=
  ⟨fun k r hr => by unfold Raw.lies; rw [hk, hk, hk]; exact h.1 k r hr, fun o => by rw [hf]; exact h.2 o⟩
theorem Row3.bel (h : Row3 w g ys) (hb : Bel w w') (hg : g < w.heap.size) : Row3 w' g ys := h.far (fun o => hb.cell (p := ⟨g, o, none⟩) hg) (fun o => hb.frozen (p := ⟨g, o, none⟩) hg)
theorem Row3.set_ (h : Row3 w g ys) {i : Nat} (hi : i < ys.length) (r : Raw) :
    Row3 (((w.setCell ⟨g, i * 3, none⟩ (.bool r.nv)).setCell ⟨g, i * 3 + 1, none⟩ (.int .u8 r.c)).setCell ⟨g, i * 3 + 2, none⟩ (.slice r.A r.n r.k)) g (ys.set i r) := by
  obtain ⟨a0, a1, a2⟩ := h.1 i ys[i] (List.getElem?_eq_getElem hi)
  refine ⟨fun k q hq => ?_, fun o => by rw [World.frozen?_setCell, World.frozen?_setCell, World.frozen?_setCell]; exact h.2 o⟩
  by_cases hk : i = k
  · subst hk
    rw [List.getElem?_set_self hi] at hq
    injection hq with hq
    subst hq
    refine ⟨?_, ?_, ?_⟩
    · rw [World.cell?_setCell_other _ _ _ _ (by simp), World.cell?_setCell_other _ _ _ _ (by simp)]
      exact World.cell?_setCell_same _ _ _ a0
    · rw [World.cell?_setCell_other _ _ _ _ (by simp)]
      exact World.cell?_setCell_same _ _ _ (by rw [World.cell?_setCell_other _ _ _ _ (by simp)]; exact a1)
    · exact World.cell?_setCell_same _ _ _ (by rw [World.cell?_setCell_other _ _ _ _ (by simp), World.cell?_setCell_other _ _ _ _ (by simp)]; exact a2)
  · rw [List.getElem?_set_ne hk] at hq
    obtain ⟨b0, b1, b2⟩ := h.1 k q hq
    unfold Raw.lies
    refine ⟨?_, ?_, ?_⟩ <;> rw [World.cell?_setCell_other _ _ _ _ (by intro e; injection e; omega), World.cell?_setCell_other _ _ _ _ (by intro e; injection e; omega), World.cell?_setCell_other _ _ _ _ (by intro e; injection e; omega)] <;> assumption
theorem Row3.setCells (h : Row3 w g ys) (i : Nat) (vs : List Value) : Row3 (w.setCells g (i * 3) vs) g (ys.take i) := by
  refine ⟨fun k q hq => ?_, fun o => by rw [World.frozen?_setCells]; exact h.2 o⟩
  by_cases hk : k < i
  · rw [List.getElem?_take_of_lt hk] at hq
    obtain ⟨b0, b1, b2⟩ := h.1 k q hq
    unfold Raw.lies
    refine ⟨?_, ?_, ?_⟩ <;> rw [World.cell?_setCells_out _ _ _ _ _ (fun _ _ => .inl (by simp; omega))] <;> assumption
  · rw [List.getElem?_eq_none (by simp; omega)] at hq; cases hq
theorem Row3.some_ (h : Row3 w g ys) {n i : Nat} (hn : ys.length = n) : ∀ j, j < (n - i) * 3 → (w.cell? ⟨g, i * 3 + j, none⟩).isSome = true := by
  intro j hj
  have hk : i + j / 3 < ys.length := by omega
  obtain ⟨a0, a1, a2⟩ := h.1 (i + j / 3) ys[i + j / 3] (List.getElem?_eq_getElem hk)
  have h3 : j % 3 = 0 ∨ j % 3 = 1 ∨ j % 3 = 2 := by omega
  rcases h3 with h3 | h3 | h3
  · rw [show (i + j / 3) * 3 = i * 3 + j by omega] at a0; rw [a0]; rfl
  · rw [show (i + j / 3) * 3 + 1 = i * 3 + j by omega] at a1; rw [a1]; rfl
  · rw [show (i + j / 3) * 3 + 2 = i * 3 + j by omega] at a2; rw [a2]; rfl
theorem Row3.reads (h : Row3 w g ys) {B : Nat} (hB : g < B) : RT w B (some ⟨g, 0, none⟩) ys.length ys :=
  ⟨rfl, fun _ => ⟨g, 0, rfl, hB, fun k r hr => by simpa [Raw.lies] using h.1 k r hr⟩⟩
end

/-- At most this block has turned, and there are more of them. -/
def Only (g : Nat) (w w' : World) : Prop := w.grownBy w' (some g)
section
variable {a w w' : World} {g : Nat}
theorem Only.refl (g : Nat) (w : World) : Only g w w := World.grownBy.refl _ _
theorem Only.bel (h : Only g a w) (hb : Bel w w') : Only g a w' :=
  ⟨hb.os.trans h.os, hb.tape.trans h.tape, hb.output.trans h.output, Nat.le_trans h.size hb.size, fun k hk hne => (hb.block k (Nat.lt_of_lt_of_le hk h.size)).trans (h.block k hk hne)⟩
theorem Only.set_ (h : Only g a w) {p : Addr} (hp : p.block = g ∨ a.heap.size ≤ p.block) (v : Value) : Only g a (w.setCell p v) :=
  ⟨h.os, h.tape, h.output, by simpa [World.setCell] using h.size, fun i hi hne => (Below.heap_setCell w p v i (by
    rintro rfl
    rcases hp with hp | hp
    · exact hne (by rw [hp])
    · omega)).trans (h.block i hi hne)⟩
theorem Only.setCells (h : Only g a w) : ∀ (vs : List Value) (o : Nat), Only g a (w.setCells g o vs) := by
  intro vs
  induction vs generalizing w with
  | nil => intro o; exact h
  | cons v vs ih => intro o; exact ih (h.set_ (.inl rfl) v) (o + 1)
theorem Only.below (h : Only g a w) {B : Nat} (hB : B ≤ g) (hB' : B ≤ a.heap.size) : Below B a w :=
  ⟨h.os, h.tape, h.output, h.size, fun k hk => h.block k (by omega) (fun e => by injection e; omega)⟩
end

/-- clear, at a slice of terms. -/
theorem run_clear3 {P : Program} (w : World) (t e ty : TypeId) (z : Value) (ht : P.underlying t = some (.slice e)) (hv : ∀ w, (zeroValue e).run P w = .ok z w) (hz : z.cells.size = 3) (h1 : ∀ v ∈ z.cells.toList, v.oneCell' = true) (b o n c : Nat)
    (hc : ∀ j, j < n * 3 → (w.cell? ⟨b, o + j, none⟩).isSome = true) (hf : ∀ j, w.frozen? ⟨b, j, none⟩ = false) :
    (Builtin.clear_ #[t] ty #[.slice (some ⟨b, o, none⟩) n c]).run P w = .ok (.tuple #[]) (w.setCells b o (Builtin.zeroCells z.cells n).toList) := by
  have hl : (Builtin.zeroCells z.cells n).toList.length = n * 3 := by simp [Builtin.zeroCells, hz]
  have hst := run_storeCells_cells (P := P) b o (Builtin.zeroCells z.cells n).toList 0 w (by intro j hj; exact hc j (by omega)) (by intro j _; exact hf _) (by
    intro v hv'
    simp only [Builtin.zeroCells, Array.toList_map, List.mem_map] at hv'
    obtain ⟨i, _, rfl⟩ := hv'
    have hlt : i % z.cells.size < z.cells.size := Nat.mod_lt _ (by omega)
    rw [getElem!_pos z.cells _ hlt]
    exact h1 _ (by simp))
  simp only [Nat.add_zero] at hst
  rcases n with _ | m
  · simp [Builtin.clear_, run_underlying ht, Builtin.zeroCells, World.setCells]
  · simp [Builtin.clear_, run_underlying ht, hv, hst]
end Go.Proofs.YtblgligagngpfaaDoor.Mu

