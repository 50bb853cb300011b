/-
  Words for memory, more: a list of integers does not lie in the block of a term.
-/
import Derived.Test.YtjgpkolfcpoinaaMem
namespace Go.Proofs.Ytjgpkolfcpoinaa.Mu
open Go.RowKit

section
variable {w : World} {B n g : Nat} {A a : Option Addr} {l : List Int} {t : TypeId} {x : Bool} {y : Int} {m k : Nat}
theorem RI.put3 (h : RI .i64 w B A n l) (hg : w.heap[g]? = some (.cells #[.bool x, .int .u8 y, .slice a m k] t (0, 0))) (v0 v1 v2 : Value) :
    RI .i64 (((w.setCell ⟨g, 0, none⟩ v0).setCell ⟨g, 1, none⟩ v1).setCell ⟨g, 2, none⟩ v2) B A n l := by
  refine ⟨h.1, fun hn => ?_⟩
  obtain ⟨b, off, e, hb, hc⟩ := h.2 hn
  have hne : b ≠ g := by
    rintro rfl
    have h0 := hc 0 hn
    simp only [World.cell?, hg, Option.isSome_none, Bool.false_eq_true, if_false] at h0
    match off, h0 with
    | 0, h0 => simp at h0
    | 1, h0 => simp at h0
    | 2, h0 => simp at h0
    | _ + 3, h0 => simp at h0
  refine ⟨b, off, e, hb, fun j hj => ?_⟩
  rw [World.cell?_setCell_other, World.cell?_setCell_other, World.cell?_setCell_other]
  · exact hc j hj
  all_goals (intro e; injection e; omega)
end
theorem Bel.put3 {w w1 : World} (h : Bel w w1) {g : Nat} (hg : w.heap.size ≤ g) (v0 v1 v2 : Value) : Bel w (((w1.setCell ⟨g, 0, none⟩ v0).setCell ⟨g, 1, none⟩ v1).setCell ⟨g, 2, none⟩ v2) :=
  ((h.set_ hg _).set_ hg _).set_ hg _
end Go.Proofs.Ytjgpkolfcpoinaa.Mu

