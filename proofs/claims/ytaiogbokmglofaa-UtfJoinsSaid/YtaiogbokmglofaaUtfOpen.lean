/-
  Rows of code points, opened.
-/
import Derived.Test.YtaiogbokmglofaaRows
import Derived.Test.YtaiogbokmglofaaMem
import Derived.Lib.SmallJoins
import Derived.KernelRfl
import Derived.ProofKit
import Derived.OpenShut
import Derived.ChangeOld
import Derived.ChangeMaps5
namespace Go.Proofs.Ytaiogbokmglofaa.Mu
open Go.ChangeShapes Go.WideShapes Go.ChangeAt Go.RowKit Go.Joins

section
variable {H : Type} {enc : TypeId × Value → H} {W : World} {base : Nat}
set_option maxRecDepth 100000 in
theorem ri_of_ints {kd : IntKind} {t e : TypeId} {fuel : Nat} {cs : List Value} {x : DataW H × List MemPlace} (ht : Try.prog.underlying t = some (.slice e)) (he : Try.prog.underlying e = some (.int kd)) (hc : Try.prog.cellsOf e = 1)
    (h : DataW.trod enc Try.prog W base (fun _ => true) true fuel t cs = some x) :
    ∃ A n k l, cs = [.slice A n k] ∧ n ≤ 9223372036854775807 ∧ RI kd W W.heap.size A n l ∧ ∀ y ∈ l, (Lit.int kd y).wf = true := by
  rcases open_ints ht he hc h with ⟨hcs, _⟩ | ⟨a, len, cap, zs, hcs, _, hl, hm, hz, _, hcell, hwz⟩
  · exact ⟨_, _, _, [], hcs, by omega, RI.nil_, by simp⟩
  · unfold maxLen at hm
    simp only [if_true] at hz
    refine ⟨_, _, _, zs.take len, hcs, by omega, ⟨by rw [List.length_take]; omega, fun hn => ?_⟩, fun y hy => hwz y (List.mem_of_mem_take hy)⟩
    obtain ⟨b, off, rfl, hc'⟩ := ints_at hcell (by omega)
    refine ⟨b, off, rfl, World.block_lt_of_cell? W _ (hc' 0 (by omega)), fun k hk => ?_⟩
    rw [hc' k (by omega), List.getElem?_take_of_lt hk, List.getD_eq_getElem?_getD]
set_option maxRecDepth 100000 in
theorem open_runes {v : Value} {d : DataW H} {p : List MemPlace} {b0 : Nat} (hv : Value.okWide Try.prog W .any b0 37 v) (h : DataW.Trod enc Try.prog W base (fun _ => true) true 37 v d p) :
    ∃ A n k l, v = .slice A n k ∧ n ≤ 9223372036854775807 ∧ RI .i32 W W.heap.size A n l ∧ ∀ x ∈ l, -2147483648 ≤ x ∧ x ≤ 2147483647 := by
  obtain ⟨a0, len0, cap0, rfl⟩ := okWide_slice Try.underlying37 hv
  obtain ⟨fuel, hf⟩ := h
  obtain ⟨A, m, k, l, e, hm, hr, hw⟩ := ri_of_ints Try.underlying37 Try.underlying21 (by kernel_rfl) hf
  simp [Value.cells] at e
  obtain ⟨rfl, rfl, rfl⟩ := e
  exact ⟨_, _, _, l, rfl, hm, hr, fun x hx => bounds_i32 (hw x hx)⟩
end
end Go.Proofs.Ytaiogbokmglofaa.Mu

