/-
  What an argument of layer 2's types is, opened: a term, a Mu, a list of multiplicities, a list of terms.
-/
import Derived.Test.YtkogcpcckpaldaaDoorRows
import Derived.Test.YtkogcpcckpaldaaDoorMem
import Derived.Lib.SmallJoins
import Derived.OpenShut
import Derived.KernelRfl
namespace Go.Proofs.YtkogcpcckpaldaaDoor.Mu
open Go.ChangeShapes Go.WideShapes Go.ChangeAt Go.RowKit Go.Joins

section
variable {H : Type} {enc : TypeId × Value → H} {W : World} {base : Nat}

set_option maxRecDepth 100000 in
theorem ri_of_ints {kd : IntKind} {t e : TypeId} {fuel : Nat} {cs : List Value} {x : DataW H × List MemPlace} (ht : Tryd.prog.underlying t = some (.slice e)) (he : Tryd.prog.underlying e = some (.int kd)) (hc : Tryd.prog.cellsOf e = 1)
    (h : DataW.trod enc Tryd.prog W base (fun _ => true) true fuel t cs = some x) :
    ∃ A n k l, cs = [.slice A n k] ∧ n ≤ 9223372036854775807 ∧ RI kd W W.heap.size A n l ∧ ∀ y ∈ l, (Lit.int kd y).wf = true := by
  rcases open_ints ht he hc h with ⟨hcs, _⟩ | ⟨a, len, cap, zs, hcs, _, hl, hm, hz, _, hcell, hwz⟩
  · exact ⟨_, _, _, [], hcs, by omega, RI.nil_, by simp⟩
  · unfold maxLen at hm
    simp only [if_true] at hz
    refine ⟨_, _, _, zs.take len, hcs, by omega, ⟨by rw [List.length_take]; omega, fun hn => ?_⟩, fun y hy => hwz y (List.mem_of_mem_take hy)⟩
    obtain ⟨b, off, rfl, hc'⟩ := ints_at hcell (by omega)
    refine ⟨b, off, rfl, World.block_lt_of_cell? W _ (hc' 0 (by omega)), fun k hk => ?_⟩
    rw [hc' k (by omega), List.getElem?_take_of_lt hk, List.getD_eq_getElem?_getD]

set_option maxRecDepth 100000 in
theorem open_mu {v : Value} {d : DataW H} {p : List MemPlace} {b0 : Nat} (hv : Value.okWide Tryd.prog W .any b0 24 v) (h : DataW.Trod enc Tryd.prog W base (fun _ => true) true 24 v d p) :
    ∃ x c, v = .agg #[.int .i64 x, .int .u8 c] ∧ 0 ≤ c ∧ c ≤ 255 := by
  obtain ⟨v0, v1, y0, y1, n, rfl, _, _, t0, t1⟩ := open_agg2 Tryd.underlying24 (by kernel_rfl) (by kernel_rfl) hv h
  obtain ⟨x, e0, _, _⟩ := DataW.trod_int Tryd.underlying3 t0
  obtain ⟨c, e1, _, hw⟩ := DataW.trod_int Tryd.underlying22 t1
  simp only [List.cons.injEq, and_true] at e0 e1
  subst e0 e1
  obtain ⟨h0, h1⟩ := bounds_u8 hw
  exact ⟨_, _, rfl, h0, h1⟩

end
end Go.Proofs.YtkogcpcckpaldaaDoor.Mu

