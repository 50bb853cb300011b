/-
  What a list of terms is, opened.
-/
import Derived.Test.YtghoipgldnfjoaaTermOpen
import Derived.Test.YtghoipgldnfjoaaTermF
import Derived.Deep.Slices
namespace Go.Proofs.Ytghoipgldnfjoaa.Mu
open Go.ChangeShapes Go.WideShapes Go.ChangeAt Go.RowKit Go.Joins Go.Deep

def Tm.cells (t : Tm) : List Value := [.bool t.r.nv, .int .u8 t.r.c, .slice t.r.A t.r.n t.r.k]
section
variable {H : Type} {enc : TypeId × Value → H} {W : World} {base : Nat}
theorem fT : ∃ fa fb fc, (Try.prog.fieldsOf 33).toList = [fa, fb, fc] ∧ (fa.type, fa.offset) = (4, 0) ∧ (fb.type, fb.offset) = (30, 1) ∧ (fc.type, fc.offset) = (31, 2) := by
  have h : (Try.prog.fieldsOf 33).toList.map (fun f => (f.type, f.offset)) = [(4, 0), (30, 1), (31, 2)] := by kernel_rfl
  rcases e : (Try.prog.fieldsOf 33).toList with _ | ⟨fa, _ | ⟨fb, _ | ⟨fc, _ | ⟨fd, l⟩⟩⟩⟩ <;> rw [e] at h <;> simp at h
  exact ⟨fa, fb, fc, rfl, by simp [h], by simp [h], by simp [h]⟩
set_option maxRecDepth 100000 in
theorem term_cells {fuel : Nat} {cs : List Value} {x : DataW H × List MemPlace} (h : DataW.trod enc Try.prog W base (fun _ => true) true fuel 33 cs = some x) :
    ∃ t : Tm, cs = t.cells ∧ t.r.n ≤ 9223372036854775807 ∧ RI .i64 W W.heap.size t.r.A t.r.n t.l := by
  have uT : Try.prog.underlying 33 = some (.struct (Try.prog.fieldsOf 33)) := by kernel_rfl
  obtain ⟨ys, n, _, _, hlen, hyl, hf⟩ := DataW.trod_struct uT h
  obtain ⟨fa, fb, fc, e, ea, eb, ec⟩ := fT
  simp only [Prod.mk.injEq] at ea eb ec
  have z0 : (Try.prog.fieldsOf 33).size = 3 := by rw [← Array.length_toList, e]; rfl
  have cT : Try.prog.cellsOf 33 = 3 := by kernel_rfl
  have cB : Try.prog.cellsOf 4 = 1 := by kernel_rfl
  have cM : Try.prog.cellsOf 30 = 1 := by kernel_rfl
  have cI : Try.prog.cellsOf 31 = 1 := by kernel_rfl
  rw [cT] at hlen
  rw [z0] at hyl
  match cs, hlen with
  | [k0, k1, k2], _ =>
    have h0 := hf 0 fa (by rw [← Array.getElem?_toList, e]; rfl)
    have h1 := hf 1 fb (by rw [← Array.getElem?_toList, e]; rfl)
    have h2 := hf 2 fc (by rw [← Array.getElem?_toList, e]; rfl)
    rw [ea.1, ea.2, cB] at h0
    rw [eb.1, eb.2, cM] at h1
    rw [ec.1, ec.2, cI] at h2
    match ys, hyl with
    | [y0, y1, y2], _ =>
      obtain ⟨nv, e0, _⟩ := DataW.trod_bool Try.underlying4 (show DataW.trod enc Try.prog W base (fun _ => true) true n 4 [k0] = some y0 from h0)
      obtain ⟨c, e1, _, hw⟩ := DataW.trod_int Try.underlying30 (show DataW.trod enc Try.prog W base (fun _ => true) true n 30 [k1] = some y1 from h1)
      obtain ⟨A, m, k, l, e2, hm, hr, _⟩ := ri_of_ints Try.underlying31 Try.underlying3 (by kernel_rfl) (show DataW.trod enc Try.prog W base (fun _ => true) true n 31 [k2] = some y2 from h2)
      simp only [List.cons.injEq, and_true] at e0 e1 e2
      subst e0 e1 e2
      exact ⟨⟨⟨nv, c, A, m, k⟩, l⟩, rfl, hm, hr⟩
set_option maxRecDepth 100000 in
theorem open_terms {v : Value} {d : DataW H} {p : List MemPlace} {b0 : Nat} (hv : Value.okWide Try.prog W .any b0 28 v) (h : DataW.Trod enc Try.prog W base (fun _ => true) true 28 v d p) :
    ∃ A n k ts, v = .slice A n k ∧ n ≤ 9223372036854775807 ∧ RT W W.heap.size A n (raws ts) ∧ Lies W ts ∧ ∀ t ∈ ts, t.r.n ≤ 9223372036854775807 := by
  obtain ⟨a0, len0, cap0, rfl⟩ := okWide_slice Try.underlying28 hv
  obtain ⟨fuel, hf⟩ := h
  have c50 : Try.prog.cellsOf 33 = 3 := by kernel_rfl
  rcases open_slice Try.underlying28 hf with ⟨hcs, _⟩ | ⟨a, len, cap, m, n, D, Pl, hcs, hb, hl, hm, hmm, hx, hi⟩
  · simp [Value.cells] at hcs
    obtain ⟨rfl, rfl, rfl⟩ := hcs
    exact ⟨none, 0, 0, [], rfl, by omega, RT.nil_, (fun t ht => by cases ht), by simp⟩
  · simp [Value.cells] at hcs
    obtain ⟨rfl, rfl, rfl⟩ := hcs
    unfold maxLen at hm
    simp only [if_true] at hmm
    rw [c50] at hi
    have key : ∀ i, ∃ q : Tm, q.r.n ≤ 9223372036854775807 ∧ RI .i64 W W.heap.size q.r.A q.r.n q.l ∧ (i < m → ∀ j u, q.cells[j]? = some u → W.cell? (a.add (i * 3 + j)) = some u) := by
      intro i
      by_cases hlt : i < m
      · obtain ⟨cs', hc, ht⟩ := hi i hlt
        obtain ⟨q, e, x, y⟩ := term_cells ht
        obtain ⟨_, hcl, hat⟩ := World.cells?_some hc
        refine ⟨q, x, y, fun _ j u hu => ?_⟩
        have hj : j < 3 := (List.getElem?_eq_some_iff.1 hu).1
        rw [← Go.Deep.add_add, hat j hj, e]; exact hu
      · exact ⟨⟨⟨false, 0, none, 0, 0⟩, []⟩, by simp, RI.nil_, fun h => absurd h hlt⟩
    have hts : ∀ t ∈ (List.range len0).map (fun i => Classical.choose (key i)), t.r.n ≤ 9223372036854775807 ∧ RI .i64 W W.heap.size t.r.A t.r.n t.l := by
      intro x hx
      obtain ⟨i, _, rfl⟩ := List.mem_map.1 hx
      have := Classical.choose_spec (key i)
      exact ⟨this.1, this.2.1⟩
    refine ⟨some a, len0, cap0, (List.range len0).map fun i => Classical.choose (key i), rfl, by omega, ⟨by simp [raws], fun hn => ?_⟩, fun t ht => (hts t ht).2, fun t ht => (hts t ht).1⟩
    obtain ⟨b, off, spot⟩ := a
    have hk0 := (Classical.choose_spec (key 0)).2.2 (by omega) 0 _ rfl
    have hspot : spot = none := by simpa [Addr.add] using World.cell?_spot hk0
    subst hspot
    refine ⟨b, off, rfl, ?_, fun k x hx => ?_⟩
    · rw [Addr.add_lit] at hk0
      exact World.block_lt_of_cell? W _ hk0
    · have hlt : k < len0 := by have := (List.getElem?_eq_some_iff.1 hx).1; simpa [raws] using this
      have hx2 : (Classical.choose (key k)).r = x := by simpa [raws, List.getElem?_map, List.getElem?_range hlt] using hx
      have hk := (Classical.choose_spec (key k)).2.2 (by omega)
      have q0 := hk 0 _ rfl
      have q1 := hk 1 _ rfl
      have q2 := hk 2 _ rfl
      rw [Addr.add_lit] at q0 q1 q2
      rw [hx2] at q0 q1 q2
      exact ⟨q0, by rw [Nat.add_assoc]; exact q1, by rw [Nat.add_assoc]; exact q2⟩
end
end Go.Proofs.Ytghoipgldnfjoaa.Mu
