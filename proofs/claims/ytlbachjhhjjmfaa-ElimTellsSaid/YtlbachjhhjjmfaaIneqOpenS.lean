/-
  What an argument of layer 3's types is, opened: an inequality, a list of them: XIneqOpen for seats that lack IneqX.
-/
import Derived.Test.YtlbachjhhjjmfaaIneqDE
import Derived.Laws.StructEq
import Derived.Test.YtlbachjhhjjmfaaTermOpen
import Derived.Deep.Slices
namespace Go.Proofs.Ytlbachjhhjjmfaa.Mu
open Go.ChangeShapes Go.WideShapes Go.ChangeAt Go.RowKit Go.Joins Go.Deep

theorem fI : ((Try.prog.fieldsOf 34).toList.map fun f => (f.name, f.type, f.offset)) = [("L", 32, 0), ("C", 30, 2), ("R", 3, 3)] := by kernel_rfl
theorem fM : ((Try.prog.fieldsOf 32).toList.map fun f => (f.name, f.type, f.offset)) = [("V", 3, 0), ("C", 30, 1)] := by kernel_rfl
theorem map2 {α β : Type} {f : α → β} {l : List α} {x y : β} (h : l.map f = [x, y]) : ∃ a b, l = [a, b] ∧ f a = x ∧ f b = y := by
  match l, h with
  | [a, b], h => simp at h; exact ⟨a, b, rfl, h.1, h.2⟩
theorem map3 {α β : Type} {f : α → β} {l : List α} {x y z : β} (h : l.map f = [x, y, z]) : ∃ a b c, l = [a, b, c] ∧ f a = x ∧ f b = y ∧ f c = z := by
  match l, h with
  | [a, b, c], h => simp at h; exact ⟨a, b, c, rfl, h.1, h.2.1, h.2.2⟩

section
variable {H : Type} {enc : TypeId × Value → H} {W : World} {base : Nat}
set_option maxRecDepth 100000 in
theorem ineq_cells {fuel : Nat} {cs : List Value} {x : DataW H × List MemPlace} (h : DataW.trod enc Try.prog W base (fun _ => true) true fuel 34 cs = some x) : ∃ q : Iq, cs = q.cells ∧ 0 ≤ q.c ∧ q.c ≤ 255 := by
  have uI : Try.prog.underlying 34 = some (.struct (Try.prog.fieldsOf 34)) := by kernel_rfl
  have uM : Try.prog.underlying 32 = some (.struct (Try.prog.fieldsOf 32)) := by kernel_rfl
  obtain ⟨ys, n, _, _, hlen, hyl, hf⟩ := DataW.trod_struct uI h
  obtain ⟨fa, fb, fc, e, ea, eb, ec⟩ := map3 fI
  obtain ⟨ga, gb, e', ea', eb'⟩ := map2 fM
  simp only [Prod.mk.injEq] at ea eb ec ea' eb'
  have z0 : (Try.prog.fieldsOf 34).size = 3 := by rw [← Array.length_toList, e]; rfl
  have z1 : (Try.prog.fieldsOf 32).size = 2 := by rw [← Array.length_toList, e']; rfl
  have c50 : Try.prog.cellsOf 34 = 4 := by kernel_rfl
  have c32 : Try.prog.cellsOf 32 = 2 := by kernel_rfl
  have c22 : Try.prog.cellsOf 30 = 1 := by kernel_rfl
  have c3 : Try.prog.cellsOf 3 = 1 := by kernel_rfl
  rw [c50] at hlen
  rw [z0] at hyl
  match cs, hlen with
  | [k0, k1, k2, k3], _ =>
    have h0 := hf 0 fa (by rw [← Array.getElem?_toList, e]; rfl)
    have h1 := hf 1 fb (by rw [← Array.getElem?_toList, e]; rfl)
    have h2 := hf 2 fc (by rw [← Array.getElem?_toList, e]; rfl)
    rw [ea.2.1, ea.2.2, c32] at h0
    rw [eb.2.1, eb.2.2, c22] at h1
    rw [ec.2.1, ec.2.2, c3] at h2
    match ys, hyl with
    | [y0, y1, y2], _ =>
      obtain ⟨zs, n2, _, _, _, hzl, hg⟩ := DataW.trod_struct uM (show DataW.trod enc Try.prog W base (fun _ => true) true n 32 [k0, k1] = some y0 from h0)
      rw [z1] at hzl
      have g0 := hg 0 ga (by rw [← Array.getElem?_toList, e']; rfl)
      have g1 := hg 1 gb (by rw [← Array.getElem?_toList, e']; rfl)
      rw [ea'.2.1, ea'.2.2, c3] at g0
      rw [eb'.2.1, eb'.2.2, c22] at g1
      match zs, hzl with
      | [z0, z1], _ =>
        obtain ⟨v, e0, _, _⟩ := DataW.trod_int Try.underlying3 (show DataW.trod enc Try.prog W base (fun _ => true) true n2 3 [k0] = some z0 from g0)
        obtain ⟨m, e1, _, _⟩ := DataW.trod_int Try.underlying30 (show DataW.trod enc Try.prog W base (fun _ => true) true n2 30 [k1] = some z1 from g1)
        obtain ⟨c, e2, _, hw⟩ := DataW.trod_int Try.underlying30 (show DataW.trod enc Try.prog W base (fun _ => true) true n 30 [k2] = some y1 from h1)
        obtain ⟨r, e3, _, _⟩ := DataW.trod_int Try.underlying3 (show DataW.trod enc Try.prog W base (fun _ => true) true n 3 [k3] = some y2 from h2)
        simp only [List.cons.injEq, and_true] at e0 e1 e2 e3
        subst e0 e1 e2 e3
        obtain ⟨a, b⟩ := bounds_u8 hw
        exact ⟨⟨v, m, c, r⟩, rfl, a, b⟩
set_option maxRecDepth 100000 in
theorem open_ineq {v : Value} {d : DataW H} {p : List MemPlace} {b0 : Nat} (hv : Value.okWide Try.prog W .any b0 34 v) (h : DataW.Trod enc Try.prog W base (fun _ => true) true 34 v d p) :
    ∃ x : Iq, v = .agg #[.int .i64 x.v, .int .u8 x.m, .int .u8 x.c, .int .i64 x.r] ∧ 0 ≤ x.c ∧ x.c ≤ 255 := by
  obtain ⟨cs, rfl, hsz⟩ := okWide_struct Try.underlying34 hv
  obtain ⟨fuel, hf⟩ := h
  obtain ⟨q, e, a, b⟩ := ineq_cells hf
  refine ⟨q, ?_, a, b⟩
  have e2 : cs.toList = q.cells := by simpa [Value.cells] using e
  obtain ⟨l⟩ := cs
  subst e2; rfl
set_option maxRecDepth 100000 in
theorem open_ineqs {v : Value} {d : DataW H} {p : List MemPlace} {b0 : Nat} (hv : Value.okWide Try.prog W .any b0 37 v) (h : DataW.Trod enc Try.prog W base (fun _ => true) true 37 v d p) :
    ∃ A n k xs, v = .slice A n k ∧ n ≤ 9223372036854775807 ∧ RQ W W.heap.size A n xs ∧ ∀ x ∈ xs, 0 ≤ x.c ∧ x.c ≤ 255 := by
  obtain ⟨a0, len0, cap0, rfl⟩ := okWide_slice Try.underlying37 hv
  obtain ⟨fuel, hf⟩ := h
  have c50 : Try.prog.cellsOf 34 = 4 := by kernel_rfl
  rcases open_slice Try.underlying37 hf with ⟨hcs, _⟩ | ⟨a, len, cap, m, n, D, Pl, hcs, hb, hl, hm, hmm, hx, hi⟩
  · simp [Value.cells] at hcs
    obtain ⟨rfl, rfl, rfl⟩ := hcs
    exact ⟨none, 0, 0, [], rfl, by omega, RQ.nil_, by simp⟩
  · simp [Value.cells] at hcs
    obtain ⟨rfl, rfl, rfl⟩ := hcs
    unfold maxLen at hm
    simp only [if_true] at hmm
    rw [c50] at hi
    have key : ∀ i, ∃ q : Iq, 0 ≤ q.c ∧ q.c ≤ 255 ∧ (i < m → ∀ j u, q.cells[j]? = some u → W.cell? (a.add (i * 4 + j)) = some u) := by
      intro i
      by_cases hlt : i < m
      · obtain ⟨cs', hc, ht⟩ := hi i hlt
        obtain ⟨q, e, x, y⟩ := ineq_cells ht
        obtain ⟨_, hcl, hat⟩ := World.cells?_some hc
        refine ⟨q, x, y, fun _ j u hu => ?_⟩
        have hj : j < 4 := (List.getElem?_eq_some_iff.1 hu).1
        rw [← Go.Deep.add_add, hat j hj, e]; exact hu
      · exact ⟨⟨0, 0, 0, 0⟩, by simp, by simp, fun h => absurd h hlt⟩
    refine ⟨some a, len0, cap0, (List.range len0).map fun i => Classical.choose (key i), rfl, by omega, ⟨by simp, fun hn => ?_⟩, ?_⟩
    · obtain ⟨b, off, spot⟩ := a
      have hk0 := (Classical.choose_spec (key 0)).2.2 (by omega) 0 _ rfl
      have hspot : spot = none := by simpa [Addr.add] using World.cell?_spot hk0
      subst hspot
      refine ⟨b, off, rfl, ?_, fun k x hx => ?_⟩
      · rw [Addr.add_lit] at hk0
        exact World.block_lt_of_cell? W _ hk0
      · have hlt : k < len0 := by have := (List.getElem?_eq_some_iff.1 hx).1; simpa using this
        have hx2 : Classical.choose (key k) = x := by simpa [List.getElem?_map, List.getElem?_range hlt] using hx
        have hk := (Classical.choose_spec (key k)).2.2 (by omega)
        rw [hx2] at hk
        have q0 := hk 0 _ rfl
        have q1 := hk 1 _ rfl
        have q2 := hk 2 _ rfl
        have q3 := hk 3 _ rfl
        rw [Addr.add_lit] at q0 q1 q2 q3
        exact ⟨q0, by rw [Nat.add_assoc]; exact q1, by rw [Nat.add_assoc]; exact q2, by rw [Nat.add_assoc]; exact q3⟩
    · intro x hx
      obtain ⟨i, _, rfl⟩ := List.mem_map.1 hx
      have := Classical.choose_spec (key i)
      exact ⟨this.1, this.2.1⟩
end
end Go.Proofs.Ytlbachjhhjjmfaa.Mu

