/-
  Rows of tokens, a text and a row of texts, opened.
-/
import Derived.Test.YteockaolmobmeaaGreatDoorRows
import Derived.Test.YteockaolmobmeaaGreatDoorLxTok
import Derived.Lib.SmallJoins
import Derived.KernelRfl
import Derived.ProofKit
import Derived.OpenShut
import Derived.ChangeOld
import Derived.ChangeMaps5
import Derived.Laws.StructEq
import Derived.Deep.Slices
namespace Go.Proofs.YteockaolmobmeaaGreatDoor.Mu
open Go.ChangeShapes Go.WideShapes Go.ChangeAt Go.RowKit Go.Joins Go.Deep

theorem fTokO : ((Tryz.prog.fieldsOf 44).toList.map fun f => (f.name, f.type, f.offset)) = [("Kind", 5, 0), ("Text", 9, 1), ("N", 2, 2), ("At", 32, 3)] := by kernel_rfl
theorem fPosO : ((Tryz.prog.fieldsOf 32).toList.map fun f => (f.name, f.type, f.offset)) = [("At", 3, 0), ("Line", 3, 1), ("Col", 3, 2)] := by kernel_rfl
theorem map4O {α β : Type} {f : α → β} {l : List α} {x y z u : β} (h : l.map f = [x, y, z, u]) : ∃ a b c d, l = [a, b, c, d] ∧ f a = x ∧ f b = y ∧ f c = z ∧ f d = u := by
  match l, h with
  | [a, b, c, d], h => simp at h; exact ⟨a, b, c, d, rfl, h.1, h.2.1, h.2.2.1, h.2.2.2⟩
theorem map3O {α β : Type} {f : α → β} {l : List α} {x y z : β} (h : l.map f = [x, y, z]) : ∃ a b c, l = [a, b, c] ∧ f a = x ∧ f b = y ∧ f c = z := by
  match l, h with
  | [a, b, c], h => simp at h; exact ⟨a, b, c, rfl, h.1, h.2.1, h.2.2⟩
theorem bulkO_one {H : Type} (d : DataW H) : 1 ≤ Rows.uptoBulk d := by
  cases d with
  | lit l => cases l <;> simp [Rows.uptoBulk]
  | nil => simp [Rows.uptoBulk]
  | ptr d => simp [Rows.uptoBulk]
  | slice elems spare => simp [Rows.uptoBulk]
  | agg parts => simp [Rows.uptoBulk]
  | iface t d => simp [Rows.uptoBulk]
  | map entries => simp [Rows.uptoBulk]
  | held h => simp [Rows.uptoBulk]
theorem bulkO_mem {H : Type} {d : DataW H} {l : List (DataW H)} (h : d ∈ l) : Rows.uptoBulk d ≤ Rows.uptoBulkAll l := by
  induction l with
  | nil => cases h
  | cons x r ih =>
    simp only [Rows.uptoBulkAll]
    rcases List.mem_cons.1 h with rfl | h
    · omega
    · have := ih h; omega
theorem bulkO_len {H : Type} (l : List (DataW H)) : l.length ≤ Rows.uptoBulkAll l := by
  induction l with
  | nil => simp [Rows.uptoBulkAll]
  | cons x r ih => have := bulkO_one x; simp only [Rows.uptoBulkAll, List.length_cons]; omega

section
variable {H : Type} {enc : TypeId × Value → H} {W : World} {base : Nat}
/-- A token's numbers. -/
def TnB (x : Tn) : Prop := (0 ≤ x.k ∧ x.k ≤ 255) ∧ (-9223372036854775808 ≤ x.n ∧ x.n ≤ 9223372036854775807)
set_option maxRecDepth 100000 in
theorem tok_cells {fuel : Nat} {cs : List Value} {x : DataW H × List MemPlace} (h : DataW.trod enc Tryz.prog W base (fun _ => true) true fuel 44 cs = some x) : ∃ q : Tn, cs = q.cells ∧ TnB q ∧ q.s.length + 1 ≤ Rows.uptoBulk x.1 ∧ ∃ p0 p2 p3 : DataW H, x.1 = .agg [p0, .lit (.string q.s), p2, p3] := by
  have uI : Tryz.prog.underlying 44 = some (.struct (Tryz.prog.fieldsOf 44)) := by kernel_rfl
  have uM : Tryz.prog.underlying 32 = some (.struct (Tryz.prog.fieldsOf 32)) := by kernel_rfl
  obtain ⟨ys, n, _, hx, hlen, hyl, hf⟩ := DataW.trod_struct uI h
  obtain ⟨fa, fb, fc, fd, e, ea, eb, ec, ed⟩ := map4O fTokO
  obtain ⟨ga, gb, gc, e', ea', eb', ec'⟩ := map3O fPosO
  simp only [Prod.mk.injEq] at ea eb ec ed ea' eb' ec'
  have z0 : (Tryz.prog.fieldsOf 44).size = 4 := by rw [← Array.length_toList, e]; rfl
  have z1 : (Tryz.prog.fieldsOf 32).size = 3 := by rw [← Array.length_toList, e']; rfl
  have c50 : Tryz.prog.cellsOf 44 = 6 := by kernel_rfl
  have c32 : Tryz.prog.cellsOf 32 = 3 := by kernel_rfl
  have c1 : Tryz.prog.cellsOf 5 = 1 := by kernel_rfl
  have c2 : Tryz.prog.cellsOf 9 = 1 := by kernel_rfl
  have c3 : Tryz.prog.cellsOf 2 = 1 := by kernel_rfl
  have c4 : Tryz.prog.cellsOf 3 = 1 := by kernel_rfl
  rw [c50] at hlen
  rw [z0] at hyl
  match cs, hlen with
  | [k0, k1, k2, k3, k4, k5], _ =>
    have h0 := hf 0 fa (by rw [← Array.getElem?_toList, e]; rfl)
    have h1 := hf 1 fb (by rw [← Array.getElem?_toList, e]; rfl)
    have h2 := hf 2 fc (by rw [← Array.getElem?_toList, e]; rfl)
    have h3 := hf 3 fd (by rw [← Array.getElem?_toList, e]; rfl)
    rw [ea.2.1, ea.2.2, c1] at h0
    rw [eb.2.1, eb.2.2, c2] at h1
    rw [ec.2.1, ec.2.2, c3] at h2
    rw [ed.2.1, ed.2.2, c32] at h3
    match ys, hyl with
    | [y0, y1, y2, y3], _ =>
      obtain ⟨zs, n2, _, _, _, hzl, hg⟩ := DataW.trod_struct uM (show DataW.trod enc Tryz.prog W base (fun _ => true) true n 32 [k3, k4, k5] = some y3 from h3)
      rw [z1] at hzl
      have g0 := hg 0 ga (by rw [← Array.getElem?_toList, e']; rfl)
      have g1 := hg 1 gb (by rw [← Array.getElem?_toList, e']; rfl)
      have g2 := hg 2 gc (by rw [← Array.getElem?_toList, e']; rfl)
      rw [ea'.2.1, ea'.2.2, c4] at g0
      rw [eb'.2.1, eb'.2.2, c4] at g1
      rw [ec'.2.1, ec'.2.2, c4] at g2
      match zs, hzl with
      | [x0, x1, x2], _ =>
        obtain ⟨a, e0, _, _⟩ := DataW.trod_int Tryz.underlying3 (show DataW.trod enc Tryz.prog W base (fun _ => true) true n2 3 [k3] = some x0 from g0)
        obtain ⟨l, e1, _, _⟩ := DataW.trod_int Tryz.underlying3 (show DataW.trod enc Tryz.prog W base (fun _ => true) true n2 3 [k4] = some x1 from g1)
        obtain ⟨c, e2, _, _⟩ := DataW.trod_int Tryz.underlying3 (show DataW.trod enc Tryz.prog W base (fun _ => true) true n2 3 [k5] = some x2 from g2)
        obtain ⟨k, e3, _, hk⟩ := DataW.trod_int Tryz.underlying5 (show DataW.trod enc Tryz.prog W base (fun _ => true) true n 5 [k0] = some y0 from h0)
        obtain ⟨s, e4, ds, _⟩ := DataW.trod_string Tryz.underlying9 (show DataW.trod enc Tryz.prog W base (fun _ => true) true n 9 [k1] = some y1 from h1)
        obtain ⟨m, e5, _, hm⟩ := DataW.trod_int Tryz.underlying2 (show DataW.trod enc Tryz.prog W base (fun _ => true) true n 2 [k2] = some y2 from h2)
        simp only [List.cons.injEq, and_true] at e0 e1 e2 e3 e4 e5
        subst e0 e1 e2 e3 e4 e5
        refine ⟨⟨k, s.data.toList, m, ⟨a, l, c⟩⟩, rfl, ⟨bounds_u8 hk, bounds_i64 hm⟩, ?_, y0.1, y2.1, y3.1, by rw [hx, ds]; rfl⟩
        have hbk : Rows.uptoBulk y1.1 ≤ Rows.uptoBulkAll ([y0, y1, y2, y3].map (·.1)) := bulkO_mem (by simp)
        rw [ds] at hbk
        rw [hx, ds]
        simp only [Rows.uptoBulk] at hbk ⊢
        show s.data.toList.length + 1 ≤ _
        omega
theorem weights_mem {P : Program} {t : TypeId} {l : List (DataW H)} {d : DataW H} {y : Nat} (h : y ∈ d.weights P t) (hd : d ∈ l) : y ∈ DataW.weightsAll P t l := by
  induction l with
  | nil => cases hd
  | cons x r ih =>
    simp only [DataW.weightsAll, List.mem_append]
    rcases List.mem_cons.1 hd with rfl | hd
    · exact .inl h
    · exact .inr (ih hd)
theorem weights_head {P : Program} {t : TypeId} {ts : List TypeId} {d : DataW H} {ds : List (DataW H)} {p : Nat → Bool} (h : (DataW.weightsEach P (t :: ts) (d :: ds)).all p = true) : (d.weights P t).all p = true ∧ (DataW.weightsEach P ts ds).all p = true := by
  simp only [DataW.weightsEach, List.all_append, Bool.and_eq_true] at h
  exact h
theorem slice_weights (elems spare : List (DataW H)) : (DataW.slice elems spare : DataW H).weights Tryz.prog 26 = (elems.length + spare.length) * Tryz.prog.bytesOf 44 :: (DataW.weightsAll Tryz.prog 44 elems ++ DataW.weightsAll Tryz.prog 44 spare) := by
  simp only [DataW.weights, Tryz.underlying26]
theorem tok_weight (p0 p2 p3 : DataW H) (s : List UInt8) : s.length ∈ (DataW.agg [p0, .lit (.string s), p2, p3] : DataW H).weights Tryz.prog 44 := by
  have uI : Tryz.prog.underlying 44 = some (.struct (Tryz.prog.fieldsOf 44)) := by kernel_rfl
  obtain ⟨fa, fb, fc, fd, e, ea, eb, ec, ed⟩ := map4O fTokO
  simp only [DataW.weights, uI, e, List.map_cons, List.map_nil, DataW.weightsEach, List.mem_append]
  exact .inr (.inl (by simp))
theorem tok_weightE {d p0 p2 p3 : DataW H} {s : List UInt8} (e : d = .agg [p0, .lit (.string s), p2, p3]) : s.length ∈ d.weights Tryz.prog 44 := by
  subst e; exact tok_weight p0 p2 p3 s
set_option maxRecDepth 100000 in
theorem open_toks {v : Value} {d : DataW H} {p : List MemPlace} {b0 : Nat} (hv : Value.okWide Tryz.prog W .any b0 26 v) (h : DataW.Trod enc Tryz.prog W base (fun _ => true) true 26 v d p) :
    ∃ A n k xs, v = .slice A n k ∧ n ≤ 9223372036854775807 ∧ RTn W W.heap.size A n xs ∧ (∀ x ∈ xs, TnB x ∧ x.s.length + 1 ≤ Rows.uptoBulk d ∧ ((d.weights Tryz.prog 26).all (· ≤ reachBytes) = true → x.s.length ≤ reachBytes)) ∧ n ≤ Rows.uptoBulk d ∧ ((d.weights Tryz.prog 26).all (· ≤ reachBytes) = true → n ≤ reachBytes) := by
  obtain ⟨a0, len0, cap0, rfl⟩ := okWide_slice Tryz.underlying26 hv
  obtain ⟨fuel, hf⟩ := h
  have c50 : Tryz.prog.cellsOf 44 = 6 := by kernel_rfl
  rcases open_slice Tryz.underlying26 hf with ⟨hcs, _⟩ | ⟨a, len, cap, m, n, D, Pl, hcs, hb, hl, hm, hmm, hx, hi⟩
  · simp [Value.cells] at hcs
    obtain ⟨rfl, rfl, rfl⟩ := hcs
    exact ⟨none, 0, 0, [], rfl, by omega, RTn.nil_, by simp, by omega, fun _ => Nat.zero_le _⟩
  · simp [Value.cells] at hcs
    obtain ⟨rfl, rfl, rfl⟩ := hcs
    unfold maxLen at hm
    simp only [if_true] at hmm
    rw [c50] at hi
    have key : ∀ i, ∃ q : Tn, (i < m → TnB q ∧ q.s.length + 1 ≤ Rows.uptoBulk (D i) ∧ ∃ p0 p2 p3 : DataW H, D i = .agg [p0, .lit (.string q.s), p2, p3]) ∧ (i < m → ∀ j u, q.cells[j]? = some u → W.cell? (a.add (i * 6 + j)) = some u) := by
      intro i
      by_cases hlt : i < m
      · obtain ⟨cs', hc, ht⟩ := hi i hlt
        obtain ⟨q, e, x, y, z⟩ := tok_cells ht
        obtain ⟨_, hcl, hat⟩ := World.cells?_some hc
        refine ⟨q, fun _ => ⟨x, y, z⟩, fun _ j u hu => ?_⟩
        have hj : j < 6 := (List.getElem?_eq_some_iff.1 hu).1
        rw [← Go.Deep.add_add, hat j hj, e]; exact hu
      · exact ⟨⟨0, [], 0, ⟨0, 0, 0⟩⟩, fun h => absurd h hlt, fun h => absurd h hlt⟩
    have hd : d = _ := congrArg Prod.fst hx
    have hbk : Rows.uptoBulkAll ((List.range len0).map D) + 1 ≤ Rows.uptoBulk d := by
      rw [hd]
      simp only [Rows.uptoBulk]
      omega
    refine ⟨some a, len0, cap0, (List.range len0).map fun i => Classical.choose (key i), rfl, by omega, ⟨by simp, fun hn => ?_⟩, ?_, ?_, ?_⟩
    · obtain ⟨b, off, spot⟩ := a
      have hk0 := (Classical.choose_spec (key 0)).2 (by omega) 0 _ rfl
      have hspot : spot = none := by simpa [Addr.add] using World.cell?_spot hk0
      subst hspot
      refine ⟨b, off, rfl, ?_, fun k x hx => ?_⟩
      · rw [Addr.add_lit] at hk0
        exact World.block_lt_of_cell? W _ hk0
      · have hlt : k < len0 := by have := (List.getElem?_eq_some_iff.1 hx).1; simpa using this
        have hx2 : Classical.choose (key k) = x := by simpa [List.getElem?_map, List.getElem?_range hlt] using hx
        have hk := (Classical.choose_spec (key k)).2 (by omega)
        rw [hx2] at hk
        have q0 := hk 0 _ rfl
        have q1 := hk 1 _ rfl
        have q2 := hk 2 _ rfl
        have q3 := hk 3 _ rfl
        have q4 := hk 4 _ rfl
        have q5 := hk 5 _ rfl
        rw [Addr.add_lit] at q0 q1 q2 q3 q4 q5
        exact ⟨q0, by rw [Nat.add_assoc]; exact q1, by rw [Nat.add_assoc]; exact q2, by rw [Nat.add_assoc]; exact q3, by rw [Nat.add_assoc]; exact q4, by rw [Nat.add_assoc]; exact q5⟩
    · intro x hx
      obtain ⟨i, hi2, rfl⟩ := List.mem_map.1 hx
      have hil : i < len0 := by simpa using hi2
      have h1 := (Classical.choose_spec (key i)).1 (by omega)
      have h2 : Rows.uptoBulk (D i) ≤ Rows.uptoBulkAll ((List.range len0).map D) := bulkO_mem (List.mem_map.2 ⟨i, hi2, rfl⟩)
      refine ⟨h1.1, by have := h1.2.1; omega, fun hw => ?_⟩
      rw [hd] at hw
      obtain ⟨p0, p2, p3, e⟩ := h1.2.2
      have hm1 : (Classical.choose (key i)).s.length ∈ (D i).weights Tryz.prog 44 := tok_weightE e
      have hm2 := weights_mem (t := 44) hm1 (List.mem_map.2 ⟨i, hi2, rfl⟩ : D i ∈ (List.range len0).map D)
      exact of_decide_eq_true (List.all_eq_true.1 hw _ (by rw [slice_weights]; exact List.mem_cons_of_mem _ (List.mem_append_left _ hm2)))
    · have := bulkO_len ((List.range len0).map D)
      simp only [List.length_map, List.length_range] at this
      omega
    · intro hw
      rw [hd, slice_weights] at hw
      have h1 := of_decide_eq_true (List.all_eq_true.1 hw _ (List.mem_cons_self ..))
      simp only [List.length_map, List.length_range] at h1
      have h2 : Tryz.prog.bytesOf 44 = 56 := by kernel_rfl
      rw [h2] at h1
      omega
set_option maxRecDepth 100000 in
theorem open_text {v : Value} {d : DataW H} {p : List MemPlace} {b0 : Nat} (hv : Value.okWide Tryz.prog W .any b0 9 v) (h : DataW.Trod enc Tryz.prog W base (fun _ => true) true 9 v d p) : ∃ s : ByteArray, v = .string s ∧ s.size + 1 ≤ Rows.uptoBulk d := by
  obtain ⟨s, rfl, hd, _, _⟩ := ChangeMaps.open_string Tryz.underlying9 hv h
  refine ⟨s, rfl, ?_⟩
  rw [hd]
  simp only [Rows.uptoBulk]
  show s.size + 1 ≤ s.data.toList.length + 1
  rw [Array.length_toList]; exact Nat.le_refl _
set_option maxRecDepth 100000 in
theorem open_texts {v : Value} {d : DataW H} {p : List MemPlace} {b0 : Nat} (hv : Value.okWide Tryz.prog W .any b0 24 v) (h : DataW.Trod enc Tryz.prog W base (fun _ => true) true 24 v d p) :
    ∃ A len cap nm, v = .slice A len cap ∧ RL W W.heap.size A len nm ∧ len ≤ Rows.uptoBulk d := by
  obtain ⟨a0, len0, cap0, rfl⟩ := okWide_slice Tryz.underlying24 hv
  obtain ⟨fuel, hf⟩ := h
  rcases Go.Deep.open_strs Tryz.underlying24 Tryz.underlying9 (by kernel_rfl) hf with ⟨hcs, _⟩ | ⟨a, len, cap, m, Sx, hcs, hb, hl, hm, hmm, hx, hi⟩
  · simp [Value.cells] at hcs
    obtain ⟨rfl, rfl, rfl⟩ := hcs
    exact ⟨none, 0, 0, [], rfl, ⟨rfl, fun h => absurd h (by omega)⟩, Nat.zero_le _⟩
  · simp [Value.cells] at hcs
    obtain ⟨rfl, rfl, rfl⟩ := hcs
    simp only [if_true] at hmm
    have hbk : len0 ≤ Rows.uptoBulk d := by
      rw [show d = _ from congrArg Prod.fst hx]
      simp only [Rows.uptoBulk]
      have := bulkO_len ((List.range len0).map fun i => (DataW.lit (.string (Sx i).data.toList) : DataW H))
      simp only [List.length_map, List.length_range] at this
      omega
    refine ⟨some a, len0, cap0, (List.range len0).map fun i => (Sx i).data.toList, rfl, ⟨by simp, fun hn => ?_⟩, hbk⟩
    obtain ⟨b, off, spot⟩ := a
    have hk0 := (hi 0 (by omega)).1
    have hspot : spot = none := by simpa [Addr.add] using World.cell?_spot hk0
    subst hspot
    refine ⟨b, off, rfl, ?_, fun i x hx => ?_⟩
    · rw [Addr.add_lit] at hk0
      exact World.block_lt_of_cell? W _ hk0
    · simp only [List.getElem?_map, Option.map_eq_some_iff] at hx
      obtain ⟨j, hj, rfl⟩ := hx
      have hji : j = i ∧ i < len0 := by
        have h1 := List.getElem?_eq_some_iff.1 hj
        obtain ⟨h2, h3⟩ := h1
        simp at h2 h3
        omega
      obtain ⟨rfl, hlt⟩ := hji
      have hsp := (hi j (by omega)).1
      rw [Addr.add_lit] at hsp
      simpa using hsp
end
end Go.Proofs.YteockaolmobmeaaGreatDoor.Mu

