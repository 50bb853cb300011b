/-
  What an argument of layer 2's types is, opened: a term, a Mu, a list of multiplicities, a list of terms.
  What an argument that is a type is, opened: its nodes are no more than its bulk.
  What an argument that is a type is, opened, with its numbers' bounds; a list of multiplicities.
  A list of strings, opened.
-/
import Derived.Test.YtblgligagngpfaaDoorRows
import Derived.Test.YtblgligagngpfaaDoorMem
import Derived.Lib.SmallJoins
import Derived.OpenShut
import Derived.KernelRfl
import Derived.Test.YtblgligagngpfaaDoorThruS
import Derived.Deep.Slices
import Derived.Test.YtblgligagngpfaaDoorTyPuta
import Derived.Test.YtblgligagngpfaaDoorTyWrite
import Derived.Deep.Strs
namespace Go.Proofs.YtblgligagngpfaaDoor.Mu
open Go.ChangeShapes Go.WideShapes Go.ChangeAt Go.RowKit Go.Joins

section
variable {H : Type} {enc : TypeId × Value → H} {W : World} {base : Nat}

set_option maxRecDepth 100000 in
theorem ri_of_ints {kd : IntKind} {t e : TypeId} {fuel : Nat} {cs : List Value} {x : DataW H × List MemPlace} (ht : Tryd.prog.underlying t = some (.slice e)) (he : Tryd.prog.underlying e = some (.int kd)) (hc : Tryd.prog.cellsOf e = 1)
    (h : DataW.trod enc Tryd.prog W base (fun _ => true) true fuel t cs = some x) :
    ∃ A n k l, cs = [.slice A n k] ∧ n ≤ 9223372036854775807 ∧ RI kd W W.heap.size A n l ∧ ∀ y ∈ l, (Lit.int kd y).wf = true := by
  rcases open_ints ht he hc h with ⟨hcs, _⟩ | ⟨a, len, cap, zs, hcs, _, hl, hm, hz, _, hcell, hwz⟩
  · exact ⟨_, _, _, [], hcs, by omega, RI.nil_, by simp⟩
  · unfold maxLen at hm
    simp only [if_true] at hz
    refine ⟨_, _, _, zs.take len, hcs, by omega, ⟨by rw [List.length_take]; omega, fun hn => ?_⟩, fun y hy => hwz y (List.mem_of_mem_take hy)⟩
    obtain ⟨b, off, rfl, hc'⟩ := ints_at hcell (by omega)
    refine ⟨b, off, rfl, World.block_lt_of_cell? W _ (hc' 0 (by omega)), fun k hk => ?_⟩
    rw [hc' k (by omega), List.getElem?_take_of_lt hk, List.getD_eq_getElem?_getD]

set_option maxRecDepth 100000 in
theorem open_mu {v : Value} {d : DataW H} {p : List MemPlace} {b0 : Nat} (hv : Value.okWide Tryd.prog W .any b0 24 v) (h : DataW.Trod enc Tryd.prog W base (fun _ => true) true 24 v d p) :
    ∃ x c, v = .agg #[.int .i64 x, .int .u8 c] ∧ 0 ≤ c ∧ c ≤ 255 := by
  obtain ⟨v0, v1, y0, y1, n, rfl, _, _, t0, t1⟩ := open_agg2 Tryd.underlying24 (by kernel_rfl) (by kernel_rfl) hv h
  obtain ⟨x, e0, _, _⟩ := DataW.trod_int Tryd.underlying3 t0
  obtain ⟨c, e1, _, hw⟩ := DataW.trod_int Tryd.underlying22 t1
  simp only [List.cons.injEq, and_true] at e0 e1
  subst e0 e1
  obtain ⟨h0, h1⟩ := bounds_u8 hw
  exact ⟨_, _, rfl, h0, h1⟩

end
end Go.Proofs.YtblgligagngpfaaDoor.Mu
namespace Go.Proofs.YtblgligagngpfaaDoor.Mu
open Go.ChangeShapes Go.WideShapes Go.ChangeAt Go.RowKit Go.Joins Go.Deep

theorem fTy : ((Tryd.prog.fieldsOf 27).toList.map fun f => (f.name, f.type, f.offset)) = [("Kind", 5, 0), ("N", 3, 1), ("M", 24, 2), ("L", 25, 4)] := by kernel_rfl
theorem fMu2 : ((Tryd.prog.fieldsOf 24).toList.map fun f => (f.name, f.type, f.offset)) = [("V", 3, 0), ("C", 22, 1)] := by kernel_rfl
theorem mapT2 {α β : Type} {f : α → β} {l : List α} {x y : β} (h : l.map f = [x, y]) : ∃ a b, l = [a, b] ∧ f a = x ∧ f b = y := by
  match l, h with
  | [a, b], h => simp at h; exact ⟨a, b, rfl, h.1, h.2⟩
theorem mapT4 {α β : Type} {f : α → β} {l : List α} {x y z u : β} (h : l.map f = [x, y, z, u]) : ∃ a b c d, l = [a, b, c, d] ∧ f a = x ∧ f b = y ∧ f c = z ∧ f d = u := by
  match l, h with
  | [a, b, c, d], h => simp at h; exact ⟨a, b, c, d, rfl, h.1, h.2.1, h.2.2.1, h.2.2.2⟩
theorem bulk_one {H : Type} (d : DataW H) : 1 ≤ Rows.uptoBulk d := by
  cases d with
  | lit l => cases l <;> simp [Rows.uptoBulk]
  | nil => simp [Rows.uptoBulk]
  | ptr d => simp [Rows.uptoBulk]
  | slice elems spare => simp [Rows.uptoBulk]
  | agg parts => simp [Rows.uptoBulk]
  | iface t d => simp [Rows.uptoBulk]
  | map entries => simp [Rows.uptoBulk]
  | held h => simp [Rows.uptoBulk]
theorem bulk_mem {H : Type} {d : DataW H} {l : List (DataW H)} (h : d ∈ l) : Rows.uptoBulk d ≤ Rows.uptoBulkAll l := by
  induction l with
  | nil => cases h
  | cons x r ih =>
    simp only [Rows.uptoBulkAll]
    cases List.mem_cons.1 h with
    | inl e => subst e; omega
    | inr e => have := ih e; omega
theorem bulk_len {H : Type} (l : List (DataW H)) : l.length ≤ Rows.uptoBulkAll l := by
  induction l with
  | nil => simp [Rows.uptoBulkAll]
  | cons x r ih => have := bulk_one x; simp only [Rows.uptoBulkAll, List.length_cons]; omega
/-- A node in memory, by its cells. -/
def CellsAt (W : World) (b o : Nat) (k n v c : Int) (A : Option Addr) (len cap : Nat) : Prop := W.cell? ⟨b, o, none⟩ = some (.int .u8 k) ∧ W.cell? ⟨b, o + 1, none⟩ = some (.int .i64 n) ∧ W.cell? ⟨b, o + 2, none⟩ = some (.int .i64 v) ∧ W.cell? ⟨b, o + 3, none⟩ = some (.int .u8 c) ∧ W.cell? ⟨b, o + 4, none⟩ = some (.slice A len cap)
theorem build_fo {H : Type} {W : World} {len b off : Nat} {D : Nat → DataW H} (hel : ∀ i, i < len → ∃ k n v c A l cap kids, CellsAt W b (off + i * 5) k n v c A l cap ∧ KidsAt W (Old W) A l cap kids ∧ 1 + kids.size ≤ Rows.uptoBulk (D i)) :
    ∀ r q, q + r = len → ∃ f : Fo, f.len = r ∧ FoAt W (Old W) f b (off + q * 5) ∧ f.size ≤ Rows.uptoBulkAll ((List.range' q r).map D)
  | 0, q, _ => ⟨.nil, rfl, trivial, Nat.zero_le _⟩
  | r + 1, q, h => by
    obtain ⟨f, h1, h2, h3⟩ := build_fo hel r (q + 1) (by omega)
    obtain ⟨k, n, v, c, A, l, cap, kids, ⟨c0, c1, c2, c3, c4⟩, ⟨e, hc, hk⟩, hb⟩ := hel q (by omega)
    subst e
    refine ⟨.cons k n v c kids f, by simp [Fo.len, h1], ⟨A, cap, c0, c1, c2, c3, c4, hc, fun h0 => hk h0, ?_⟩, ?_⟩
    · rw [show off + q * 5 + 5 = off + (q + 1) * 5 by omega]; exact h2
    · rw [List.range'_succ, List.map_cons]
      simp only [Fo.size, Rows.uptoBulkAll]
      omega
section
variable {H : Type} {enc : TypeId × Value → H} {W : World} {base : Nat}
set_option maxRecDepth 100000 in
theorem mu_cells {fuel : Nat} {cs : List Value} {x : DataW H × List MemPlace} (h : DataW.trod enc Tryd.prog W base (fun _ => true) true fuel 24 cs = some x) : ∃ v c, cs = [.int .i64 v, .int .u8 c] := by
  have uM : Tryd.prog.underlying 24 = some (.struct (Tryd.prog.fieldsOf 24)) := by kernel_rfl
  obtain ⟨zs, n2, _, _, hlen, hzl, hg⟩ := DataW.trod_struct uM h
  obtain ⟨ga, gb, e', ea', eb'⟩ := mapT2 fMu2
  simp only [Prod.mk.injEq] at ea' eb'
  have z1 : (Tryd.prog.fieldsOf 24).size = 2 := by rw [← Array.length_toList, e']; rfl
  have c32 : Tryd.prog.cellsOf 24 = 2 := by kernel_rfl
  have c22 : Tryd.prog.cellsOf 22 = 1 := by kernel_rfl
  have c3 : Tryd.prog.cellsOf 3 = 1 := by kernel_rfl
  rw [z1] at hzl
  rw [c32] at hlen
  match cs, hlen with
  | [k0, k1], _ =>
    have g0 := hg 0 ga (by rw [← Array.getElem?_toList, e']; rfl)
    have g1 := hg 1 gb (by rw [← Array.getElem?_toList, e']; rfl)
    rw [ea'.2.1, ea'.2.2, c3] at g0
    rw [eb'.2.1, eb'.2.2, c22] at g1
    match zs, hzl with
    | [z0, z1], _ =>
      obtain ⟨v, e0, _, _⟩ := DataW.trod_int Tryd.underlying3 (show DataW.trod enc Tryd.prog W base (fun _ => true) true n2 3 [k0] = some z0 from g0)
      obtain ⟨m, e1, _, _⟩ := DataW.trod_int Tryd.underlying22 (show DataW.trod enc Tryd.prog W base (fun _ => true) true n2 22 [k1] = some z1 from g1)
      simp only [List.cons.injEq, and_true] at e0 e1
      subst e0 e1
      exact ⟨v, m, rfl⟩
/-- A list of types, from what is known of its elements. -/
theorem types_of {B fuel : Nat} {cs : List Value} {x : DataW H × List MemPlace} (ih : ∀ fuel cs (x : DataW H × List MemPlace), DataW.trod enc Tryd.prog W base (fun _ => true) true fuel 27 cs = some x → Rows.uptoBulk x.1 ≤ B → ∃ k n v c A len cap kids, cs = [.int .u8 k, .int .i64 n, .int .i64 v, .int .u8 c, .slice A len cap] ∧ KidsAt W (Old W) A len cap kids ∧ 1 + kids.size ≤ Rows.uptoBulk x.1)
    (h : DataW.trod enc Tryd.prog W base (fun _ => true) true fuel 25 cs = some x) (hB : Rows.uptoBulk x.1 ≤ B + 1) : ∃ A len cap kids, cs = [.slice A len cap] ∧ KidsAt W (Old W) A len cap kids ∧ kids.size ≤ Rows.uptoBulk x.1 := by
  have c50 : Tryd.prog.cellsOf 27 = 5 := by kernel_rfl
  rcases open_slice Tryd.underlying25 h with ⟨hcs, _⟩ | ⟨a, len, cap, m, n, D, Pl, hcs, hb, hl, hm, hmm, hx, hi⟩
  · exact ⟨none, 0, 0, .nil, hcs, ⟨rfl, Nat.le_refl _, fun h => by omega⟩, Nat.zero_le _⟩
  · simp only [if_true] at hmm
    rw [c50] at hi
    rw [hx] at hB ⊢
    simp only [Rows.uptoBulk] at hB ⊢
    by_cases h0 : len = 0
    · subst h0
      exact ⟨some a, 0, cap, .nil, hcs, ⟨rfl, Nat.zero_le _, fun h => by omega⟩, Nat.zero_le _⟩
    obtain ⟨b, off, spot⟩ := a
    have elt : ∀ i, i < len → ∃ cs' k n v c A l cap kids, cs' = [.int .u8 k, .int .i64 n, .int .i64 v, .int .u8 c, .slice A l cap] ∧ (∀ j, j < 5 → W.cell? ((Addr.mk b off spot).add (i * 5 + j)) = cs'[j]?) ∧ KidsAt W (Old W) A l cap kids ∧ 1 + kids.size ≤ Rows.uptoBulk (D i) := by
      intro i hlt
      obtain ⟨cs', hc, ht⟩ := hi i (by omega)
      have hDi : Rows.uptoBulk (D i) ≤ Rows.uptoBulkAll ((List.range len).map D) := bulk_mem (List.mem_map.2 ⟨i, List.mem_range.2 hlt, rfl⟩)
      obtain ⟨k, n', v, c, A, l, cp, kids, e, hk, hs⟩ := ih _ _ _ ht (by simp only; omega)
      obtain ⟨_, hcl, hat⟩ := World.cells?_some hc
      exact ⟨cs', k, n', v, c, A, l, cp, kids, e, fun j hj => by rw [← Go.Deep.add_add]; exact hat j hj, hk, hs⟩
    have hspot : spot = none := by
      obtain ⟨cs', k, n', v, c, A, l, cp, kids, e, hat, _⟩ := elt 0 (by omega)
      subst e
      have g0 := hat 0 (by omega)
      simpa [Addr.add] using World.cell?_spot g0
    subst hspot
    have key : ∀ i, i < len → ∃ k n v c A l cap kids, CellsAt W b (off + i * 5) k n v c A l cap ∧ KidsAt W (Old W) A l cap kids ∧ 1 + kids.size ≤ Rows.uptoBulk (D i) := by
      intro i hlt
      obtain ⟨cs', k, n', v, c, A, l, cp, kids, e, hat, hk, hs⟩ := elt i hlt
      subst e
      have hget : ∀ j, j < 5 → W.cell? ⟨b, off + i * 5 + j, none⟩ = [Value.int .u8 k, .int .i64 n', .int .i64 v, .int .u8 c, .slice A l cp][j]? := fun j hj => by
        have h1 := hat j hj
        rw [Addr.add_lit, ← Nat.add_assoc] at h1
        exact h1
      exact ⟨k, n', v, c, A, l, cp, kids, ⟨hget 0 (by omega), hget 1 (by omega), hget 2 (by omega), hget 3 (by omega), hget 4 (by omega)⟩, hk, hs⟩
    obtain ⟨f, h1, h2, h3⟩ := build_fo key len 0 (by omega)
    have hblk : b < W.heap.size := by
      obtain ⟨k, n, v, c, A, l, cp, kids, ⟨g0, _⟩, _⟩ := key 0 (by omega)
      exact World.block_lt_of_cell? W _ g0
    rw [← List.range_eq_range'] at h3
    exact ⟨_, len, cap, f, hcs, ⟨h1.symm, hl, fun _ => ⟨b, off, rfl, hblk, by simpa using h2⟩⟩, by omega⟩
set_option maxRecDepth 100000 in
theorem ty_cells (B : Nat) : ∀ (fuel : Nat) (cs : List Value) (x : DataW H × List MemPlace), DataW.trod enc Tryd.prog W base (fun _ => true) true fuel 27 cs = some x → Rows.uptoBulk x.1 ≤ B → ∃ k n v c A len cap kids, cs = [.int .u8 k, .int .i64 n, .int .i64 v, .int .u8 c, .slice A len cap] ∧ KidsAt W (Old W) A len cap kids ∧ 1 + kids.size ≤ Rows.uptoBulk x.1 := by
  induction B with
  | zero => intro fuel cs x h hB; have := bulk_one x.1; omega
  | succ B ih =>
    intro fuel cs x h hB
    have uI : Tryd.prog.underlying 27 = some (.struct (Tryd.prog.fieldsOf 27)) := by kernel_rfl
    obtain ⟨ys, n, _, hx, hlen, hyl, hf⟩ := DataW.trod_struct uI h
    obtain ⟨fa, fb, fc, fd, e, ea, eb, ec, ed⟩ := mapT4 fTy
    simp only [Prod.mk.injEq] at ea eb ec ed
    have z0 : (Tryd.prog.fieldsOf 27).size = 4 := by rw [← Array.length_toList, e]; rfl
    have c50 : Tryd.prog.cellsOf 27 = 5 := by kernel_rfl
    have c32 : Tryd.prog.cellsOf 24 = 2 := by kernel_rfl
    have c22 : Tryd.prog.cellsOf 5 = 1 := by kernel_rfl
    have c3 : Tryd.prog.cellsOf 3 = 1 := by kernel_rfl
    have cL : Tryd.prog.cellsOf 25 = 1 := by kernel_rfl
    rw [c50] at hlen
    rw [z0] at hyl
    match cs, hlen with
    | [k0, k1, k2, k3, k4], _ =>
      have h0 := hf 0 fa (by rw [← Array.getElem?_toList, e]; rfl)
      have h1 := hf 1 fb (by rw [← Array.getElem?_toList, e]; rfl)
      have h2 := hf 2 fc (by rw [← Array.getElem?_toList, e]; rfl)
      have h3 := hf 3 fd (by rw [← Array.getElem?_toList, e]; rfl)
      rw [ea.2.1, ea.2.2, c22] at h0
      rw [eb.2.1, eb.2.2, c3] at h1
      rw [ec.2.1, ec.2.2, c32] at h2
      rw [ed.2.1, ed.2.2, cL] at h3
      match ys, hyl with
      | [y0, y1, y2, y3], _ =>
        rw [hx] at hB ⊢
        simp only [List.map_cons, List.map_nil, Rows.uptoBulk, Rows.uptoBulkAll] at hB ⊢
        obtain ⟨k, e0, _, _⟩ := DataW.trod_int Tryd.underlying5 (show DataW.trod enc Tryd.prog W base (fun _ => true) true n 5 [k0] = some y0 from h0)
        obtain ⟨nn, e1, _, _⟩ := DataW.trod_int Tryd.underlying3 (show DataW.trod enc Tryd.prog W base (fun _ => true) true n 3 [k1] = some y1 from h1)
        obtain ⟨v, c, e2⟩ := mu_cells (show DataW.trod enc Tryd.prog W base (fun _ => true) true n 24 [k2, k3] = some y2 from h2)
        have b0 := bulk_one y0.1
        obtain ⟨A, len, cap, kids, e3, hk, hs⟩ := types_of ih (show DataW.trod enc Tryd.prog W base (fun _ => true) true n 25 [k4] = some y3 from h3) (by omega)
        simp only [List.cons.injEq, and_true] at e0 e1 e2 e3
        obtain ⟨rfl, rfl⟩ := e2
        subst e0 e1 e3
        exact ⟨k, nn, v, c, A, len, cap, kids, rfl, hk, by omega⟩
set_option maxRecDepth 100000 in
theorem open_ty {v : Value} {d : DataW H} {p : List MemPlace} {b0 : Nat} (hv : Value.okWide Tryd.prog W .any b0 27 v) (h : DataW.Trod enc Tryd.prog W base (fun _ => true) true 27 v d p) :
    ∃ k n x c A len cap kids, v = .agg #[.int .u8 k, .int .i64 n, .int .i64 x, .int .u8 c, .slice A len cap] ∧ KidsAt W (Old W) A len cap kids ∧ 1 + kids.size ≤ Rows.uptoBulk d := by
  have uI : Tryd.prog.underlying 27 = some (.struct (Tryd.prog.fieldsOf 27)) := by kernel_rfl
  obtain ⟨cs, rfl, hsz⟩ := okWide_struct uI hv
  obtain ⟨fuel, hf⟩ := h
  obtain ⟨k, n, x, c, A, len, cap, kids, e, hk, hs⟩ := ty_cells _ _ _ _ hf (Nat.le_refl _)
  refine ⟨k, n, x, c, A, len, cap, kids, ?_, hk, hs⟩
  have e2 : cs.toList = [.int .u8 k, .int .i64 n, .int .i64 x, .int .u8 c, .slice A len cap] := by simpa [Value.cells] using e
  obtain ⟨l⟩ := cs
  subst e2; rfl
set_option maxRecDepth 100000 in
theorem open_types {v : Value} {d : DataW H} {p : List MemPlace} {b0 : Nat} (hv : Value.okWide Tryd.prog W .any b0 25 v) (h : DataW.Trod enc Tryd.prog W base (fun _ => true) true 25 v d p) :
    ∃ A len cap kids, v = .slice A len cap ∧ KidsAt W (Old W) A len cap kids ∧ kids.size ≤ Rows.uptoBulk d := by
  obtain ⟨a0, len0, cap0, rfl⟩ := okWide_slice Tryd.underlying25 hv
  obtain ⟨fuel, hf⟩ := h
  obtain ⟨A, len, cap, kids, e, hk, hs⟩ := types_of (fun fuel cs x => ty_cells _ fuel cs x) hf (Nat.le_succ _)
  simp [Value.cells] at e
  obtain ⟨rfl, rfl, rfl⟩ := e
  exact ⟨_, _, _, kids, rfl, hk, hs⟩
end
end Go.Proofs.YtblgligagngpfaaDoor.Mu
namespace Go.Proofs.YtblgligagngpfaaDoor.Mu
open Go.ChangeShapes Go.WideShapes Go.ChangeAt Go.RowKit Go.Joins Go.Deep

set_option linter.unusedVariables false
/-- A node's numbers are numbers of 64 bits. -/
def wfN (k n v c : Int) (len : Nat) : Prop := (Lit.int .i64 n).wf = true ∧ (Lit.int .i64 v).wf = true
theorem build_foW {H : Type} {W : World} {len b off : Nat} {D : Nat → DataW H} (hel : ∀ i, i < len → ∃ k n v c A l cap kids, CellsAt W b (off + i * 5) k n v c A l cap ∧ KidsAt W (Old W) A l cap kids ∧ 1 + kids.size ≤ Rows.uptoBulk (D i) ∧ wfN k n v c kids.len ∧ kids.All wfN) :
    ∀ r q, q + r = len → ∃ f : Fo, f.len = r ∧ FoAt W (Old W) f b (off + q * 5) ∧ f.size ≤ Rows.uptoBulkAll ((List.range' q r).map D) ∧ f.All wfN
  | 0, q, _ => ⟨.nil, rfl, trivial, Nat.zero_le _, trivial⟩
  | r + 1, q, h => by
    obtain ⟨f, h1, h2, h3, h4⟩ := build_foW hel r (q + 1) (by omega)
    obtain ⟨k, n, v, c, A, l, cap, kids, ⟨c0, c1, c2, c3, c4⟩, ⟨e, hc, hk⟩, hb, hw1, hw2⟩ := hel q (by omega)
    subst e
    refine ⟨.cons k n v c kids f, by simp [Fo.len, h1], ⟨A, cap, c0, c1, c2, c3, c4, hc, fun h0 => hk h0, ?_⟩, ?_, hw1, hw2, h4⟩
    · rw [show off + q * 5 + 5 = off + (q + 1) * 5 by omega]; exact h2
    · rw [List.range'_succ, List.map_cons]
      simp only [Fo.size, Rows.uptoBulkAll]
      omega
section
variable {H : Type} {enc : TypeId × Value → H} {W : World} {base : Nat}
set_option maxRecDepth 100000 in
theorem mu_cellsW {fuel : Nat} {cs : List Value} {x : DataW H × List MemPlace} (h : DataW.trod enc Tryd.prog W base (fun _ => true) true fuel 24 cs = some x) : ∃ v c, cs = [.int .i64 v, .int .u8 c] ∧ (Lit.int .i64 v).wf = true := by
  have uM : Tryd.prog.underlying 24 = some (.struct (Tryd.prog.fieldsOf 24)) := by kernel_rfl
  obtain ⟨zs, n2, _, _, hlen, hzl, hg⟩ := DataW.trod_struct uM h
  obtain ⟨ga, gb, e', ea', eb'⟩ := mapT2 fMu2
  simp only [Prod.mk.injEq] at ea' eb'
  have z1 : (Tryd.prog.fieldsOf 24).size = 2 := by rw [← Array.length_toList, e']; rfl
  have c32 : Tryd.prog.cellsOf 24 = 2 := by kernel_rfl
  have c22 : Tryd.prog.cellsOf 22 = 1 := by kernel_rfl
  have c3 : Tryd.prog.cellsOf 3 = 1 := by kernel_rfl
  rw [z1] at hzl
  rw [c32] at hlen
  match cs, hlen with
  | [k0, k1], _ =>
    have g0 := hg 0 ga (by rw [← Array.getElem?_toList, e']; rfl)
    have g1 := hg 1 gb (by rw [← Array.getElem?_toList, e']; rfl)
    rw [ea'.2.1, ea'.2.2, c3] at g0
    rw [eb'.2.1, eb'.2.2, c22] at g1
    match zs, hzl with
    | [z0, z1], _ =>
      obtain ⟨v, e0, _, hwv⟩ := DataW.trod_int Tryd.underlying3 (show DataW.trod enc Tryd.prog W base (fun _ => true) true n2 3 [k0] = some z0 from g0)
      obtain ⟨m, e1, _, _⟩ := DataW.trod_int Tryd.underlying22 (show DataW.trod enc Tryd.prog W base (fun _ => true) true n2 22 [k1] = some z1 from g1)
      simp only [List.cons.injEq, and_true] at e0 e1
      subst e0 e1
      exact ⟨v, m, rfl, hwv⟩
/-- A list of types, from what is known of its elements. -/
theorem types_ofW {B fuel : Nat} {cs : List Value} {x : DataW H × List MemPlace} (ih : ∀ fuel cs (x : DataW H × List MemPlace), DataW.trod enc Tryd.prog W base (fun _ => true) true fuel 27 cs = some x → Rows.uptoBulk x.1 ≤ B → ∃ k n v c A len cap kids, cs = [.int .u8 k, .int .i64 n, .int .i64 v, .int .u8 c, .slice A len cap] ∧ KidsAt W (Old W) A len cap kids ∧ 1 + kids.size ≤ Rows.uptoBulk x.1 ∧ (Fo.cons k n v c kids .nil).All wfN)
    (h : DataW.trod enc Tryd.prog W base (fun _ => true) true fuel 25 cs = some x) (hB : Rows.uptoBulk x.1 ≤ B + 1) : ∃ A len cap kids, cs = [.slice A len cap] ∧ KidsAt W (Old W) A len cap kids ∧ kids.size ≤ Rows.uptoBulk x.1 ∧ kids.All wfN := by
  have c50 : Tryd.prog.cellsOf 27 = 5 := by kernel_rfl
  rcases open_slice Tryd.underlying25 h with ⟨hcs, _⟩ | ⟨a, len, cap, m, n, D, Pl, hcs, hb, hl, hm, hmm, hx, hi⟩
  · exact ⟨none, 0, 0, .nil, hcs, ⟨rfl, Nat.le_refl _, fun h => by omega⟩, Nat.zero_le _, trivial⟩
  · simp only [if_true] at hmm
    rw [c50] at hi
    rw [hx] at hB ⊢
    simp only [Rows.uptoBulk] at hB ⊢
    by_cases h0 : len = 0
    · subst h0
      exact ⟨some a, 0, cap, .nil, hcs, ⟨rfl, Nat.zero_le _, fun h => by omega⟩, Nat.zero_le _, trivial⟩
    obtain ⟨b, off, spot⟩ := a
    have elt : ∀ i, i < len → ∃ cs' k n v c A l cap kids, cs' = [.int .u8 k, .int .i64 n, .int .i64 v, .int .u8 c, .slice A l cap] ∧ (∀ j, j < 5 → W.cell? ((Addr.mk b off spot).add (i * 5 + j)) = cs'[j]?) ∧ KidsAt W (Old W) A l cap kids ∧ 1 + kids.size ≤ Rows.uptoBulk (D i) ∧ wfN k n v c kids.len ∧ kids.All wfN := by
      intro i hlt
      obtain ⟨cs', hc, ht⟩ := hi i (by omega)
      have hDi : Rows.uptoBulk (D i) ≤ Rows.uptoBulkAll ((List.range len).map D) := bulk_mem (List.mem_map.2 ⟨i, List.mem_range.2 hlt, rfl⟩)
      obtain ⟨k, n', v, c, A, l, cp, kids, e, hk, hs, hw⟩ := ih _ _ _ ht (by simp only; omega)
      obtain ⟨_, hcl, hat⟩ := World.cells?_some hc
      exact ⟨cs', k, n', v, c, A, l, cp, kids, e, fun j hj => by rw [← Go.Deep.add_add]; exact hat j hj, hk, hs, hw.1, hw.2.1⟩
    have hspot : spot = none := by
      obtain ⟨cs', k, n', v, c, A, l, cp, kids, e, hat, _⟩ := elt 0 (by omega)
      subst e
      have g0 := hat 0 (by omega)
      simpa [Addr.add] using World.cell?_spot g0
    subst hspot
    have key : ∀ i, i < len → ∃ k n v c A l cap kids, CellsAt W b (off + i * 5) k n v c A l cap ∧ KidsAt W (Old W) A l cap kids ∧ 1 + kids.size ≤ Rows.uptoBulk (D i) ∧ wfN k n v c kids.len ∧ kids.All wfN := by
      intro i hlt
      obtain ⟨cs', k, n', v, c, A, l, cp, kids, e, hat, hk, hs, hw⟩ := elt i hlt
      subst e
      have hget : ∀ j, j < 5 → W.cell? ⟨b, off + i * 5 + j, none⟩ = [Value.int .u8 k, .int .i64 n', .int .i64 v, .int .u8 c, .slice A l cp][j]? := fun j hj => by
        have h1 := hat j hj
        rw [Addr.add_lit, ← Nat.add_assoc] at h1
        exact h1
      exact ⟨k, n', v, c, A, l, cp, kids, ⟨hget 0 (by omega), hget 1 (by omega), hget 2 (by omega), hget 3 (by omega), hget 4 (by omega)⟩, hk, hs, hw⟩
    obtain ⟨f, h1, h2, h3, h4⟩ := build_foW key len 0 (by omega)
    have hblk : b < W.heap.size := by
      obtain ⟨k, n, v, c, A, l, cp, kids, ⟨g0, _⟩, _⟩ := key 0 (by omega)
      exact World.block_lt_of_cell? W _ g0
    rw [← List.range_eq_range'] at h3
    exact ⟨_, len, cap, f, hcs, ⟨h1.symm, hl, fun _ => ⟨b, off, rfl, hblk, by simpa using h2⟩⟩, by omega, h4⟩
set_option maxRecDepth 100000 in
theorem ty_cellsW (B : Nat) : ∀ (fuel : Nat) (cs : List Value) (x : DataW H × List MemPlace), DataW.trod enc Tryd.prog W base (fun _ => true) true fuel 27 cs = some x → Rows.uptoBulk x.1 ≤ B → ∃ k n v c A len cap kids, cs = [.int .u8 k, .int .i64 n, .int .i64 v, .int .u8 c, .slice A len cap] ∧ KidsAt W (Old W) A len cap kids ∧ 1 + kids.size ≤ Rows.uptoBulk x.1 ∧ (Fo.cons k n v c kids .nil).All wfN := by
  induction B with
  | zero => intro fuel cs x h hB; have := bulk_one x.1; omega
  | succ B ih =>
    intro fuel cs x h hB
    have uI : Tryd.prog.underlying 27 = some (.struct (Tryd.prog.fieldsOf 27)) := by kernel_rfl
    obtain ⟨ys, n, _, hx, hlen, hyl, hf⟩ := DataW.trod_struct uI h
    obtain ⟨fa, fb, fc, fd, e, ea, eb, ec, ed⟩ := mapT4 fTy
    simp only [Prod.mk.injEq] at ea eb ec ed
    have z0 : (Tryd.prog.fieldsOf 27).size = 4 := by rw [← Array.length_toList, e]; rfl
    have c50 : Tryd.prog.cellsOf 27 = 5 := by kernel_rfl
    have c32 : Tryd.prog.cellsOf 24 = 2 := by kernel_rfl
    have c22 : Tryd.prog.cellsOf 5 = 1 := by kernel_rfl
    have c3 : Tryd.prog.cellsOf 3 = 1 := by kernel_rfl
    have cL : Tryd.prog.cellsOf 25 = 1 := by kernel_rfl
    rw [c50] at hlen
    rw [z0] at hyl
    match cs, hlen with
    | [k0, k1, k2, k3, k4], _ =>
      have h0 := hf 0 fa (by rw [← Array.getElem?_toList, e]; rfl)
      have h1 := hf 1 fb (by rw [← Array.getElem?_toList, e]; rfl)
      have h2 := hf 2 fc (by rw [← Array.getElem?_toList, e]; rfl)
      have h3 := hf 3 fd (by rw [← Array.getElem?_toList, e]; rfl)
      rw [ea.2.1, ea.2.2, c22] at h0
      rw [eb.2.1, eb.2.2, c3] at h1
      rw [ec.2.1, ec.2.2, c32] at h2
      rw [ed.2.1, ed.2.2, cL] at h3
      match ys, hyl with
      | [y0, y1, y2, y3], _ =>
        rw [hx] at hB ⊢
        simp only [List.map_cons, List.map_nil, Rows.uptoBulk, Rows.uptoBulkAll] at hB ⊢
        obtain ⟨k, e0, _, _⟩ := DataW.trod_int Tryd.underlying5 (show DataW.trod enc Tryd.prog W base (fun _ => true) true n 5 [k0] = some y0 from h0)
        obtain ⟨nn, e1, _, hwn⟩ := DataW.trod_int Tryd.underlying3 (show DataW.trod enc Tryd.prog W base (fun _ => true) true n 3 [k1] = some y1 from h1)
        obtain ⟨v, c, e2, hwv⟩ := mu_cellsW (show DataW.trod enc Tryd.prog W base (fun _ => true) true n 24 [k2, k3] = some y2 from h2)
        have b0 := bulk_one y0.1
        obtain ⟨A, len, cap, kids, e3, hk, hs, hw⟩ := types_ofW ih (show DataW.trod enc Tryd.prog W base (fun _ => true) true n 25 [k4] = some y3 from h3) (by omega)
        simp only [List.cons.injEq, and_true] at e0 e1 e2 e3
        obtain ⟨rfl, rfl⟩ := e2
        subst e0 e1 e3
        exact ⟨k, nn, v, c, A, len, cap, kids, rfl, hk, by omega, ⟨hwn, hwv⟩, hw, trivial⟩
set_option maxRecDepth 100000 in
theorem open_tyW {v : Value} {d : DataW H} {p : List MemPlace} {b0 : Nat} (hv : Value.okWide Tryd.prog W .any b0 27 v) (h : DataW.Trod enc Tryd.prog W base (fun _ => true) true 27 v d p) :
    ∃ k n x c A len cap kids, v = .agg #[.int .u8 k, .int .i64 n, .int .i64 x, .int .u8 c, .slice A len cap] ∧ KidsAt W (Old W) A len cap kids ∧ 1 + kids.size ≤ Rows.uptoBulk d ∧ (Fo.cons k n x c kids .nil).All wfN := by
  have uI : Tryd.prog.underlying 27 = some (.struct (Tryd.prog.fieldsOf 27)) := by kernel_rfl
  obtain ⟨cs, rfl, hsz⟩ := okWide_struct uI hv
  obtain ⟨fuel, hf⟩ := h
  obtain ⟨k, n, x, c, A, len, cap, kids, e, hk, hs, hw⟩ := ty_cellsW _ _ _ _ hf (Nat.le_refl _)
  refine ⟨k, n, x, c, A, len, cap, kids, ?_, hk, hs, hw⟩
  have e2 : cs.toList = [.int .u8 k, .int .i64 n, .int .i64 x, .int .u8 c, .slice A len cap] := by simpa [Value.cells] using e
  obtain ⟨l⟩ := cs
  subst e2; rfl
set_option maxRecDepth 100000 in
theorem open_typesW {v : Value} {d : DataW H} {p : List MemPlace} {b0 : Nat} (hv : Value.okWide Tryd.prog W .any b0 25 v) (h : DataW.Trod enc Tryd.prog W base (fun _ => true) true 25 v d p) :
    ∃ A len cap kids, v = .slice A len cap ∧ KidsAt W (Old W) A len cap kids ∧ kids.size ≤ Rows.uptoBulk d ∧ kids.All wfN := by
  obtain ⟨a0, len0, cap0, rfl⟩ := okWide_slice Tryd.underlying25 hv
  obtain ⟨fuel, hf⟩ := h
  obtain ⟨A, len, cap, kids, e, hk, hs, hw⟩ := types_ofW (fun fuel cs x => ty_cellsW _ fuel cs x) hf (Nat.le_succ _)
  simp [Value.cells] at e
  obtain ⟨rfl, rfl, rfl⟩ := e
  exact ⟨_, _, _, kids, rfl, hk, hs, hw⟩
set_option maxRecDepth 100000 in
theorem open_mus {v : Value} {d : DataW H} {p : List MemPlace} {b0 : Nat} (hv : Value.okWide Tryd.prog W .any b0 28 v) (h : DataW.Trod enc Tryd.prog W base (fun _ => true) true 28 v d p) :
    ∃ A len cap ms, v = .slice A len cap ∧ RMu W A len ms ∧ ms.length ≤ Rows.uptoBulk d := by
  obtain ⟨a0, len0, cap0, rfl⟩ := okWide_slice Tryd.underlying28 hv
  obtain ⟨fuel, hf⟩ := h
  have c20 : Tryd.prog.cellsOf 24 = 2 := by kernel_rfl
  rcases open_slice Tryd.underlying28 hf with ⟨hcs, _⟩ | ⟨a, len, cap, m, n, D, Pl, hcs, hb, hl, hm, hmm, hx, hi⟩
  · simp [Value.cells] at hcs
    obtain ⟨rfl, rfl, rfl⟩ := hcs
    exact ⟨none, 0, 0, [], rfl, ⟨rfl, fun h => absurd h (by omega)⟩, by simp⟩
  · simp [Value.cells] at hcs
    obtain ⟨rfl, rfl, rfl⟩ := hcs
    simp only [if_true] at hmm
    rw [c20] at hi
    have hbk : len0 ≤ Rows.uptoBulk d := by
      rw [show d = _ from congrArg Prod.fst hx]
      simp only [Rows.uptoBulk]
      have := bulk_len ((List.range len0).map D)
      simp only [List.length_map, List.length_range] at this
      omega
    have key : ∀ i, ∃ x : Int × Int, i < len0 → W.cell? (a.add (i * 2)) = some (.int .i64 x.1) ∧ W.cell? (a.add (i * 2 + 1)) = some (.int .u8 x.2) := by
      intro i
      by_cases hlt : i < len0
      · obtain ⟨cs', hc, ht⟩ := hi i (by omega)
        obtain ⟨x, y, e, _⟩ := mu_cellsW ht
        obtain ⟨_, hcl, hat⟩ := World.cells?_some hc
        refine ⟨(x, y), fun _ => ⟨?_, ?_⟩⟩
        · have := hat 0 (by omega)
          rw [Go.Deep.add_add, e] at this
          exact this
        · have := hat 1 (by omega)
          rw [Go.Deep.add_add, e] at this
          exact this
      · exact ⟨(0, 0), fun h => absurd h hlt⟩
    obtain ⟨F, hF⟩ : ∃ F : Nat → Int × Int, ∀ i, i < len0 → W.cell? (a.add (i * 2)) = some (.int .i64 (F i).1) ∧ W.cell? (a.add (i * 2 + 1)) = some (.int .u8 (F i).2) := ⟨fun i => Classical.choose (key i), fun i => Classical.choose_spec (key i)⟩
    refine ⟨some a, len0, cap0, (List.range len0).map F, rfl, ⟨by simp, fun hn => ?_⟩, by simpa using hbk⟩
    obtain ⟨b, off, spot⟩ := a
    have hk0 := (hF 0 (by omega)).1
    have hspot : spot = none := by simpa [Addr.add] using World.cell?_spot hk0
    subst hspot
    refine ⟨b, off, rfl, ?_, fun i x hx => ?_⟩
    · rw [Addr.add_lit] at hk0
      exact World.block_lt_of_cell? W _ hk0
    · simp only [List.getElem?_map, Option.map_eq_some_iff] at hx
      obtain ⟨j, hj, rfl⟩ := hx
      have hji : j = i ∧ i < len0 := by
        have h1 := List.getElem?_eq_some_iff.1 hj
        obtain ⟨h2, h3⟩ := h1
        simp at h2 h3
        omega
      obtain ⟨rfl, hlt⟩ := hji
      have hsp := hF j hlt
      rw [Addr.add_lit, Addr.add_lit, ← Nat.add_assoc] at hsp
      exact hsp
end
end Go.Proofs.YtblgligagngpfaaDoor.Mu
namespace Go.Proofs.YtblgligagngpfaaDoor.Mu
open Go.ChangeShapes Go.WideShapes Go.ChangeAt Go.RowKit Go.Joins Go.Deep

section
variable {H : Type} {enc : TypeId × Value → H} {W : World} {base : Nat}
set_option maxRecDepth 100000 in
theorem open_strs {v : Value} {d : DataW H} {p : List MemPlace} {b0 : Nat} (hv : Value.okWide Tryd.prog W .any b0 29 v) (h : DataW.Trod enc Tryd.prog W base (fun _ => true) true 29 v d p) :
    ∃ A len cap nm, v = .slice A len cap ∧ RNm W W.heap.size A len nm ∧ len ≤ Rows.uptoBulk d := by
  obtain ⟨a0, len0, cap0, rfl⟩ := okWide_slice Tryd.underlying29 hv
  obtain ⟨fuel, hf⟩ := h
  rcases Go.Deep.open_strs Tryd.underlying29 Tryd.underlying9 (by kernel_rfl) hf with ⟨hcs, _⟩ | ⟨a, len, cap, m, Sx, hcs, hb, hl, hm, hmm, hx, hi⟩
  · simp [Value.cells] at hcs
    obtain ⟨rfl, rfl, rfl⟩ := hcs
    exact ⟨none, 0, 0, [], rfl, ⟨rfl, fun h => absurd h (by omega)⟩, Nat.zero_le _⟩
  · simp [Value.cells] at hcs
    obtain ⟨rfl, rfl, rfl⟩ := hcs
    simp only [if_true] at hmm
    have hbk : len0 ≤ Rows.uptoBulk d := by
      rw [show d = _ from congrArg Prod.fst hx]
      simp only [Rows.uptoBulk]
      have := bulk_len ((List.range len0).map fun i => (DataW.lit (.string (Sx i).data.toList) : DataW H))
      simp only [List.length_map, List.length_range] at this
      omega
    refine ⟨some a, len0, cap0, (List.range len0).map fun i => (Sx i).data.toList, rfl, ⟨by simp, fun hn => ?_⟩, hbk⟩
    obtain ⟨b, off, spot⟩ := a
    have hk0 := (hi 0 (by omega)).1
    have hspot : spot = none := by simpa [Addr.add] using World.cell?_spot hk0
    subst hspot
    refine ⟨b, off, rfl, ?_, fun i x hx => ?_⟩
    · rw [Addr.add_lit] at hk0
      exact World.block_lt_of_cell? W _ hk0
    · simp only [List.getElem?_map, Option.map_eq_some_iff] at hx
      obtain ⟨j, hj, rfl⟩ := hx
      have hji : j = i ∧ i < len0 := by
        have h1 := List.getElem?_eq_some_iff.1 hj
        obtain ⟨h2, h3⟩ := h1
        simp at h2 h3
        omega
      obtain ⟨rfl, hlt⟩ := hji
      have hsp := (hi j (by omega)).1
      rw [Addr.add_lit] at hsp
      simpa using hsp
end
end Go.Proofs.YtblgligagngpfaaDoor.Mu

