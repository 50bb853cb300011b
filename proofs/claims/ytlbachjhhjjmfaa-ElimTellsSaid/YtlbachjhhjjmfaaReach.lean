/-
  reach, walked.
-/
import Derived.Test.YtlbachjhhjjmfaaArrows
import Derived.Test.YtlbachjhhjjmfaaSetMath
import Derived.Test.YtlbachjhhjjmfaaSetsF
namespace Go.Proofs.Ytlbachjhhjjmfaa.Mu
open Go.ChangeShapes Go.WideShapes Go.ChangeAt Go.RowKit Go.Shelf

attribute [local go_sem] Oper.semAt_some

theorem info_set : (Try.prog.info? 94).map (fun i => (i.zero, i.size, i.bytes)) = some (some (.agg #[.int .u64 0, .int .u64 0, .int .u64 0]), 3, 24) := by kernel_rfl
theorem mk_sets (k : Nat) (hk : k ≤ 1048576) (W : World) : (Instr.makeSlice 62 (.int .i64 (k : Int)) (.int .i64 (k : Int))).run Try.prog W = .ok (.slice (some ⟨W.heap.size, 0, none⟩) k k) (W.alloc (.cells (madeCells #[.int .u64 0, .int .u64 0, .int .u64 0] (k * 3)) 94)) := by
  obtain ⟨i, hi, hz, hs, hb⟩ := info_parts info_set
  have h := run_make (P := Try.prog) W 62 94 i _ Try.underlying62 hi hz .i64 .i64 k k (by omega) (by omega) (by rw [hb]; omega) (by omega)
  rw [hs] at h
  exact h

/-- A graph in memory while it grows. -/
structure GA (base bo gf gn gt n len : Nat) (E : List (Nat × Nat)) (w : World) : Prop where
  box : w.heap[bo]? = some (.cells (cellsK n E.length len gf gn gt) 97 (0, 0))
  hf : Arr .i64 w gf 3 (fOf n E)
  hn : w.ownsRow base 3 1 (.slice (some ⟨gn, 0, none⟩) E.length len) E.length ((nxOf E).map (Value.int .i64))
  ht : w.ownsRow base 3 1 (.slice (some ⟨gt, 0, none⟩) E.length len) E.length ((toOf E).map (Value.int .i64))
theorem GA.keep {base bo gf gn gt n len : Nat} {E : List (Nat × Nat)} {w w' : World} (h : GA base bo gf gn gt n len E w) (hk : ∀ j, j = bo ∨ j = gf ∨ j = gn ∨ j = gt → w'.heap[j]? = w.heap[j]?) : GA base bo gf gn gt n len E w' :=
  ⟨(hk bo (.inl rfl)).trans h.box, (hk gf (.inr (.inl rfl))).trans h.hf, own_blk h.hn (fun x hx => hk x (by cases hx; exact .inr (.inr (.inl rfl)))), own_blk h.ht (fun x hx => hk x (by cases hx; exact .inr (.inr (.inr rfl))))⟩
theorem GA.lt {base bo gf gn gt n len : Nat} {E : List (Nat × Nat)} {w : World} (h : GA base bo gf gn gt n len E w) : bo < w.heap.size ∧ gf < w.heap.size ∧ gn < w.heap.size ∧ gt < w.heap.size :=
  ⟨(Array.getElem?_eq_some_iff.1 h.box).1, h.hf.lt, (own_lt_bk h.hn ⟨0, rfl⟩).2, (own_lt_bk h.ht ⟨0, rfl⟩).2⟩
theorem arrE_any (base bo gf gn gt n len v t : Nat) (E : List (Nat × Nat)) (hv : v < n) (hlen : E.length + 1 ≤ len) (hl : len ≤ 1048576) (W : World) (hds : bo ≠ gn ∧ bo ≠ gt ∧ gf ≠ gn ∧ gf ≠ gt ∧ gn ≠ gt ∧ bo ≠ gf) (h : GA base bo gf gn gt n len E W) :
    Calls Try.prog 54 #[.pointer (some ⟨bo, 0, none⟩), .int .i64 v, .int .i64 t] W fun e w' => (∃ x, e = .returned x) ∧ GA base bo gf gn gt n len (E ++ [(v, t)]) w' ∧ Mv (fun j => j = bo ∨ j = gf ∨ j = gn ∨ j = gt) W w' := by
  refine (arrAdd_any base bo gf gn gt n len E.length v (fOf n E) (nxOf E) (toOf E) t hv (fOf_len n E) hlen hl (by simp [toOf]) W hds h.box h.hf h.hn h.ht).mono ?_
  rintro e w' ⟨h1, h2, h3, h4, h5, h6⟩
  have el : (E ++ [(v, t)]).length = E.length + 1 := by simp
  refine ⟨h1, ⟨?_, ?_, ?_, ?_⟩, h6⟩
  · rw [el]; exact h2
  · rw [fOf_snoc]; exact h3
  · rw [el, nxOf_next (n := n) _ _ hv]; exact h4
  · rw [el, toOf_snoc]; exact h5
/-- In the first two loops. -/
structure St1 (W : World) (n len b gf gn gt hf hn ht : Nat) (E : List (Nat × Nat)) (ws : List Nat) (w : World) : Prop where
  bel : Bel W w
  on : GA W.heap.size b gf gn gt n len E w
  bk : GA W.heap.size (b + 1) hf hn ht n len (swE E) w
  gx : w.heap[b + 3]? = some (.cells #[.slice (some ⟨b + 2, 0, none⟩) n n] 62 (0, 0))
  gw : ArrS w (b + 2) ws
/-- Where all lies. -/
structure Lay (W : World) (b gf gn gt hf hn ht : Nat) : Prop where
  w : W.heap.size ≤ gf ∧ W.heap.size ≤ gn ∧ W.heap.size ≤ gt ∧ W.heap.size ≤ hf ∧ W.heap.size ≤ hn ∧ W.heap.size ≤ ht
  b : gf < b ∧ gn < b ∧ gt < b ∧ hf < b ∧ hn < b ∧ ht < b
  one : gf ≠ gn ∧ gf ≠ gt ∧ gn ≠ gt
  two : hf ≠ hn ∧ hf ≠ ht ∧ hn ≠ ht
  ap : ∀ j, (j = gf ∨ j = gn ∨ j = gt) → ¬ (j = hf ∨ j = hn ∨ j = ht)
section
variable {W w w' : World} {n len b gf gn gt hf hn ht : Nat} {E : List (Nat × Nat)} {ws : List Nat}
theorem St1.lt (h : St1 W n len b gf gn gt hf hn ht E ws w) : b + 4 ≤ w.heap.size := by
  have := (Array.getElem?_eq_some_iff.1 h.gx).1
  omega
theorem St1.more (h : St1 W n len b gf gn gt hf hn ht E ws w) (hl : Lay W b gf gn gt hf hn ht) (hb : Bel w w') : St1 W n len b gf gn gt hf hn ht E ws w' := by
  have hs := h.lt
  have hk : ∀ j, j < b + 4 → w'.heap[j]? = w.heap[j]? := fun j hj => hb.block j (by omega)
  have hb' := hl.b
  refine ⟨h.bel.on hb, h.on.keep fun j hj => hk j (by omega), h.bk.keep fun j hj => hk j (by omega), (hk _ (by omega)).trans h.gx, ?_⟩
  unfold ArrS
  rw [hk _ (by omega)]
  exact h.gw
theorem St1.wall {ws' : List Nat} (h : St1 W n len b gf gn gt hf hn ht E ws w) (hl : Lay W b gf gn gt hf hn ht) (hg : w.grownBy w' (some (b + 2))) (hws : ArrS w' (b + 2) ws') : St1 W n len b gf gn gt hf hn ht E ws' w' := by
  have hs := h.lt
  have hk : ∀ j, j < b + 4 → j ≠ b + 2 → w'.heap[j]? = w.heap[j]? := fun j hj hne => hg.block j (by omega) (fun e => by cases e; exact hne rfl)
  have hb' := hl.b
  have hw' := hl.w
  refine ⟨⟨hg.os.trans h.bel.os, hg.tape.trans h.bel.tape, hg.output.trans h.bel.output, Nat.le_trans h.bel.size hg.size, fun j hj => (hk j (by omega) (by omega)).trans (h.bel.block j hj)⟩, h.on.keep fun j hj => hk j (by omega) (by omega), h.bk.keep fun j hj => hk j (by omega) (by omega), (hk _ (by omega) (by omega)).trans h.gx, hws⟩
theorem St1.adds {w1 w2 : World} {v t : Nat} (h : St1 W n len b gf gn gt hf hn ht E ws w) (hl : Lay W b gf gn gt hf hn ht) (h1 : GA W.heap.size b gf gn gt n len (E ++ [(v, t)]) w1) (m1 : Mv (fun j => j = b ∨ j = gf ∨ j = gn ∨ j = gt) w w1)
    (h2 : GA W.heap.size (b + 1) hf hn ht n len (swE E ++ [(t, v)]) w2) (m2 : Mv (fun j => j = b + 1 ∨ j = hf ∨ j = hn ∨ j = ht) w1 w2) : St1 W n len b gf gn gt hf hn ht (E ++ [(v, t)]) ws w2 := by
  have hs := h.lt
  have hs1 := m1.size
  have hb' := hl.b
  have hw' := hl.w
  have hap := hl.ap
  have k1 : ∀ j, j < b + 4 → j ≠ b → ¬ (j = gf ∨ j = gn ∨ j = gt) → w1.heap[j]? = w.heap[j]? := fun j hj ha hb => m1.block j (by omega) (fun e => e.elim ha hb)
  have k2 : ∀ j, j < b + 4 → j ≠ b + 1 → ¬ (j = hf ∨ j = hn ∨ j = ht) → w2.heap[j]? = w1.heap[j]? := fun j hj ha hb => m2.block j (by omega) (fun e => e.elim ha hb)
  have kk : ∀ j, j < b + 4 → j ≠ b → j ≠ b + 1 → ¬ (j = gf ∨ j = gn ∨ j = gt) → ¬ (j = hf ∨ j = hn ∨ j = ht) → w2.heap[j]? = w.heap[j]? := fun j hj a1 a2 a3 a4 => (k2 j hj a2 a4).trans (k1 j hj a1 a3)
  refine ⟨⟨m2.os.trans (m1.os.trans h.bel.os), m2.tape.trans (m1.tape.trans h.bel.tape), m2.output.trans (m1.output.trans h.bel.output), Nat.le_trans h.bel.size (Nat.le_trans m1.size m2.size), fun j hj => (kk j (by omega) (by omega) (by omega) (by omega) (by omega)).trans (h.bel.block j hj)⟩, h1.keep fun j hj => ?_, by rw [show swE (E ++ [(v, t)]) = swE E ++ [(t, v)] by simp [swE]]; exact h2, (kk _ (by omega) (by omega) (by omega) (by omega) (by omega)).trans h.gx, ?_⟩
  · rcases hj with e | e
    · exact k2 j (by omega) (by omega) (by omega)
    · exact k2 j (by omega) (by omega) (hap j e)
  · unfold ArrS
    rw [kk _ (by omega) (by omega) (by omega) (by omega) (by omega)]
    exact h.gw
end

/-- The graph that is handed on. -/
def dcOf (n len gf gn gt : Nat) (E : List (Nat × Nat)) : Dc :=
  { ab := 0, ob := 0, sbx := 0, sb := 0, n := n, ln := E.length, fc := n, nc := len, tc := len, FA := some ⟨gf, 0, none⟩, NA := some ⟨gn, 0, none⟩, TA := some ⟨gt, 0, none⟩, F := fOf n E, N := nxOf E, TO := toOf E }
theorem rs_arr {w : World} {g : Nat} {t : TypeId} {l : List Int} {n : Nat} (h : Arr .i64 w g t l) (hn : n = l.length) : Rs w (some ⟨g, 0, none⟩) n l :=
  ⟨hn, fun _ => ⟨g, 0, rfl, fun k hk => by rw [Nat.zero_add]; exact h.cell (by omega)⟩⟩
theorem rs_own {w : World} {base k c : Nat} {V : Option Addr} {e : TypeId} {l : List Int} (h : w.ownsRow base e 1 (.slice V k c) k (l.map (Value.int .i64))) : Rs w V k l := by
  have hl : k = l.length := by have := h.1; simp at this; omega
  refine ⟨hl, fun hp => ?_⟩
  rcases h.2 with ⟨h', h0⟩ | ⟨g, cap, cur, h', _⟩
  · exact absurd h0 (by omega)
  · cases h'
    refine ⟨g, 0, rfl, fun j hj => ?_⟩
    have := h.cells (g := g) rfl j (.int .i64 (l[j]?.getD 0)) (by rw [List.getElem?_map, List.getElem?_eq_getElem (by omega)]; rfl)
    rwa [Addr.add_lit] at this
theorem GA.gr {base bo gf gn gt n len : Nat} {E : List (Nat × Nat)} {w : World} (h : GA base bo gf gn gt n len E w) : Gr (dcOf n len gf gn gt E) w :=
  ⟨rs_arr h.hf (by simp [dcOf, fOf_len]), rs_own h.hn, rs_own h.ht⟩
theorem gB_dc {n len gf gn gt : Nat} {E : List (Nat × Nat)} {j : Nat} : gB (dcOf n len gf gn gt E) j ↔ j = gf ∨ j = gn ∨ j = gt := by
  unfold gB Bk dcOf
  simp only [Option.some.injEq, Addr.mk.injEq, and_true]
  constructor
  · rintro (⟨o, h, _⟩ | ⟨o, h, _⟩ | ⟨o, h, _⟩)
    · exact .inl h.symm
    · exact .inr (.inl h.symm)
    · exact .inr (.inr h.symm)
  · rintro (h | h | h)
    · exact .inl ⟨0, h.symm, rfl⟩
    · exact .inr (.inl ⟨0, h.symm, rfl⟩)
    · exact .inr (.inr ⟨0, h.symm, rfl⟩)
/-- What each variable hands on at first: to where it stands in the list, to the wall. -/
def G0r (xs : List Iq) (m : Int) (keep : List Nat) (v j : Nat) : Prop := (j = 150 ∧ wallM xs m v) ∨ keep[j]? = some v

/-- In the third loop. -/
structure St3 (c : Dc) (n b s : Nat) (vals : List Value) (L : List (List Nat)) (ws : List Nat) (w : World) : Prop where
  on : w.heap[b]? = some (.cells (cellsG c) 97 (0, 0))
  gr : Gr c w
  gx : w.heap[b + 3]? = some (.cells #[.slice (some ⟨b + 2, 0, none⟩) n n] 62 (0, 0))
  gw : ArrS w (b + 2) ws
  row : ∀ (i : Nat) (v : Value), vals[i]? = some v → ∃ (r : List Nat) (A : Option Addr) (c : Nat), L[i]? = some r ∧ v = .slice A r.length c ∧ w.ownsRow s 3 1 v r.length (r.map fun (x : Nat) => Value.int .i64 (x : Int))
def Y3 (c : Dc) (b : Nat) (vals : List Value) (j : Nat) : Prop := j = b ∨ j = b + 2 ∨ j = b + 3 ∨ gB c j ∨ ∃ v ∈ vals, v.ownBlock = some j
theorem St3.keep {c : Dc} {n b s : Nat} {vals : List Value} {L : List (List Nat)} {ws : List Nat} {w w' : World} (h : St3 c n b s vals L ws w) (hk : ∀ j, Y3 c b vals j → w'.heap[j]? = w.heap[j]?) : St3 c n b s vals L ws w' :=
  ⟨(hk b (.inl rfl)).trans h.on, h.gr.keep fun j hj => hk j (.inr (.inr (.inr (.inl hj)))), (hk _ (.inr (.inr (.inl rfl)))).trans h.gx, by unfold ArrS; rw [hk _ (.inr (.inl rfl))]; exact h.gw, fun i v hi => by
    obtain ⟨r, A, c', e1, e2, e3⟩ := h.row i v hi
    exact ⟨r, A, c', e1, e2, own_blk e3 fun x hx => hk x (.inr (.inr (.inr (.inr ⟨v, List.mem_of_getElem? hi, hx⟩))))⟩⟩
/-- What is got so far, ring by ring. -/
def GotsW (adj : Nat → List Nat) (O : List Nat) (ws0 : List Nat) (post : List (List Nat)) (ws : List Nat) : Prop := Gots adj O (fun v j => j ≤ 150 ∧ memW ws0 v j = true) post (fun v j => j ≤ 150 ∧ memW ws v j = true)
/-- Going through a ring: what is joined so far. -/
structure S3a (c : Dc) (t : Nat) (ws r : List Nat) (adj : Nat → List Nat) (W1 : World) (k sx sy sz : Nat) (w : World) : Prop where
  mv : Mv (fun j => j = t ∨ gB c j) W1 w
  gr : Gr c w
  ss : ArrS w t [sx, sy, sz]
  lt : sx < 2 ^ 64 ∧ sy < 2 ^ 64 ∧ sz < 2 ^ 64
  mem : ∀ j, j ≤ 150 → (mem3 sx sy sz j = true ↔ ∃ u ∈ r.take k, memW ws u j = true ∨ ∃ v ∈ adj u, memW ws v j = true)
theorem joined (sx sy sz x y z : Nat) : orW [sx, sy, sz] 0 sx sy sz x y z 3 = [sx ||| x, sy ||| y, sz ||| z] := rfl
/-- A frame of 144 slots, written out. -/
theorem frame144 (a : Act) (h : a.tmps.size = 144) : ∃ U : Nat → Value, (∀ j, U j = a.tmps.getD j undef) ∧ a = { tmps := #[U 0, U 1, U 2, U 3, U 4, U 5, U 6, U 7, U 8, U 9, U 10, U 11, U 12, U 13, U 14, U 15, U 16, U 17, U 18, U 19, U 20, U 21, U 22, U 23, U 24, U 25, U 26, U 27, U 28, U 29, U 30, U 31, U 32, U 33, U 34, U 35, U 36, U 37, U 38, U 39, U 40, U 41, U 42, U 43, U 44, U 45, U 46, U 47, U 48, U 49, U 50, U 51, U 52, U 53, U 54, U 55, U 56, U 57, U 58, U 59, U 60, U 61, U 62, U 63, U 64, U 65, U 66, U 67, U 68, U 69, U 70, U 71, U 72, U 73, U 74, U 75, U 76, U 77, U 78, U 79, U 80, U 81, U 82, U 83, U 84, U 85, U 86, U 87, U 88, U 89, U 90, U 91, U 92, U 93, U 94, U 95, U 96, U 97, U 98, U 99, U 100, U 101, U 102, U 103, U 104, U 105, U 106, U 107, U 108, U 109, U 110, U 111, U 112, U 113, U 114, U 115, U 116, U 117, U 118, U 119, U 120, U 121, U 122, U 123, U 124, U 125, U 126, U 127, U 128, U 129, U 130, U 131, U 132, U 133, U 134, U 135, U 136, U 137, U 138, U 139, U 140, U 141, U 142, U 143], defers := a.defers } := by
  refine ⟨fun j => a.tmps.getD j undef, fun _ => rfl, ?_⟩
  cases a with
  | mk tmps defers =>
    simp only at h
    have e : tmps = ((List.range 144).map fun j => tmps.getD j undef).toArray := by
      apply Array.ext
      · simp [h]
      · intro i h1 h2
        simp [h1]
    have e2 : ∀ f : Nat → Value, (List.range 144).map f = [f 0, f 1, f 2, f 3, f 4, f 5, f 6, f 7, f 8, f 9, f 10, f 11, f 12, f 13, f 14, f 15, f 16, f 17, f 18, f 19, f 20, f 21, f 22, f 23, f 24, f 25, f 26, f 27, f 28, f 29, f 30, f 31, f 32, f 33, f 34, f 35, f 36, f 37, f 38, f 39, f 40, f 41, f 42, f 43, f 44, f 45, f 46, f 47, f 48, f 49, f 50, f 51, f 52, f 53, f 54, f 55, f 56, f 57, f 58, f 59, f 60, f 61, f 62, f 63, f 64, f 65, f 66, f 67, f 68, f 69, f 70, f 71, f 72, f 73, f 74, f 75, f 76, f 77, f 78, f 79, f 80, f 81, f 82, f 83, f 84, f 85, f 86, f 87, f 88, f 89, f 90, f 91, f 92, f 93, f 94, f 95, f 96, f 97, f 98, f 99, f 100, f 101, f 102, f 103, f 104, f 105, f 106, f 107, f 108, f 109, f 110, f 111, f 112, f 113, f 114, f 115, f 116, f 117, f 118, f 119, f 120, f 121, f 122, f 123, f 124, f 125, f 126, f 127, f 128, f 129, f 130, f 131, f 132, f 133, f 134, f 135, f 136, f 137, f 138, f 139, f 140, f 141, f 142, f 143] := fun f => rfl
    rw [e2] at e
    show Act.mk tmps defers = Act.mk _ defers
    exact congrArg (fun t => Act.mk t defers) e
/-- The frame in the last loop. -/
structure RelZ (D b kn kc q c : Nat) (KA V : Option Addr) (a : Act) : Prop where
  size : a.tmps.size = 144
  d : a.defers = [mkM D]
  s11 : a.tmps.getD 11 undef = .pointer (some ⟨b + 3, 0, none⟩)
  s24 : a.tmps.getD 24 undef = .slice V q c
  s129 : a.tmps.getD 129 undef = .slice KA kn kc
  s130 : a.tmps.getD 130 undef = .int .i64 kn
  s131 : a.tmps.getD 131 undef = .int .i64 q
theorem three_at (w : World) (a b c : Value) (t : TypeId) : ∀ j u, [a, b, c][j]? = some u → (w.alloc (.cells #[a, b, c] t)).cell? ⟨w.heap.size, j, none⟩ = some u := by
  intro j u hu
  match j, hu with
  | 0, hu => simp at hu; subst hu; simp
  | 1, hu => simp at hu; subst hu; simp
  | 2, hu => simp at hu; subst hu; simp
/-- What reach tells. -/
def ReachPost (xs : List Iq) (keep : List Nat) (kn : Nat) (m : Int) (W : World) (e : Ending) (w' : World) : Prop :=
  ∃ V cc ws, e = .returned (.slice V kn cc) ∧ w'.ownsRow W.heap.size 94 3 (.slice V kn cc) kn (ws.map fun (x : Nat) => Value.int .u64 (x : Int)) ∧ (∀ x ∈ ws, x < 2 ^ 64) ∧ ws.length = kn * 3 ∧
    (∀ (i v : Nat), keep[i]? = some v → (memW ws i 150 = true ↔ Hits xs m v) ∧ ∀ (j w : Nat), keep[j]? = some w → (memW ws i j = true ↔ Rch (arrM xs m) v w)) ∧ Bel W w'

set_option maxRecDepth 100000 in
set_option maxHeartbeats 1000000 in
theorem reach_any (n : Nat) (A KA : Option Addr) (len cap kn kc : Nat) (xs : List Iq) (keep : List Nat) (m : Int) (W : World) (hq : RQ W W.heap.size A len xs) (hK : RI .i64 W W.heap.size KA kn (keep.map fun (x : Nat) => (x : Int))) (hn : n ≤ 1048576) (hl : len ≤ 1048576) (hg : ∀ x ∈ xs, GoodQ n x) (hkeep : ∀ v ∈ keep, v < n) (hnd : keep.Nodup) (hkn : kn ≤ 150) :
    Calls Try.prog 29 #[.int .i64 n, .slice A len cap, .slice KA kn kc, .int .u8 m] W (ReachPost xs keep kn m W) := by
  have HQ := Lib.hid hq
  have HK := Lib.hid hK
  have HG := Lib.hid hg
  have HKEEP := Lib.hid hkeep
  have HND := Lib.hid hnd
  have hmk := mk_sets n hn
  clear hq hK hg hkeep hnd
  refine (callsIn_wide (n := 6)).1 ?_
  refine callsIn_of_wp_marks Try.func29 rfl trivial ?_ rfl
  refine wpIn_wide.2 ?_
  simp only [Try.ntmps29, List.size_toArray, List.length_cons, List.length_nil, Nat.reduceAdd, Nat.reduceSub, Array.replicate_succ, Array.replicate_zero, List.push_toArray, List.append_toArray, List.nil_append, List.cons_append]
  go_wp2_with fail
  refine (newArrows_any n len hn hl W).mono ?_
  rintro e w1 ⟨gf, gn, gt, rfl, hf1, hn1, ht1, lo1, da1, da2, da3, hb1⟩
  have HF1 := Lib.hid hf1
  have HN1 := Lib.hid hn1
  have HT1 := Lib.hid ht1
  have HD1 := Lib.hid (And.intro da1 (And.intro da2 da3))
  have HB1 := Lib.hid hb1
  clear hf1 hn1 ht1 da1 da2 da3 hb1
  simp only [cellsW]
  go_wp2_with fail
  refine (newArrows_any n len hn hl w1).mono ?_
  rintro e w2 ⟨hf, hn2, ht, rfl, hf2, hnn2, ht2, lo2, db1, db2, db3, hb2⟩
  have HF2 := Lib.hid hf2
  have HN2 := Lib.hid hnn2
  have HT2 := Lib.hid ht2
  have HD2 := Lib.hid (And.intro db1 (And.intro db2 db3))
  have HB2 := Lib.hid hb2
  clear hf2 hnn2 ht2 db1 db2 db3 hb2
  simp only [cellsW]
  go_wp2_with fail
  obtain ⟨w3, hw3, hz3, q1, q2, q3, q4, hb3⟩ := al4 w2 (.cells #[.slice (some ⟨gf, 0, none⟩) n n, .slice (some ⟨gn, 0, none⟩) 0 len, .slice (some ⟨gt, 0, none⟩) 0 len] 97) (.cells #[.slice (some ⟨hf, 0, none⟩) n n, .slice (some ⟨hn2, 0, none⟩) 0 len, .slice (some ⟨ht, 0, none⟩) 0 len] 97) (.cells (madeCells #[.int .u64 0, .int .u64 0, .int .u64 0] (n * 3)) 94) (.cells #[.slice (some ⟨w2.heap.size + 1 + 1, 0, none⟩) n n] 62)
  rw [← hw3]
  obtain ⟨b, hb⟩ : ∃ b, b = w2.heap.size := ⟨_, rfl⟩
  rw [← hb] at q1 q2 q3 q4 hz3 ⊢
  have HLAY : Hid (Lay W b gf gn gt hf hn2 ht) := Lib.hid (by
    have a1 := own_lt_bk HN1.out ⟨0, rfl⟩
    have a2 := own_lt_bk HT1.out ⟨0, rfl⟩
    have a3 := HF1.out.lt
    have b1 := own_lt_bk HN2.out ⟨0, rfl⟩
    have b2 := own_lt_bk HT2.out ⟨0, rfl⟩
    have b3 := HF2.out.lt
    have s1 := HB1.out.size
    have s2 := HB2.out.size
    rw [hb]
    exact ⟨⟨lo1, a1.1, a2.1, by omega, by omega, by omega⟩, ⟨by omega, by omega, by omega, by omega, by omega, by omega⟩, HD1.out, HD2.out, fun j h1 h2 => by omega⟩)
  have HST : Hid (St1 W n len b gf gn gt hf hn2 ht [] (List.replicate (n * 3) 0) w3) := Lib.hid (by
    have hb23 : Bel w1 w3 := HB2.out.on hb3
    refine ⟨HB1.out.on hb23, ⟨q1, ?_, owns_bel HN1.out hb23, owns_bel HT1.out hb23⟩, ⟨q2, ?_, own_mono (owns_bel HN2.out hb3) HB1.out.size, own_mono (owns_bel HT2.out hb3) HB1.out.size⟩, ?_, ?_⟩
    · rw [fOf_nil]; exact HF1.out.bel hb23
    · rw [show swE [] = [] from rfl, fOf_nil]; exact HF2.out.bel hb3
    · rw [hb]; rw [hb] at q4; exact q4
    · unfold ArrS
      rw [q3]
      congr 2
      apply Array.ext
      · simp [size_madeCells]
      · intro i h1 h2
        simp only [madeCells, Array.getElem_map, Array.getElem_range, List.getElem_toArray, List.getElem_map, List.getElem_replicate]
        have h3 : i % 3 < 3 := Nat.mod_lt _ (by decide)
        have h4 : i % 3 = 0 ∨ i % 3 = 1 ∨ i % 3 = 2 := by omega
        rcases h4 with e | e | e <;> simp [e])
  have HZ3 := Lib.hid hz3
  clear hw3 q1 q2 q3 q4 hb3 hb lo1 lo2 HF1 HN1 HT1 HD1 HB1 HF2 HN2 HT2 HD2 HB2 hz3
  have HQL : Hid (len = xs.length) := Lib.hid HQ.out.len
  rw [show b + 1 + 1 + 1 = b + 3 from rfl, show b + 1 + 1 = b + 2 from rfl]
  go_loopw [39] (fun i wr => ∃ k : Nat, k ≤ len ∧ i = .int .i64 k ∧ ∃ ws, Hid (St1 W n len b gf gn gt hf hn2 ht (arrE (xs.take k) m) ws wr) ∧ Hid (GotW n ws fun v j => j = 150 ∧ wallM (xs.take k) m v)) (fun i _ => len - (intOf i).toNat)
  case atStart => exact ⟨0, Nat.zero_le _, rfl, _, HST, Lib.hid (by
    have h := gotW_start n
    exact ⟨h.len, h.lt, fun v j hv hj => by rw [h.mem v j hv hj]; simp [wallM]⟩)⟩
  case round =>
    obtain ⟨k, hk, rfl, ws, HS, HGW⟩ := hrel
    by_cases hlt : k < len
    · obtain ⟨x, hx⟩ : ∃ x, xs[k]? = some x := ⟨xs[k]'(by rw [← HQL.out]; exact hlt), by simp⟩
      have hgx := HG.out x (List.mem_of_getElem? hx)
      have hsn : xs.take (k + 1) = xs.take k ++ [x] := by rw [List.take_add_one, hx]; rfl
      obtain ⟨qb, qo, eA, hqb, hqc⟩ := HQ.out.at_ (by omega)
      obtain ⟨z0, z1, z2, z3⟩ := hqc k x hx
      have y0 := (HS.out.bel.cell (p := ⟨qb, qo + k * 4, none⟩) hqb).trans z0
      have y1 := (HS.out.bel.cell (p := ⟨qb, qo + k * 4 + 1, none⟩) hqb).trans z1
      have y2 := (HS.out.bel.cell (p := ⟨qb, qo + k * 4 + 2, none⟩) hqb).trans z2
      have y3 := (HS.out.bel.cell (p := ⟨qb, qo + k * 4 + 3, none⟩) hqb).trans z3
      obtain ⟨xv, xm, xc, xr⟩ := x
      simp only at y0 y1 y2 y3
      obtain ⟨hg1, hg2, hg3⟩ := hgx
      simp only at hg1 hg2 hg3
      have i1 : (0 : Int) ≤ (k : Int) := by omega
      have i2 : (k : Int) < (len : Int) := by omega
      have HX := Lib.hid hx
      have HSN := Lib.hid hsn
      clear hqc z0 z1 z2 z3 hx hsn
      subst eA
      have HE := Lib.hid (arrE_snoc (xs.take k) ⟨xv, xm, xc, xr⟩ m)
      have HWM : Hid (∀ v, wallM (xs.take (k + 1)) m v ↔ (wallM (xs.take k) m v ∨ (xm = 0 ∧ xc < m ∧ xr = -1 ∧ xv = (v : Int)))) := Lib.hid (fun v => by
        rw [HSN.out]
        unfold wallM
        constructor
        · rintro ⟨y, hy, h⟩
          rcases List.mem_append.1 hy with hy | hy
          · exact .inl ⟨y, hy, h⟩
          · rw [List.mem_singleton.1 hy] at h; exact .inr h
        · rintro (⟨y, hy, h⟩ | h)
          · exact ⟨y, List.mem_append_left _ hy, h⟩
          · exact ⟨_, List.mem_append_right _ (List.mem_singleton.2 rfl), h⟩)
      have hb4 := HS.out.lt
      have o3 : b + 3 < wr.heap.size := by omega
      by_cases hm0 : xm = 0
      · subst hm0
        obtain ⟨vn, rfl⟩ : ∃ vn : Nat, xv = vn := ⟨xv.toNat, by omega⟩
        have hvn : vn < n := by omega
        by_cases hc : m ≤ xc
        · have HS2 : Hid (St1 W n len b gf gn gt hf hn2 ht (arrE (xs.take (k + 1)) m) ws (wr.alloc (.cells #[.int .i64 vn, .int .u8 0, .int .u8 xc, .int .i64 xr] 34))) := Lib.hid (by
            rw [HSN.out, HE.out, if_neg (by first | omega | (simp only; omega))]
            exact HS.out.more HLAY.out ((Bel.refl _).alloc _))
          have HG2 : Hid (GotW n ws fun v j => j = 150 ∧ wallM (xs.take (k + 1)) m v) := Lib.hid ⟨HGW.out.len, HGW.out.lt, fun v j hv hj => by rw [HGW.out.mem v j hv hj, HWM.out v]; constructor; (rintro ⟨a, h⟩; exact ⟨a, .inl h⟩); (rintro ⟨a, h | h⟩; exact ⟨a, h⟩; omega)⟩
          go_wp2_with fail
          go_roundw
          case rel => exact ⟨k + 1, by omega, by go_num, ws, HS2, HG2⟩
          case measure => simp [intOf]; omega
        · by_cases hr : xr = -1
          · subst hr
            have c11 := cell1_ HS.out.gx
            obtain ⟨xw, hxw, hxl⟩ := HGW.out.get (i := vn * 3 + 150 / 64) (by omega)
            have HXW := Lib.hid (And.intro hxw hxl)
            have j1 : (0 : Int) ≤ (vn : Int) := by omega
            have j2 : (vn : Int) < (n : Int) := by omega
            clear hxw hxl
            go_wp2_with fail
            refine (setAdd_any (b + 2) (vn * 3) 150 xw ws (Nat.le_refl _) _ (((Bel.refl wr).alloc _).blk HS.out.gw) HXW.out.1 HXW.out.2).mono ?_
            rintro e w5 ⟨⟨v, rfl⟩, hws, hgr⟩
            have HS2 : Hid (St1 W n len b gf gn gt hf hn2 ht (arrE (xs.take (k + 1)) m) (ws.set (vn * 3 + 150 / 64) (xw ||| 2 ^ (150 % 64))) w5) := Lib.hid (by
              rw [HSN.out, HE.out, if_neg (by first | omega | (simp only; omega))]
              exact (HS.out.more HLAY.out ((Bel.refl _).alloc _)).wall HLAY.out hgr hws)
            have HG2 : Hid (GotW n (ws.set (vn * 3 + 150 / 64) (xw ||| 2 ^ (150 % 64))) fun v j => j = 150 ∧ wallM (xs.take (k + 1)) m v) := Lib.hid (by
              have h := HGW.out.add hvn (Nat.le_refl 150) HXW.out.1
              refine ⟨h.len, h.lt, fun v j hv hj => ?_⟩
              rw [h.mem v j hv hj, HWM.out v]
              constructor
              · rintro (⟨a, h⟩ | ⟨h, a⟩)
                · exact ⟨a, .inl h⟩
                · exact ⟨a, .inr (by refine ⟨?_, ?_, ?_, ?_⟩ <;> first | trivial | omega)⟩
              · rintro ⟨a, h | ⟨_, _, _, h⟩⟩
                · exact .inl ⟨a, h⟩
                · exact .inr ⟨by omega, a⟩)
            clear hws hgr c11
            go_wp2_with fail
            go_roundw
            case rel => exact ⟨k + 1, by omega, by go_num, _, HS2, HG2⟩
            case measure => simp [intOf]; omega
          · obtain ⟨tn, rfl⟩ : ∃ tn : Nat, xr = tn := ⟨xr.toNat, by omega⟩
            have htn : tn < n := by omega
            have hel : (arrE (xs.take k) m).length + 1 ≤ len := by
              have := arrE_len (xs.take k) m
              rw [List.length_take] at this
              omega
            have hwb := HLAY.out.b
            have hww := HLAY.out.w
            have ho1 := HLAY.out.one
            have ho2 := HLAY.out.two
            go_wp2_with fail
            refine (arrE_any W.heap.size b gf gn gt n len vn tn (arrE (xs.take k) m) hvn hel hl _ ⟨by omega, by omega, ho1.1, ho1.2.1, ho1.2.2, by omega⟩ ((HS.out.more HLAY.out ((Bel.refl _).alloc _)).on)).mono ?_
            rintro e w5 ⟨⟨v, rfl⟩, hga, hmv⟩
            have hS' := HS.out.more HLAY.out ((Bel.refl wr).alloc (.cells #[.int .i64 vn, .int .u8 0, .int .u8 xc, .int .i64 tn] 34))
            have hsz : (wr.alloc (.cells #[.int .i64 vn, .int .u8 0, .int .u8 xc, .int .i64 tn] 34)).heap.size = wr.heap.size + 1 := by simp
            have hxb : w5.heap[wr.heap.size]? = some (.cells #[.int .i64 vn, .int .u8 0, .int .u8 xc, .int .i64 tn] 34 (0, 0)) := (hmv.block wr.heap.size (by omega) (by omega)).trans (blk1 wr _)
            obtain ⟨d0, d1, d2, d3⟩ := cells4 hxb
            have hbk5 := hS'.bk.keep (w' := w5) (fun j hj => hmv.block j (by have := hS'.bk.lt; rcases hj with rfl | rfl | rfl | rfl <;> omega) (by have := HLAY.out.ap; rcases hj with rfl | rfl | rfl | rfl <;> (intro h; have h3 := HLAY.out.ap; first | omega | (rcases h with h | h; omega; exact h3 _ h (by simp)))))
            have HS' := Lib.hid hS'
            have HGA := Lib.hid hga
            have HMV := Lib.hid hmv
            have HBK5 := Lib.hid hbk5
            clear hS' hxb hga hmv hbk5
            go_wp2_with fail
            refine (arrE_any W.heap.size (b + 1) hf hn2 ht n len tn vn (swE (arrE (xs.take k) m)) htn (by simp only [swE, List.length_map]; exact hel) hl _ ⟨by omega, by omega, ho2.1, ho2.2.1, ho2.2.2, by omega⟩ HBK5.out).mono ?_
            rintro e w6 ⟨⟨v, rfl⟩, hga2, hmv2⟩
            have HS2 : Hid (St1 W n len b gf gn gt hf hn2 ht (arrE (xs.take (k + 1)) m) ws w6) := Lib.hid (by
              rw [HSN.out, HE.out, if_pos ⟨by trivial, by show xc < m; omega, by show (tn : Int) ≠ -1; omega⟩]
              exact HS'.out.adds HLAY.out HGA.out HMV.out hga2 hmv2)
            have HG2 : Hid (GotW n ws fun v j => j = 150 ∧ wallM (xs.take (k + 1)) m v) := Lib.hid ⟨HGW.out.len, HGW.out.lt, fun v j hv hj => by rw [HGW.out.mem v j hv hj, HWM.out v]; constructor; (rintro ⟨a, h⟩; exact ⟨a, .inl h⟩); (rintro ⟨a, h | h⟩; exact ⟨a, h⟩; exact absurd h.2.2.1 hr)⟩
            clear hga2 hmv2 d0 d1 d2 d3
            go_wp2_with fail
            go_roundw
            case rel => exact ⟨k + 1, by omega, by go_num, ws, HS2, HG2⟩
            case measure => simp [intOf]; omega
      · have HS2 : Hid (St1 W n len b gf gn gt hf hn2 ht (arrE (xs.take (k + 1)) m) ws (wr.alloc (.cells #[.int .i64 xv, .int .u8 xm, .int .u8 xc, .int .i64 xr] 34))) := Lib.hid (by
          rw [HSN.out, HE.out, if_neg (by first | omega | (simp only; omega))]
          exact HS.out.more HLAY.out ((Bel.refl _).alloc _))
        have HG2 : Hid (GotW n ws fun v j => j = 150 ∧ wallM (xs.take (k + 1)) m v) := Lib.hid ⟨HGW.out.len, HGW.out.lt, fun v j hv hj => by rw [HGW.out.mem v j hv hj, HWM.out v]; constructor; (rintro ⟨a, h⟩; exact ⟨a, .inl h⟩); (rintro ⟨a, h | h⟩; exact ⟨a, h⟩; exact absurd h.1 hm0)⟩
        go_wp2_with fail
        go_roundw
        case rel => exact ⟨k + 1, by omega, by go_num, ws, HS2, HG2⟩
        case measure => simp [intOf]; omega
    · obtain rfl : k = len := by omega
      have HS1 : Hid (St1 W n k b gf gn gt hf hn2 ht (arrE xs m) ws wr) := Lib.hid (by
        have := HS.out
        rwa [List.take_of_length_le (by rw [← HQL.out]; exact Nat.le_refl _)] at this)
      have HG1 : Hid (GotW n ws fun v j => (j = 150 ∧ wallM xs m v) ∨ ∃ i, i < 0 ∧ keep[i]? = some v ∧ j = i) := Lib.hid (by
        have h := HGW.out
        rw [List.take_of_length_le (by rw [← HQL.out]; exact Nat.le_refl _)] at h
        exact ⟨h.len, h.lt, fun v j hv hj => (h.mem v j hv hj).trans ⟨fun h => .inl h, fun h => h.elim id (fun ⟨i, h1, _⟩ => absurd h1 (by omega))⟩⟩)
      clear HS HGW
      go_wp2_with fail
      obtain ⟨wo, rfl⟩ : ∃ wo : World, wo = wr := ⟨_, rfl⟩
      have HKL : Hid (kn = keep.length) := Lib.hid (by have := HK.out.1; simpa using this)
      go_loopw [79] (fun i wr => ∃ q : Nat, q ≤ kn ∧ i = .int .i64 q ∧ ∃ ws, Hid (St1 W n k b gf gn gt hf hn2 ht (arrE xs m) ws wr) ∧ Hid (GotW n ws fun v j => (j = 150 ∧ wallM xs m v) ∨ ∃ i, i < q ∧ keep[i]? = some v ∧ j = i)) (fun i _ => kn - (intOf i).toNat)
      case atStart => exact ⟨0, Nat.zero_le _, rfl, _, HS1, HG1⟩
      case round =>
        obtain ⟨q, hq, rfl, ws2, HS, HGW⟩ := hrel
        clear HS1 HG1
        by_cases hlt2 : q < kn
        · obtain ⟨v, hv⟩ : ∃ v, keep[q]? = some v := ⟨keep[q]'(by rw [← HKL.out]; exact hlt2), by simp⟩
          have hvn := HKEEP.out v (List.mem_of_getElem? hv)
          obtain ⟨kb, koff, eK, hkb, kcs⟩ := HK.out.2 (by omega)
          have k0 := (HS.out.bel.cell (p := ⟨kb, koff + q, none⟩) hkb).trans (kcs q hlt2)
          rw [show ((keep.map fun (x : Nat) => (x : Int))[q]?.getD 0) = (v : Int) by simp [hv]] at k0
          have c11 := cell1_ HS.out.gx
          obtain ⟨xw, hxw, hxl⟩ := HGW.out.get (i := v * 3 + q / 64) (by omega)
          have HXW := Lib.hid (And.intro hxw hxl)
          have HV := Lib.hid hv
          have j1 : (0 : Int) ≤ (v : Int) := by omega
          have j2 : (v : Int) < (n : Int) := by omega
          have j3 : (0 : Int) ≤ (q : Int) := by omega
          have j4 : (q : Int) < (kn : Int) := by omega
          clear hxw hxl hv kcs
          subst eK
          go_wp2_with fail
          refine (setAdd_any (b + 2) (v * 3) q xw ws2 (by omega) _ HS.out.gw HXW.out.1 HXW.out.2).mono ?_
          rintro e w5 ⟨⟨y, rfl⟩, hws, hgr⟩
          have HS2 : Hid (St1 W n k b gf gn gt hf hn2 ht (arrE xs m) (ws2.set (v * 3 + q / 64) (xw ||| 2 ^ (q % 64))) w5) := Lib.hid (HS.out.wall HLAY.out hgr hws)
          have HG2 : Hid (GotW n (ws2.set (v * 3 + q / 64) (xw ||| 2 ^ (q % 64))) fun v j => (j = 150 ∧ wallM xs m v) ∨ ∃ i, i < q + 1 ∧ keep[i]? = some v ∧ j = i) := Lib.hid (by
            have h := HGW.out.add hvn (show q ≤ 150 by omega) HXW.out.1
            refine ⟨h.len, h.lt, fun u j hu hj => ?_⟩
            rw [h.mem u j hu hj]
            constructor
            · rintro ((h | ⟨i, h1, h2, h3⟩) | ⟨rfl, rfl⟩)
              · exact .inl h
              · exact .inr ⟨i, by omega, h2, h3⟩
              · exact .inr ⟨_, by omega, HV.out, rfl⟩
            · rintro (h | ⟨i, h1, h2, h3⟩)
              · exact .inl (.inl h)
              · by_cases e : i = q
                · subst e
                  have := HV.out
                  rw [h2] at this
                  exact .inr ⟨Option.some.inj this, h3⟩
                · exact .inl (.inr ⟨i, by omega, h2, h3⟩))
          clear hws hgr c11
          go_wp2_with fail
          go_roundw
          case rel => exact ⟨q + 1, by omega, by go_num, _, HS2, HG2⟩
          case measure => simp [intOf]; omega
        · obtain rfl : q = kn := by omega
          have HGK : Hid (GotW n ws2 (G0r xs m keep)) := Lib.hid (by
            have h := HGW.out
            refine ⟨h.len, h.lt, fun v j hv hj => ?_⟩
            rw [h.mem v j hv hj]
            unfold G0r
            constructor
            · rintro (h | ⟨i, _, h2, rfl⟩)
              · exact .inl h
              · exact .inr h2
            · rintro (h | h)
              · exact .inl h
              · exact .inr ⟨j, by have := (List.getElem?_eq_some_iff.1 h).1; rw [HKL.out]; exact this, h, rfl⟩)
          clear HGW
          obtain ⟨c0, c1, c2, _, _, _⟩ := cells3 HS.out.on.box
          obtain ⟨e0, e1, e2, _, _, _⟩ := cells3 HS.out.bk.box
          go_wp2_with fail
          have hE : (arrE xs m).length ≤ k := by have := arrE_len xs m; have := HQL.out; omega
          have hE2 : (swE (arrE xs m)).length = (arrE xs m).length := by simp [swE]
          have hgd := arrE_lt HG.out (m := m)
          have hKs : Rs wr KA q (keep.map fun (x : Nat) => (x : Int)) := Rs.of_ri (HK.out.bel HS.out.bel)
          have hKb : ∀ j, (0 < q ∧ Bk KA j) → j < W.heap.size := by
            rintro j ⟨h0, off, hj⟩
            obtain ⟨kb, koff, eK, hkb, _⟩ := HK.out.2 h0
            rw [hj] at eK
            cases eK
            exact hkb
          have hls := HS.out.lt
          have hlw := HLAY.out.w
          have hlb := HLAY.out.b
          have hsW := HS.out.bel.size
          refine (rings_any (dcOf n k gf gn gt (arrE xs m)) (dcOf n k hf hn2 ht (swE (arrE xs m))) (rOf (arrE xs m)) (rOf (swE (arrE xs m))) (grf_of hgd rfl rfl rfl rfl) (grf_of (fun p hp => by
              have := hgd (p.2, p.1) (mem_swE.1 (by simpa using hp)); exact ⟨this.2, this.1⟩) rfl rfl rfl rfl) rfl hn (by simp only [dcOf]; omega) (by simp only [dcOf]; omega) KA q kc keep (by omega) HKEEP.out wr HS.out.on.gr HS.out.bk.gr hKs
            (fun j hj => by
              rcases hj with h | h | h
              · rw [gB_dc] at h; omega
              · rw [gB_dc] at h; omega
              · have := hKb j h; omega) (fun u w => by rw [mem_adj rfl, mem_adj rfl, mem_swE]) (fun j h1 h2 => by rw [gB_dc] at h1 h2; exact HLAY.out.ap j h1 h2) (fun j h1 h2 => by rw [gB_dc] at h1; have := hKb j h2; omega)).mono ?_
          rintro e w5 ⟨U, mm, mc, vals, L, O, s, rfl, hmv, hgc, hgd', hs, hll, hmn, hpart, hko, hOn, hcl⟩
          go_wp2_with fail
          refine (backL_any U mm mc _).mono ?_
          rintro e w6 ⟨rfl, rfl⟩
          go_wp2_with fail
          refine (wpIn_wide (n := 9)).1 ?_
          have HGC := Lib.hid hgc
          have HLL := Lib.hid hll
          have HPART := Lib.hid hpart
          have HKO := Lib.hid hko
          have HON := Lib.hid hOn
          have HCL := Lib.hid hcl
          have HMV := Lib.hid hmv
          have hbxs : (w5.alloc (.cells #[.slice U mm mc] 104)).heap[w5.heap.size]? = some (.cells #[.slice U mm mc] 104 (0, 0)) := blk1 w5 _
          have hb6 : Bel w5 (w5.alloc (.cells #[.slice U mm mc] 104)) := (Bel.refl w5).alloc _
          have hz6 : (w5.alloc (.cells #[.slice U mm mc] 104)).heap.size = w5.heap.size + 1 := by simp
          obtain ⟨w6, hw6⟩ : ∃ w6, w6 = w5.alloc (.cells #[.slice U mm mc] 104) := ⟨_, rfl⟩
          rw [← hw6] at hbxs hb6 hz6 ⊢
          obtain ⟨t0, ht0⟩ : ∃ t0, t0 = w5.heap.size := ⟨_, rfl⟩
          rw [← ht0] at hbxs hz6 ⊢
          have HBX := Lib.hid hbxs
          have HB6 := Lib.hid hb6
          have HZ6 := Lib.hid hz6
          have HT0 := Lib.hid ht0
          clear hgc hll hpart hko hOn hcl hmv hgd' hbxs hb6 hz6 hw6 ht0 c0 c1 c2 e0 e1 e2 hKs
          generalize hA0 : Act.mk _ _ = A0
          have hvl : vals.length = mm := by have := HLL.out.own.1; simpa using this
          have HVL := Lib.hid hvl
          have hmn' : mm ≤ n := hmn
          have HML : Hid (mm = L.length) := Lib.hid (by rw [← hvl]; exact HLL.out.lls)
          clear hvl
          have HSZL : Hid (∀ j, (Bk U j ∨ ∃ v ∈ vals, v.ownBlock = some j) → s ≤ j ∧ j < t0) := Lib.hid (fun j hj => by rw [HT0.out]; exact HLL.out.lt j hj)
          have hs5 : wr.heap.size ≤ t0 := by rw [HT0.out]; exact HMV.out.size
          have HHS := Lib.hid hs
          have hgS : ∀ j, gB (dcOf n k gf gn gt (arrE xs m)) j → j < b := fun j hj => by rw [gB_dc] at hj; omega
          have hgW : ∀ j, gB (dcOf n k gf gn gt (arrE xs m)) j → W.heap.size ≤ j := fun j hj => by rw [gB_dc] at hj; omega
          have h56 : ∀ j, j < t0 → w6.heap[j]? = w5.heap[j]? := fun j hj => HB6.out.block j (by rw [← HT0.out]; exact hj)
          have h15 : ∀ j, j < b + 4 → ¬ (j = gf ∨ j = gn ∨ j = gt) → ¬ (j = hf ∨ j = hn2 ∨ j = ht) → w5.heap[j]? = wr.heap[j]? := fun j hj h1 h2 => HMV.out.block j (by omega) (fun h => by rw [gB_dc, gB_dc] at h; exact h.elim h1 h2)
          have HS3 : Hid (St3 (dcOf n k gf gn gt (arrE xs m)) n b s vals L ws2 w6) := Lib.hid (by
            refine ⟨?_, HGC.out.keep fun j hj => h56 j (by have := hgS j hj; omega), ?_, ?_, fun i v hi => ?_⟩
            · exact ((h56 b (by omega)).trans (h15 b (by omega) (by omega) (by omega))).trans HS.out.on.box
            · exact ((h56 _ (by omega)).trans (h15 (b + 3) (by omega) (by omega) (by omega))).trans HS.out.gx
            · unfold ArrS
              exact ((h56 _ (by omega)).trans (h15 (b + 2) (by omega) (by omega) (by omega))).trans HS.out.gw
            · obtain ⟨r, A', c', e1, e2, e3⟩ := HLL.out.row i v hi
              exact ⟨r, A', c', e1, e2, own_blk e3 fun x hx => h56 x (HSZL.out x (.inr ⟨v, List.mem_of_getElem? hi, hx⟩)).2⟩)
          refine range_outer (w := w6) (by omega) (gf := 74) (lb := #[.pointer (some ⟨t0, 0, none⟩)]) (by subst hA0; rfl) (enters_of Try.func74 (by kernel_rfl) rfl)
            (backL_seq t0 mm mc U vals HVL.out (by omega) _ (by omega)) ?hok (fun j hj => ?hmine) (fun _ => rfl)
            (fun pre Y W' => ∃ ws, St3 (dcOf n k gf gn gt (arrE xs m)) n b s vals L ws W' ∧ (∀ j, Y3 (dcOf n k gf gn gt (arrE xs m)) b vals j → Y j) ∧ ws.length = n * 3 ∧ (∀ x ∈ ws, x < 2 ^ 64) ∧ (pre = backLF mm pre.length → GotsW (adjG (dcOf n k gf gn gt (arrE xs m)) (rOf (arrE xs m))) O ws2 (L.drop (mm - pre.length)) ws))
            ?hI (Y0 := Y3 (dcOf n k gf gn gt (arrE xs m)) b vals) (fun j hj => ?hY0) ?h0
            (fun x => { tmps := ((A0.tmps.setIfInBounds 95 (.int .i64 (x.val : Nat))).setIfInBounds 96 (vals[x.val]?.getD undef)).setIfInBounds 17 (vals[x.val]?.getD undef), defers := [] }) ?hassign ?hbody (fun xs A B h _ _ => h) ?hdone
          case hok =>
            intro W' hb'
            refine ⟨hb'.blk HBX.out, fun h0 => ?_, fun j hj => ?_⟩
            · obtain ⟨g, cap, hv, hbg, hgl⟩ := HLL.out.own.form h0
              cases hv
              refine ⟨g, 0, rfl, fun i v hi => ?_⟩
              have h1 := HLL.out.own.cells (g := g) rfl i v hi
              rw [Addr.add_lit] at h1
              have h2 := (HSZL.out g (.inl ⟨0, rfl⟩)).2
              exact (World.cell?_of_block (a := ⟨g, 0 + i, none⟩) ((hb'.block g (by rw [HZ6.out]; omega)).trans (h56 g h2))).trans h1
            · have := (HSZL.out j (.inl hj)).2
              have := hb'.size
              rw [HZ6.out] at this
              omega
          case hmine =>
            rw [HZ6.out]
            rcases hj with rfl | hj
            · omega
            · have := (HSZL.out j (.inl hj)).2; omega
          case hI =>
            rintro pre Y A B ⟨ws, h1, h2, h3, h4, h5⟩ _ hk
            exact ⟨ws, h1.keep fun j hj => hk j (h2 j hj), h2, h3, h4, h5⟩
          case hY0 =>
            rw [HZ6.out]
            have hU : ∀ j, Bk U j → s ≤ j ∧ j < t0 := fun j hj => HSZL.out j (.inl hj)
            have hss : b + 4 ≤ s := by have := HHS.out; omega
            rcases hj with rfl | rfl | rfl | hj | ⟨v, hv, hj⟩
            · exact ⟨by omega, by rintro (e | e); omega; have := hU _ e; omega⟩
            · exact ⟨by omega, by rintro (e | e); omega; have := hU _ e; omega⟩
            · exact ⟨by omega, by rintro (e | e); omega; have := hU _ e; omega⟩
            · have := hgS j hj
              exact ⟨by omega, by rintro (e | e); omega; have := hU _ e; omega⟩
            · have h1 := HSZL.out j (.inr ⟨v, hv, hj⟩)
              refine ⟨by omega, ?_⟩
              rintro (e | e)
              · omega
              · obtain ⟨i, hi⟩ := List.getElem?_of_mem hv
                obtain ⟨r, A', c', e1, e2, e3⟩ := HLL.out.row i v hi
                obtain ⟨cur, hc⟩ := own_obj e3 hj
                exact row_other hc HLL.out.own (by decide) e
          case h0 =>
            refine ⟨ws2, HS3.out, fun j hj => hj, HGK.out.len, HGK.out.lt, fun _ => ?_⟩
            rw [List.length_nil, Nat.sub_zero, HML.out, List.drop_length]
            exact gots_start
          case hassign =>
            rintro l x W' K hK
            obtain ⟨rv, hrv⟩ : ∃ rv, rv = vals[x.val]?.getD undef := ⟨_, rfl⟩
            rw [← hrv] at hK ⊢
            have HKK := Lib.hid hK
            clear hK hrv
            subst hA0
            simp only
            gi_wp2
            have h := HKK.out
            simp only [List.setIfInBounds_toArray, List.set_cons_zero, List.set_cons_succ] at h
            exact h
          case hbody =>
            rintro l pre x Y W' hl' ⟨r0, hr0⟩ hYl ⟨ws, hst, hy, hwl, hwlt, hmath⟩ hYs hlen
            have hrv : vals[x.val]? = some (vals[x.val]'(by rw [HVL.out]; exact x.isLt)) := by simp
            obtain ⟨r, Ar, cr, eL, erv, hrow⟩ := hst.row x.val _ hrv
            have erv' : vals[x.val]?.getD undef = .slice Ar r.length cr := by rw [hrv]; exact erv
            have hrb : ∀ j, Bk Ar j → Y3 (dcOf n k gf gn gt (arrE xs m)) b vals j ∧ s ≤ j := fun j hj => by
              rw [erv] at hrow
              refine ⟨.inr (.inr (.inr (.inr ⟨_, List.mem_of_getElem? hrv, ?_⟩))), (own_lt_bk hrow hj).1⟩
              rw [erv]
              obtain ⟨off, hj⟩ := hj
              rw [hj]; rfl
            have hrs : Rs W' Ar r.length (r.map fun (x : Nat) => (x : Int)) := by
              rw [erv] at hrow
              exact rs_own (l := r.map fun (x : Nat) => (x : Int)) (by rw [List.map_map]; exact hrow)
            have hrL : r ∈ L := List.mem_of_getElem? eL
            have hrO : ∀ u ∈ r, u ∈ O := fun u hu => ((HPART.out.mem u).1 (List.mem_flatten.2 ⟨r, hrL, hu⟩)).1
            have hrn : ∀ u ∈ r, u < n := fun u hu => HON.out u (hrO u hu)
            have hrnd : r.Nodup := by
              obtain ⟨a1, a2, e⟩ := List.append_of_mem hrL
              have := HPART.out.nd
              rw [e, List.flatten_append, List.flatten_cons] at this
              exact (List.nodup_append.1 (List.nodup_append.1 this).2.1).1
            have hrl : r.length ≤ n := nd_len hrnd hrn
            have HST := Lib.hid hst
            have HY := Lib.hid hy
            have HWL := Lib.hid (And.intro hwl hwlt)
            have HMA := Lib.hid hmath
            have HYS := Lib.hid hYs
            have HR0 := Lib.hid hr0
            have HEL := Lib.hid eL
            have HRB := Lib.hid hrb
            have HRS := Lib.hid hrs
            have HRO := Lib.hid hrO
            have HRN := Lib.hid hrn
            have hlW : t0 + 1 ≤ W'.heap.size := by rw [← HZ6.out]; exact hl'
            rw [erv']
            clear hst hy hwl hwlt hmath hYs hr0 hrv eL erv erv' hrow hrb hrs hrO hrn hrnd hrL
            subst hA0
            simp only
            gi_wp2_with fail
            have hb1 : Bel W' (W'.alloc (.cells #[.int .u64 0, .int .u64 0, .int .u64 0] 94)) := (Bel.refl W').alloc _
            have hz1 : (W'.alloc (.cells #[.int .u64 0, .int .u64 0, .int .u64 0] 94)).heap.size = W'.heap.size + 1 := by simp
            have hsb : ArrS (W'.alloc (.cells #[.int .u64 0, .int .u64 0, .int .u64 0] 94)) W'.heap.size [0, 0, 0] := blk1 W' _
            obtain ⟨W1, hW1⟩ : ∃ W1, W1 = W'.alloc (.cells #[.int .u64 0, .int .u64 0, .int .u64 0] 94) := ⟨_, rfl⟩
            rw [← hW1] at hb1 hz1 hsb ⊢
            obtain ⟨t, ht_⟩ : ∃ t, t = W'.heap.size := ⟨_, rfl⟩
            rw [← ht_] at hz1 hsb ⊢
            have HTT := Lib.hid ht_
            have HB1_ := Lib.hid hb1
            have HZ1_ := Lib.hid hz1
            have HSB := Lib.hid hsb
            have hbt : b + 4 ≤ t := by have := HHS.out; omega
            have hgt : ∀ j, gB (dcOf n k gf gn gt (arrE xs m)) j → j < b ∧ W.heap.size ≤ j := fun j hj => by rw [gB_dc] at hj; omega
            have HGT := Lib.hid hgt
            have h1W : ∀ j, j < t → W1.heap[j]? = W'.heap[j]? := fun j hj => HB1_.out.block j (by rw [← HTT.out]; exact hj)
            have H1W := Lib.hid h1W
            clear hW1 hb1 hz1 hsb ht_ hgt h1W hlW
            gi_loopw [99] (fun i wr => ∃ kk : Nat, kk ≤ r.length ∧ i = .int .i64 kk ∧ ∃ sx sy sz, Hid (S3a (dcOf n k gf gn gt (arrE xs m)) t ws r (adjG (dcOf n k gf gn gt (arrE xs m)) (rOf (arrE xs m))) W1 kk sx sy sz wr)) (fun i _ => r.length - (intOf i).toNat)
            case atStart => exact ⟨0, Nat.zero_le _, rfl, 0, 0, 0, Lib.hid ⟨Mv.refl _ _, HST.out.gr.keep fun j hj => H1W.out j (by have := HGT.out j hj; omega), HSB.out, ⟨by decide, by decide, by decide⟩, fun j hj => by rw [mem3_zero]; simp⟩⟩
            case round =>
              obtain ⟨kk, hkk, rfl, sx, sy, sz, H3⟩ := hrel
              have hk3 : ∀ j, j < t → ¬ gB (dcOf n k gf gn gt (arrE xs m)) j → wr.heap[j]? = W'.heap[j]? := fun j h1 h2 => (H3.out.mv.block j (by rw [HZ1_.out]; omega) (fun e => e.elim (fun e => by omega) h2)).trans (H1W.out j h1)
              have hng : ∀ j, b ≤ j → ¬ gB (dcOf n k gf gn gt (arrE xs m)) j := fun j hj hg => by have := HGT.out j hg; omega
              have HK3 := Lib.hid hk3
              have HNG := Lib.hid hng
              have hgx : wr.heap[b + 3]? = some (.cells #[.slice (some ⟨b + 2, 0, none⟩) n n] 62 (0, 0)) := (hk3 _ (by omega) (hng _ (by omega))).trans HST.out.gx
              have hgw : ArrS wr (b + 2) ws := by unfold ArrS; rw [hk3 _ (by omega) (hng _ (by omega))]; exact HST.out.gw
              have hon : wr.heap[b]? = some (.cells (cellsG (dcOf n k gf gn gt (arrE xs m))) 97 (0, 0)) := (hk3 _ (by omega) (hng _ (by omega))).trans HST.out.on
              have HGX := Lib.hid hgx
              have HGW_ := Lib.hid hgw
              have HON_ := Lib.hid hon
              have hsz3 : t + 1 ≤ wr.heap.size := by rw [← HZ1_.out]; exact H3.out.mv.size
              clear hk3 hng hgx hgw hon
              by_cases hlt3 : kk < r.length
              · obtain ⟨u, hu⟩ : ∃ u, r[kk]? = some u := ⟨r[kk], List.getElem?_eq_getElem hlt3⟩
                have hun : u < n := HRN.out u (List.mem_of_getElem? hu)
                obtain ⟨ab, ao, eA, hcs⟩ := HRS.out.2 (by omega)
                have hkc := hcs kk hlt3
                rw [show ((r.map fun (x : Nat) => (x : Int))[kk]?.getD 0) = (u : Int) by simp [hu]] at hkc
                have hab := HRB.out ab ⟨ao, eA⟩
                have habt : ab < t := by rw [HTT.out]; exact HYS.out ab (HY.out ab hab.1)
                have k0 := (World.cell?_of_block (a := ⟨ab, ao + kk, none⟩) (HK3.out ab habt (HNG.out ab (by have := hab.2; have := HHS.out; omega)))).trans hkc
                have c11 := cell1_ HGX.out
                obtain ⟨x0, hx0, hx0l⟩ := (⟨HWL.out.1, HWL.out.2, fun _ _ _ _ => Iff.rfl⟩ : GotW n ws fun v j => memW ws v j = true).get (i := u * 3) (by omega)
                obtain ⟨x1, hx1, hx1l⟩ := (⟨HWL.out.1, HWL.out.2, fun _ _ _ _ => Iff.rfl⟩ : GotW n ws fun v j => memW ws v j = true).get (i := u * 3 + 1) (by omega)
                obtain ⟨x2, hx2, hx2l⟩ := (⟨HWL.out.1, HWL.out.2, fun _ _ _ _ => Iff.rfl⟩ : GotW n ws fun v j => memW ws v j = true).get (i := u * 3 + 2) (by omega)
                have g0 := HGW_.out.cell hx0
                have g1 := HGW_.out.cell hx1
                have g2 := HGW_.out.cell hx2
                have HX3 := Lib.hid (And.intro hx0 (And.intro hx1 hx2))
                have HX3L := Lib.hid (And.intro hx0l (And.intro hx1l hx2l))
                have HU := Lib.hid hu
                have j1 : (0 : Int) ≤ (u : Int) := by omega
                have j2 : (u : Int) < (n : Int) := by omega
                have j3 : (0 : Int) ≤ (kk : Int) := by omega
                have j4 : (kk : Int) < (r.length : Int) := by omega
                clear hx0 hx1 hx2 hx0l hx1l hx2l hcs hkc hu hab habt
                subst eA
                gi_wp2_with fail
                refine ⟨trivial, ?_⟩
                refine (CallsIn.inRound l (callsIn_wide.2 (join_any t 0 x0 x1 x2 sx sy sz [sx, sy, sz] wr H3.out.ss rfl rfl rfl H3.out.lt HX3L.out))).mono ?_
                rintro e w4 ⟨⟨y, rfl⟩, hss, hmv4⟩
                rw [joined] at hss
                have hon4 : w4.heap[b]? = some (.cells #[.slice (some ⟨gf, 0, none⟩) n n, .slice (some ⟨gn, 0, none⟩) (arrE xs m).length k, .slice (some ⟨gt, 0, none⟩) (arrE xs m).length k] 97 (0, 0)) := (hmv4.block b (by omega) (by omega)).trans HON_.out
                obtain ⟨c0, c1, c2, _, _, _⟩ := cells3 hon4
                have HSS4 := Lib.hid hss
                have HMV4 := Lib.hid hmv4
                have HON4 := Lib.hid hon4
                clear hss hmv4 hon4 k0 c11 g0 g1 g2 j3 j4
                gi_wp2_with fail
                refine ⟨trivial, ?_⟩
                refine (CallsIn.inRound l (callsIn_wide.2 (from_any (some ⟨gf, 0, none⟩) (some ⟨gn, 0, none⟩) (some ⟨gt, 0, none⟩) n n (arrE xs m).length k k u w4))).mono ?_
                rintro e w5 ⟨rfl, hw5⟩
                have hb5 : Bel w4 w5 := by rw [hw5]; exact ((Bel.refl w4).alloc _).alloc _
                have hz5 : w5.heap.size = w4.heap.size + 2 := by rw [hw5]; simp
                have hq5 : w5.heap[w4.heap.size]? = some (.cells #[.slice (some ⟨gf, 0, none⟩) n n, .slice (some ⟨gn, 0, none⟩) (arrE xs m).length k, .slice (some ⟨gt, 0, none⟩) (arrE xs m).length k] 97 (0, 0)) := by rw [hw5]; exact ((Bel.refl _).alloc _).blk (blk1 w4 _)
                have hr5 : w5.heap[w4.heap.size + 1]? = some (.cells #[.int .i64 (u : Int)] 3 (0, 0)) := by
                  rw [hw5]
                  have := blk1 (w4.alloc (.cells #[.slice (some ⟨gf, 0, none⟩) n n, .slice (some ⟨gn, 0, none⟩) (arrE xs m).length k, .slice (some ⟨gt, 0, none⟩) (arrE xs m).length k] 97)) (.cells #[.int .i64 (u : Int)] 3)
                  rwa [World.size_alloc] at this
                have hsz4 : t + 1 ≤ w4.heap.size := Nat.le_trans hsz3 HMV4.out.size
                have hgr5 : Gr (dcOf n k gf gn gt (arrE xs m)) w5 := (H3.out.gr.keep fun j hj => HMV4.out.block j (by have := HGT.out j hj; omega) (by have := HGT.out j hj; omega)).keep fun j hj => hb5.block j (by have := HGT.out j hj; omega)
                have hwr5 : ∀ j, j < t → w5.heap[j]? = wr.heap[j]? := fun j hj => (hb5.block j (by omega)).trans (HMV4.out.block j (by omega) (by omega))
                obtain ⟨s4, hs4⟩ : ∃ s4, s4 = w4.heap.size := ⟨_, rfl⟩
                rw [← hs4] at hz5 hq5 hr5 hsz4 ⊢
                have HS4 := Lib.hid hs4
                have HB5 := Lib.hid hb5
                have HZ5 := Lib.hid hz5
                have HQ5 := Lib.hid hq5
                have HR5 := Lib.hid hr5
                have HGR5 := Lib.hid hgr5
                have HWR5 := Lib.hid hwr5
                have hss5 : ArrS w5 t [sx ||| x0, sy ||| x1, sz ||| x2] := by unfold ArrS; rw [hb5.block t (by omega)]; exact HSS4.out
                have HSS5 := Lib.hid hss5
                clear hw5 hb5 hz5 hq5 hr5 hgr5 hwr5 hs4 hss5 c0 c1 c2
                gi_wp2_with fail
                generalize hA1 : Act.mk _ _ = A1
                have hmine4 : ∀ j, (j = s4 ∨ j = s4 + 1 ∨ gB (dcOf n k gf gn gt (arrE xs m)) j) → j < s4 + 2 ∧ j ≠ t ∧ j ≠ b + 2 ∧ j ≠ b + 3 := fun j hj => by
                  rcases hj with h | h | h
                  · omega
                  · omega
                  · have := HGT.out j h; omega
                have HM4 := Lib.hid hmine4
                clear hmine4
                refine range_inner (w := w5) (l₀ := l) (r₀ := r0) (((HWR5.out l (by rw [HTT.out]; exact (Array.getElem?_eq_some_iff.1 HR0.out).1)).trans (HK3.out l (by rw [HTT.out]; exact (Array.getElem?_eq_some_iff.1 HR0.out).1) (fun hg => hYl (HY.out l (.inr (.inr (.inr (.inl hg)))))))).trans HR0.out) (by omega) (gf := 79) (lb := #[.pointer (some ⟨s4, 0, none⟩), .pointer (some ⟨s4 + 1, 0, none⟩)]) (by subst hA1; rfl) (enters_of Try.func79 (by kernel_rfl) rfl)
                  (from_seq { dcOf n k gf gn gt (arrE xs m) with ab := s4 } (rOf (arrE xs m)) (s4 + 1) u ⟨(grf_of (c := dcOf n k gf gn gt (arrE xs m)) (arrE_lt HG.out) rfl rfl rfl rfl).chain, (grf_of (c := dcOf n k gf gn gt (arrE xs m)) (arrE_lt HG.out) rfl rfl rfl rfl).tgt, (grf_of (c := dcOf n k gf gn gt (arrE xs m)) (arrE_lt HG.out) rfl rfl rfl rfl).lenN⟩ hun _ (by omega))
                  ?hok4 (fun j hj => by rw [HZ5.out]; exact (HM4.out j hj).1) (fun _ => rfl)
                  (fun pre Y W' => ∃ ax ay az, ArrS W' t [ax, ay, az] ∧ (ax < 2 ^ 64 ∧ ay < 2 ^ 64 ∧ az < 2 ^ 64) ∧ ArrS W' (b + 2) ws ∧ W'.heap[b + 3]? = some (.cells #[.slice (some ⟨b + 2, 0, none⟩) n n] 62 (0, 0)) ∧ (∀ j, (j = t ∨ j = b + 2 ∨ j = b + 3) → Y j) ∧ ∀ j, j ≤ 150 → (mem3 ax ay az j = true ↔ mem3 (sx ||| x0) (sy ||| x1) (sz ||| x2) j = true ∨ ∃ v ∈ pre.map Fin.val, memW ws v j = true))
                  ?hI4 (Y0 := fun j => j = t ∨ j = b + 2 ∨ j = b + 3) (fun j hj => ?hY4) ?h04
                  (fun y => { tmps := (A1.tmps.setIfInBounds 111 (.int .i64 (y.val : Nat))).setIfInBounds 21 (.int .i64 (y.val : Nat)), defers := [] }) ?hassign4 ?hbody4 ?hS4 ?hdone4
                case hok4 =>
                  intro W6 hb'
                  have hk : ∀ j, (j = s4 ∨ j = s4 + 1 ∨ gB (dcOf n k gf gn gt (arrE xs m)) j) → W6.heap[j]? = w5.heap[j]? := fun j hj => hb'.block j (by rw [HZ5.out]; exact (HM4.out j hj).1)
                  have hg := HGR5.out.keep fun j hj => hk j (.inr (.inr hj))
                  exact ⟨(hk s4 (.inl rfl)).trans HQ5.out, cell1_ ((hk _ (.inr (.inl rfl))).trans HR5.out), ⟨hg.rf, hg.rn, hg.rt⟩, fun j hj => by have h1 := HM4.out j hj; have h2 := hb'.size; rw [HZ5.out] at h2; omega⟩
                case hI4 =>
                  rintro pre Y A B ⟨ax, ay, az, h1, h2, h3, h4, h5, h6⟩ _ hk
                  refine ⟨ax, ay, az, ?_, h2, ?_, (hk _ (h5 _ (.inr (.inr rfl)))).trans h4, h5, h6⟩
                  · unfold ArrS; rw [hk t (h5 t (.inl rfl))]; exact h1
                  · unfold ArrS; rw [hk _ (h5 _ (.inr (.inl rfl)))]; exact h3
                case hY4 =>
                  refine ⟨by rw [HZ5.out]; omega, fun hm => ?_⟩
                  have := HM4.out j hm
                  omega
                case h04 =>
                  refine ⟨_, _, _, HSS5.out, ⟨or_lt64 H3.out.lt.1 HX3L.out.1, or_lt64 H3.out.lt.2.1 HX3L.out.2.1, or_lt64 H3.out.lt.2.2 HX3L.out.2.2⟩, ?_, (HWR5.out _ (by omega)).trans HGX.out, fun j hj => hj, fun j hj => by simp⟩
                  unfold ArrS
                  rw [HWR5.out _ (by omega)]
                  exact HGW_.out
                case hassign4 =>
                  rintro l' y W6 K hK
                  have HKK := Lib.hid hK
                  clear hK
                  subst hA1
                  simp only
                  gi_wp2
                  have h := HKK.out
                  simp only [List.setIfInBounds_toArray, List.set_cons_zero, List.set_cons_succ] at h
                  exact h
                case hS4 =>
                  rintro xs' A B ⟨h1, h2⟩ _ hk
                  have hg := (Gr.keep (c := dcOf n k gf gn gt (arrE xs m)) ⟨h2.rf, h2.rn, h2.rt⟩ fun j hj => hk j (by rw [HZ5.out]; exact (HM4.out j (.inr (.inr hj))).1))
                  exact ⟨h1, ⟨hg.rf, hg.rn, hg.rt⟩⟩
                case hbody4 =>
                  rintro l' pre y Y W6 hl6 ⟨r6, hr6⟩ hYl6 ⟨ax, ay, az, h1, h2, h3, h4, h5, h6⟩ hYs6 hlen6
                  have hyn : y.val < n := y.isLt
                  obtain ⟨x3, hx3, hx3l⟩ := (⟨HWL.out.1, HWL.out.2, fun _ _ _ _ => Iff.rfl⟩ : GotW n ws fun v j => memW ws v j = true).get (i := y.val * 3) (by omega)
                  obtain ⟨x4, hx4, hx4l⟩ := (⟨HWL.out.1, HWL.out.2, fun _ _ _ _ => Iff.rfl⟩ : GotW n ws fun v j => memW ws v j = true).get (i := y.val * 3 + 1) (by omega)
                  obtain ⟨x5, hx5, hx5l⟩ := (⟨HWL.out.1, HWL.out.2, fun _ _ _ _ => Iff.rfl⟩ : GotW n ws fun v j => memW ws v j = true).get (i := y.val * 3 + 2) (by omega)
                  have g3 := h3.cell hx3
                  have g4 := h3.cell hx4
                  have g5 := h3.cell hx5
                  have c11 := cell1_ h4
                  have q1 : (0 : Int) ≤ ((y.val : Nat) : Int) := by omega
                  have q2 : ((y.val : Nat) : Int) < (n : Int) := by omega
                  have HA1 := Lib.hid h1
                  have HA2 := Lib.hid h2
                  have HA3 := Lib.hid h3
                  have HA4 := Lib.hid h4
                  have HA5 := Lib.hid h5
                  have HA6 := Lib.hid h6
                  have HYS6 := Lib.hid hYs6
                  have HXX := Lib.hid (And.intro hx3 (And.intro hx4 hx5))
                  have HXL := Lib.hid (And.intro hx3l (And.intro hx4l hx5l))
                  have hst6 : t < W6.heap.size := (Array.getElem?_eq_some_iff.1 h1).1
                  obtain ⟨yv, hyv⟩ : ∃ yv : Nat, yv = y.val := ⟨_, rfl⟩
                  have HYV := Lib.hid hyv
                  rw [← hyv] at g3 g4 g5 q1 q2
                  clear h1 h2 h3 h4 h5 h6 hYs6 hx3 hx4 hx5 hx3l hx4l hx5l hr6 hyn hlen6
                  subst hA1
                  rw [← hyv]
                  clear hyv
                  simp only
                  gi_wp2_with fail
                  refine ⟨trivial, ?_⟩
                  refine (CallsIn.inRound l' (CallsIn.inRound l (callsIn_wide.2 (join_any t 0 x3 x4 x5 ax ay az [ax, ay, az] W6 HA1.out rfl rfl rfl HA2.out HXL.out)))).mono ?_
                  rintro e w7 ⟨⟨z, rfl⟩, hss, hmv7⟩
                  rw [joined] at hss
                  have HSS7 := Lib.hid hss
                  have HMV7 := Lib.hid hmv7
                  clear hss hmv7 g3 g4 g5 c11
                  gi_wp2
                  have hYt : Y t := HA5.out t (.inl rfl)
                  have hlt7 : ∀ j, j ≠ t → j < W6.heap.size → w7.heap[j]? = W6.heap[j]? := fun j hj hl => HMV7.out.block j hl (fun e => hj e)
                  refine ⟨HMV7.out.more (fun j _ e => by rw [e]; exact hYt), Y, ⟨ax ||| x3, ay ||| x4, az ||| x5, HSS7.out, ⟨or_lt64 HA2.out.1 HXL.out.1, or_lt64 HA2.out.2.1 HXL.out.2.1, or_lt64 HA2.out.2.2 HXL.out.2.2⟩, ?_, (hlt7 _ (by omega) (by omega)).trans HA4.out, HA5.out, fun j hj => ?_⟩, fun j hj => ⟨Nat.lt_of_lt_of_le (HYS6.out j hj) HMV7.out.size, .inl hj⟩⟩
                  · unfold ArrS; rw [hlt7 _ (by omega) (by omega)]; exact HA3.out
                  · rw [mem3_or, Bool.or_eq_true, HA6.out j hj]
                    have e : memW ws y.val j = mem3 x3 x4 x5 j := by
                      unfold memW
                      rw [HXX.out.1, HXX.out.2.1, HXX.out.2.2]
                      rfl
                    rw [List.map_append, List.map_cons, List.map_nil, ← e]
                    constructor
                    · rintro ((h | ⟨v, h1, h2⟩) | h)
                      · exact .inl h
                      · exact .inr ⟨v, List.mem_append_left _ h1, h2⟩
                      · exact .inr ⟨_, List.mem_append_right _ (List.mem_singleton.2 rfl), h⟩
                    · rintro (h | ⟨v, h1, h2⟩)
                      · exact .inl (.inl h)
                      · rcases List.mem_append.1 h1 with h1 | h1
                        · exact .inl (.inr ⟨v, h1, h2⟩)
                        · rw [List.mem_singleton.1 h1] at h2; exact .inr h2
                case hdone4 =>
                  rintro xs' Y W6 ⟨hxs, hgx6⟩ ⟨ax, ay, az, h1, h2, h3, h4, h5, h6⟩ hmv hYs6
                  have HS3' : Hid (S3a (dcOf n k gf gn gt (arrE xs m)) t ws r (adjG (dcOf n k gf gn gt (arrE xs m)) (rOf (arrE xs m))) W1 (kk + 1) ax ay az W6) := Lib.hid (by
                    refine ⟨⟨hmv.os.trans (HB5.out.os.trans (HMV4.out.os.trans H3.out.mv.os)), hmv.tape.trans (HB5.out.tape.trans (HMV4.out.tape.trans H3.out.mv.tape)), hmv.output.trans (HB5.out.output.trans (HMV4.out.output.trans H3.out.mv.output)), Nat.le_trans H3.out.mv.size (Nat.le_trans HMV4.out.size (Nat.le_trans HB5.out.size hmv.size)), fun j hj hn => ?_⟩, ⟨hgx6.rf, hgx6.rn, hgx6.rt⟩, h1, h2, fun j hj => ?_⟩
                    · have hjt : j < t := by rw [HZ1_.out] at hj; have := not_or.1 hn; omega
                      have hwr : wr.heap[j]? = W1.heap[j]? := H3.out.mv.block j hj hn
                      have e5 := HWR5.out j hjt
                      by_cases e2 : j = b + 2
                      · subst e2
                        exact h3.trans ((e5.trans HGW_.out).symm.trans (e5.trans hwr))
                      · by_cases e3 : j = b + 3
                        · subst e3
                          exact h4.trans ((e5.trans HGX.out).symm.trans (e5.trans hwr))
                        · refine (hmv.block j (by rw [HZ5.out]; omega) ?_).trans (e5.trans hwr)
                          rintro ((h | h | h) | h | h | h)
                          · omega
                          · exact e2 h
                          · exact e3 h
                          · have h' : j = s4 := h
                            omega
                          · omega
                          · exact hn (.inr h)
                    · rw [h6 j hj, mem3_or, Bool.or_eq_true, H3.out.mem j hj, hxs]
                      have e : memW ws u j = mem3 x0 x1 x2 j := by
                        unfold memW
                        rw [HX3.out.1, HX3.out.2.1, HX3.out.2.2]
                        rfl
                      rw [← e, List.take_add_one, HU.out]
                      constructor
                      · rintro ((⟨v, h1, h2⟩ | h) | h)
                        · exact ⟨v, List.mem_append_left _ h1, h2⟩
                        · exact ⟨u, List.mem_append_right _ (by simp), .inl h⟩
                        · exact ⟨u, List.mem_append_right _ (by simp), .inr h⟩
                      · rintro ⟨v, hv, h⟩
                        rcases List.mem_append.1 hv with hv | hv
                        · exact .inl (.inl ⟨v, hv, h⟩)
                        · have hvu : v = u := by simpa using hv
                          subst hvu
                          rcases h with h | h
                          · exact .inl (.inr h)
                          · exact .inr h)
                  clear hxs hgx6 h1 h2 h3 h4 h5 h6 hmv hYs6
                  subst hA1
                  (try dsimp only)
                  gi_wp2_with fail
                  go_roundw
                  case rel => exact ⟨kk + 1, by omega, by go_num, ax, ay, az, HS3'⟩
                  case measure => simp [intOf]; omega
              · obtain rfl : kk = r.length := by omega
                gi_wp2_with fail
                have hRl : Hid (∀ j, j ≤ 150 → (mem3 sx sy sz j = true ↔ ∃ u ∈ r, memW ws u j = true ∨ ∃ v ∈ adjG (dcOf n k gf gn gt (arrE xs m)) (rOf (arrE xs m)) u, memW ws v j = true)) := Lib.hid (by
                  have := H3.out.mem
                  rwa [List.take_length] at this)
                obtain ⟨w3, rfl⟩ : ∃ w3 : World, w3 = wr := ⟨_, rfl⟩
                gi_loopw [120] (fun i wr => ∃ kk : Nat, kk ≤ r.length ∧ i = .int .i64 kk ∧ ∃ ws', Hid (ArrS wr (b + 2) ws' ∧ Mv (fun j => j = b + 2) w3 wr) ∧ Hid (ws'.length = n * 3 ∧ (∀ x ∈ ws', x < 2 ^ 64) ∧ ∀ u j, u < n → j ≤ 150 → (memW ws' u j = true ↔ if u ∈ r.take kk then mem3 sx sy sz j = true else memW ws u j = true))) (fun i _ => r.length - (intOf i).toNat)
                case atStart => exact ⟨0, Nat.zero_le _, rfl, ws, Lib.hid ⟨HGW_.out, Mv.refl _ _⟩, Lib.hid ⟨HWL.out.1, HWL.out.2, fun u j _ _ => by simp⟩⟩
                case round =>
                  obtain ⟨kk, hkk, rfl, ws', HA, HM⟩ := hrel
                  have hz6 : w3.heap.size ≤ wr.heap.size := HA.out.2.size
                  by_cases hlt4 : kk < r.length
                  · obtain ⟨u, hu⟩ : ∃ u, r[kk]? = some u := ⟨r[kk], List.getElem?_eq_getElem hlt4⟩
                    have hun : u < n := HRN.out u (List.mem_of_getElem? hu)
                    obtain ⟨ab, ao, eA, hcs⟩ := HRS.out.2 (by omega)
                    have hkc := hcs kk hlt4
                    rw [show ((r.map fun (x : Nat) => (x : Int))[kk]?.getD 0) = (u : Int) by simp [hu]] at hkc
                    have hab := HRB.out ab ⟨ao, eA⟩
                    have habt : ab < t := by rw [HTT.out]; exact HYS.out ab (HY.out ab hab.1)
                    have hss := HHS.out
                    have k0 := ((World.cell?_of_block (a := ⟨ab, ao + kk, none⟩) (HA.out.2.block ab (by omega) (by have := hab.2; omega))).trans (World.cell?_of_block (a := ⟨ab, ao + kk, none⟩) (HK3.out ab habt (HNG.out ab (by have := hab.2; omega))))).trans hkc
                    have c11 := cell1_ ((HA.out.2.block (b + 3) (by omega) (by omega)).trans HGX.out)
                    have hs6 : ArrS wr t [sx, sy, sz] := by unfold ArrS; rw [HA.out.2.block t (by omega) (by omega)]; exact H3.out.ss
                    have t0' := hs6.cell (j := 0) (x := sx) rfl
                    have t1' := hs6.cell (j := 1) (x := sy) rfl
                    have t2' := hs6.cell (j := 2) (x := sz) rfl
                    obtain ⟨x0, hx0, _⟩ := (⟨HM.out.1, HM.out.2.1, fun _ _ _ _ => Iff.rfl⟩ : GotW n ws' fun v j => memW ws' v j = true).get (i := u * 3) (by omega)
                    obtain ⟨x1, hx1, _⟩ := (⟨HM.out.1, HM.out.2.1, fun _ _ _ _ => Iff.rfl⟩ : GotW n ws' fun v j => memW ws' v j = true).get (i := u * 3 + 1) (by omega)
                    obtain ⟨x2, hx2, _⟩ := (⟨HM.out.1, HM.out.2.1, fun _ _ _ _ => Iff.rfl⟩ : GotW n ws' fun v j => memW ws' v j = true).get (i := u * 3 + 2) (by omega)
                    have g0 := HA.out.1.cell hx0
                    have g1 := HA.out.1.cell hx1
                    have g2 := HA.out.1.cell hx2
                    have f0 := HA.out.1.frozen (u * 3)
                    have f1 := HA.out.1.frozen (u * 3 + 1)
                    have f2 := HA.out.1.frozen (u * 3 + 2)
                    have HU := Lib.hid hu
                    have j1 : (0 : Int) ≤ (u : Int) := by omega
                    have j2 : (u : Int) < (n : Int) := by omega
                    have j3 : (0 : Int) ≤ (kk : Int) := by omega
                    have j4 : (kk : Int) < (r.length : Int) := by omega
                    have hset := (((HA.out.1.set_ (u * 3) sx).set_ (u * 3 + 1) sy).set_ (u * 3 + 2) sz)
                    have hmvs : Mv (fun j => j = b + 2) w3 (((wr.setCell ⟨b + 2, u * 3, none⟩ (.int .u64 (sx : Int))).setCell ⟨b + 2, u * 3 + 1, none⟩ (.int .u64 (sy : Int))).setCell ⟨b + 2, u * 3 + 2, none⟩ (.int .u64 (sz : Int))) := ((HA.out.2.set_ (.inl rfl) _).set_ (.inl rfl) _).set_ (.inl rfl) _
                    have HN2 : Hid (ArrS (((wr.setCell ⟨b + 2, u * 3, none⟩ (.int .u64 (sx : Int))).setCell ⟨b + 2, u * 3 + 1, none⟩ (.int .u64 (sy : Int))).setCell ⟨b + 2, u * 3 + 2, none⟩ (.int .u64 (sz : Int))) (b + 2) (((ws'.set (u * 3) sx).set (u * 3 + 1) sy).set (u * 3 + 2) sz) ∧ Mv (fun j => j = b + 2) w3 (((wr.setCell ⟨b + 2, u * 3, none⟩ (.int .u64 (sx : Int))).setCell ⟨b + 2, u * 3 + 1, none⟩ (.int .u64 (sy : Int))).setCell ⟨b + 2, u * 3 + 2, none⟩ (.int .u64 (sz : Int)))) := Lib.hid ⟨hset, hmvs⟩
                    have HM2 : Hid ((((ws'.set (u * 3) sx).set (u * 3 + 1) sy).set (u * 3 + 2) sz).length = n * 3 ∧ (∀ x ∈ (((ws'.set (u * 3) sx).set (u * 3 + 1) sy).set (u * 3 + 2) sz), x < 2 ^ 64) ∧ ∀ u' j, u' < n → j ≤ 150 → (memW (((ws'.set (u * 3) sx).set (u * 3 + 1) sy).set (u * 3 + 2) sz) u' j = true ↔ if u' ∈ r.take (kk + 1) then mem3 sx sy sz j = true else memW ws u' j = true)) := Lib.hid (by
                      have h := (⟨HM.out.1, HM.out.2.1, fun _ _ _ _ => Iff.rfl⟩ : GotW n ws' fun v j => memW ws' v j = true).set3 hun H3.out.lt.1 H3.out.lt.2.1 H3.out.lt.2.2
                      refine ⟨h.len, h.lt, fun u' j hu' hj => ?_⟩
                      rw [h.mem u' j hu' hj, List.take_add_one, HU.out]
                      by_cases e : u' = u
                      · subst e
                        rw [if_pos rfl, if_pos (List.mem_append_right _ (by simp))]
                      · rw [if_neg e, HM.out.2.2 u' j hu' hj]
                        have e3 : u' ∈ r.take kk ++ (some u).toList ↔ u' ∈ r.take kk := by simp [e]
                        by_cases e4 : u' ∈ r.take kk
                        · rw [if_pos e4, if_pos (e3.2 e4)]
                        · rw [if_neg e4, if_neg (fun h => e4 (e3.1 h))])
                    clear hset hmvs hx0 hx1 hx2 hkc hcs hab habt hss hs6 hu
                    subst eA
                    gi_wp2_with fail
                    exact ⟨⟨kk + 1, by omega, by go_num, _, HN2, HM2⟩, by simp [intOf]; omega⟩
                  · obtain rfl : kk = r.length := by omega
                    gi_wp2
                    have hss := HHS.out
                    have hYY : ∀ j, Y3 (dcOf n k gf gn gt (arrE xs m)) b vals j → j < t := fun j hj => by rw [HTT.out]; exact HYS.out j (HY.out j hj)
                    have hkA : ∀ j, j < t → j ≠ b + 2 → wr.heap[j]? = w3.heap[j]? := fun j h1 h2 => HA.out.2.block j (by omega) (fun e => h2 e)
                    refine ⟨⟨HA.out.2.os.trans (H3.out.mv.os.trans HB1_.out.os), HA.out.2.tape.trans (H3.out.mv.tape.trans HB1_.out.tape), HA.out.2.output.trans (H3.out.mv.output.trans HB1_.out.output), by have := HB1_.out.size; have := H3.out.mv.size; omega, fun j hj hn => ?_⟩, Y, ⟨ws', ⟨(hkA b (by omega) (by omega)).trans HON_.out, H3.out.gr.keep fun j hj => hkA j (by have := HGT.out j hj; omega) (by have := HGT.out j hj; omega), (hkA _ (by omega) (by omega)).trans HGX.out, HA.out.1, fun i v hi => ?_⟩, HY.out, HM.out.1, HM.out.2.1, fun he => ?_⟩, fun j hj => ⟨by have := HYS.out j hj; have := HTT.out; omega, .inl hj⟩⟩
                    · have hjt : j < t := by have := HTT.out; omega
                      have hj2 : j ≠ b + 2 := fun e => hn (HY.out j (.inr (.inl e)))
                      exact (hkA j hjt hj2).trans (HK3.out j hjt (fun hg => hn (HY.out j (.inr (.inr (.inr (.inl hg)))))))
                    · obtain ⟨r', A', c', e1, e2, e3⟩ := HST.out.row i v hi
                      refine ⟨r', A', c', e1, e2, own_blk e3 fun z hz => ?_⟩
                      have hb1 : s ≤ z := by
                        rw [e2] at e3 hz
                        exact (own_lt_bk e3 (own_bk e3 hz)).1
                      have hzt := hYY z (.inr (.inr (.inr (.inr ⟨v, List.mem_of_getElem? hi, hz⟩))))
                      exact (hkA z hzt (by omega)).trans (HK3.out z hzt (HNG.out z (by omega)))
                    · rw [List.length_append, List.length_singleton] at he ⊢
                      change pre.length < mm at hlen
                      obtain ⟨q0, hq0⟩ : ∃ q0 : Fin mm, q0.val = mm - 1 - pre.length := ⟨⟨mm - 1 - pre.length, by omega⟩, rfl⟩
                      rw [backLF_succ q0 hlen hq0] at he
                      obtain ⟨e1, e2⟩ := List.append_inj' he rfl
                      have e3 : x = q0 := by simpa using e2
                      have hxv : x.val = mm - 1 - pre.length := by rw [e3]; exact hq0
                      have hg := HMA.out e1
                      have hxl : x.val < L.length := by have := HML.out; omega
                      have hLx : L[x.val] = r := by
                        have := HEL.out
                        rw [List.getElem?_eq_getElem hxl] at this
                        exact Option.some.inj this
                      have hd1 : L.drop (mm - (pre.length + 1)) = r :: L.drop (mm - pre.length) := by
                        rw [show mm - (pre.length + 1) = x.val by omega, List.drop_eq_getElem_cons hxl, hLx, show x.val + 1 = mm - pre.length by omega]
                      rw [hd1]
                      refine gots_ring HPART.out HCL.out (fun _ _ => rfl) (pre := L.take x.val) ?_ hg (fun v hv j => ?_) (fun v hv j => ?_)
                      · rw [← hd1, show mm - (pre.length + 1) = x.val by omega, List.take_append_drop]
                      · by_cases hj : j ≤ 150
                        · by_cases hvn : v < n
                          · have := HM.out.2.2 v j hvn hj
                            rw [List.take_length, if_neg hv] at this
                            rw [this]
                          · have e0 : ∀ l : List Nat, l.length = n * 3 → memW l v j = false := fun l hl => by
                              unfold memW
                              rw [List.getElem?_eq_none (by omega), List.getElem?_eq_none (by omega), List.getElem?_eq_none (by omega)]
                              exact mem3_zero j
                            rw [e0 ws' HM.out.1, e0 ws HWL.out.1]
                        · exact ⟨fun h => absurd h.1 hj, fun h => absurd h.1 hj⟩
                      · constructor
                        · rintro ⟨hj, h⟩
                          have := HM.out.2.2 v j (HRN.out v hv) hj
                          rw [List.take_length, if_pos hv] at this
                          obtain ⟨u, hu, h2⟩ := (hRl.out j hj).1 (this.1 h)
                          refine ⟨u, hu, ?_⟩
                          rcases h2 with h2 | ⟨w, hw, h2⟩
                          · exact .inl ⟨hj, h2⟩
                          · exact .inr ⟨w, hw, hj, h2⟩
                        · rintro ⟨u, hu, h2⟩
                          have hj : j ≤ 150 := by
                            rcases h2 with h2 | ⟨w, hw, h2⟩
                            · exact h2.1
                            · exact h2.1
                          refine ⟨hj, ?_⟩
                          have := HM.out.2.2 v j (HRN.out v hv) hj
                          rw [List.take_length, if_pos hv] at this
                          refine this.2 ((hRl.out j hj).2 ⟨u, hu, ?_⟩)
                          rcases h2 with h2 | ⟨w, hw, h2⟩
                          · exact .inl h2.2
                          · exact .inr ⟨w, hw, h2.2⟩
          case hdone =>
            rintro D xs' Y W6 hD hxs ⟨ws, hst, hy, hwl, hwlt, hmath⟩ hmv hYs hdf hYD
            have hgots := hmath (by
              have : xs'.length = mm := by rw [hxs, backLF_len (Nat.le_refl _)]
              rw [this]; exact hxs)
            rw [show mm - xs'.length = 0 by rw [hxs, backLF_len (Nat.le_refl _)]; omega, List.drop_zero] at hgots
            have hBW : Bel W W6 := by
              have hsz := HS.out.bel.size
              refine ⟨hmv.os.trans (HB6.out.os.trans (HMV.out.os.trans HS.out.bel.os)), hmv.tape.trans (HB6.out.tape.trans (HMV.out.tape.trans HS.out.bel.tape)), hmv.output.trans (HB6.out.output.trans (HMV.out.output.trans HS.out.bel.output)), by have := hmv.size; rw [HZ6.out] at this; omega, fun j hj => ?_⟩
              have hss := HHS.out
              refine (hmv.block j (by rw [HZ6.out]; omega) ?_).trans ((h56 j (by omega)).trans ((HMV.out.block j (by omega) ?_).trans (HS.out.bel.block j hj)))
              · rintro ((h | h | h | h | ⟨v, hv, h⟩) | h | h)
                · omega
                · omega
                · omega
                · have := hgW j h; omega
                · have := (HSZL.out j (.inr ⟨v, hv, h⟩)).1; omega
                · omega
                · have := (HSZL.out j (.inl h)).1; omega
              · rintro (h | h)
                · have := hgW j h; omega
                · rw [gB_dc] at h; omega
            have HST := Lib.hid hst
            have HWL := Lib.hid (And.intro hwl hwlt)
            have HGO := Lib.hid hgots
            have HBW := Lib.hid hBW
            have HDF := Lib.hid hdf
            have hDW : W.heap.size ≤ D := by have := HHS.out; have := HS.out.bel.size; rw [HZ6.out] at hD; omega
            have hgxl : b + 3 < W6.heap.size := (Array.getElem?_eq_some_iff.1 hst.gx).1
            have hKL : q = keep.length := HKL.out
            have HKL2 := Lib.hid hKL
            clear hst hy hwl hwlt hmath hmv hYs hdf hYD hxs hgots hBW hKL
            subst hA0
            (try dsimp only)
            go_wp2_with fail
            refine wp_loop (fun a wr => ∃ (p : Nat) (V : Option Addr) (cc : Nat), p ≤ q ∧ RelZ D b q kc p cc KA V a ∧ Hid (Bel W6 wr) ∧ Hid (∃ os : List Nat, wr.ownsRow W6.heap.size 94 3 (.slice V p cc) p (os.map fun (x : Nat) => Value.int .u64 (x : Int)) ∧ os.length = p * 3 ∧ (∀ x ∈ os, x < 2 ^ 64) ∧ ∀ (i v j : Nat), i < p → keep[i]? = some v → memW os i j = memW ws v j)) (fun a _ => q - (intOf (a.tmps.getD 131 undef)).toNat) ?_ ?_
            · exact ⟨0, none, 0, Nat.zero_le _, ⟨rfl, rfl, rfl, rfl, rfl, rfl, rfl⟩, Lib.hid (Bel.refl _), Lib.hid ⟨[], World.ownsRow_nil _ _ _ _, rfl, fun x hx => (by cases hx), fun i v j hi => absurd hi (by omega)⟩⟩
            · rintro a wz ⟨p, V, cc, hp, HR, HMZ, HO⟩
              obtain ⟨U, hU, ea⟩ := frame144 a HR.size
              have u11 := (hU 11).trans HR.s11
              have u24 := (hU 24).trans HR.s24
              have u129 := (hU 129).trans HR.s129
              have u130 := (hU 130).trans HR.s130
              have u131 := (hU 131).trans HR.s131
              rw [ea, HR.d, u11, u24, u129, u130, u131]
              have HME : Hid (a.tmps.getD 131 undef = .int .i64 p) := Lib.hid HR.s131
              clear hU ea u11 u24 u129 u130 u131 HR
              have hgx := HMZ.out.blk HST.out.gx
              have hgw : ArrS wz (b + 2) ws := HMZ.out.blk HST.out.gw
              have hsz := HMZ.out.size
              by_cases hlt5 : p < q
              · obtain ⟨v, hv⟩ : ∃ v, keep[p]? = some v := ⟨keep[p]'(by rw [← HKL2.out]; exact hlt5), by simp⟩
                have hvn := HKEEP.out v (List.mem_of_getElem? hv)
                obtain ⟨kb, koff, eK, hkb, kcs⟩ := HK.out.2 (by omega)
                have k0 := ((HBW.out.on HMZ.out).cell (p := ⟨kb, koff + p, none⟩) hkb).trans (kcs p hlt5)
                rw [show ((keep.map fun (x : Nat) => (x : Int))[p]?.getD 0) = (v : Int) by simp [hv]] at k0
                have c11 := cell1_ hgx
                obtain ⟨x0, hx0, hx0l⟩ := (⟨HWL.out.1, HWL.out.2, fun _ _ _ _ => Iff.rfl⟩ : GotW n ws fun v j => memW ws v j = true).get (i := v * 3) (by omega)
                obtain ⟨x1, hx1, hx1l⟩ := (⟨HWL.out.1, HWL.out.2, fun _ _ _ _ => Iff.rfl⟩ : GotW n ws fun v j => memW ws v j = true).get (i := v * 3 + 1) (by omega)
                obtain ⟨x2, hx2, hx2l⟩ := (⟨HWL.out.1, HWL.out.2, fun _ _ _ _ => Iff.rfl⟩ : GotW n ws fun v j => memW ws v j = true).get (i := v * 3 + 2) (by omega)
                have g0 := hgw.cell hx0
                have g1 := hgw.cell hx1
                have g2 := hgw.cell hx2
                have j1 : (0 : Int) ≤ (v : Int) := by omega
                have j2 : (v : Int) < (n : Int) := by omega
                have j3 : (0 : Int) ≤ (p : Int) := by omega
                have j4 : (p : Int) < (q : Int) := by omega
                have HX := Lib.hid (And.intro hx0 (And.intro hx1 hx2))
                have HXL := Lib.hid (And.intro hx0l (And.intro hx1l hx2l))
                have HV := Lib.hid hv
                obtain ⟨os, ho1, ho2, ho3, ho4⟩ := HO.out
                have HO1 := Lib.hid ho1
                have HO2 := Lib.hid (And.intro ho2 (And.intro ho3 ho4))
                clear hx0 hx1 hx2 hx0l hx1l hx2l hv kcs hgx hgw ho1 ho2 ho3 ho4 HO
                subst eK
                obtain ⟨i0, hi0, hz0, hz1, hz2⟩ := info_parts info_set
                go_wp2_with (at_builtin; refine stopW ?_)
                unfold StopW
                refine wpList_append_own_at _ rfl _ _ 62 rfl W6.heap.size 94 i0 (.agg #[.int .u64 0, .int .u64 0, .int .u64 0]) 3 24 Try.underlying62 hi0 hz0 hz1 hz2 rfl (by decide) (.slice V p cc) p _ rfl (HO1.out.alloc _) ⟨wz.heap.size, 0, none⟩ 1 1 [.int .u64 x0, .int .u64 x1, .int .u64 x2] rfl rfl (fun j u hu => by rw [Addr.add_lit, Nat.zero_add]; exact three_at _ _ _ _ _ j u hu) (by simp [Value.oneCell']) (by unfold maxLen; omega) (by omega) (by simp; omega) ?_
                intro v' w7 hown7 hg7 _ hat7
                obtain ⟨g7, c7, rfl⟩ := ownsRow_succ hown7
                have HO7 := Lib.hid hown7
                have HG7 := Lib.hid hg7
                have HB7 : Hid (Bel W6 w7) := Lib.hid (by
                  have h := HG7.out
                  refine ⟨h.os.trans HMZ.out.os, h.tape.trans HMZ.out.tape, h.output.trans HMZ.out.output, by have := h.size; simp at this; omega, fun j hj => (h.block j (by simp; omega) (fun e => ?_)).trans ((Below.heap_alloc _ _ _ (by omega)).trans (HMZ.out.block j hj))⟩
                  have := (HO1.out.lt j e.symm).1
                  omega)
                clear hown7 hg7 hat7 k0 c11 g0 g1 g2 j1 j2 j3 j4
                go_wp2_with fail
                have hm7 : ∀ (i u j : Nat), i < p + 1 → keep[i]? = some u → memW (os ++ [x0, x1, x2]) i j = memW ws u j := fun i u j hi hu => by
                  have hol := HO2.out.1
                  by_cases e : i = p
                  · subst e
                    rw [HV.out] at hu
                    cases hu
                    unfold memW
                    rw [List.getElem?_append_right (by omega), List.getElem?_append_right (by omega), List.getElem?_append_right (by omega), hol, HX.out.1, HX.out.2.1, HX.out.2.2]
                    simp [Nat.add_sub_cancel_left]
                  · rw [← HO2.out.2.2 i u j (by omega) hu]
                    unfold memW
                    rw [List.getElem?_append_left (by omega), List.getElem?_append_left (by omega), List.getElem?_append_left (by omega)]
                refine ⟨⟨p + 1, some ⟨g7, 0, none⟩, c7, by omega, ⟨rfl, rfl, rfl, rfl, rfl, rfl, by simp⟩, HB7, Lib.hid ⟨os ++ [x0, x1, x2], ?_, by rw [List.length_append, HO2.out.1]; simp; omega, fun x hx => ?_, hm7⟩⟩, ?_⟩
                · rw [List.map_append]; exact HO7.out
                · rcases List.mem_append.1 hx with hx | hx
                  · exact HO2.out.2.1 x hx
                  · simp only [List.mem_cons, List.not_mem_nil, or_false] at hx
                    rcases hx with rfl | rfl | rfl
                    · exact HXL.out.1
                    · exact HXL.out.2.1
                    · exact HXL.out.2.2
                · first | (simp [intOf]; omega) | (rw [HME.out]; simp [intOf]; omega)
              · obtain rfl : p = q := by omega
                obtain ⟨os, ho1, ho2, ho3, ho4⟩ := HO.out
                have HO1 := Lib.hid ho1
                have HO2 := Lib.hid (And.intro ho2 (And.intro ho3 ho4))
                clear hgx hgw ho1 ho2 ho3 ho4 HO
                go_wp2_with fail
                have hDz : wz.heap[D]? = some (.deferred (some [])) := (HMZ.out.block D (Array.getElem?_eq_some_iff.1 HDF.out).1).trans HDF.out
                refine leaves_marks (Ds := [D]) (by simp) (fun E hE => by rw [List.mem_singleton.1 hE]; exact hDz) (fun w' hmw => ⟨_, results_tmp rfl _ _ _, ?_⟩)
                have hfull : ∀ (i v : Nat), keep[i]? = some v → ∀ j, j ≤ 150 → (memW os i j = true ↔ ∃ u, Rch (arrM xs m) v u ∧ G0r xs m keep u j) := fun i v hi j hj => by
                  have hvO := HKO.out v (List.mem_of_getElem? hi)
                  have hvL : v ∈ L.flatten := (HPART.out.mem v).2 ⟨hvO, rfl⟩
                  have h := (HGO.out v hvO).1 hvL j
                  have hil := (List.getElem?_eq_some_iff.1 hi).1
                  rw [HO2.out.2.2 i v j (by have := HKL2.out; omega) hi]
                  have hadj : ∀ a c', c' ∈ adjG (dcOf n k gf gn gt (arrE xs m)) (rOf (arrE xs m)) a ↔ c' ∈ arrM xs m a := fun a c' => by rw [mem_adj rfl, mem_arrE HG.out]
                  constructor
                  · intro hm
                    obtain ⟨u, hr, _, h2⟩ := h.1 ⟨hj, hm⟩
                    have hr' := rch_more (fun a c' hc => (hadj a c').1 hc) hr
                    exact ⟨u, hr', (HGK.out.mem u j (rch_lt HG.out hr' (HKEEP.out v (List.mem_of_getElem? hi))) hj).1 h2⟩
                  · rintro ⟨u, hr, h2⟩
                    exact (h.2 ⟨u, rch_more (fun a c' hc => (hadj a c').2 hc) hr, hj, (HGK.out.mem u j (rch_lt HG.out hr (HKEEP.out v (List.mem_of_getElem? hi))) hj).2 h2⟩).2
                refine ⟨V, cc, os, rfl, own_blk (own_mono HO1.out HBW.out.size) (fun x hx => ?_), HO2.out.2.1, HO2.out.1, fun i v hi => ⟨?_, fun j w hj => ?_⟩, ?_⟩
                · obtain ⟨cur, hc⟩ := own_obj HO1.out hx
                  refine hmw.block x (Array.getElem?_eq_some_iff.1 hc).1 (fun hm => ?_)
                  rw [List.mem_singleton.1 hm, hDz] at hc
                  cases hc
                · rw [hfull i v hi 150 (Nat.le_refl _)]
                  constructor
                  · rintro ⟨u, hr, h | h⟩
                    · exact ⟨u, hr, h.2⟩
                    · have := (List.getElem?_eq_some_iff.1 h).1
                      have := HKL2.out
                      omega
                  · rintro ⟨u, hr, h⟩
                    exact ⟨u, hr, .inl ⟨rfl, h⟩⟩
                · have hjl := (List.getElem?_eq_some_iff.1 hj).1
                  have hj150 : j < 150 := by have := HKL2.out; omega
                  rw [hfull i v hi j (by omega)]
                  constructor
                  · rintro ⟨u, hr, h | h⟩
                    · omega
                    · rw [hj] at h
                      cases h
                      exact hr
                  · intro hr
                    exact ⟨w, hr, .inr hj⟩
                · have h1 := HBW.out.on HMZ.out
                  refine ⟨hmw.os.trans h1.os, hmw.tape.trans h1.tape, hmw.output.trans h1.output, Nat.le_trans h1.size hmw.size, fun j hj => (hmw.block j (by have := h1.size; omega) (fun hm => ?_)).trans (h1.block j hj)⟩
                  rw [List.mem_singleton.1 hm] at hj
                  omega
end Go.Proofs.Ytlbachjhhjjmfaa.Mu

