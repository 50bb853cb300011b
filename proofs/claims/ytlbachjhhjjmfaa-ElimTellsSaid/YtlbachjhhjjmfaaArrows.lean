/-
  newArrows, walked.
  A region that draws its order and writes: as Inv, with what is known of the world told by what is done already, and a relation of one's own for what each operation changes. Over whatever program.
  add: an arrow more. (Written by gen_add.py.)
-/
import Derived.Test.YtlbachjhhjjmfaaSolvers
import Derived.Test.YtlbachjhhjjmfaaGraph
import Derived.Deep.DeepAppendRoom
namespace Go.Proofs.Ytlbachjhhjjmfaa.Mu
open Go.ChangeShapes Go.WideShapes Go.ChangeAt Go.RowKit Go.Shelf

attribute [local go_sem] Oper.semAt_some

/-- The lists of a new graph, each in a block of its own. -/
structure NewW (w : World) (own : Nat → Nat) (base n count gf gn gt : Nat) : Prop where
  hf : Arr .i64 w gf 3 (List.replicate n (-1))
  hn : w.ownsRow base 3 1 (.slice (some ⟨gn, 0, none⟩) 0 count) 0 []
  ht : w.ownsRow base 3 1 (.slice (some ⟨gt, 0, none⟩) 0 count) 0 []
  of : own gf = 2 ∧ own gn = 4 ∧ own gt = 6
  lo : base ≤ gf
def cellsW (n count gf gn gt : Nat) : Array Value := #[.slice (some ⟨gf, 0, none⟩) n n, .slice (some ⟨gn, 0, none⟩) 0 count, .slice (some ⟨gt, 0, none⟩) 0 count]
def specW (base n count : Nat) (i : Nat) (v : Value) (w : World) (own : Nat → Nat) : Prop :=
  match i with
  | 0 => ∃ g, v = .slice (some ⟨g, 0, none⟩) 1 1 ∧ Arr .i64 w g 3 [-1]
  | 1 => v = .int .i64 n
  | 2 => ∃ g, v = .slice (some ⟨g, 0, none⟩) n n ∧ Arr .i64 w g 3 (List.replicate n (-1)) ∧ base ≤ g ∧ own g = 2
  | 3 => v = .int .i64 count
  | 4 => ∃ g, v = .slice (some ⟨g, 0, none⟩) 0 count ∧ w.ownsRow base 3 1 (.slice (some ⟨g, 0, none⟩) 0 count) 0 [] ∧ own g = 4
  | 5 => v = .int .i64 count
  | 6 => ∃ g, v = .slice (some ⟨g, 0, none⟩) 0 count ∧ w.ownsRow base 3 1 (.slice (some ⟨g, 0, none⟩) 0 count) 0 [] ∧ own g = 6
  | 7 => ∃ gf gn gt, v = .agg (cellsW n count gf gn gt) ∧ NewW w own base n count gf gn gt
  | _ => True
theorem NewW.mono {w w' : World} {own own' : Nat → Nat} {base n count gf gn gt : Nat} (h : NewW w own base n count gf gn gt) (hb : Bel w w') (ho : ∀ x, x < w.heap.size → own' x = own x) : NewW w' own' base n count gf gn gt :=
  ⟨h.hf.bel hb, owns_bel h.hn hb, owns_bel h.ht hb, ⟨(ho _ h.hf.lt).trans h.of.1, (ho _ (h.hn.lt gn rfl).2).trans h.of.2.1, (ho _ (h.ht.lt gt rfl).2).trans h.of.2.2⟩, h.lo⟩
theorem specW_mono {base n count : Nat} (i : Nat) (v : Value) (w w' : World) (own own' : Nat → Nat) (hi : i < 8) (h : specW base n count i v w own) (hb : Bel w w') (ho : ∀ x, x < w.heap.size → own' x = own x) : specW base n count i v w' own' := by
  match i, hi, h with
  | 0, _, ⟨g, e, h⟩ => exact ⟨g, e, h.bel hb⟩
  | 1, _, h => exact h
  | 2, _, ⟨g, e, h, l, o⟩ => exact ⟨g, e, h.bel hb, l, (ho _ h.lt).trans o⟩
  | 3, _, h => exact h
  | 4, _, ⟨g, e, h, o⟩ => exact ⟨g, e, owns_bel h hb, (ho _ (h.lt g rfl).2).trans o⟩
  | 5, _, h => exact h
  | 6, _, ⟨g, e, h, o⟩ => exact ⟨g, e, owns_bel h hb, (ho _ (h.lt g rfl).2).trans o⟩
  | 7, _, ⟨a, b, c, e, h⟩ => exact ⟨a, b, c, e, h.mono hb ho⟩
  | k + 8, hi, _ => exact absurd hi (by omega)

def regW : List Oper := [
  { dst := some 5, op := Op.buildSlice 22 1 #[(0, Operand.const (Value.int IntKind.i64 (-1)))], type := 22, pos := "reach.go:39", after := #[], guard := none },
  { dst := some 6, op := Op.move (Operand.tmp 0), type := 3, pos := "reach.go:39", after := #[], guard := none },
  { dst := some 7, op := Op.call { callee := Callee.value (Operand.func 69), args := #[Operand.tmp 5, Operand.tmp 6], argTypes := #[22, 3] }, type := 22, pos := "reach.go:39", after := #[{ on := 0, ground := Ground.data }, { on := 1, ground := Ground.data }], guard := none },
  { dst := some 8, op := Op.move (Operand.tmp 1), type := 3, pos := "reach.go:39", after := #[], guard := none },
  { dst := some 9, op := Op.makeSlice 22 (Operand.const (Value.int IntKind.i64 0)) (Operand.tmp 8), type := 22, pos := "reach.go:39", after := #[{ on := 3, ground := Ground.data }], guard := none },
  { dst := some 10, op := Op.move (Operand.tmp 1), type := 3, pos := "reach.go:39", after := #[], guard := none },
  { dst := some 11, op := Op.makeSlice 22 (Operand.const (Value.int IntKind.i64 0)) (Operand.tmp 10), type := 22, pos := "reach.go:39", after := #[{ on := 5, ground := Ground.data }], guard := none },
  { dst := some 12, op := Op.build 97 #[(0, Operand.tmp 7), (1, Operand.tmp 9), (2, Operand.tmp 11)], type := 97, pos := "reach.go:39", after := #[{ on := 2, ground := Ground.data }, { on := 4, ground := Ground.data }, { on := 6, ground := Ground.data }], guard := none },
  { dst := none, op := Op.store 97 (Operand.tmp 4) (Operand.tmp 12), type := 0, pos := "reach.go:39", after := #[{ on := 7, ground := Ground.data }, { on := 2, ground := Ground.chain }, { on := 0, ground := Ground.phase }, { on := 1, ground := Ground.phase }, { on := 2, ground := Ground.phase }, { on := 3, ground := Ground.phase }, { on := 4, ground := Ground.phase }, { on := 5, ground := Ground.phase }, { on := 6, ground := Ground.phase }, { on := 7, ground := Ground.phase }], guard := none }]

theorem regW_tail : tailB .any regW.toArray 8 = true := by kernel_rfl
theorem regW_fwd : fwdB regW.toArray 8 = true := by kernel_rfl
theorem regW_slots : slotsB regW.toArray 13 = true := by kernel_rfl
theorem regW_seq : Region.seqB .any regW.toArray (regW.length - 8) 8 (Array.replicate 8 true ++ Array.replicate (regW.length - 8) false) = true := by kernel_rfl
theorem mk_0 (k base : Nat) (hk : k ≤ 1048576) (W : World) (hb : base ≤ W.heap.size) : ∃ w', (Instr.makeSlice 22 (.int .i64 0) (.int .i64 (k : Int))).run Try.prog W = .ok (.slice (some ⟨W.heap.size, 0, none⟩) 0 k) w' ∧ w'.ownsRow base 3 1 (.slice (some ⟨W.heap.size, 0, none⟩) 0 k) 0 [] ∧ Bel W w' := by
  obtain ⟨i0, hi0, hz0, hz1, hz2⟩ := info_parts info_i64'
  obtain ⟨w', h1, h2, h3⟩ := run_make_own (P := Try.prog) W base 22 3 i0 (.int .i64 0) 1 Try.underlying22 hi0 hz0 hz1 .i64 .i64 k (by rw [hz2]; omega) (by unfold maxLen; omega) hb
  exact ⟨w', h1, h2, Below.grown (Bel.refl W) h3 (Nat.le_refl _) (fun x hx => by cases hx)⟩
def actW (n count b : Nat) (V : Nat → Value) : Act :=
  { tmps := #[.int .i64 n, .int .i64 count, undef, undef, .pointer (some ⟨b, 0, none⟩), V 0, V 1, V 2, V 3, V 4, V 5, V 6, V 7], defers := [] }

set_option maxRecDepth 100000 in
set_option maxHeartbeats 4000000 in
theorem regW_any {id : Nat} (n count b : Nat) (hn : n ≤ 1048576) (hl : count ≤ 1048576) (w : World) (Q : Exit → Act → World → Prop)
    (hend : ∀ (V : Nat → Value) (w' : World) (own : Nat → Nat), Bel w.drew w' → (∀ i, i < 8 → specW w.heap.size n count i (V i) w' own) → wpList Try.prog regW.toArray Q (regW.drop 8) (actW n count b V) w') :
    (Code.region id regW.toArray true).wp Try.prog Q (actW n count b fun _ => undef) w := by
  refine wp_region_inv (l := regW) 8 (actW n count b fun _ => undef) w (specW w.heap.size n count) (by kernel_rfl) regW_tail regW_fwd regW_slots regW_seq (fun i v w w' own own' hi h hb ho => specW_mono i v w w' own own' hi h hb ho) ?_ ?_
  · intro i o hi ho a W own V hbel hdep hpar K hK
    have p0 : a.eval (.tmp 0) = .int .i64 n := hpar 0 (by show 0 < 13; decide) (by kernel_rfl)
    have p1 : a.eval (.tmp 1) = .int .i64 count := hpar 1 (by show 1 < 13; decide) (by kernel_rfl)
    have hbase : w.heap.size ≤ W.heap.size := hbel.size
    match i, hi, ho, hK with
    | 0, _, ho, hK =>
      simp only [regW, List.getElem?_toArray, List.getElem?_cons_zero, Option.some.injEq] at ho
      subst ho
      exact ⟨rfl, wp_val (v := .slice (some ⟨W.heap.size, 0, none⟩) 1 1) (w' := W.alloc (.cells #[.int .i64 (-1)] 3)) (by simp [execOp, go_sem, Act.eval]) (hK _ _ ((Bel.refl _).alloc _) ⟨_, rfl, blk1 W _⟩)⟩
    | 1, _, ho, hK =>
      simp only [regW, List.getElem?_toArray, List.getElem?_cons_zero, List.getElem?_cons_succ, Option.some.injEq] at ho
      subst ho
      exact ⟨rfl, wp_val (v := .int .i64 n) (w' := W) (by rw [← p0]; rfl) (hK _ _ (Bel.refl _) rfl)⟩
    | 2, _, ho, hK =>
      simp only [regW, List.getElem?_toArray, List.getElem?_cons_zero, List.getElem?_cons_succ, Option.some.injEq] at ho
      subst ho
      obtain ⟨⟨g, f0, hg⟩, d0⟩ := hdep ⟨0, .data⟩ (by simp) rfl
      have e5 : a.eval (.tmp 5) = .slice (some ⟨g, 0, none⟩) 1 1 := (d0 5 rfl).trans f0
      have e5' : a.tmps[5]?.getD undef = .slice (some ⟨g, 0, none⟩) 1 1 := by have h := e5; simp only [Act.eval, Array.getD_eq_getD_getElem?] at h; exact h
      obtain ⟨f1, d1⟩ := hdep ⟨1, .data⟩ (by simp) rfl
      have e6 : a.eval (.tmp 6) = .int .i64 n := (d1 6 rfl).trans f1
      have e6' : a.tmps[6]?.getD undef = .int .i64 n := by have h := e6; simp only [Act.eval, Array.getD_eq_getD_getElem?] at h; exact h
      refine ⟨rfl, ?_⟩
      have hrun : ∀ o : Oper, o.op = .call { callee := .value (.func 69), args := #[.tmp 5, .tmp 6], argTypes := #[22, 3] } → (execOp a.eval o).run Try.prog W = .ok (.enter 69 #[.slice (some ⟨g, 0, none⟩) 1 1, .int .i64 n]) W := fun o ho => by simp [execOp, ho, resolve, invoke, go_sem, e5', e6']
      unfold Oper.wp
      rw [hrun _ rfl]
      refine (repeatI_any g n (-1) hn W hg).mono ?_
      rintro e w' ⟨rfl, hr, hb⟩
      exact hK _ _ hb ⟨_, rfl, hr, hbase, by simp [ext]⟩
    | 3, _, ho, hK =>
      simp only [regW, List.getElem?_toArray, List.getElem?_cons_zero, List.getElem?_cons_succ, Option.some.injEq] at ho
      subst ho
      exact ⟨rfl, wp_val (v := .int .i64 count) (w' := W) (by rw [← p1]; rfl) (hK _ _ (Bel.refl _) rfl)⟩
    | 4, _, ho, hK =>
      simp only [regW, List.getElem?_toArray, List.getElem?_cons_zero, List.getElem?_cons_succ, Option.some.injEq] at ho
      subst ho
      obtain ⟨f3, d3⟩ := hdep ⟨3, .data⟩ (by simp) rfl
      have e8 : a.eval (.tmp 8) = .int .i64 count := (d3 8 rfl).trans f3
      have e8' : a.tmps[8]?.getD undef = .int .i64 count := by have h := e8; simp only [Act.eval, Array.getD_eq_getD_getElem?] at h; exact h
      obtain ⟨w', h1, h2, h3⟩ := mk_0 count w.heap.size hl W hbase
      exact ⟨rfl, wp_val (v := .slice (some ⟨W.heap.size, 0, none⟩) 0 count) (w' := w') (by simp [execOp, go_sem, e8', h1, Result.andThen]) (hK _ _ h3 ⟨_, rfl, h2, by simp [ext]⟩)⟩
    | 5, _, ho, hK =>
      simp only [regW, List.getElem?_toArray, List.getElem?_cons_zero, List.getElem?_cons_succ, Option.some.injEq] at ho
      subst ho
      exact ⟨rfl, wp_val (v := .int .i64 count) (w' := W) (by rw [← p1]; rfl) (hK _ _ (Bel.refl _) rfl)⟩
    | 6, _, ho, hK =>
      simp only [regW, List.getElem?_toArray, List.getElem?_cons_zero, List.getElem?_cons_succ, Option.some.injEq] at ho
      subst ho
      obtain ⟨f5, d5⟩ := hdep ⟨5, .data⟩ (by simp) rfl
      have e10 : a.eval (.tmp 10) = .int .i64 count := (d5 10 rfl).trans f5
      have e10' : a.tmps[10]?.getD undef = .int .i64 count := by have h := e10; simp only [Act.eval, Array.getD_eq_getD_getElem?] at h; exact h
      obtain ⟨w', h1, h2, h3⟩ := mk_0 count w.heap.size hl W hbase
      exact ⟨rfl, wp_val (v := .slice (some ⟨W.heap.size, 0, none⟩) 0 count) (w' := w') (by simp [execOp, go_sem, e10', h1, Result.andThen]) (hK _ _ h3 ⟨_, rfl, h2, by simp [ext]⟩)⟩
    | 7, _, ho, hK =>
      simp only [regW, List.getElem?_toArray, List.getElem?_cons_zero, List.getElem?_cons_succ, Option.some.injEq] at ho
      subst ho
      obtain ⟨⟨gf, f2, hgf, lgf, ogf⟩, d2⟩ := hdep ⟨2, .data⟩ (by simp) rfl
      have e7 : a.eval (.tmp 7) = .slice (some ⟨gf, 0, none⟩) n n := (d2 7 rfl).trans f2
      have e7' : a.tmps[7]?.getD undef = .slice (some ⟨gf, 0, none⟩) n n := by have h := e7; simp only [Act.eval, Array.getD_eq_getD_getElem?] at h; exact h
      obtain ⟨⟨gn, f4, hgn, ogn⟩, d4⟩ := hdep ⟨4, .data⟩ (by simp) rfl
      have e9 : a.eval (.tmp 9) = .slice (some ⟨gn, 0, none⟩) 0 count := (d4 9 rfl).trans f4
      have e9' : a.tmps[9]?.getD undef = .slice (some ⟨gn, 0, none⟩) 0 count := by have h := e9; simp only [Act.eval, Array.getD_eq_getD_getElem?] at h; exact h
      obtain ⟨⟨gt, f6, hgt, ogt⟩, d6⟩ := hdep ⟨6, .data⟩ (by simp) rfl
      have e11 : a.eval (.tmp 11) = .slice (some ⟨gt, 0, none⟩) 0 count := (d6 11 rfl).trans f6
      have e11' : a.tmps[11]?.getD undef = .slice (some ⟨gt, 0, none⟩) 0 count := by have h := e11; simp only [Act.eval, Array.getD_eq_getD_getElem?] at h; exact h
      have hown : ∀ x, x < W.heap.size → ext own W 7 x = own x := fun x hx => by simp [ext, hx]
      exact ⟨rfl, wp_val (v := .agg (cellsW n count gf gn gt)) (w' := W) (by simp [execOp, go_sem, e7', e9', e11', cellsW]) (hK _ _ (Bel.refl _) ⟨gf, gn, gt, rfl, NewW.mono ⟨hgf, hgn, hgt, ⟨ogf, ogn, ogt⟩, lgf⟩ (Bel.refl _) hown⟩)⟩
    | k + 8, hi, _, _ => exact absurd hi (by omega)
  · intro V w' own hb hF
    have e : finA regW.toArray 8 V (actW n count b fun _ => undef) = actW n count b V := by kernel_rfl
    rw [e]
    exact hend V w' own hb hF
/-- What newArrows tells. -/
def NewWPost (n count : Nat) (w : World) (e : Ending) (w' : World) : Prop :=
  ∃ gf gn gt, e = .returned (.agg (cellsW n count gf gn gt)) ∧ Arr .i64 w' gf 3 (List.replicate n (-1)) ∧ w'.ownsRow w.heap.size 3 1 (.slice (some ⟨gn, 0, none⟩) 0 count) 0 [] ∧ w'.ownsRow w.heap.size 3 1 (.slice (some ⟨gt, 0, none⟩) 0 count) 0 [] ∧ w.heap.size ≤ gf ∧ gf ≠ gn ∧ gf ≠ gt ∧ gn ≠ gt ∧ Bel w w'
set_option maxRecDepth 100000 in
set_option maxHeartbeats 1000000 in
theorem newArrows_any (n count : Nat) (hn : n ≤ 1048576) (hl : count ≤ 1048576) (w : World) : Calls Try.prog 52 #[.int .i64 n, .int .i64 count] w (NewWPost n count w) := by
  go_enter Try.func52, Try.ntmps52
  go_wp2_with fail
  refine regW_any n count w.heap.size hn hl _ _ ?_
  intro V w1 own hb hF
  obtain ⟨gf, gn, gt, e7, hN⟩ := hF 7 (by omega)
  have h4 : w1.heap[w.heap.size]? = some (.cells #[.slice none 0 0, .slice none 0 0, .slice none 0 0] 97 (0, 0)) := hb.blk (blk1 w _)
  obtain ⟨c0, c1, c2, f0, f1, f2⟩ := cells3 h4
  have HN := Lib.hid hN
  have H4 := Lib.hid h4
  have HB := Lib.hid hb
  simp only [regW, List.drop_succ_cons, List.drop_zero, actW, e7, cellsW]
  clear hF hb hN h4 e7
  go_wp2_with fail
  obtain ⟨w2, hw2⟩ : ∃ w2, w2 = (((w1.setCell ⟨w.heap.size, 0, none⟩ (.slice (some ⟨gf, 0, none⟩) n n)).setCell ⟨w.heap.size, 1, none⟩ (.slice (some ⟨gn, 0, none⟩) 0 count)).setCell ⟨w.heap.size, 2, none⟩ (.slice (some ⟨gt, 0, none⟩) 0 count)) := ⟨_, rfl⟩
  rw [← hw2]
  have h5 : w2.heap[w.heap.size]? = some (.cells #[.slice (some ⟨gf, 0, none⟩) n n, .slice (some ⟨gn, 0, none⟩) 0 count, .slice (some ⟨gt, 0, none⟩) 0 count] 97 (0, 0)) := by
    rw [hw2]
    have a1 := heap_setCell_same w1 w.heap.size 0 _ _ (.slice (some ⟨gf, 0, none⟩) n n) H4.out
    have a2 := heap_setCell_same _ w.heap.size 1 _ _ (.slice (some ⟨gn, 0, none⟩) 0 count) a1
    exact heap_setCell_same _ w.heap.size 2 _ _ (.slice (some ⟨gt, 0, none⟩) 0 count) a2
  have ho : ∀ j, j ≠ w.heap.size → w2.heap[j]? = w1.heap[j]? := fun j hj => by
    rw [hw2, heap_setCell_other _ _ j _ (fun e => hj e), heap_setCell_other _ _ j _ (fun e => hj e), heap_setCell_other _ _ j _ (fun e => hj e)]
  have hs2 : w2.heap.size = w1.heap.size := by rw [hw2]; simp [World.setCell]
  have hos : w2.os = w1.os ∧ w2.tape = w1.tape ∧ w2.output = w1.output := by rw [hw2]; exact ⟨rfl, rfl, rfl⟩
  have hbs : (w.alloc (.cells #[.slice none 0 0, .slice none 0 0, .slice none 0 0] 97)).heap.size = w.heap.size + 1 := by simp
  obtain ⟨k0, k1, k2, _, _, _⟩ := cells3 h5
  clear hw2 c0 c1 c2 f0 f1 f2
  refine bodyPost_ret (v := .agg (cellsW n count gf gn gt)) (by simp [results, Try.results52, go_sem, cellsW, k0, k1, k2]) rfl ?_
  have hn := HN.out
  have l1 := (hn.hn.lt gn rfl).1
  have l2 := (hn.ht.lt gt rfl).1
  have l0 := hn.lo
  rw [hbs] at l0 l1 l2
  refine ⟨gf, gn, gt, rfl, ?_, own_blk (own_mono hn.hn (by rw [hbs]; omega)) (fun x hx => ho x (by have e : gn = x := Option.some.inj hx; omega)), own_blk (own_mono hn.ht (by rw [hbs]; omega)) (fun x hx => ho x (by have e : gt = x := Option.some.inj hx; omega)), by omega, fun e => ?_, fun e => ?_, fun e => ?_, ⟨hos.1.trans HB.out.os, hos.2.1.trans HB.out.tape, hos.2.2.trans HB.out.output, ?_, fun j hj => (ho j (by omega)).trans ((HB.out.block j (by show j < (w.alloc _).heap.size; rw [hbs]; omega)).trans (Below.heap_alloc _ _ _ hj))⟩⟩
  · unfold Arr
    rw [ho gf (by omega)]
    exact hn.hf
  · have := hn.of.1; rw [e, hn.of.2.1] at this; cases this
  · have := hn.of.1; rw [e, hn.of.2.2] at this; cases this
  · have := hn.of.2.1; rw [e, hn.of.2.2] at this; cases this
  · have h1 := HB.out.size
    have h2 : (w.alloc (.cells #[.slice none 0 0, .slice none 0 0, .slice none 0 0] 97)).drew.heap.size = w.heap.size + 1 := hbs
    rw [h2] at h1
    omega
end Go.Proofs.Ytlbachjhhjjmfaa.Mu
namespace Go.Proofs.Ytlbachjhhjjmfaa.Mu
open Go
section
variable {P : Program} {Q : Exit → Act → World → Prop}
theorem wp_region_invL {id : Nat} {l : List Oper} (n : Nat) (a0 : Act) (w0 : World) (Inv : Array Bool → World → Prop) (Chg : World → World → Prop) (F : Nat → Value → World → Prop) (hm : P.follows .mixedOrders = true) (hB : tailB .any l.toArray n = true) (hf : fwdB l.toArray n = true) (hsl : slotsB l.toArray a0.tmps.size = true)
    (hq : Region.seqB .any l.toArray (l.length - n) n (Array.replicate n true ++ Array.replicate (l.length - n) false) = true) (hI0 : ∀ L : Array Bool, (∀ i, L.getD i false = false) → Inv L w0.drew)
    (hmono : ∀ i v w w', i < n → F i v w → Chg w w' → F i v w')
    (hstep : ∀ i o, i < n → l.toArray[i]? = some o → ∀ (L : Array Bool) (a : Act) (w : World) (V : Nat → Value), Inv L w → L.getD i false = false → (∀ j oj, l.toArray[j]? = some oj → L.getD j false = true → ∀ e ∈ oj.after, Region.binds .any e = true → L.getD e.on false = true) →
      (∀ e ∈ o.after, Region.binds .any e = true → L.getD e.on false = true ∧ F e.on (V e.on) w ∧ ∀ d, (l.toArray[e.on]?).bind (·.dst) = some d → a.eval (.tmp d) = V e.on) → (∀ s, s < a0.tmps.size → slotAt l.toArray s = none → a.eval (.tmp s) = a0.eval (.tmp s)) →
      ∀ K : Act → World → Prop, (∀ v w', (∀ L' : Array Bool, (∀ j, L'.getD j false = if j = i then true else L.getD j false) → Inv L' w') → Chg w w' → F i v w' → K (a.put o.dst v) w') → o.guard = none ∧ Oper.wp P o a w K Q)
    (hend : ∀ (L : Array Bool) (V : Nat → Value) (w : World), Inv L w → (∀ i, i < n → L.getD i false = true) → (∀ i, i < n → F i (V i) w) → wpList P l.toArray Q (l.drop n) (finA l.toArray n V a0) w) :
    (Code.region id l.toArray true).wp P Q a0 w0 := by
  have hn' : n < l.length := by
    simp only [tailB, Bool.and_eq_true, decide_eq_true_eq] at hB
    simpa using hB.1.1.2
  refine wp_region_any hm ?_
  have inv0 : HeadInv .any l.toArray n (Array.replicate l.length false) :=
    ⟨by simp, fun j oj _ hl => (by rw [getD_replicate_false] at hl; cases hl), fun t _ ht => getD_in (by simpa using ht) (getD_replicate_false _ _)⟩
  have key := wpAny_invT (P := P) (Q := Q) (l := l) (n := n) (fun listed a w => listed.size = l.length ∧ (∀ t, n ≤ t → listed.getD t false = false) ∧ Inv listed w ∧ (∀ j oj, l.toArray[j]? = some oj → listed.getD j false = true → ∀ e ∈ oj.after, Region.binds .any e = true → listed.getD e.on false = true) ∧ ∃ (V : Nat → Value), Filled l.toArray listed V a0 a ∧ ∀ i, i < n → listed.getD i false = true → F i (V i) w) hB hf hq ?_ ?_ n (Array.replicate l.length false) a0 w0.drew (cnt_new (by omega)) inv0 ⟨by simp, fun t _ => getD_replicate_false _ _, hI0 _ (fun i => getD_replicate_false _ _), fun j oj _ hl => (by rw [getD_replicate_false] at hl; cases hl), fun _ => undef, ⟨rfl, rfl, fun s hs => by cases slotAt l.toArray s <;> simp only [getD_replicate_false, Bool.false_eq_true, if_false]⟩, fun i _ hi => by rw [getD_replicate_false] at hi; cases hi⟩
  · have e : n + (l.length - n) = l.length := by omega
    rw [e] at key
    simpa using key
  · rintro listed a w i inv ⟨hsz, htl, hinv, hcl, V, hfill, hF⟩ hin hun hr
    obtain ⟨_, o, ho, hall⟩ := mem_ready.1 hr
    have hset : ∀ j, (listed.setIfInBounds i true).getD j false = if j = i then true else listed.getD j false := fun j => by
      by_cases e : j = i
      · subst e; rw [if_pos rfl]; simp [show j < listed.size by omega]
      · rw [getD_set_ne false (fun e' => e e'.symm), if_neg e]
    have hunf : listed.getD i false = false := by
      have h2 : i < listed.size := by omega
      simp [h2] at hun ⊢; exact hun
    have hK := hstep i o hin ho listed a w V hinv hunf hcl (fun e he hb => by
      have hl := hall e he hb
      have hen : e.on < n := by
        rcases Nat.lt_or_ge e.on n with h | h
        · exact h
        · rw [htl _ h] at hl; cases hl
      exact ⟨hl, hF _ hen hl, fun d hd => hfill.eval hsl hl hd⟩) (fun s hs hn => hfill.par hn hs)
      (fun a' w' => (listed.setIfInBounds i true).size = l.length ∧ (∀ t, n ≤ t → (listed.setIfInBounds i true).getD t false = false) ∧ Inv (listed.setIfInBounds i true) w' ∧ (∀ j oj, l.toArray[j]? = some oj → (listed.setIfInBounds i true).getD j false = true → ∀ e ∈ oj.after, Region.binds .any e = true → (listed.setIfInBounds i true).getD e.on false = true) ∧ ∃ (V : Nat → Value), Filled l.toArray (listed.setIfInBounds i true) V a0 a' ∧ ∀ j, j < n → (listed.setIfInBounds i true).getD j false = true → F j (V j) w')
      (fun v w' hi' hc hFi => ⟨by simpa using hsz, fun t ht => by rw [getD_set_ne false (by omega)]; exact htl t ht, hi' _ hset, fun j oj hj hl e he hb => by
        rw [hset] at hl ⊢
        by_cases e1 : e.on = i
        · rw [if_pos e1]
        · rw [if_neg e1]
          by_cases e2 : j = i
          · subst e2
            rw [ho] at hj
            cases hj
            exact hall e he hb
          · rw [if_neg e2] at hl
            exact hcl j oj hj hl e he hb, fun j => if j = i then v else V j, hfill.put hsl ho (by omega) v, fun j hj hl => by
        by_cases e : j = i
        · subst e; simp only [if_true]; exact hFi
        · simp only [if_neg e]
          rw [getD_set_ne false (fun e' => e e'.symm)] at hl
          exact hmono j _ w w' hj (hF j hj hl) hc⟩)
    unfold wpOp
    simp only [ho]
    rw [if_pos (by simp [Region.wanted, hK.1])]
    exact .inl hK.2
  · rintro listed a w ⟨hsz, htl, hinv, hcl, V, hfill, hF⟩ hall
    rw [hfill.fin hall htl]
    exact hend listed V w hinv hall fun i hi => hF i hi (hall i hi)
end
end Go.Proofs.Ytlbachjhhjjmfaa.Mu
namespace Go.Proofs.Ytlbachjhhjjmfaa.Mu
open Go.ChangeShapes Go.WideShapes Go.ChangeAt Go.RowKit Go.Shelf

attribute [local go_sem] Oper.semAt_some

/-- A graph in memory while it grows: its box, its rows. -/
def cellsK (n k count gf gn gt : Nat) : Array Value := #[.slice (some ⟨gf, 0, none⟩) n n, .slice (some ⟨gn, 0, none⟩) k count, .slice (some ⟨gt, 0, none⟩) k count]
/-- What is new stays. -/
def Nw (B : Nat) (w w' : World) : Prop := w.heap.size ≤ w'.heap.size ∧ ∀ j, B ≤ j → j < w.heap.size → w'.heap[j]? = w.heap[j]?
theorem Nw.refl (B : Nat) (w : World) : Nw B w w := ⟨Nat.le_refl _, fun _ _ _ => rfl⟩
theorem Nw.alloc (B : Nat) (w : World) (o : Obj) : Nw B w (w.alloc o) := ⟨by simp, fun j _ h => Below.heap_alloc _ _ _ h⟩
theorem Nw.grown {B g : Nat} {w w' : World} (h : w.grownBy w' (some g)) (hg : g < B) : Nw B w w' := ⟨h.size, fun j hj hl => h.block j hl (fun e => by cases e; omega)⟩
theorem Nw.set_ {B : Nat} {p : Addr} (w : World) (v : Value) (hp : p.block < B) : Nw B w (w.setCell p v) := ⟨by simp [World.setCell], fun j hj _ => heap_setCell_other w p j v (fun e => by omega)⟩
theorem one_of_blk {w : World} {g : Nat} {t : TypeId} {x : Value} (h : w.heap[g]? = some (.cells #[x] t (0, 0))) : ∀ j u, [x][j]? = some u → w.cell? ⟨g, j, none⟩ = some u := by
  intro j u hu
  match j, hu with
  | 0, hu => simp at hu; subst hu; simp [World.cell?, h]
theorem wp_skip {P : Program} {o : Oper} {a : Act} {w w' : World} {K : Act → World → Prop} {Q : Exit → Act → World → Prop} (h : (execOp a.eval o).run P w = .ok .skip w') (hk : K (a.put o.dst undef) w') : Oper.wp P o a w K Q := by
  unfold Oper.wp; rw [h]; exact hk
/-- Under way: which of the two appends, and of the first store, are done. -/
structure InvA (W : World) (base bo gf gn gt n count k : Nat) (F N T : List Int) (f t : Int) (b1 b2 b3 : Bool) (w : World) : Prop where
  mv : Mv (fun j => j = bo ∨ j = gn ∨ j = gt) W w
  box : w.heap[bo]? = some (.cells #[.slice (some ⟨gf, 0, none⟩) n n, .slice (some ⟨gn, 0, none⟩) (if b3 = true then k + 1 else k) count, .slice (some ⟨gt, 0, none⟩) k count] 97 (0, 0))
  hf : Arr .i64 w gf 3 F
  hn : w.ownsRow base 3 1 (.slice (some ⟨gn, 0, none⟩) (if b1 = true then k + 1 else k) count) (if b1 = true then k + 1 else k) (if b1 = true then N.map (Value.int .i64) ++ [.int .i64 f] else N.map (Value.int .i64))
  ht : w.ownsRow base 3 1 (.slice (some ⟨gt, 0, none⟩) (if b2 = true then k + 1 else k) count) (if b2 = true then k + 1 else k) (if b2 = true then T.map (Value.int .i64) ++ [.int .i64 t] else T.map (Value.int .i64))
/-- Told by what is done. -/
def InvL (W : World) (base bo gf gn gt n count k : Nat) (F N T : List Int) (f t : Int) (L : Array Bool) (w : World) : Prop := InvA W base bo gf gn gt n count k F N T f t (L.getD 14 false) (L.getD 21 false) (L.getD 24 false) w
section
variable {W w w' : World} {base bo gf gn gt n count k : Nat} {F N T : List Int} {f t : Int} {b1 b2 b3 : Bool}
theorem InvA.alloc (h : InvA W base bo gf gn gt n count k F N T f t b1 b2 b3 w) (o : Obj) : InvA W base bo gf gn gt n count k F N T f t b1 b2 b3 (w.alloc o) :=
  ⟨h.mv.alloc o, ((Bel.refl w).alloc o).blk h.box, h.hf.bel ((Bel.refl w).alloc o), owns_bel h.hn ((Bel.refl w).alloc o), owns_bel h.ht ((Bel.refl w).alloc o)⟩
theorem InvL.same {L L' : Array Bool} {i : Nat} (h : InvL W base bo gf gn gt n count k F N T f t L w) (hL : ∀ j, L'.getD j false = if j = i then true else L.getD j false) (h1 : 14 ≠ i) (h2 : 21 ≠ i) (h3 : 24 ≠ i) : InvL W base bo gf gn gt n count k F N T f t L' w := by
  unfold InvL at *
  rw [hL, hL, hL, if_neg h1, if_neg h2, if_neg h3]
  exact h
theorem InvL.alloc {L : Array Bool} (h : InvL W base bo gf gn gt n count k F N T f t L w) (o : Obj) : InvL W base bo gf gn gt n count k F N T f t L (w.alloc o) := InvA.alloc h o
theorem InvL.app1 {L L' : Array Bool} (h : InvL W base bo gf gn gt n count k F N T f t L w) (hL : ∀ j, L'.getD j false = if j = 14 then true else L.getD j false) (hown : w'.ownsRow base 3 1 (.slice (some ⟨gn, 0, none⟩) (k + 1) count) (k + 1) (N.map (Value.int .i64) ++ [.int .i64 f])) (hg : w.grownBy w' (some gn)) (hds : bo ≠ gn ∧ bo ≠ gt ∧ gf ≠ gn ∧ gf ≠ gt ∧ gn ≠ gt ∧ bo ≠ gf) : InvL W base bo gf gn gt n count k F N T f t L' w' := by
  unfold InvL at *
  rw [hL, hL, hL, if_pos rfl, if_neg (by decide), if_neg (by decide)]
  obtain ⟨d1, d2, d3, d4, d5, d6⟩ := hds
  have hk : ∀ j, j < w.heap.size → j ≠ gn → w'.heap[j]? = w.heap[j]? := fun j hj hne => hg.block j hj (fun e => by cases e; exact hne rfl)
  refine ⟨h.mv.grown hg (fun j hj => by cases hj; exact .inl (.inr (.inl rfl))), (hk bo (Array.getElem?_eq_some_iff.1 h.box).1 d1).trans h.box, ?_, by simpa using hown, own_blk h.ht (fun x hx => hk x (own_lt_bk h.ht (own_bk h.ht hx)).2 ?_)⟩
  · have := h.hf
    unfold Arr at this ⊢
    rw [hk gf h.hf.lt d3]
    exact this
  · cases hx; exact fun e => d5 e.symm
theorem InvL.app2 {L L' : Array Bool} (h : InvL W base bo gf gn gt n count k F N T f t L w) (hL : ∀ j, L'.getD j false = if j = 21 then true else L.getD j false) (hown : w'.ownsRow base 3 1 (.slice (some ⟨gt, 0, none⟩) (k + 1) count) (k + 1) (T.map (Value.int .i64) ++ [.int .i64 t])) (hg : w.grownBy w' (some gt)) (hds : bo ≠ gn ∧ bo ≠ gt ∧ gf ≠ gn ∧ gf ≠ gt ∧ gn ≠ gt ∧ bo ≠ gf) : InvL W base bo gf gn gt n count k F N T f t L' w' := by
  unfold InvL at *
  rw [hL, hL, hL, if_pos rfl, if_neg (by decide), if_neg (by decide)]
  obtain ⟨d1, d2, d3, d4, d5, d6⟩ := hds
  have hk : ∀ j, j < w.heap.size → j ≠ gt → w'.heap[j]? = w.heap[j]? := fun j hj hne => hg.block j hj (fun e => by cases e; exact hne rfl)
  refine ⟨h.mv.grown hg (fun j hj => by cases hj; exact .inl (.inr (.inr rfl))), (hk bo (Array.getElem?_eq_some_iff.1 h.box).1 d2).trans h.box, ?_, own_blk h.hn (fun x hx => hk x (own_lt_bk h.hn (own_bk h.hn hx)).2 ?_), by simpa using hown⟩
  · have := h.hf
    unfold Arr at this ⊢
    rw [hk gf h.hf.lt d4]
    exact this
  · cases hx; exact d5
theorem InvL.box1 {L L' : Array Bool} (h : InvL W base bo gf gn gt n count k F N T f t L w) (hL : ∀ j, L'.getD j false = if j = 24 then true else L.getD j false) (hds : bo ≠ gn ∧ bo ≠ gt ∧ gf ≠ gn ∧ gf ≠ gt ∧ gn ≠ gt ∧ bo ≠ gf) : InvL W base bo gf gn gt n count k F N T f t L' (w.setCell ⟨bo, 1, none⟩ (.slice (some ⟨gn, 0, none⟩) (k + 1) count)) := by
  unfold InvL at *
  rw [hL, hL, hL, if_pos rfl, if_neg (by decide), if_neg (by decide)]
  obtain ⟨d1, d2, d3, d4, d5, d6⟩ := hds
  have hk : ∀ j, j ≠ bo → (w.setCell ⟨bo, 1, none⟩ (.slice (some ⟨gn, 0, none⟩) (k + 1) count)).heap[j]? = w.heap[j]? := fun j hne => heap_setCell_other w _ j _ (fun e => hne e)
  refine ⟨h.mv.set_ (.inl (.inl rfl)) _, by rw [heap_setCell_same w bo 1 _ _ _ h.box]; simp, ?_, own_blk h.hn (fun x hx => hk x ?_), own_blk h.ht (fun x hx => hk x ?_)⟩
  · have := h.hf
    unfold Arr at this ⊢
    rw [hk gf (fun e => d6 e.symm)]
    exact this
  · cases hx; exact fun e => d1 e.symm
  · cases hx; exact fun e => d2 e.symm
end

def regAd : List Oper := [
  { dst := some 6, op := Op.move (Operand.tmp 0), type := 128, pos := "reach.go:43", after := #[], guard := none },
  { dst := some 7, op := Op.move (Operand.tmp 0), type := 128, pos := "reach.go:43", after := #[{ on := 24, ground := Ground.gcOnly Departure.lateStores }], guard := none },
  { dst := some 8, op := Op.move (Operand.tmp 0), type := 128, pos := "reach.go:43", after := #[], guard := none },
  { dst := some 9, op := Op.nilCheck (Operand.tmp 8), type := 0, pos := "reach.go:43", after := #[{ on := 2, ground := Ground.data }], guard := none },
  { dst := some 10, op := Op.fieldAddr 97 (Operand.tmp 9) 1, type := 0, pos := "reach.go:43", after := #[{ on := 3, ground := Ground.data }], guard := none },
  { dst := some 11, op := Op.load 22 (Operand.tmp 10), type := 22, pos := "reach.go:43", after := #[{ on := 4, ground := Ground.data }], guard := none },
  { dst := some 12, op := Op.move (Operand.tmp 0), type := 128, pos := "reach.go:43", after := #[], guard := none },
  { dst := some 13, op := Op.nilCheck (Operand.tmp 12), type := 0, pos := "reach.go:43", after := #[{ on := 6, ground := Ground.data }], guard := none },
  { dst := some 14, op := Op.fieldAddr 97 (Operand.tmp 13) 0, type := 0, pos := "reach.go:43", after := #[{ on := 7, ground := Ground.data }], guard := none },
  { dst := some 15, op := Op.load 22 (Operand.tmp 14), type := 22, pos := "reach.go:43", after := #[{ on := 8, ground := Ground.data }], guard := none },
  { dst := some 16, op := Op.move (Operand.tmp 1), type := 3, pos := "reach.go:43", after := #[], guard := none },
  { dst := some 17, op := Op.indexAddr 22 (Operand.tmp 15) (Operand.tmp 16), type := 0, pos := "reach.go:43", after := #[{ on := 9, ground := Ground.data }, { on := 10, ground := Ground.data }], guard := none },
  { dst := some 18, op := Op.load 3 (Operand.tmp 17), type := 3, pos := "reach.go:43", after := #[{ on := 11, ground := Ground.data }], guard := none },
  { dst := some 19, op := Op.buildSlice 22 1 #[(0, Operand.tmp 18)], type := 22, pos := "reach.go:43", after := #[{ on := 12, ground := Ground.data }], guard := none },
  { dst := some 20, op := Op.call { callee := Callee.builtin Builtin.append, args := #[Operand.tmp 11, Operand.tmp 19], argTypes := #[22, 22] }, type := 22, pos := "reach.go:43", after := #[{ on := 5, ground := Ground.data }, { on := 13, ground := Ground.data }], guard := none },
  { dst := some 21, op := Op.move (Operand.tmp 0), type := 128, pos := "reach.go:43", after := #[], guard := none },
  { dst := some 22, op := Op.nilCheck (Operand.tmp 21), type := 0, pos := "reach.go:43", after := #[{ on := 15, ground := Ground.data }], guard := none },
  { dst := some 23, op := Op.fieldAddr 97 (Operand.tmp 22) 2, type := 0, pos := "reach.go:43", after := #[{ on := 16, ground := Ground.data }], guard := none },
  { dst := some 24, op := Op.load 22 (Operand.tmp 23), type := 22, pos := "reach.go:43", after := #[{ on := 17, ground := Ground.data }], guard := none },
  { dst := some 25, op := Op.move (Operand.tmp 2), type := 3, pos := "reach.go:43", after := #[], guard := none },
  { dst := some 26, op := Op.buildSlice 22 1 #[(0, Operand.tmp 25)], type := 22, pos := "reach.go:43", after := #[{ on := 19, ground := Ground.data }], guard := none },
  { dst := some 27, op := Op.call { callee := Callee.builtin Builtin.append, args := #[Operand.tmp 24, Operand.tmp 26], argTypes := #[22, 22] }, type := 22, pos := "reach.go:43", after := #[{ on := 18, ground := Ground.data }, { on := 20, ground := Ground.data }, { on := 14, ground := Ground.chain }], guard := none },
  { dst := some 28, op := Op.nilCheck (Operand.tmp 6), type := 0, pos := "reach.go:43", after := #[{ on := 0, ground := Ground.data }, { on := 0, ground := Ground.phase }, { on := 1, ground := Ground.textOnly Departure.lateStores }, { on := 2, ground := Ground.phase }, { on := 3, ground := Ground.phase }, { on := 4, ground := Ground.phase }, { on := 5, ground := Ground.phase }, { on := 6, ground := Ground.phase }, { on := 7, ground := Ground.phase }, { on := 8, ground := Ground.phase }, { on := 9, ground := Ground.phase }, { on := 10, ground := Ground.phase }, { on := 11, ground := Ground.phase }, { on := 12, ground := Ground.phase }, { on := 13, ground := Ground.phase }, { on := 14, ground := Ground.phase }, { on := 15, ground := Ground.textOnly Departure.lateStores }, { on := 16, ground := Ground.textOnly Departure.lateStoresUnsure }, { on := 17, ground := Ground.textOnly Departure.lateStoresUnsure }, { on := 18, ground := Ground.phase }, { on := 19, ground := Ground.textOnly Departure.lateStores }, { on := 20, ground := Ground.textOnly Departure.lateStoresUnsure }, { on := 21, ground := Ground.phase }], guard := none },
  { dst := some 29, op := Op.fieldAddr 97 (Operand.tmp 28) 1, type := 0, pos := "reach.go:43", after := #[{ on := 22, ground := Ground.data }, { on := 0, ground := Ground.phase }, { on := 1, ground := Ground.textOnly Departure.lateStores }, { on := 2, ground := Ground.phase }, { on := 3, ground := Ground.phase }, { on := 4, ground := Ground.phase }, { on := 5, ground := Ground.phase }, { on := 6, ground := Ground.phase }, { on := 7, ground := Ground.phase }, { on := 8, ground := Ground.phase }, { on := 9, ground := Ground.phase }, { on := 10, ground := Ground.phase }, { on := 11, ground := Ground.phase }, { on := 12, ground := Ground.phase }, { on := 13, ground := Ground.phase }, { on := 14, ground := Ground.phase }, { on := 15, ground := Ground.textOnly Departure.lateStores }, { on := 16, ground := Ground.textOnly Departure.lateStoresUnsure }, { on := 17, ground := Ground.textOnly Departure.lateStoresUnsure }, { on := 18, ground := Ground.phase }, { on := 19, ground := Ground.textOnly Departure.lateStores }, { on := 20, ground := Ground.textOnly Departure.lateStoresUnsure }, { on := 21, ground := Ground.phase }], guard := none },
  { dst := none, op := Op.store 22 (Operand.tmp 29) (Operand.tmp 20), type := 0, pos := "reach.go:43", after := #[{ on := 23, ground := Ground.data }, { on := 14, ground := Ground.data }, { on := 21, ground := Ground.chain }, { on := 0, ground := Ground.phase }, { on := 1, ground := Ground.textOnly Departure.lateStores }, { on := 2, ground := Ground.phase }, { on := 3, ground := Ground.phase }, { on := 4, ground := Ground.phase }, { on := 5, ground := Ground.phase }, { on := 6, ground := Ground.phase }, { on := 7, ground := Ground.phase }, { on := 8, ground := Ground.phase }, { on := 9, ground := Ground.phase }, { on := 10, ground := Ground.phase }, { on := 11, ground := Ground.phase }, { on := 12, ground := Ground.phase }, { on := 13, ground := Ground.phase }, { on := 14, ground := Ground.phase }, { on := 15, ground := Ground.textOnly Departure.lateStores }, { on := 16, ground := Ground.textOnly Departure.lateStoresUnsure }, { on := 17, ground := Ground.textOnly Departure.lateStoresUnsure }, { on := 18, ground := Ground.phase }, { on := 19, ground := Ground.textOnly Departure.lateStores }, { on := 20, ground := Ground.textOnly Departure.lateStoresUnsure }, { on := 21, ground := Ground.phase }], guard := none },
  { dst := some 30, op := Op.nilCheck (Operand.tmp 7), type := 0, pos := "reach.go:43", after := #[{ on := 1, ground := Ground.data }, { on := 0, ground := Ground.phase }, { on := 1, ground := Ground.phase }, { on := 2, ground := Ground.phase }, { on := 3, ground := Ground.phase }, { on := 4, ground := Ground.phase }, { on := 5, ground := Ground.phase }, { on := 6, ground := Ground.phase }, { on := 7, ground := Ground.phase }, { on := 8, ground := Ground.phase }, { on := 9, ground := Ground.phase }, { on := 10, ground := Ground.phase }, { on := 11, ground := Ground.phase }, { on := 12, ground := Ground.phase }, { on := 13, ground := Ground.phase }, { on := 14, ground := Ground.phase }, { on := 15, ground := Ground.phase }, { on := 16, ground := Ground.phase }, { on := 17, ground := Ground.phase }, { on := 18, ground := Ground.phase }, { on := 19, ground := Ground.phase }, { on := 20, ground := Ground.phase }, { on := 21, ground := Ground.phase }, { on := 22, ground := Ground.phase }, { on := 23, ground := Ground.phase }, { on := 24, ground := Ground.phase }], guard := none },
  { dst := some 31, op := Op.fieldAddr 97 (Operand.tmp 30) 2, type := 0, pos := "reach.go:43", after := #[{ on := 25, ground := Ground.data }, { on := 0, ground := Ground.phase }, { on := 1, ground := Ground.phase }, { on := 2, ground := Ground.phase }, { on := 3, ground := Ground.phase }, { on := 4, ground := Ground.phase }, { on := 5, ground := Ground.phase }, { on := 6, ground := Ground.phase }, { on := 7, ground := Ground.phase }, { on := 8, ground := Ground.phase }, { on := 9, ground := Ground.phase }, { on := 10, ground := Ground.phase }, { on := 11, ground := Ground.phase }, { on := 12, ground := Ground.phase }, { on := 13, ground := Ground.phase }, { on := 14, ground := Ground.phase }, { on := 15, ground := Ground.phase }, { on := 16, ground := Ground.phase }, { on := 17, ground := Ground.phase }, { on := 18, ground := Ground.phase }, { on := 19, ground := Ground.phase }, { on := 20, ground := Ground.phase }, { on := 21, ground := Ground.phase }, { on := 22, ground := Ground.phase }, { on := 23, ground := Ground.phase }, { on := 24, ground := Ground.phase }], guard := none },
  { dst := none, op := Op.store 22 (Operand.tmp 31) (Operand.tmp 27), type := 0, pos := "reach.go:43", after := #[{ on := 26, ground := Ground.data }, { on := 21, ground := Ground.data }, { on := 24, ground := Ground.chain }, { on := 0, ground := Ground.phase }, { on := 1, ground := Ground.phase }, { on := 2, ground := Ground.phase }, { on := 3, ground := Ground.phase }, { on := 4, ground := Ground.phase }, { on := 5, ground := Ground.phase }, { on := 6, ground := Ground.phase }, { on := 7, ground := Ground.phase }, { on := 8, ground := Ground.phase }, { on := 9, ground := Ground.phase }, { on := 10, ground := Ground.phase }, { on := 11, ground := Ground.phase }, { on := 12, ground := Ground.phase }, { on := 13, ground := Ground.phase }, { on := 14, ground := Ground.phase }, { on := 15, ground := Ground.phase }, { on := 16, ground := Ground.phase }, { on := 17, ground := Ground.phase }, { on := 18, ground := Ground.phase }, { on := 19, ground := Ground.phase }, { on := 20, ground := Ground.phase }, { on := 21, ground := Ground.phase }, { on := 22, ground := Ground.phase }, { on := 23, ground := Ground.phase }, { on := 24, ground := Ground.phase }], guard := none }]
def specA (W : World) (bo gf gn gt n count k v : Nat) (f t : Int) (i : Nat) (x : Value) (w : World) : Prop :=
  match i with
  | 0 => x = .pointer (some ⟨bo, 0, none⟩)
  | 1 => x = .pointer (some ⟨bo, 0, none⟩)
  | 2 => x = .pointer (some ⟨bo, 0, none⟩)
  | 3 => x = .pointer (some ⟨bo, 0, none⟩)
  | 4 => x = .pointer (some ⟨bo, 1, none⟩)
  | 5 => x = .slice (some ⟨gn, 0, none⟩) k count
  | 6 => x = .pointer (some ⟨bo, 0, none⟩)
  | 7 => x = .pointer (some ⟨bo, 0, none⟩)
  | 8 => x = .pointer (some ⟨bo, 0, none⟩)
  | 9 => x = .slice (some ⟨gf, 0, none⟩) n n
  | 10 => x = .int .i64 v
  | 11 => x = .pointer (some ⟨gf, v, none⟩)
  | 12 => x = .int .i64 f
  | 13 => ∃ g, x = .slice (some ⟨g, 0, none⟩) 1 1 ∧ W.heap.size ≤ g ∧ w.heap[g]? = some (.cells #[.int .i64 f] 3 (0, 0))
  | 14 => x = .slice (some ⟨gn, 0, none⟩) (k + 1) count
  | 15 => x = .pointer (some ⟨bo, 0, none⟩)
  | 16 => x = .pointer (some ⟨bo, 0, none⟩)
  | 17 => x = .pointer (some ⟨bo, 2, none⟩)
  | 18 => x = .slice (some ⟨gt, 0, none⟩) k count
  | 19 => x = .int .i64 t
  | 20 => ∃ g, x = .slice (some ⟨g, 0, none⟩) 1 1 ∧ W.heap.size ≤ g ∧ w.heap[g]? = some (.cells #[.int .i64 t] 3 (0, 0))
  | 21 => x = .slice (some ⟨gt, 0, none⟩) (k + 1) count
  | 22 => x = .pointer (some ⟨bo, 0, none⟩)
  | 23 => x = .pointer (some ⟨bo, 1, none⟩)
  | _ => True
theorem specA_mono {W : World} {bo gf gn gt n count k v : Nat} {f t : Int} (i : Nat) (x : Value) (w w' : World) (hi : i < 25) (h : specA W bo gf gn gt n count k v f t i x w) (hc : Nw W.heap.size w w') : specA W bo gf gn gt n count k v f t i x w' := by
  match i, hi, h with
  | 0, _, h => exact h
  | 1, _, h => exact h
  | 2, _, h => exact h
  | 3, _, h => exact h
  | 4, _, h => exact h
  | 5, _, h => exact h
  | 6, _, h => exact h
  | 7, _, h => exact h
  | 8, _, h => exact h
  | 9, _, h => exact h
  | 10, _, h => exact h
  | 11, _, h => exact h
  | 12, _, h => exact h
  | 13, _, ⟨g, e, h1, h2⟩ => exact ⟨g, e, h1, (hc.2 g h1 (Array.getElem?_eq_some_iff.1 h2).1).trans h2⟩
  | 14, _, h => exact h
  | 15, _, h => exact h
  | 16, _, h => exact h
  | 17, _, h => exact h
  | 18, _, h => exact h
  | 19, _, h => exact h
  | 20, _, ⟨g, e, h1, h2⟩ => exact ⟨g, e, h1, (hc.2 g h1 (Array.getElem?_eq_some_iff.1 h2).1).trans h2⟩
  | 21, _, h => exact h
  | 22, _, h => exact h
  | 23, _, h => exact h
  | 24, _, _ => trivial
  | k + 25, hi, _ => exact absurd hi (by omega)
theorem regAd_tail : tailB .any regAd.toArray 25 = true := by kernel_rfl
theorem regAd_fwd : fwdB regAd.toArray 25 = true := by kernel_rfl
theorem regAd_slots : slotsB regAd.toArray 44 = true := by kernel_rfl
theorem regAd_seq : Region.seqB .any regAd.toArray (regAd.length - 25) 25 (Array.replicate 25 true ++ Array.replicate (regAd.length - 25) false) = true := by kernel_rfl
def actAd (bo v : Nat) (t : Int) (V : Nat → Value) : Act :=
  { tmps := #[.pointer (some ⟨bo, 0, none⟩), .int .i64 v, .int .i64 t, undef, undef, undef, V 0, V 1, V 2, V 3, V 4, V 5, V 6, V 7, V 8, V 9, V 10, V 11, V 12, V 13, V 14, V 15, V 16, V 17, V 18, V 19, V 20, V 21, V 22, V 23, undef, undef, undef, undef, undef, undef, undef, undef, undef, undef, undef, undef, undef, undef], defers := [] }

set_option maxRecDepth 100000 in
set_option maxHeartbeats 4000000 in
theorem regAd_any {id : Nat} (base bo gf gn gt n count k v : Nat) (F N T : List Int) (f t : Int) (hvl : v < F.length) (hFn : F.length = n) (hf0 : F[v]?.getD 0 = f) (hroom : k + 1 ≤ count) (W : World) (hlt : bo < W.heap.size ∧ gn < W.heap.size ∧ gt < W.heap.size) (hds : bo ≠ gn ∧ bo ≠ gt ∧ gf ≠ gn ∧ gf ≠ gt ∧ gn ≠ gt ∧ bo ≠ gf) (Q : Exit → Act → World → Prop)
    (h0 : InvA W base bo gf gn gt n count k F N T f t false false false W)
    (hend : ∀ (V : Nat → Value) (w' : World), InvA W base bo gf gn gt n count k F N T f t true true true w' → (∀ i, i < 25 → specA W bo gf gn gt n count k v f t i (V i) w') → wpList Try.prog regAd.toArray Q (regAd.drop 25) (actAd bo v t V) w') :
    (Code.region id regAd.toArray true).wp Try.prog Q (actAd bo v t fun _ => undef) W := by
  have i1 : (0 : Int) ≤ (v : Int) := by omega
  have i2 : (v : Int) < (n : Int) := by omega
  obtain ⟨i0, hi0, hz0, hz1, hz2⟩ := info_parts info_i64'
  refine wp_region_invL (l := regAd) 25 (actAd bo v t fun _ => undef) W (InvL W base bo gf gn gt n count k F N T f t) (Nw W.heap.size) (specA W bo gf gn gt n count k v f t) (by kernel_rfl) regAd_tail regAd_fwd regAd_slots regAd_seq (fun L hL => by
    unfold InvL
    rw [hL, hL, hL]
    exact ⟨h0.mv.drew, h0.box, h0.hf, h0.hn, h0.ht⟩) (fun i x w w' hi h hc => specA_mono i x w w' hi h hc) ?_ ?_
  · intro i o hi ho L a w1 V hinv hun hcl hdep hpar K hK
    have p0 : a.eval (.tmp 0) = .pointer (some ⟨bo, 0, none⟩) := hpar 0 (by show 0 < 44; decide) (by kernel_rfl)
    have p1 : a.eval (.tmp 1) = .int .i64 v := hpar 1 (by show 1 < 44; decide) (by kernel_rfl)
    have p2 : a.eval (.tmp 2) = .int .i64 t := hpar 2 (by show 2 < 44; decide) (by kernel_rfl)
    match i, hi, ho, hun, hdep, hK with
    | 0, _, ho, hun, hdep, hK =>
      simp only [regAd, List.getElem?_toArray, List.getElem?_cons_zero, Option.some.injEq] at ho
      subst ho
      exact ⟨rfl, wp_val (v := .pointer (some ⟨bo, 0, none⟩)) (w' := w1) (by rw [← p0]; rfl) (hK _ _ (fun L' hL => hinv.same hL (by decide) (by decide) (by decide)) (Nw.refl _ _) rfl)⟩
    | 1, _, ho, hun, hdep, hK =>
      simp only [regAd, List.getElem?_toArray, List.getElem?_cons_zero, List.getElem?_cons_succ, Option.some.injEq] at ho
      subst ho
      exact ⟨rfl, wp_val (v := .pointer (some ⟨bo, 0, none⟩)) (w' := w1) (by rw [← p0]; rfl) (hK _ _ (fun L' hL => hinv.same hL (by decide) (by decide) (by decide)) (Nw.refl _ _) rfl)⟩
    | 2, _, ho, hun, hdep, hK =>
      simp only [regAd, List.getElem?_toArray, List.getElem?_cons_zero, List.getElem?_cons_succ, Option.some.injEq] at ho
      subst ho
      exact ⟨rfl, wp_val (v := .pointer (some ⟨bo, 0, none⟩)) (w' := w1) (by rw [← p0]; rfl) (hK _ _ (fun L' hL => hinv.same hL (by decide) (by decide) (by decide)) (Nw.refl _ _) rfl)⟩
    | 3, _, ho, hun, hdep, hK =>
      simp only [regAd, List.getElem?_toArray, List.getElem?_cons_zero, List.getElem?_cons_succ, Option.some.injEq] at ho
      subst ho
      obtain ⟨l2, f2, d2⟩ := hdep ⟨2, .data⟩ (by simp) rfl
      have e2 : a.eval (.tmp 8) = .pointer (some ⟨bo, 0, none⟩) := (d2 8 rfl).trans f2
      have e2' : a.tmps[8]?.getD undef = .pointer (some ⟨bo, 0, none⟩) := by have h := e2; simp only [Act.eval, Array.getD_eq_getD_getElem?] at h; exact h
      exact ⟨rfl, wp_val (v := .pointer (some ⟨bo, 0, none⟩)) (w' := w1) (by simp [execOp, go_sem, e2']) (hK _ _ (fun L' hL => hinv.same hL (by decide) (by decide) (by decide)) (Nw.refl _ _) rfl)⟩
    | 4, _, ho, hun, hdep, hK =>
      simp only [regAd, List.getElem?_toArray, List.getElem?_cons_zero, List.getElem?_cons_succ, Option.some.injEq] at ho
      subst ho
      obtain ⟨l3, f3, d3⟩ := hdep ⟨3, .data⟩ (by simp) rfl
      have e3 : a.eval (.tmp 9) = .pointer (some ⟨bo, 0, none⟩) := (d3 9 rfl).trans f3
      have e3' : a.tmps[9]?.getD undef = .pointer (some ⟨bo, 0, none⟩) := by have h := e3; simp only [Act.eval, Array.getD_eq_getD_getElem?] at h; exact h
      exact ⟨rfl, wp_val (v := .pointer (some ⟨bo, 1, none⟩)) (w' := w1) (by simp [execOp, go_sem, e3']) (hK _ _ (fun L' hL => hinv.same hL (by decide) (by decide) (by decide)) (Nw.refl _ _) rfl)⟩
    | 5, _, ho, hun, hdep, hK =>
      simp only [regAd, List.getElem?_toArray, List.getElem?_cons_zero, List.getElem?_cons_succ, Option.some.injEq] at ho
      subst ho
      obtain ⟨l4, f4, d4⟩ := hdep ⟨4, .data⟩ (by simp) rfl
      have e4 : a.eval (.tmp 10) = .pointer (some ⟨bo, 1, none⟩) := (d4 10 rfl).trans f4
      have e4' : a.tmps[10]?.getD undef = .pointer (some ⟨bo, 1, none⟩) := by have h := e4; simp only [Act.eval, Array.getD_eq_getD_getElem?] at h; exact h
      have h24 : L.getD 24 false = false := by
        cases h : L.getD 24 false with
        | false => rfl
        | true =>
          have h14 := hcl 24 _ rfl h ⟨14, .data⟩ (by simp [regAd]) rfl
          have h5 := hcl 14 _ rfl h14 ⟨5, .data⟩ (by simp [regAd]) rfl
          rw [hun] at h5; cases h5
      have hbx := hinv.box
      simp only [h24] at hbx
      obtain ⟨c0, c1, c2, _, _, _⟩ := cells3 hbx
      exact ⟨rfl, wp_val (v := .slice (some ⟨gn, 0, none⟩) k count) (w' := w1) (by simp [execOp, go_sem, e4', c1]) (hK _ _ (fun L' hL => hinv.same hL (by decide) (by decide) (by decide)) (Nw.refl _ _) rfl)⟩
    | 6, _, ho, hun, hdep, hK =>
      simp only [regAd, List.getElem?_toArray, List.getElem?_cons_zero, List.getElem?_cons_succ, Option.some.injEq] at ho
      subst ho
      exact ⟨rfl, wp_val (v := .pointer (some ⟨bo, 0, none⟩)) (w' := w1) (by rw [← p0]; rfl) (hK _ _ (fun L' hL => hinv.same hL (by decide) (by decide) (by decide)) (Nw.refl _ _) rfl)⟩
    | 7, _, ho, hun, hdep, hK =>
      simp only [regAd, List.getElem?_toArray, List.getElem?_cons_zero, List.getElem?_cons_succ, Option.some.injEq] at ho
      subst ho
      obtain ⟨l6, f6, d6⟩ := hdep ⟨6, .data⟩ (by simp) rfl
      have e6 : a.eval (.tmp 12) = .pointer (some ⟨bo, 0, none⟩) := (d6 12 rfl).trans f6
      have e6' : a.tmps[12]?.getD undef = .pointer (some ⟨bo, 0, none⟩) := by have h := e6; simp only [Act.eval, Array.getD_eq_getD_getElem?] at h; exact h
      exact ⟨rfl, wp_val (v := .pointer (some ⟨bo, 0, none⟩)) (w' := w1) (by simp [execOp, go_sem, e6']) (hK _ _ (fun L' hL => hinv.same hL (by decide) (by decide) (by decide)) (Nw.refl _ _) rfl)⟩
    | 8, _, ho, hun, hdep, hK =>
      simp only [regAd, List.getElem?_toArray, List.getElem?_cons_zero, List.getElem?_cons_succ, Option.some.injEq] at ho
      subst ho
      obtain ⟨l7, f7, d7⟩ := hdep ⟨7, .data⟩ (by simp) rfl
      have e7 : a.eval (.tmp 13) = .pointer (some ⟨bo, 0, none⟩) := (d7 13 rfl).trans f7
      have e7' : a.tmps[13]?.getD undef = .pointer (some ⟨bo, 0, none⟩) := by have h := e7; simp only [Act.eval, Array.getD_eq_getD_getElem?] at h; exact h
      exact ⟨rfl, wp_val (v := .pointer (some ⟨bo, 0, none⟩)) (w' := w1) (by simp [execOp, go_sem, e7']) (hK _ _ (fun L' hL => hinv.same hL (by decide) (by decide) (by decide)) (Nw.refl _ _) rfl)⟩
    | 9, _, ho, hun, hdep, hK =>
      simp only [regAd, List.getElem?_toArray, List.getElem?_cons_zero, List.getElem?_cons_succ, Option.some.injEq] at ho
      subst ho
      obtain ⟨l8, f8, d8⟩ := hdep ⟨8, .data⟩ (by simp) rfl
      have e8 : a.eval (.tmp 14) = .pointer (some ⟨bo, 0, none⟩) := (d8 14 rfl).trans f8
      have e8' : a.tmps[14]?.getD undef = .pointer (some ⟨bo, 0, none⟩) := by have h := e8; simp only [Act.eval, Array.getD_eq_getD_getElem?] at h; exact h
      obtain ⟨c0, c1, c2, _, _, _⟩ := cells3 hinv.box
      exact ⟨rfl, wp_val (v := .slice (some ⟨gf, 0, none⟩) n n) (w' := w1) (by simp [execOp, go_sem, e8', c0]) (hK _ _ (fun L' hL => hinv.same hL (by decide) (by decide) (by decide)) (Nw.refl _ _) rfl)⟩
    | 10, _, ho, hun, hdep, hK =>
      simp only [regAd, List.getElem?_toArray, List.getElem?_cons_zero, List.getElem?_cons_succ, Option.some.injEq] at ho
      subst ho
      exact ⟨rfl, wp_val (v := .int .i64 v) (w' := w1) (by rw [← p1]; rfl) (hK _ _ (fun L' hL => hinv.same hL (by decide) (by decide) (by decide)) (Nw.refl _ _) rfl)⟩
    | 11, _, ho, hun, hdep, hK =>
      simp only [regAd, List.getElem?_toArray, List.getElem?_cons_zero, List.getElem?_cons_succ, Option.some.injEq] at ho
      subst ho
      obtain ⟨l9, f9, d9⟩ := hdep ⟨9, .data⟩ (by simp) rfl
      have e9 : a.eval (.tmp 15) = .slice (some ⟨gf, 0, none⟩) n n := (d9 15 rfl).trans f9
      have e9' : a.tmps[15]?.getD undef = .slice (some ⟨gf, 0, none⟩) n n := by have h := e9; simp only [Act.eval, Array.getD_eq_getD_getElem?] at h; exact h
      obtain ⟨l10, f10, d10⟩ := hdep ⟨10, .data⟩ (by simp) rfl
      have e10 : a.eval (.tmp 16) = .int .i64 v := (d10 16 rfl).trans f10
      have e10' : a.tmps[16]?.getD undef = .int .i64 v := by have h := e10; simp only [Act.eval, Array.getD_eq_getD_getElem?] at h; exact h
      exact ⟨rfl, wp_val (v := .pointer (some ⟨gf, v, none⟩)) (w' := w1) (by simp [execOp, go_sem, e9', e10', i1, i2]) (hK _ _ (fun L' hL => hinv.same hL (by decide) (by decide) (by decide)) (Nw.refl _ _) rfl)⟩
    | 12, _, ho, hun, hdep, hK =>
      simp only [regAd, List.getElem?_toArray, List.getElem?_cons_zero, List.getElem?_cons_succ, Option.some.injEq] at ho
      subst ho
      obtain ⟨l11, f11, d11⟩ := hdep ⟨11, .data⟩ (by simp) rfl
      have e11 : a.eval (.tmp 17) = .pointer (some ⟨gf, v, none⟩) := (d11 17 rfl).trans f11
      have e11' : a.tmps[17]?.getD undef = .pointer (some ⟨gf, v, none⟩) := by have h := e11; simp only [Act.eval, Array.getD_eq_getD_getElem?] at h; exact h
      have cf := hinv.hf.cell (j := v) hvl
      rw [hf0] at cf
      exact ⟨rfl, wp_val (v := .int .i64 f) (w' := w1) (by simp [execOp, go_sem, e11', cf]) (hK _ _ (fun L' hL => hinv.same hL (by decide) (by decide) (by decide)) (Nw.refl _ _) rfl)⟩
    | 13, _, ho, hun, hdep, hK =>
      simp only [regAd, List.getElem?_toArray, List.getElem?_cons_zero, List.getElem?_cons_succ, Option.some.injEq] at ho
      subst ho
      obtain ⟨l12, f12, d12⟩ := hdep ⟨12, .data⟩ (by simp) rfl
      have e12 : a.eval (.tmp 18) = .int .i64 f := (d12 18 rfl).trans f12
      have e12' : a.tmps[18]?.getD undef = .int .i64 f := by have h := e12; simp only [Act.eval, Array.getD_eq_getD_getElem?] at h; exact h
      exact ⟨rfl, wp_val (v := .slice (some ⟨w1.heap.size, 0, none⟩) 1 1) (w' := w1.alloc (.cells #[.int .i64 f] 3)) (by simp [execOp, go_sem, Act.eval, e12']) (hK _ _ (fun L' hL => (hinv.same hL (by decide) (by decide) (by decide)).alloc _) (Nw.alloc _ _ _) ⟨_, rfl, hinv.mv.size, blk1 w1 _⟩)⟩
    | 14, _, ho, hun, hdep, hK =>
      simp only [regAd, List.getElem?_toArray, List.getElem?_cons_zero, List.getElem?_cons_succ, Option.some.injEq] at ho
      subst ho
      obtain ⟨l5, f5, d5⟩ := hdep ⟨5, .data⟩ (by simp) rfl
      have e5 : a.eval (.tmp 11) = .slice (some ⟨gn, 0, none⟩) k count := (d5 11 rfl).trans f5
      have e5' : a.tmps[11]?.getD undef = .slice (some ⟨gn, 0, none⟩) k count := by have h := e5; simp only [Act.eval, Array.getD_eq_getD_getElem?] at h; exact h
      obtain ⟨l13, ⟨g13, f13, b13, h13⟩, d13⟩ := hdep ⟨13, .data⟩ (by simp) rfl
      have e13 : a.eval (.tmp 19) = .slice (some ⟨g13, 0, none⟩) 1 1 := (d13 19 rfl).trans f13
      have e13' : a.tmps[19]?.getD undef = .slice (some ⟨g13, 0, none⟩) 1 1 := by have h := e13; simp only [Act.eval, Array.getD_eq_getD_getElem?] at h; exact h
      have ho := hinv.hn
      simp only [hun, Bool.false_eq_true, if_false] at ho
      refine ⟨rfl, wp_append_own_spare w1 (.tmp 11) (.tmp 19) 22 rfl base 3 i0 1 Try.underlying22 hi0 hz1 gn k count _ e5 ho ⟨g13, 0, none⟩ 1 1 [.int .i64 f] e13 rfl (by intro j u hu; rw [Addr.add_lit, Nat.zero_add]; exact one_of_blk h13 j u hu) (by simp [Value.oneCell']) hroom ?_⟩
      intro w2 hown hgr
      exact hK _ _ (fun L' hL => hinv.app1 hL hown hgr hds) (Nw.grown hgr (by have := hlt; omega)) rfl
    | 15, _, ho, hun, hdep, hK =>
      simp only [regAd, List.getElem?_toArray, List.getElem?_cons_zero, List.getElem?_cons_succ, Option.some.injEq] at ho
      subst ho
      exact ⟨rfl, wp_val (v := .pointer (some ⟨bo, 0, none⟩)) (w' := w1) (by rw [← p0]; rfl) (hK _ _ (fun L' hL => hinv.same hL (by decide) (by decide) (by decide)) (Nw.refl _ _) rfl)⟩
    | 16, _, ho, hun, hdep, hK =>
      simp only [regAd, List.getElem?_toArray, List.getElem?_cons_zero, List.getElem?_cons_succ, Option.some.injEq] at ho
      subst ho
      obtain ⟨l15, f15, d15⟩ := hdep ⟨15, .data⟩ (by simp) rfl
      have e15 : a.eval (.tmp 21) = .pointer (some ⟨bo, 0, none⟩) := (d15 21 rfl).trans f15
      have e15' : a.tmps[21]?.getD undef = .pointer (some ⟨bo, 0, none⟩) := by have h := e15; simp only [Act.eval, Array.getD_eq_getD_getElem?] at h; exact h
      exact ⟨rfl, wp_val (v := .pointer (some ⟨bo, 0, none⟩)) (w' := w1) (by simp [execOp, go_sem, e15']) (hK _ _ (fun L' hL => hinv.same hL (by decide) (by decide) (by decide)) (Nw.refl _ _) rfl)⟩
    | 17, _, ho, hun, hdep, hK =>
      simp only [regAd, List.getElem?_toArray, List.getElem?_cons_zero, List.getElem?_cons_succ, Option.some.injEq] at ho
      subst ho
      obtain ⟨l16, f16, d16⟩ := hdep ⟨16, .data⟩ (by simp) rfl
      have e16 : a.eval (.tmp 22) = .pointer (some ⟨bo, 0, none⟩) := (d16 22 rfl).trans f16
      have e16' : a.tmps[22]?.getD undef = .pointer (some ⟨bo, 0, none⟩) := by have h := e16; simp only [Act.eval, Array.getD_eq_getD_getElem?] at h; exact h
      exact ⟨rfl, wp_val (v := .pointer (some ⟨bo, 2, none⟩)) (w' := w1) (by simp [execOp, go_sem, e16']) (hK _ _ (fun L' hL => hinv.same hL (by decide) (by decide) (by decide)) (Nw.refl _ _) rfl)⟩
    | 18, _, ho, hun, hdep, hK =>
      simp only [regAd, List.getElem?_toArray, List.getElem?_cons_zero, List.getElem?_cons_succ, Option.some.injEq] at ho
      subst ho
      obtain ⟨l17, f17, d17⟩ := hdep ⟨17, .data⟩ (by simp) rfl
      have e17 : a.eval (.tmp 23) = .pointer (some ⟨bo, 2, none⟩) := (d17 23 rfl).trans f17
      have e17' : a.tmps[23]?.getD undef = .pointer (some ⟨bo, 2, none⟩) := by have h := e17; simp only [Act.eval, Array.getD_eq_getD_getElem?] at h; exact h
      obtain ⟨c0, c1, c2, _, _, _⟩ := cells3 hinv.box
      exact ⟨rfl, wp_val (v := .slice (some ⟨gt, 0, none⟩) k count) (w' := w1) (by simp [execOp, go_sem, e17', c2]) (hK _ _ (fun L' hL => hinv.same hL (by decide) (by decide) (by decide)) (Nw.refl _ _) rfl)⟩
    | 19, _, ho, hun, hdep, hK =>
      simp only [regAd, List.getElem?_toArray, List.getElem?_cons_zero, List.getElem?_cons_succ, Option.some.injEq] at ho
      subst ho
      exact ⟨rfl, wp_val (v := .int .i64 t) (w' := w1) (by rw [← p2]; rfl) (hK _ _ (fun L' hL => hinv.same hL (by decide) (by decide) (by decide)) (Nw.refl _ _) rfl)⟩
    | 20, _, ho, hun, hdep, hK =>
      simp only [regAd, List.getElem?_toArray, List.getElem?_cons_zero, List.getElem?_cons_succ, Option.some.injEq] at ho
      subst ho
      obtain ⟨l19, f19, d19⟩ := hdep ⟨19, .data⟩ (by simp) rfl
      have e19 : a.eval (.tmp 25) = .int .i64 t := (d19 25 rfl).trans f19
      have e19' : a.tmps[25]?.getD undef = .int .i64 t := by have h := e19; simp only [Act.eval, Array.getD_eq_getD_getElem?] at h; exact h
      exact ⟨rfl, wp_val (v := .slice (some ⟨w1.heap.size, 0, none⟩) 1 1) (w' := w1.alloc (.cells #[.int .i64 t] 3)) (by simp [execOp, go_sem, Act.eval, e19']) (hK _ _ (fun L' hL => (hinv.same hL (by decide) (by decide) (by decide)).alloc _) (Nw.alloc _ _ _) ⟨_, rfl, hinv.mv.size, blk1 w1 _⟩)⟩
    | 21, _, ho, hun, hdep, hK =>
      simp only [regAd, List.getElem?_toArray, List.getElem?_cons_zero, List.getElem?_cons_succ, Option.some.injEq] at ho
      subst ho
      obtain ⟨l18, f18, d18⟩ := hdep ⟨18, .data⟩ (by simp) rfl
      have e18 : a.eval (.tmp 24) = .slice (some ⟨gt, 0, none⟩) k count := (d18 24 rfl).trans f18
      have e18' : a.tmps[24]?.getD undef = .slice (some ⟨gt, 0, none⟩) k count := by have h := e18; simp only [Act.eval, Array.getD_eq_getD_getElem?] at h; exact h
      obtain ⟨l20, ⟨g20, f20, b20, h20⟩, d20⟩ := hdep ⟨20, .data⟩ (by simp) rfl
      have e20 : a.eval (.tmp 26) = .slice (some ⟨g20, 0, none⟩) 1 1 := (d20 26 rfl).trans f20
      have e20' : a.tmps[26]?.getD undef = .slice (some ⟨g20, 0, none⟩) 1 1 := by have h := e20; simp only [Act.eval, Array.getD_eq_getD_getElem?] at h; exact h
      have ho := hinv.ht
      simp only [hun, Bool.false_eq_true, if_false] at ho
      refine ⟨rfl, wp_append_own_spare w1 (.tmp 24) (.tmp 26) 22 rfl base 3 i0 1 Try.underlying22 hi0 hz1 gt k count _ e18 ho ⟨g20, 0, none⟩ 1 1 [.int .i64 t] e20 rfl (by intro j u hu; rw [Addr.add_lit, Nat.zero_add]; exact one_of_blk h20 j u hu) (by simp [Value.oneCell']) hroom ?_⟩
      intro w2 hown hgr
      exact hK _ _ (fun L' hL => hinv.app2 hL hown hgr hds) (Nw.grown hgr (by have := hlt; omega)) rfl
    | 22, _, ho, hun, hdep, hK =>
      simp only [regAd, List.getElem?_toArray, List.getElem?_cons_zero, List.getElem?_cons_succ, Option.some.injEq] at ho
      subst ho
      obtain ⟨l0, f0, d0⟩ := hdep ⟨0, .data⟩ (by simp) rfl
      have e0 : a.eval (.tmp 6) = .pointer (some ⟨bo, 0, none⟩) := (d0 6 rfl).trans f0
      have e0' : a.tmps[6]?.getD undef = .pointer (some ⟨bo, 0, none⟩) := by have h := e0; simp only [Act.eval, Array.getD_eq_getD_getElem?] at h; exact h
      exact ⟨rfl, wp_val (v := .pointer (some ⟨bo, 0, none⟩)) (w' := w1) (by simp [execOp, go_sem, e0']) (hK _ _ (fun L' hL => hinv.same hL (by decide) (by decide) (by decide)) (Nw.refl _ _) rfl)⟩
    | 23, _, ho, hun, hdep, hK =>
      simp only [regAd, List.getElem?_toArray, List.getElem?_cons_zero, List.getElem?_cons_succ, Option.some.injEq] at ho
      subst ho
      obtain ⟨l22, f22, d22⟩ := hdep ⟨22, .data⟩ (by simp) rfl
      have e22 : a.eval (.tmp 28) = .pointer (some ⟨bo, 0, none⟩) := (d22 28 rfl).trans f22
      have e22' : a.tmps[28]?.getD undef = .pointer (some ⟨bo, 0, none⟩) := by have h := e22; simp only [Act.eval, Array.getD_eq_getD_getElem?] at h; exact h
      exact ⟨rfl, wp_val (v := .pointer (some ⟨bo, 1, none⟩)) (w' := w1) (by simp [execOp, go_sem, e22']) (hK _ _ (fun L' hL => hinv.same hL (by decide) (by decide) (by decide)) (Nw.refl _ _) rfl)⟩
    | 24, _, ho, hun, hdep, hK =>
      simp only [regAd, List.getElem?_toArray, List.getElem?_cons_zero, List.getElem?_cons_succ, Option.some.injEq] at ho
      subst ho
      obtain ⟨l23, f23, d23⟩ := hdep ⟨23, .data⟩ (by simp) rfl
      have e23 : a.eval (.tmp 29) = .pointer (some ⟨bo, 1, none⟩) := (d23 29 rfl).trans f23
      have e23' : a.tmps[29]?.getD undef = .pointer (some ⟨bo, 1, none⟩) := by have h := e23; simp only [Act.eval, Array.getD_eq_getD_getElem?] at h; exact h
      obtain ⟨l14, f14, d14⟩ := hdep ⟨14, .data⟩ (by simp) rfl
      have e14 : a.eval (.tmp 20) = .slice (some ⟨gn, 0, none⟩) (k + 1) count := (d14 20 rfl).trans f14
      have e14' : a.tmps[20]?.getD undef = .slice (some ⟨gn, 0, none⟩) (k + 1) count := by have h := e14; simp only [Act.eval, Array.getD_eq_getD_getElem?] at h; exact h
      obtain ⟨c0, c1, c2, q0, q1, q2⟩ := cells3 hinv.box
      exact ⟨rfl, wp_skip (w' := w1.setCell ⟨bo, 1, none⟩ (.slice (some ⟨gn, 0, none⟩) (k + 1) count)) (by simp [execOp, go_sem, e23', e14', c1, q1]) (hK _ _ (fun L' hL => hinv.box1 hL hds) (Nw.set_ _ _ (by have := hlt; simp; omega)) trivial)⟩
    | j + 25, hi, _, _, _, _ => exact absurd hi (by omega)
  · intro L V w' hinv hall hF
    have e : finA regAd.toArray 25 V (actAd bo v t fun _ => undef) = actAd bo v t V := by kernel_rfl
    rw [e]
    unfold InvL at hinv
    rw [hall 14 (by omega), hall 21 (by omega), hall 24 (by omega)] at hinv
    exact hend V w' hinv hF
set_option maxRecDepth 100000 in
set_option maxHeartbeats 2000000 in
theorem arrAdd_any (base bo gf gn gt n count k v : Nat) (F N T : List Int) (t : Int) (hvn : v < n) (hFn : F.length = n) (hroom : k + 1 ≤ count) (hcm : count ≤ 1048576) (hTk : T.length = k) (W : World) (hds : bo ≠ gn ∧ bo ≠ gt ∧ gf ≠ gn ∧ gf ≠ gt ∧ gn ≠ gt ∧ bo ≠ gf)
    (hb : W.heap[bo]? = some (.cells (cellsK n k count gf gn gt) 97 (0, 0))) (hf : Arr .i64 W gf 3 F) (hn : W.ownsRow base 3 1 (.slice (some ⟨gn, 0, none⟩) k count) k (N.map (Value.int .i64))) (ht : W.ownsRow base 3 1 (.slice (some ⟨gt, 0, none⟩) k count) k (T.map (Value.int .i64))) :
    Calls Try.prog 54 #[.pointer (some ⟨bo, 0, none⟩), .int .i64 v, .int .i64 t] W fun e w' => (∃ x, e = .returned x) ∧ w'.heap[bo]? = some (.cells (cellsK n (k + 1) count gf gn gt) 97 (0, 0)) ∧ Arr .i64 w' gf 3 (F.set v (k : Int)) ∧
      w'.ownsRow base 3 1 (.slice (some ⟨gn, 0, none⟩) (k + 1) count) (k + 1) ((N ++ [F[v]?.getD 0]).map (Value.int .i64)) ∧ w'.ownsRow base 3 1 (.slice (some ⟨gt, 0, none⟩) (k + 1) count) (k + 1) ((T ++ [t]).map (Value.int .i64)) ∧ Mv (fun j => j = bo ∨ j = gf ∨ j = gn ∨ j = gt) W w' := by
  have hln := own_lt_bk hn ⟨0, rfl⟩
  have hlt' := own_lt_bk ht ⟨0, rfl⟩
  have HDS := Lib.hid hds
  have HB := Lib.hid hb
  have HF := Lib.hid hf
  have HN := Lib.hid hn
  have HT := Lib.hid ht
  have HFN := Lib.hid hFn
  have hbo : bo < W.heap.size := (Array.getElem?_eq_some_iff.1 hb).1
  clear hds hb hf hn ht hFn
  go_enter Try.func54, Try.ntmps54
  go_wp2_with fail
  refine regAd_any base bo gf gn gt n count k v F N T (F[v]?.getD 0) t (by rw [HFN.out]; exact hvn) HFN.out rfl hroom W ⟨hbo, hln.2, hlt'.2⟩ HDS.out _ ⟨Mv.refl _ _, HB.out, HF.out, HN.out, HT.out⟩ ?_
  intro V w1 hinv hF
  have v1 : V 1 = .pointer (some ⟨bo, 0, none⟩) := hF 1 (by omega)
  have v21 : V 21 = .slice (some ⟨gt, 0, none⟩) (k + 1) count := hF 21 (by omega)
  simp only [regAd, List.drop_succ_cons, List.drop_zero, actAd, v1, v21]
  have hbx := hinv.box
  simp only [if_true] at hbx
  obtain ⟨c0, c1, c2, f0, f1, f2⟩ := cells3 hbx
  have HI := Lib.hid hinv
  have HBX := Lib.hid hbx
  clear hF v1 v21 hinv hbx
  go_wp2_with fail
  obtain ⟨w2, hw2⟩ : ∃ w2, w2 = w1.setCell ⟨bo, 2, none⟩ (.slice (some ⟨gt, 0, none⟩) (k + 1) count) := ⟨_, rfl⟩
  rw [← hw2]
  have hbx2 : w2.heap[bo]? = some (.cells (cellsK n (k + 1) count gf gn gt) 97 (0, 0)) := by rw [hw2, heap_setCell_same w1 bo 2 _ _ _ HBX.out]; rfl
  have ho2 : ∀ j, j ≠ bo → w2.heap[j]? = w1.heap[j]? := fun j hj => by rw [hw2]; exact heap_setCell_other w1 _ j _ (fun e => hj e)
  have hf2 : Arr .i64 w2 gf 3 F := by
    have := HI.out.hf
    unfold Arr at this ⊢
    rw [ho2 gf (fun e => HDS.out.2.2.2.2.2 e.symm)]
    exact this
  obtain ⟨c0, c1, c2, f0, f1, f2⟩ := cells3 (show w2.heap[bo]? = some (.cells #[.slice (some ⟨gf, 0, none⟩) n n, .slice (some ⟨gn, 0, none⟩) (k + 1) count, .slice (some ⟨gt, 0, none⟩) (k + 1) count] 97 (0, 0)) from hbx2)
  have d0 := hf2.cell (j := v) (by rw [HFN.out]; exact hvn)
  have d1 := hf2.frozen v
  have i1 : (0 : Int) ≤ (v : Int) := by omega
  have i2 : (v : Int) < (n : Int) := by omega
  have HM2 : Hid (Mv (fun j => j = bo ∨ j = gf ∨ j = gn ∨ j = gt) W w2) := Lib.hid (by rw [hw2]; exact (HI.out.mv.more (fun j _ hj => hj.imp id .inr)).set_ (.inl (.inl rfl)) _)
  have HX2 := Lib.hid hbx2
  have HF2 := Lib.hid hf2
  have HO2 := Lib.hid ho2
  clear hw2 hbx2 hf2 ho2
  go_wp2_with fail
  go_region
  all_goals
    go_end0
    have hk : ∀ j, j ≠ gf → (w2.setCell ⟨gf, v, none⟩ (.int .i64 (k : Int))).heap[j]? = w2.heap[j]? := fun j hj => heap_setCell_other w2 _ j _ (fun e => hj e)
    obtain ⟨q1, q2, q3, q4, q5, q6⟩ := HDS.out
    have hn := HI.out.hn
    have ht := HI.out.ht
    simp only [if_true] at hn ht
    exact ⟨⟨_, rfl⟩, (hk bo q6).trans HX2.out, HF2.out.set_ v (k : Int), by rw [List.map_append]; exact own_blk (own_blk hn (fun x hx => HO2.out x (by cases hx; exact fun e => q1 e.symm))) (fun x hx => hk x (by cases hx; exact fun e => q3 e.symm)), by rw [List.map_append]; exact own_blk (own_blk ht (fun x hx => HO2.out x (by cases hx; exact fun e => q2 e.symm))) (fun x hx => hk x (by cases hx; exact fun e => q4 e.symm)), (HM2.out.set_ (.inl (.inr (.inl rfl))) _).drew⟩
end Go.Proofs.Ytlbachjhhjjmfaa.Mu

