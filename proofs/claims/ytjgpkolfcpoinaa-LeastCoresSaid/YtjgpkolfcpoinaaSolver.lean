/-
  The solver of layer 4, as it lies in memory; newSolver's first region.
-/
import Derived.Test.YtjgpkolfcpoinaaBack
import Derived.Test.YtjgpkolfcpoinaaRepeat
import Derived.Test.YtjgpkolfcpoinaaInv
import Derived.Laws.Entries
namespace Go.Proofs.Ytjgpkolfcpoinaa.Mu
open Go.ChangeShapes Go.WideShapes Go.ChangeAt Go.RowKit

theorem wp_val {P : Program} {o : Oper} {a : Act} {w w' : World} {K : Act → World → Prop} {Q : Exit → Act → World → Prop} {v : Value} (h : (execOp a.eval o).run P w = .ok (.value v) w') (hk : K (a.put o.dst v) w') : Oper.wp P o a w K Q := by
  unfold Oper.wp; rw [h]; exact hk

/-- The arrays of a new solver, each in a block of its own. -/
structure NewA (w : World) (own : Nat → Nat) (base A0 n len gf gn ga gb gc : Nat) : Prop where
  hf : Arr .i64 w gf 3 (List.replicate n (-1))
  hn : Arr .i64 w gn 3 (List.replicate len 0)
  ha : Arr .u8 w ga 27 (List.replicate n 1)
  hb : Arr .i64 w gb 3 (List.replicate n 0)
  hc : w.heap[gc]? = some (.chan n #[] false 0 0 false)
  of : own gf = 3 ∧ own gn = 6 ∧ own ga = 9 ∧ own gb = 11 ∧ own gc = 13
  lo : base ≤ gf ∧ base ≤ gn ∧ base ≤ ga ∧ base ≤ gb ∧ base ≤ gc
def cellsS (A : Option Addr) (len cap n gf gn ga gb gc : Nat) : Array Value := #[.slice A len cap, .slice (some ⟨gf, 0, none⟩) n n, .slice (some ⟨gn, 0, none⟩) len len, .slice (some ⟨ga, 0, none⟩) n n, .slice (some ⟨gb, 0, none⟩) n n, .chan (some gc)]

def specN (base n len cap : Nat) (A : Option Addr) (i : Nat) (v : Value) (w : World) (own : Nat → Nat) : Prop :=
  match i with
  | 0 => v = .slice A len cap
  | 1 => ∃ g, v = .slice (some ⟨g, 0, none⟩) 1 1 ∧ Arr .i64 w g 3 [-1]
  | 2 => v = .int .i64 n
  | 3 => ∃ g, v = .slice (some ⟨g, 0, none⟩) n n ∧ Arr .i64 w g 3 (List.replicate n (-1)) ∧ base ≤ g ∧ own g = 3
  | 4 => v = .slice A len cap
  | 5 => v = .int .i64 len
  | 6 => ∃ g, v = .slice (some ⟨g, 0, none⟩) len len ∧ Arr .i64 w g 3 (List.replicate len 0) ∧ base ≤ g ∧ own g = 6
  | 7 => ∃ g, v = .slice (some ⟨g, 0, none⟩) 1 1 ∧ Arr .u8 w g 27 [1]
  | 8 => v = .int .i64 n
  | 9 => ∃ g, v = .slice (some ⟨g, 0, none⟩) n n ∧ Arr .u8 w g 27 (List.replicate n 1) ∧ base ≤ g ∧ own g = 9
  | 10 => v = .int .i64 n
  | 11 => ∃ g, v = .slice (some ⟨g, 0, none⟩) n n ∧ Arr .i64 w g 3 (List.replicate n 0) ∧ base ≤ g ∧ own g = 11
  | 12 => v = .int .i64 n
  | 13 => ∃ g, v = .chan (some g) ∧ w.heap[g]? = some (.chan n #[] false 0 0 false) ∧ base ≤ g ∧ own g = 13
  | 14 => ∃ gf gn ga gb gc, v = .agg (cellsS A len cap n gf gn ga gb gc) ∧ NewA w own base 0 n len gf gn ga gb gc
  | 15 => ∃ gs gf gn ga gb gc, v = .pointer (some ⟨gs, 0, none⟩) ∧ w.heap[gs]? = some (.cells (cellsS A len cap n gf gn ga gb gc) 75 (0, 0)) ∧ NewA w own base 0 n len gf gn ga gb gc ∧ base ≤ gs ∧ own gs = 15
  | 16 => ∃ g, v = .pointer (some ⟨g, 0, none⟩) ∧ w.heap[g]? = some (.cells #[.pointer none] 69 (0, 0)) ∧ base ≤ g ∧ own g = 16
  | _ => True

theorem blk_lt {w : World} {g : Nat} {o : Obj} (h : w.heap[g]? = some o) : g < w.heap.size := (Array.getElem?_eq_some_iff.1 h).1
theorem NewA.mono {w w' : World} {own own' : Nat → Nat} {base A0 n len gf gn ga gb gc : Nat} (h : NewA w own base A0 n len gf gn ga gb gc) (hb : Bel w w') (ho : ∀ x, x < w.heap.size → own' x = own x) : NewA w' own' base A0 n len gf gn ga gb gc :=
  ⟨h.hf.bel hb, h.hn.bel hb, h.ha.bel hb, h.hb.bel hb, hb.blk h.hc, ⟨(ho _ h.hf.lt).trans h.of.1, (ho _ h.hn.lt).trans h.of.2.1, (ho _ h.ha.lt).trans h.of.2.2.1, (ho _ h.hb.lt).trans h.of.2.2.2.1, (ho _ (blk_lt h.hc)).trans h.of.2.2.2.2⟩, h.lo⟩
theorem specN_mono {base n len cap : Nat} {A : Option Addr} (i : Nat) (v : Value) (w w' : World) (own own' : Nat → Nat) (hi : i < 17) (h : specN base n len cap A i v w own) (hb : Bel w w') (ho : ∀ x, x < w.heap.size → own' x = own x) : specN base n len cap A i v w' own' := by
  match i, hi, h with
  | 0, _, h => exact h
  | 1, _, ⟨g, e, h⟩ => exact ⟨g, e, h.bel hb⟩
  | 2, _, h => exact h
  | 3, _, ⟨g, e, h, l, o⟩ => exact ⟨g, e, h.bel hb, l, (ho _ h.lt).trans o⟩
  | 4, _, h => exact h
  | 5, _, h => exact h
  | 6, _, ⟨g, e, h, l, o⟩ => exact ⟨g, e, h.bel hb, l, (ho _ h.lt).trans o⟩
  | 7, _, ⟨g, e, h⟩ => exact ⟨g, e, h.bel hb⟩
  | 8, _, h => exact h
  | 9, _, ⟨g, e, h, l, o⟩ => exact ⟨g, e, h.bel hb, l, (ho _ h.lt).trans o⟩
  | 10, _, h => exact h
  | 11, _, ⟨g, e, h, l, o⟩ => exact ⟨g, e, h.bel hb, l, (ho _ h.lt).trans o⟩
  | 12, _, h => exact h
  | 13, _, ⟨g, e, h, l, o⟩ => exact ⟨g, e, hb.blk h, l, (ho _ (blk_lt h)).trans o⟩
  | 14, _, ⟨a, b, c, d, f, e, h⟩ => exact ⟨a, b, c, d, f, e, h.mono hb ho⟩
  | 15, _, ⟨s, a, b, c, d, f, e, h1, h, l, o⟩ => exact ⟨s, a, b, c, d, f, e, hb.blk h1, h.mono hb ho, l, (ho _ (blk_lt h1)).trans o⟩
  | 16, _, ⟨g, e, h, l, o⟩ => exact ⟨g, e, hb.blk h, l, (ho _ (blk_lt h)).trans o⟩
  | k + 17, hi, _ => exact absurd hi (by omega)

def regN : List Oper := [
  { dst := some 10, op := Op.move (Operand.tmp 2), type := 35, pos := "least.go:66", after := #[], guard := none },
  { dst := some 11, op := Op.buildSlice 23 1 #[(0, Operand.const (Value.int IntKind.i64 (-1)))], type := 23, pos := "least.go:66", after := #[], guard := none },
  { dst := some 12, op := Op.move (Operand.tmp 0), type := 3, pos := "least.go:66", after := #[], guard := none },
  { dst := some 13, op := Op.call { callee := Callee.value (Operand.func 62), args := #[Operand.tmp 11, Operand.tmp 12], argTypes := #[23, 3] }, type := 23, pos := "least.go:68", after := #[{ on := 1, ground := Ground.data }, { on := 2, ground := Ground.data }], guard := none },
  { dst := some 14, op := Op.move (Operand.tmp 2), type := 35, pos := "least.go:66", after := #[], guard := none },
  { dst := some 15, op := Op.call { callee := Callee.builtin Builtin.len, args := #[Operand.tmp 14], argTypes := #[35] }, type := 3, pos := "least.go:66", after := #[{ on := 4, ground := Ground.data }], guard := none },
  { dst := some 16, op := Op.makeSlice 23 (Operand.tmp 15) (Operand.tmp 15), type := 23, pos := "least.go:66", after := #[{ on := 5, ground := Ground.data }, { on := 5, ground := Ground.data }], guard := none },
  { dst := some 17, op := Op.buildSlice 22 1 #[(0, Operand.const (Value.int IntKind.u8 1))], type := 22, pos := "least.go:66", after := #[], guard := none },
  { dst := some 18, op := Op.move (Operand.tmp 0), type := 3, pos := "least.go:66", after := #[], guard := none },
  { dst := some 19, op := Op.call { callee := Callee.value (Operand.func 37), args := #[Operand.tmp 17, Operand.tmp 18], argTypes := #[22, 3] }, type := 22, pos := "least.go:70", after := #[{ on := 7, ground := Ground.data }, { on := 8, ground := Ground.data }, { on := 3, ground := Ground.chain }], guard := none },
  { dst := some 20, op := Op.move (Operand.tmp 0), type := 3, pos := "least.go:66", after := #[], guard := none },
  { dst := some 21, op := Op.makeSlice 23 (Operand.tmp 20) (Operand.tmp 20), type := 23, pos := "least.go:66", after := #[{ on := 10, ground := Ground.data }, { on := 10, ground := Ground.data }], guard := none },
  { dst := some 22, op := Op.move (Operand.tmp 0), type := 3, pos := "least.go:66", after := #[], guard := none },
  { dst := some 23, op := Op.makeChan 73 (Operand.tmp 22), type := 73, pos := "least.go:66", after := #[{ on := 12, ground := Ground.data }], guard := none },
  { dst := some 24, op := Op.build 75 #[(0, Operand.tmp 10), (1, Operand.tmp 13), (2, Operand.tmp 16), (3, Operand.tmp 19), (4, Operand.tmp 21), (5, Operand.tmp 23)], type := 75, pos := "least.go:66", after := #[{ on := 0, ground := Ground.data }, { on := 3, ground := Ground.data }, { on := 6, ground := Ground.data }, { on := 9, ground := Ground.data }, { on := 11, ground := Ground.data }, { on := 13, ground := Ground.data }], guard := none },
  { dst := some 25, op := Op.box 75 (Operand.tmp 24), type := 69, pos := "least.go:66", after := #[{ on := 14, ground := Ground.data }], guard := none },
  { dst := some 7, op := Op.alloc 69, type := 0, pos := "least.go:66", after := #[], guard := none },
  { dst := none, op := Op.store 69 (Operand.tmp 7) (Operand.tmp 25), type := 0, pos := "least.go:66", after := #[{ on := 16, ground := Ground.data }, { on := 15, ground := Ground.data }, { on := 9, ground := Ground.chain }, { on := 0, ground := Ground.phase }, { on := 1, ground := Ground.phase }, { on := 2, ground := Ground.phase }, { on := 3, ground := Ground.phase }, { on := 4, ground := Ground.phase }, { on := 5, ground := Ground.phase }, { on := 6, ground := Ground.phase }, { on := 7, ground := Ground.phase }, { on := 8, ground := Ground.phase }, { on := 9, ground := Ground.phase }, { on := 10, ground := Ground.phase }, { on := 11, ground := Ground.phase }, { on := 12, ground := Ground.phase }, { on := 13, ground := Ground.phase }, { on := 14, ground := Ground.phase }, { on := 15, ground := Ground.phase }, { on := 16, ground := Ground.phase }], guard := none }]

theorem regN_tail : tailB .any regN.toArray 17 = true := by kernel_rfl
theorem regN_fwd : fwdB regN.toArray 17 = true := by kernel_rfl
theorem regN_slots : slotsB regN.toArray 63 = true := by kernel_rfl
theorem regN_seq : Region.seqB .any regN.toArray (regN.length - 17) 17 (Array.replicate 17 true ++ Array.replicate (regN.length - 17) false) = true := by kernel_rfl
theorem mk_int (k : Nat) (hk : k ≤ 1048576) (W : World) : (Instr.makeSlice 23 (.int .i64 (k : Int)) (.int .i64 (k : Int))).run Try.prog W = .ok (.slice (some ⟨W.heap.size, 0, none⟩) k k) (W.alloc (.cells (madeCells #[.int .i64 0] k) 3)) :=
  run_make_row' (P := Try.prog) 23 3 (.int .i64 0) 8 Try.underlying23 info_i64 rfl .i64 .i64 k (by omega) (by omega) W
theorem mk_chan (k : Nat) (hk : k ≤ 1048576) (W : World) : (Instr.makeChan 73 (.int .i64 (k : Int))).run Try.prog W = .ok (.chan (some W.heap.size)) (W.alloc (.chan k #[] false 0 0 false)) := by
  have h1 : ¬ (k : Int) < 0 := by omega
  have h2 : Try.t3.bytes = 8 := by kernel_rfl
  simp [Instr.makeChan, go_sem, h1, h2]
  omega

def actN (n len cap : Nat) (lowA A : Option Addr) (ln lk : Nat) (V : Nat → Value) : Act :=
  { tmps := #[.int .i64 n, .slice lowA ln lk, .slice A len cap, undef, undef, undef, .pointer none, V 16, undef, undef, V 0, V 1, V 2, V 3, V 4, V 5, V 6, V 7, V 8, V 9, V 10, V 11, V 12, V 13, V 14, V 15,
      undef, undef, undef, undef, undef, undef, undef, undef, undef, undef, undef, undef, undef, undef, undef, undef, undef, undef, undef, undef, undef, undef, undef, undef, undef, undef, undef, undef, undef, undef, undef, undef, undef, undef, undef, undef, undef], defers := [] }

set_option maxRecDepth 100000 in
set_option maxHeartbeats 4000000 in
theorem regN_any {id : Nat} (n len cap : Nat) (lowA A : Option Addr) (ln lk : Nat) (hn : n ≤ 1048576) (hl : len ≤ 1048576) (w : World) (Q : Exit → Act → World → Prop)
    (hend : ∀ (V : Nat → Value) (w' : World) (own : Nat → Nat), Bel w.drew w' → (∀ i, i < 17 → specN w.heap.size n len cap A i (V i) w' own) → wpList Try.prog regN.toArray Q (regN.drop 17) (actN n len cap lowA A ln lk V) w') :
    (Code.region id regN.toArray true).wp Try.prog Q (actN n len cap lowA A ln lk fun _ => undef) w := by
  refine wp_region_inv (l := regN) 17 (actN n len cap lowA A ln lk fun _ => undef) w (specN w.heap.size n len cap A) (by kernel_rfl) regN_tail regN_fwd regN_slots regN_seq (fun i v w w' own own' hi h hb ho => specN_mono i v w w' own own' hi h hb ho) ?_ ?_
  · intro i o hi ho a W own V hbel hdep hpar K hK
    have p0 : a.eval (.tmp 0) = .int .i64 n := hpar 0 (by show 0 < 63; decide) (by kernel_rfl)
    have p2 : a.eval (.tmp 2) = .slice A len cap := hpar 2 (by show 2 < 63; decide) (by kernel_rfl)
    match i, hi, ho, hK with
    | 0, _, ho, hK =>
      simp only [regN, List.getElem?_toArray, List.getElem?_cons_zero, Option.some.injEq] at ho
      subst ho
      exact ⟨rfl, wp_val (v := .slice A len cap) (w' := W) (by rw [← p2]; rfl) (hK _ _ (Bel.refl _) rfl)⟩
    | 1, _, ho, hK =>
      simp only [regN, List.getElem?_toArray, List.getElem?_cons_zero, List.getElem?_cons_succ, Option.some.injEq] at ho
      subst ho
      exact ⟨rfl, wp_val (v := .slice (some ⟨W.heap.size, 0, none⟩) 1 1) (w' := W.alloc (.cells #[.int .i64 (-1)] 3)) (by simp [execOp, go_sem, Act.eval]) (hK _ _ ((Bel.refl _).alloc _) ⟨_, rfl, blk1 W _⟩)⟩
    | 2, _, ho, hK =>
      simp only [regN, List.getElem?_toArray, List.getElem?_cons_zero, List.getElem?_cons_succ, Option.some.injEq] at ho
      subst ho
      exact ⟨rfl, wp_val (v := .int .i64 n) (w' := W) (by rw [← p0]; rfl) (hK _ _ (Bel.refl _) rfl)⟩
    | 3, _, ho, hK =>
      simp only [regN, List.getElem?_toArray, List.getElem?_cons_zero, List.getElem?_cons_succ, Option.some.injEq] at ho
      subst ho
      obtain ⟨⟨g, f1, hg⟩, d1⟩ := hdep ⟨1, .data⟩ (by simp) rfl
      have e11 : a.eval (.tmp 11) = .slice (some ⟨g, 0, none⟩) 1 1 := (d1 11 rfl).trans f1
      have e11' : a.tmps[11]?.getD undef = .slice (some ⟨g, 0, none⟩) 1 1 := by have h := e11; simp only [Act.eval, Array.getD_eq_getD_getElem?] at h; exact h
      obtain ⟨f2, d2⟩ := hdep ⟨2, .data⟩ (by simp) rfl
      have e12 : a.eval (.tmp 12) = .int .i64 n := (d2 12 rfl).trans f2
      have e12' : a.tmps[12]?.getD undef = .int .i64 n := by have h := e12; simp only [Act.eval, Array.getD_eq_getD_getElem?] at h; exact h
      refine ⟨rfl, ?_⟩
      have hrun : ∀ o : Oper, o.op = .call { callee := .value (.func 62), args := #[.tmp 11, .tmp 12], argTypes := #[23, 3] } → (execOp a.eval o).run Try.prog W = .ok (.enter 62 #[.slice (some ⟨g, 0, none⟩) 1 1, .int .i64 n]) W := fun o ho => by simp [execOp, ho, resolve, invoke, go_sem, e11', e12']
      unfold Oper.wp
      rw [hrun _ rfl]
      refine (repeatI_any g n (-1) hn W hg).mono ?_
      rintro e w' ⟨rfl, hr, hb⟩
      exact hK _ _ hb ⟨_, rfl, hr, hbel.size, by simp [ext]⟩
    | 4, _, ho, hK =>
      simp only [regN, List.getElem?_toArray, List.getElem?_cons_zero, List.getElem?_cons_succ, Option.some.injEq] at ho
      subst ho
      exact ⟨rfl, wp_val (v := .slice A len cap) (w' := W) (by rw [← p2]; rfl) (hK _ _ (Bel.refl _) rfl)⟩
    | 5, _, ho, hK =>
      simp only [regN, List.getElem?_toArray, List.getElem?_cons_zero, List.getElem?_cons_succ, Option.some.injEq] at ho
      subst ho
      obtain ⟨f4, d4⟩ := hdep ⟨4, .data⟩ (by simp) rfl
      have e14 : a.eval (.tmp 14) = .slice A len cap := (d4 14 rfl).trans f4
      have e14' : a.tmps[14]?.getD undef = .slice A len cap := by have h := e14; simp only [Act.eval, Array.getD_eq_getD_getElem?] at h; exact h
      exact ⟨rfl, wp_val (v := .int .i64 len) (w' := W) (by simp [go_sem, e14']) (hK _ _ (Bel.refl _) rfl)⟩
    | 6, _, ho, hK =>
      simp only [regN, List.getElem?_toArray, List.getElem?_cons_zero, List.getElem?_cons_succ, Option.some.injEq] at ho
      subst ho
      obtain ⟨f5, d5⟩ := hdep ⟨5, .data⟩ (by simp) rfl
      have e15 : a.eval (.tmp 15) = .int .i64 len := (d5 15 rfl).trans f5
      have e15' : a.tmps[15]?.getD undef = .int .i64 len := by have h := e15; simp only [Act.eval, Array.getD_eq_getD_getElem?] at h; exact h
      exact ⟨rfl, wp_val (v := .slice (some ⟨W.heap.size, 0, none⟩) len len) (w' := W.alloc (.cells (madeCells #[.int .i64 0] len) 3)) (by simp [execOp, e15, mk_int len hl, Result.andThen]) (hK _ _ ((Bel.refl _).alloc _) ⟨_, rfl, Arr.made W _ len 0, hbel.size, by simp [ext]⟩)⟩
    | 7, _, ho, hK =>
      simp only [regN, List.getElem?_toArray, List.getElem?_cons_zero, List.getElem?_cons_succ, Option.some.injEq] at ho
      subst ho
      exact ⟨rfl, wp_val (v := .slice (some ⟨W.heap.size, 0, none⟩) 1 1) (w' := W.alloc (.cells #[.int .u8 1] 27)) (by simp [execOp, go_sem, Act.eval]) (hK _ _ ((Bel.refl _).alloc _) ⟨_, rfl, blk1 W _⟩)⟩
    | 8, _, ho, hK =>
      simp only [regN, List.getElem?_toArray, List.getElem?_cons_zero, List.getElem?_cons_succ, Option.some.injEq] at ho
      subst ho
      exact ⟨rfl, wp_val (v := .int .i64 n) (w' := W) (by rw [← p0]; rfl) (hK _ _ (Bel.refl _) rfl)⟩
    | 9, _, ho, hK =>
      simp only [regN, List.getElem?_toArray, List.getElem?_cons_zero, List.getElem?_cons_succ, Option.some.injEq] at ho
      subst ho
      obtain ⟨⟨g, f7, hg⟩, d7⟩ := hdep ⟨7, .data⟩ (by simp) rfl
      have e17 : a.eval (.tmp 17) = .slice (some ⟨g, 0, none⟩) 1 1 := (d7 17 rfl).trans f7
      have e17' : a.tmps[17]?.getD undef = .slice (some ⟨g, 0, none⟩) 1 1 := by have h := e17; simp only [Act.eval, Array.getD_eq_getD_getElem?] at h; exact h
      obtain ⟨f8, d8⟩ := hdep ⟨8, .data⟩ (by simp) rfl
      have e18 : a.eval (.tmp 18) = .int .i64 n := (d8 18 rfl).trans f8
      have e18' : a.tmps[18]?.getD undef = .int .i64 n := by have h := e18; simp only [Act.eval, Array.getD_eq_getD_getElem?] at h; exact h
      refine ⟨rfl, ?_⟩
      have hrun : ∀ o : Oper, o.op = .call { callee := .value (.func 37), args := #[.tmp 17, .tmp 18], argTypes := #[22, 3] } → (execOp a.eval o).run Try.prog W = .ok (.enter 37 #[.slice (some ⟨g, 0, none⟩) 1 1, .int .i64 n]) W := fun o ho => by simp [execOp, ho, resolve, invoke, go_sem, e17', e18']
      unfold Oper.wp
      rw [hrun _ rfl]
      refine (repeatM_any g n 1 hn W hg).mono ?_
      rintro e w' ⟨rfl, hr, hb⟩
      exact hK _ _ hb ⟨_, rfl, hr, hbel.size, by simp [ext]⟩
    | 10, _, ho, hK =>
      simp only [regN, List.getElem?_toArray, List.getElem?_cons_zero, List.getElem?_cons_succ, Option.some.injEq] at ho
      subst ho
      exact ⟨rfl, wp_val (v := .int .i64 n) (w' := W) (by rw [← p0]; rfl) (hK _ _ (Bel.refl _) rfl)⟩
    | 11, _, ho, hK =>
      simp only [regN, List.getElem?_toArray, List.getElem?_cons_zero, List.getElem?_cons_succ, Option.some.injEq] at ho
      subst ho
      obtain ⟨f10, d10⟩ := hdep ⟨10, .data⟩ (by simp) rfl
      have e20 : a.eval (.tmp 20) = .int .i64 n := (d10 20 rfl).trans f10
      have e20' : a.tmps[20]?.getD undef = .int .i64 n := by have h := e20; simp only [Act.eval, Array.getD_eq_getD_getElem?] at h; exact h
      exact ⟨rfl, wp_val (v := .slice (some ⟨W.heap.size, 0, none⟩) n n) (w' := W.alloc (.cells (madeCells #[.int .i64 0] n) 3)) (by simp [execOp, e20, mk_int n hn, Result.andThen]) (hK _ _ ((Bel.refl _).alloc _) ⟨_, rfl, Arr.made W _ n 0, hbel.size, by simp [ext]⟩)⟩
    | 12, _, ho, hK =>
      simp only [regN, List.getElem?_toArray, List.getElem?_cons_zero, List.getElem?_cons_succ, Option.some.injEq] at ho
      subst ho
      exact ⟨rfl, wp_val (v := .int .i64 n) (w' := W) (by rw [← p0]; rfl) (hK _ _ (Bel.refl _) rfl)⟩
    | 13, _, ho, hK =>
      simp only [regN, List.getElem?_toArray, List.getElem?_cons_zero, List.getElem?_cons_succ, Option.some.injEq] at ho
      subst ho
      obtain ⟨f12, d12⟩ := hdep ⟨12, .data⟩ (by simp) rfl
      have e22 : a.eval (.tmp 22) = .int .i64 n := (d12 22 rfl).trans f12
      have e22' : a.tmps[22]?.getD undef = .int .i64 n := by have h := e22; simp only [Act.eval, Array.getD_eq_getD_getElem?] at h; exact h
      exact ⟨rfl, wp_val (v := .chan (some W.heap.size)) (w' := W.alloc (.chan n #[] false 0 0 false)) (by simp [execOp, e22, mk_chan n hn, Result.andThen]) (hK _ _ ((Bel.refl _).alloc _) ⟨_, rfl, blk1 W _, hbel.size, by simp [ext]⟩)⟩
    | 14, _, ho, hK =>
      simp only [regN, List.getElem?_toArray, List.getElem?_cons_zero, List.getElem?_cons_succ, Option.some.injEq] at ho
      subst ho
      obtain ⟨f0, d0⟩ := hdep ⟨0, .data⟩ (by simp) rfl
      have e10 : a.eval (.tmp 10) = .slice A len cap := (d0 10 rfl).trans f0
      have e10' : a.tmps[10]?.getD undef = .slice A len cap := by have h := e10; simp only [Act.eval, Array.getD_eq_getD_getElem?] at h; exact h
      obtain ⟨⟨gf, f3, hgf, lgf, ogf⟩, d3⟩ := hdep ⟨3, .data⟩ (by simp) rfl
      have e13 : a.eval (.tmp 13) = .slice (some ⟨gf, 0, none⟩) n n := (d3 13 rfl).trans f3
      have e13' : a.tmps[13]?.getD undef = .slice (some ⟨gf, 0, none⟩) n n := by have h := e13; simp only [Act.eval, Array.getD_eq_getD_getElem?] at h; exact h
      obtain ⟨⟨gn, f6, hgn, lgn, ogn⟩, d6⟩ := hdep ⟨6, .data⟩ (by simp) rfl
      have e16 : a.eval (.tmp 16) = .slice (some ⟨gn, 0, none⟩) len len := (d6 16 rfl).trans f6
      have e16' : a.tmps[16]?.getD undef = .slice (some ⟨gn, 0, none⟩) len len := by have h := e16; simp only [Act.eval, Array.getD_eq_getD_getElem?] at h; exact h
      obtain ⟨⟨ga, f9, hga, lga, oga⟩, d9⟩ := hdep ⟨9, .data⟩ (by simp) rfl
      have e19 : a.eval (.tmp 19) = .slice (some ⟨ga, 0, none⟩) n n := (d9 19 rfl).trans f9
      have e19' : a.tmps[19]?.getD undef = .slice (some ⟨ga, 0, none⟩) n n := by have h := e19; simp only [Act.eval, Array.getD_eq_getD_getElem?] at h; exact h
      obtain ⟨⟨gb, f11, hgb, lgb, ogb⟩, d11⟩ := hdep ⟨11, .data⟩ (by simp) rfl
      have e21 : a.eval (.tmp 21) = .slice (some ⟨gb, 0, none⟩) n n := (d11 21 rfl).trans f11
      have e21' : a.tmps[21]?.getD undef = .slice (some ⟨gb, 0, none⟩) n n := by have h := e21; simp only [Act.eval, Array.getD_eq_getD_getElem?] at h; exact h
      obtain ⟨⟨gc, f13, hgc, lgc, ogc⟩, d13⟩ := hdep ⟨13, .data⟩ (by simp) rfl
      have e23 : a.eval (.tmp 23) = .chan (some gc) := (d13 23 rfl).trans f13
      have e23' : a.tmps[23]?.getD undef = .chan (some gc) := by have h := e23; simp only [Act.eval, Array.getD_eq_getD_getElem?] at h; exact h
      have hown : ∀ x, x < W.heap.size → ext own W 14 x = own x := fun x hx => by simp [ext, hx]
      exact ⟨rfl, wp_val (v := .agg (cellsS A len cap n gf gn ga gb gc)) (w' := W) (by simp [execOp, go_sem, e10', e13', e16', e19', e21', e23', cellsS]) (hK _ _ (Bel.refl _) ⟨gf, gn, ga, gb, gc, rfl, NewA.mono ⟨hgf, hgn, hga, hgb, hgc, ⟨ogf, ogn, oga, ogb, ogc⟩, ⟨lgf, lgn, lga, lgb, lgc⟩⟩ (Bel.refl _) hown⟩)⟩
    | 15, _, ho, hK =>
      simp only [regN, List.getElem?_toArray, List.getElem?_cons_zero, List.getElem?_cons_succ, Option.some.injEq] at ho
      subst ho
      obtain ⟨⟨gf, gn, ga, gb, gc, f14, hN⟩, d14⟩ := hdep ⟨14, .data⟩ (by simp) rfl
      have e24 : a.eval (.tmp 24) = .agg (cellsS A len cap n gf gn ga gb gc) := (d14 24 rfl).trans f14
      have e24' : a.tmps[24]?.getD undef = .agg (cellsS A len cap n gf gn ga gb gc) := by have h := e24; simp only [Act.eval, Array.getD_eq_getD_getElem?] at h; exact h
      have hown : ∀ x, x < W.heap.size → ext own W 15 x = own x := fun x hx => by simp [ext, hx]
      exact ⟨rfl, wp_val (v := .pointer (some ⟨W.heap.size, 0, none⟩)) (w' := W.alloc (.cells (cellsS A len cap n gf gn ga gb gc) 75)) (by simp [execOp, go_sem, e24', cellsS]) (hK _ _ ((Bel.refl _).alloc _) ⟨_, gf, gn, ga, gb, gc, rfl, blk1 W _, hN.mono ((Bel.refl _).alloc _) hown, hbel.size, by simp [ext]⟩)⟩
    | 16, _, ho, hK =>
      simp only [regN, List.getElem?_toArray, List.getElem?_cons_zero, List.getElem?_cons_succ, Option.some.injEq] at ho
      subst ho
      exact ⟨rfl, wp_val (v := .pointer (some ⟨W.heap.size, 0, none⟩)) (w' := W.alloc (.cells #[.pointer none] 69)) (by simp [execOp, go_sem]) (hK _ _ ((Bel.refl _).alloc _) ⟨_, rfl, blk1 W _, hbel.size, by simp [ext]⟩)⟩
    | k + 17, hi, _, _ => exact absurd hi (by omega)
  · intro V w' own hb hF
    have e : finA regN.toArray 17 V (actN n len cap lowA A ln lk fun _ => undef) = actN n len cap lowA A ln lk V := by kernel_rfl
    rw [e]
    exact hend V w' own hb hF
end Go.Proofs.Ytjgpkolfcpoinaa.Mu

