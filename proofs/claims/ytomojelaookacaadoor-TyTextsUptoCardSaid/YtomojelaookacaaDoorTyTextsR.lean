/-
  The statement TyTexts, walked.
-/
import Derived.Test.YtomojelaookacaaDoorSolversG
import Derived.Test.YtomojelaookacaaDoorTyInjL
import Derived.Test.YtomojelaookacaaDoorTyEqs
import Derived.Test.YtomojelaookacaaDoorTyMkW
namespace Go.Proofs.YtomojelaookacaaDoor.Mu
open Go.ChangeShapes Go.WideShapes Go.ChangeAt Go.RowKit Go.Shelf

attribute [local go_sem] Oper.semAt_some
set_option linter.unusedVariables false

theorem bb_ne {a b : List UInt8} (h : ¬ a = b) : ((⟨a.toArray⟩ : ByteArray) == ⟨b.toArray⟩) = false := by
  rw [beq_toListBytes]
  simpa using h
theorem bb_eq {a b : List UInt8} (h : a = b) : ((⟨a.toArray⟩ : ByteArray) == ⟨b.toArray⟩) = true := by
  rw [beq_toListBytes]
  simpa using h
def TrueP (w : World) (e : Ending) (w' : World) : Prop := e = .returned (.bool true) ∧ Bel w w'
theorem tyErr_well {f : Fo} (h : tyErr f = 0) : f.well = true := well_of_err h
theorem RNm.up {w w' : World} {A : Option Addr} {n : Nat} {ts : List (List UInt8)} (h : RNm w w.heap.size A n ts) (hb : Bel w w') : RNm w' w'.heap.size A n ts :=
  ⟨h.1, fun h0 => by
    obtain ⟨b, off, e, hl, hc⟩ := h.2 h0
    exact ⟨b, off, e, Nat.lt_of_lt_of_le hl hb.size, fun j s hs => (hb.cell (p := ⟨b, off + j, none⟩) hl).trans (hc j s hs)⟩⟩
def regTt : List Oper := [
  { dst := some 20, op := Op.load 27 (Operand.tmp 2), type := 27, pos := "outright.go:81", after := #[], guard := none },
  { dst := some 21, op := Op.call { callee := Callee.value (Operand.func 15), args := #[], argTypes := #[] }, type := 33, pos := "outright.go:81", after := #[], guard := none },
  { dst := some 22, op := Op.call { callee := Callee.value (Operand.func 12), args := #[Operand.tmp 20, Operand.tmp 21], argTypes := #[27, 33] }, type := 9, pos := "outright.go:81", after := #[{ on := 0, ground := Ground.data }, { on := 1, ground := Ground.data }, { on := 1, ground := Ground.chain }], guard := none },
  { dst := some 23, op := Op.load 27 (Operand.tmp 3), type := 27, pos := "outright.go:81", after := #[], guard := none },
  { dst := some 24, op := Op.call { callee := Callee.value (Operand.func 15), args := #[], argTypes := #[] }, type := 33, pos := "outright.go:81", after := #[{ on := 2, ground := Ground.chain }], guard := none },
  { dst := some 25, op := Op.call { callee := Callee.value (Operand.func 12), args := #[Operand.tmp 23, Operand.tmp 24], argTypes := #[27, 33] }, type := 9, pos := "outright.go:81", after := #[{ on := 3, ground := Ground.data }, { on := 4, ground := Ground.data }, { on := 4, ground := Ground.chain }], guard := none },
  { dst := some 26, op := Op.binOp BinOp.eql 9 (Operand.tmp 22) (Operand.tmp 25) 9, type := 4, pos := "outright.go:81", after := #[{ on := 2, ground := Ground.data }, { on := 5, ground := Ground.data }], guard := none },
  { dst := some 27, op := Op.load 27 (Operand.tmp 2), type := 27, pos := "outright.go:81", after := #[], guard := none },
  { dst := some 28, op := Op.load 27 (Operand.tmp 3), type := 27, pos := "outright.go:81", after := #[], guard := none },
  { dst := some 29, op := Op.call { callee := Callee.value (Operand.func 22), args := #[Operand.tmp 27, Operand.tmp 28], argTypes := #[27, 27] }, type := 4, pos := "outright.go:81", after := #[{ on := 7, ground := Ground.data }, { on := 8, ground := Ground.data }, { on := 5, ground := Ground.chain }], guard := none },
  { dst := some 30, op := Op.binOp BinOp.eql 4 (Operand.tmp 26) (Operand.tmp 29) 4, type := 4, pos := "outright.go:81", after := #[{ on := 6, ground := Ground.data }, { on := 9, ground := Ground.data }], guard := none },
  { dst := some 31, op := Op.move (Operand.tmp 30), type := 4, pos := "outright.go:81", after := #[{ on := 10, ground := Ground.data }, { on := 9, ground := Ground.chain }], guard := none },
  { dst := some 32, op := Op.call { callee := Callee.value (Operand.func 11), args := #[], argTypes := #[] }, type := 4, pos := "outright.go:81", after := #[{ on := 11, ground := Ground.chain }, { on := 11, ground := Ground.guard }], guard := some (11, true) },
  { dst := some 33, op := Op.pick (Operand.tmp 31) (Operand.tmp 32) (Operand.const (Value.bool false)), type := 4, pos := "outright.go:81", after := #[{ on := 11, ground := Ground.data }, { on := 12, ground := Ground.data }], guard := none },
  { dst := some 4, op := Op.assign (Operand.tmp 33), type := 4, pos := "outright.go:81", after := #[{ on := 13, ground := Ground.data }, { on := 12, ground := Ground.chain }, { on := 0, ground := Ground.phase }, { on := 1, ground := Ground.phase }, { on := 2, ground := Ground.phase }, { on := 3, ground := Ground.phase }, { on := 4, ground := Ground.phase }, { on := 5, ground := Ground.phase }, { on := 6, ground := Ground.phase }, { on := 7, ground := Ground.phase }, { on := 8, ground := Ground.phase }, { on := 9, ground := Ground.phase }, { on := 10, ground := Ground.phase }, { on := 11, ground := Ground.phase }, { on := 12, ground := Ground.phase }, { on := 13, ground := Ground.phase }], guard := none }]
def specTt (B1 B2 : Nat) (k n x c : Int) (A : Option Addr) (len cap : Nat) (k2 n2 x2 c2 : Int) (A2 : Option Addr) (len2 cap2 : Nat) (t1 t2 : List UInt8) (b : Bool) (i : Nat) (v : Value) (w : World) : Prop :=
  match i with
  | 0 => v = .agg #[.int .u8 k, .int .i64 n, .int .i64 x, .int .u8 c, .slice A len cap]
  | 1 => ∃ g, v = .slice (some ⟨g, 0, none⟩) 2 2 ∧ RNm w w.heap.size (some ⟨g, 0, none⟩) 2 nm2
  | 2 => v = .string ⟨t1.toArray⟩
  | 3 => v = .agg #[.int .u8 k2, .int .i64 n2, .int .i64 x2, .int .u8 c2, .slice A2 len2 cap2]
  | 4 => ∃ g, v = .slice (some ⟨g, 0, none⟩) 2 2 ∧ RNm w w.heap.size (some ⟨g, 0, none⟩) 2 nm2
  | 5 => v = .string ⟨t2.toArray⟩
  | 6 => v = .bool b
  | 7 => v = .agg #[.int .u8 k, .int .i64 n, .int .i64 x, .int .u8 c, .slice A len cap]
  | 8 => v = .agg #[.int .u8 k2, .int .i64 n2, .int .i64 x2, .int .u8 c2, .slice A2 len2 cap2]
  | 9 => v = .bool b
  | 10 => v = .bool true
  | 11 => v = .bool true
  | 12 => v = .bool true
  | 13 => v = .bool true
  | _ => True
theorem specTt_mono {B1 B2 : Nat} {k n x c : Int} {A : Option Addr} {len cap : Nat} {k2 n2 x2 c2 : Int} {A2 : Option Addr} {len2 cap2 : Nat} {t1 t2 : List UInt8} {b : Bool} (i : Nat) (v : Value) (w w' : World) (hi : i < 14) (h : specTt B1 B2 k n x c A len cap k2 n2 x2 c2 A2 len2 cap2 t1 t2 b i v w) (hb : Bel w w') : specTt B1 B2 k n x c A len cap k2 n2 x2 c2 A2 len2 cap2 t1 t2 b i v w' := by
  match i, hi, h with
  | 0, _, h => exact h
  | 1, _, h => obtain ⟨g, e, hn⟩ := h; exact ⟨g, e, hn.up hb⟩
  | 2, _, h => exact h
  | 3, _, h => exact h
  | 4, _, h => obtain ⟨g, e, hn⟩ := h; exact ⟨g, e, hn.up hb⟩
  | 5, _, h => exact h
  | 6, _, h => exact h
  | 7, _, h => exact h
  | 8, _, h => exact h
  | 9, _, h => exact h
  | 10, _, h => exact h
  | 11, _, h => exact h
  | 12, _, h => exact h
  | 13, _, h => exact h
  | q + 14, hi, _ => exact absurd hi (by omega)
def acOTt (B1 B2 : Nat) (k n x c : Int) (A : Option Addr) (len cap : Nat) (k2 n2 x2 c2 : Int) (A2 : Option Addr) (len2 cap2 : Nat) (t1 t2 : List UInt8) (b : Bool) (s0 s1 s4 s5 s6 s7 s8 s9 s10 s11 s12 s13 s14 s15 s16 s17 s18 s19 s20 s21 s22 s23 s24 s25 s26 s27 s28 s29 s30 s31 s32 s33 : Value) (df : List Deferred) : Act := { tmps := #[s0, s1, .pointer (some ⟨B1, 0, none⟩), .pointer (some ⟨B2, 0, none⟩), s4, s5, s6, s7, s8, s9, s10, s11, s12, s13, s14, s15, s16, s17, s18, s19, s20, s21, s22, s23, s24, s25, s26, s27, s28, s29, s30, s31, s32, s33], defers := df }
def acVTt (B1 B2 : Nat) (k n x c : Int) (A : Option Addr) (len cap : Nat) (k2 n2 x2 c2 : Int) (A2 : Option Addr) (len2 cap2 : Nat) (t1 t2 : List UInt8) (b : Bool) (s0 s1 s4 s5 s6 s7 s8 s9 s10 s11 s12 s13 s14 s15 s16 s17 s18 s19 s20 s21 s22 s23 s24 s25 s26 s27 s28 s29 s30 s31 s32 s33 : Value) (df : List Deferred) (V : Nat → Value) : Act := { tmps := #[s0, s1, .pointer (some ⟨B1, 0, none⟩), .pointer (some ⟨B2, 0, none⟩), s4, s5, s6, s7, s8, s9, s10, s11, s12, s13, s14, s15, s16, s17, s18, s19, V 0, V 1, V 2, V 3, V 4, V 5, V 6, V 7, V 8, V 9, V 10, V 11, V 12, V 13], defers := df }
theorem regTt_tail : tailB .any regTt.toArray 14 = true := by kernel_rfl
theorem regTt_fwd : fwdB regTt.toArray 14 = true := by kernel_rfl
theorem regTt_slots : slotsB regTt.toArray 34 = true := by kernel_rfl
theorem regTt_seq : Region.seqB .any regTt.toArray (regTt.length - 14) 14 (Array.replicate 14 true ++ Array.replicate (regTt.length - 14) false) = true := by kernel_rfl
set_option maxRecDepth 100000 in
set_option maxHeartbeats 8000000 in
theorem regTt_any {id : Nat} (B1 B2 : Nat) (k n x c : Int) (A : Option Addr) (len cap : Nat) (k2 n2 x2 c2 : Int) (A2 : Option Addr) (len2 cap2 : Nat) (t1 t2 : List UInt8) (b : Bool) (s0 s1 s4 s5 s6 s7 s8 s9 s10 s11 s12 s13 s14 s15 s16 s17 s18 s19 s20 s21 s22 s23 s24 s25 s26 s27 s28 s29 s30 s31 s32 s33 : Value) (df : List Deferred) (w : World) (c1 : w.drew.heap[B1]? = some (.cells #[.int .u8 k, .int .i64 n, .int .i64 x, .int .u8 c, .slice A len cap] 27 (0, 0))) (c2' : w.drew.heap[B2]? = some (.cells #[.int .u8 k2, .int .i64 n2, .int .i64 x2, .int .u8 c2, .slice A2 len2 cap2] 27 (0, 0)))
    (HN : ∀ W, Calls Tryd.prog 15 #[] W (NamesP W)) (HT1 : ∀ W gn, Bel w.drew W → RNm W W.heap.size (some ⟨gn, 0, none⟩) 2 nm2 → Calls Tryd.prog 12 #[.agg #[.int .u8 k, .int .i64 n, .int .i64 x, .int .u8 c, .slice A len cap], .slice (some ⟨gn, 0, none⟩) 2 2] W fun e w' => e = .returned (.string ⟨t1.toArray⟩) ∧ Bel W w')
    (HT2 : ∀ W gn, Bel w.drew W → RNm W W.heap.size (some ⟨gn, 0, none⟩) 2 nm2 → Calls Tryd.prog 12 #[.agg #[.int .u8 k2, .int .i64 n2, .int .i64 x2, .int .u8 c2, .slice A2 len2 cap2], .slice (some ⟨gn, 0, none⟩) 2 2] W fun e w' => e = .returned (.string ⟨t2.toArray⟩) ∧ Bel W w')
    (HS : ∀ W, Bel w.drew W → Calls Tryd.prog 22 #[.agg #[.int .u8 k, .int .i64 n, .int .i64 x, .int .u8 c, .slice A len cap], .agg #[.int .u8 k2, .int .i64 n2, .int .i64 x2, .int .u8 c2, .slice A2 len2 cap2]] W (SameP b W)) (HW : ∀ W, Bel w.drew W → Calls Tryd.prog 11 #[] W (TrueP W))
    (q1 : (t1 = t2) = (b = true)) (q2 : (t1 == t2) = b) (q3 : ((⟨t1.toArray⟩ : ByteArray) == ⟨t2.toArray⟩) = b) (Q : Exit → Act → World → Prop)
    (hend : ∀ (V : Nat → Value) (w' : World), Bel w.drew w' → (V 13) = .bool true → wpList Tryd.prog regTt.toArray Q (regTt.drop 14) (acVTt B1 B2 k n x c A len cap k2 n2 x2 c2 A2 len2 cap2 t1 t2 b s0 s1 s4 s5 s6 s7 s8 s9 s10 s11 s12 s13 s14 s15 s16 s17 s18 s19 s20 s21 s22 s23 s24 s25 s26 s27 s28 s29 s30 s31 s32 s33 df V) w') :
    (Code.region id regTt.toArray true).wp Tryd.prog Q (acOTt B1 B2 k n x c A len cap k2 n2 x2 c2 A2 len2 cap2 t1 t2 b s0 s1 s4 s5 s6 s7 s8 s9 s10 s11 s12 s13 s14 s15 s16 s17 s18 s19 s20 s21 s22 s23 s24 s25 s26 s27 s28 s29 s30 s31 s32 s33 df) w := by
  refine wp_region_invG (l := regTt) 14 (acOTt B1 B2 k n x c A len cap k2 n2 x2 c2 A2 len2 cap2 t1 t2 b s0 s1 s4 s5 s6 s7 s8 s9 s10 s11 s12 s13 s14 s15 s16 s17 s18 s19 s20 s21 s22 s23 s24 s25 s26 s27 s28 s29 s30 s31 s32 s33 df) w (specTt B1 B2 k n x c A len cap k2 n2 x2 c2 A2 len2 cap2 t1 t2 b) (by kernel_rfl) regTt_tail regTt_fwd regTt_slots regTt_seq (fun i v w w' hi h hb => specTt_mono i v w w' hi h hb) ?_ ?_
  · intro i' o hi' ho a w1 V hbel hdep hpar K hK
    have p2 : a.eval (.tmp 2) = .pointer (some ⟨B1, 0, none⟩) := hpar 2 (by show 2 < 34; decide) (by kernel_rfl)
    have p2' : a.tmps[2]?.getD undef = .pointer (some ⟨B1, 0, none⟩) := by have h := p2; simp only [Act.eval, Array.getD_eq_getD_getElem?] at h; exact h
    have p3 : a.eval (.tmp 3) = .pointer (some ⟨B2, 0, none⟩) := hpar 3 (by show 3 < 34; decide) (by kernel_rfl)
    have p3' : a.tmps[3]?.getD undef = .pointer (some ⟨B2, 0, none⟩) := by have h := p3; simp only [Act.eval, Array.getD_eq_getD_getElem?] at h; exact h
    obtain ⟨⟨m0, m1, m2, m3, m4⟩, _⟩ := cells5 (hbel.blk c1)
    obtain ⟨⟨o0, o1, o2, o3, o4⟩, _⟩ := cells5 (hbel.blk c2')
    match i', hi', ho, hdep, hK with
    | 0, _, ho, hdep, hK =>
      simp only [regTt, List.getElem?_toArray, List.getElem?_cons_zero, Option.some.injEq] at ho
      subst ho
      refine ⟨fun _ => ?_, fun hw => (yw_n rfl hw).elim⟩
      exact wp_val (v := .agg #[.int .u8 k, .int .i64 n, .int .i64 x, .int .u8 c, .slice A len cap]) (w' := w1) (by simp [execOp, go_sem, p2', m0, m1, m2, m3, m4]) (hK _ _ (Bel.refl _) rfl)
    | 1, _, ho, hdep, hK =>
      simp only [regTt, List.getElem?_toArray, List.getElem?_cons_zero, List.getElem?_cons_succ, Option.some.injEq] at ho
      subst ho
      refine ⟨fun _ => ?_, fun hw => (yw_n rfl hw).elim⟩
      refine wp_enter (f := 15) (args := #[]) (by simp [go_sem]) ((HN w1).mono ?_)
      rintro e w' ⟨g, rfl, hn, hb⟩
      exact ⟨_, rfl, hK _ _ hb ⟨g, rfl, hn⟩⟩
    | 2, _, ho, hdep, hK =>
      simp only [regTt, List.getElem?_toArray, List.getElem?_cons_zero, List.getElem?_cons_succ, Option.some.injEq] at ho
      subst ho
      refine ⟨fun _ => ?_, fun hw => (yw_n rfl hw).elim⟩
      obtain ⟨f0, d0⟩ := hdep ⟨0, .data⟩ (by simp) rfl
      have e0 : a.eval (.tmp 20) = .agg #[.int .u8 k, .int .i64 n, .int .i64 x, .int .u8 c, .slice A len cap] := (d0 20 rfl).trans f0
      have e0' : a.tmps[20]?.getD undef = .agg #[.int .u8 k, .int .i64 n, .int .i64 x, .int .u8 c, .slice A len cap] := by have h := e0; simp only [Act.eval, Array.getD_eq_getD_getElem?] at h; exact h
      obtain ⟨f1, d1⟩ := hdep ⟨1, .data⟩ (by simp) rfl
      obtain ⟨g1, hv1, hn1⟩ := f1
      have e1 : a.eval (.tmp 21) = .slice (some ⟨g1, 0, none⟩) 2 2 := (d1 21 rfl).trans hv1
      have e1' : a.tmps[21]?.getD undef = .slice (some ⟨g1, 0, none⟩) 2 2 := by have h := e1; simp only [Act.eval, Array.getD_eq_getD_getElem?] at h; exact h
      refine wp_enter (f := 12) (args := #[.agg #[.int .u8 k, .int .i64 n, .int .i64 x, .int .u8 c, .slice A len cap], .slice (some ⟨g1, 0, none⟩) 2 2]) (by simp [go_sem, e0', e1']) ((HT1 w1 g1 hbel hn1).mono ?_)
      rintro e w' ⟨rfl, hb⟩
      exact ⟨_, rfl, hK _ _ hb rfl⟩
    | 3, _, ho, hdep, hK =>
      simp only [regTt, List.getElem?_toArray, List.getElem?_cons_zero, List.getElem?_cons_succ, Option.some.injEq] at ho
      subst ho
      refine ⟨fun _ => ?_, fun hw => (yw_n rfl hw).elim⟩
      exact wp_val (v := .agg #[.int .u8 k2, .int .i64 n2, .int .i64 x2, .int .u8 c2, .slice A2 len2 cap2]) (w' := w1) (by simp [execOp, go_sem, p3', o0, o1, o2, o3, o4]) (hK _ _ (Bel.refl _) rfl)
    | 4, _, ho, hdep, hK =>
      simp only [regTt, List.getElem?_toArray, List.getElem?_cons_zero, List.getElem?_cons_succ, Option.some.injEq] at ho
      subst ho
      refine ⟨fun _ => ?_, fun hw => (yw_n rfl hw).elim⟩
      refine wp_enter (f := 15) (args := #[]) (by simp [go_sem]) ((HN w1).mono ?_)
      rintro e w' ⟨g, rfl, hn, hb⟩
      exact ⟨_, rfl, hK _ _ hb ⟨g, rfl, hn⟩⟩
    | 5, _, ho, hdep, hK =>
      simp only [regTt, List.getElem?_toArray, List.getElem?_cons_zero, List.getElem?_cons_succ, Option.some.injEq] at ho
      subst ho
      refine ⟨fun _ => ?_, fun hw => (yw_n rfl hw).elim⟩
      obtain ⟨f3, d3⟩ := hdep ⟨3, .data⟩ (by simp) rfl
      have e3 : a.eval (.tmp 23) = .agg #[.int .u8 k2, .int .i64 n2, .int .i64 x2, .int .u8 c2, .slice A2 len2 cap2] := (d3 23 rfl).trans f3
      have e3' : a.tmps[23]?.getD undef = .agg #[.int .u8 k2, .int .i64 n2, .int .i64 x2, .int .u8 c2, .slice A2 len2 cap2] := by have h := e3; simp only [Act.eval, Array.getD_eq_getD_getElem?] at h; exact h
      obtain ⟨f4, d4⟩ := hdep ⟨4, .data⟩ (by simp) rfl
      obtain ⟨g4, hv4, hn4⟩ := f4
      have e4 : a.eval (.tmp 24) = .slice (some ⟨g4, 0, none⟩) 2 2 := (d4 24 rfl).trans hv4
      have e4' : a.tmps[24]?.getD undef = .slice (some ⟨g4, 0, none⟩) 2 2 := by have h := e4; simp only [Act.eval, Array.getD_eq_getD_getElem?] at h; exact h
      refine wp_enter (f := 12) (args := #[.agg #[.int .u8 k2, .int .i64 n2, .int .i64 x2, .int .u8 c2, .slice A2 len2 cap2], .slice (some ⟨g4, 0, none⟩) 2 2]) (by simp [go_sem, e3', e4']) ((HT2 w1 g4 hbel hn4).mono ?_)
      rintro e w' ⟨rfl, hb⟩
      exact ⟨_, rfl, hK _ _ hb rfl⟩
    | 6, _, ho, hdep, hK =>
      simp only [regTt, List.getElem?_toArray, List.getElem?_cons_zero, List.getElem?_cons_succ, Option.some.injEq] at ho
      subst ho
      refine ⟨fun _ => ?_, fun hw => (yw_n rfl hw).elim⟩
      obtain ⟨f2, d2⟩ := hdep ⟨2, .data⟩ (by simp) rfl
      have e2 : a.eval (.tmp 22) = .string ⟨t1.toArray⟩ := (d2 22 rfl).trans f2
      have e2' : a.tmps[22]?.getD undef = .string ⟨t1.toArray⟩ := by have h := e2; simp only [Act.eval, Array.getD_eq_getD_getElem?] at h; exact h
      obtain ⟨f5, d5⟩ := hdep ⟨5, .data⟩ (by simp) rfl
      have e5 : a.eval (.tmp 25) = .string ⟨t2.toArray⟩ := (d5 25 rfl).trans f5
      have e5' : a.tmps[25]?.getD undef = .string ⟨t2.toArray⟩ := by have h := e5; simp only [Act.eval, Array.getD_eq_getD_getElem?] at h; exact h
      exact wp_val (v := .bool b) (w' := w1) (by simp [execOp, go_sem, e2', e5', q2]) (hK _ _ (Bel.refl _) rfl)
    | 7, _, ho, hdep, hK =>
      simp only [regTt, List.getElem?_toArray, List.getElem?_cons_zero, List.getElem?_cons_succ, Option.some.injEq] at ho
      subst ho
      refine ⟨fun _ => ?_, fun hw => (yw_n rfl hw).elim⟩
      exact wp_val (v := .agg #[.int .u8 k, .int .i64 n, .int .i64 x, .int .u8 c, .slice A len cap]) (w' := w1) (by simp [execOp, go_sem, p2', m0, m1, m2, m3, m4]) (hK _ _ (Bel.refl _) rfl)
    | 8, _, ho, hdep, hK =>
      simp only [regTt, List.getElem?_toArray, List.getElem?_cons_zero, List.getElem?_cons_succ, Option.some.injEq] at ho
      subst ho
      refine ⟨fun _ => ?_, fun hw => (yw_n rfl hw).elim⟩
      exact wp_val (v := .agg #[.int .u8 k2, .int .i64 n2, .int .i64 x2, .int .u8 c2, .slice A2 len2 cap2]) (w' := w1) (by simp [execOp, go_sem, p3', o0, o1, o2, o3, o4]) (hK _ _ (Bel.refl _) rfl)
    | 9, _, ho, hdep, hK =>
      simp only [regTt, List.getElem?_toArray, List.getElem?_cons_zero, List.getElem?_cons_succ, Option.some.injEq] at ho
      subst ho
      refine ⟨fun _ => ?_, fun hw => (yw_n rfl hw).elim⟩
      obtain ⟨f7, d7⟩ := hdep ⟨7, .data⟩ (by simp) rfl
      have e7 : a.eval (.tmp 27) = .agg #[.int .u8 k, .int .i64 n, .int .i64 x, .int .u8 c, .slice A len cap] := (d7 27 rfl).trans f7
      have e7' : a.tmps[27]?.getD undef = .agg #[.int .u8 k, .int .i64 n, .int .i64 x, .int .u8 c, .slice A len cap] := by have h := e7; simp only [Act.eval, Array.getD_eq_getD_getElem?] at h; exact h
      obtain ⟨f8, d8⟩ := hdep ⟨8, .data⟩ (by simp) rfl
      have e8 : a.eval (.tmp 28) = .agg #[.int .u8 k2, .int .i64 n2, .int .i64 x2, .int .u8 c2, .slice A2 len2 cap2] := (d8 28 rfl).trans f8
      have e8' : a.tmps[28]?.getD undef = .agg #[.int .u8 k2, .int .i64 n2, .int .i64 x2, .int .u8 c2, .slice A2 len2 cap2] := by have h := e8; simp only [Act.eval, Array.getD_eq_getD_getElem?] at h; exact h
      refine wp_enter (f := 22) (args := #[.agg #[.int .u8 k, .int .i64 n, .int .i64 x, .int .u8 c, .slice A len cap], .agg #[.int .u8 k2, .int .i64 n2, .int .i64 x2, .int .u8 c2, .slice A2 len2 cap2]]) (by simp [go_sem, e7', e8']) ((HS w1 hbel).mono ?_)
      rintro e w' ⟨rfl, hb⟩
      exact ⟨_, rfl, hK _ _ hb rfl⟩
    | 10, _, ho, hdep, hK =>
      simp only [regTt, List.getElem?_toArray, List.getElem?_cons_zero, List.getElem?_cons_succ, Option.some.injEq] at ho
      subst ho
      refine ⟨fun _ => ?_, fun hw => (yw_n rfl hw).elim⟩
      obtain ⟨f6, d6⟩ := hdep ⟨6, .data⟩ (by simp) rfl
      have e6 : a.eval (.tmp 26) = .bool b := (d6 26 rfl).trans f6
      have e6' : a.tmps[26]?.getD undef = .bool b := by have h := e6; simp only [Act.eval, Array.getD_eq_getD_getElem?] at h; exact h
      obtain ⟨f9, d9⟩ := hdep ⟨9, .data⟩ (by simp) rfl
      have e9 : a.eval (.tmp 29) = .bool b := (d9 29 rfl).trans f9
      have e9' : a.tmps[29]?.getD undef = .bool b := by have h := e9; simp only [Act.eval, Array.getD_eq_getD_getElem?] at h; exact h
      exact wp_val (v := .bool true) (w' := w1) (by simp [execOp, go_sem, e6', e9']) (hK _ _ (Bel.refl _) rfl)
    | 11, _, ho, hdep, hK =>
      simp only [regTt, List.getElem?_toArray, List.getElem?_cons_zero, List.getElem?_cons_succ, Option.some.injEq] at ho
      subst ho
      refine ⟨fun _ => ?_, fun hw => (yw_n rfl hw).elim⟩
      obtain ⟨f10, d10⟩ := hdep ⟨10, .data⟩ (by simp) rfl
      have e10 : a.eval (.tmp 30) = .bool true := (d10 30 rfl).trans f10
      have e10' : a.tmps[30]?.getD undef = .bool true := by have h := e10; simp only [Act.eval, Array.getD_eq_getD_getElem?] at h; exact h
      exact wp_val (v := .bool true) (w' := w1) (by simp [execOp, go_sem, e10']) (hK _ _ (Bel.refl _) rfl)
    | 12, _, ho, hdep, hK =>
      simp only [regTt, List.getElem?_toArray, List.getElem?_cons_zero, List.getElem?_cons_succ, Option.some.injEq] at ho
      subst ho
      obtain ⟨fg, dg⟩ := hdep ⟨11, .guard⟩ (by simp) rfl
      have eg : a.tmps.getD 31 undef = .bool true := (dg 31 rfl).trans fg
      refine ⟨fun _ => ?_, fun hw => (yw_t (d := 31) rfl rfl eg hw).elim⟩
      refine wp_enter (f := 11) (args := #[]) (by simp [go_sem]) ((HW w1 hbel).mono ?_)
      rintro e w' ⟨rfl, hb⟩
      exact ⟨_, rfl, hK _ _ hb rfl⟩
    | 13, _, ho, hdep, hK =>
      simp only [regTt, List.getElem?_toArray, List.getElem?_cons_zero, List.getElem?_cons_succ, Option.some.injEq] at ho
      subst ho
      refine ⟨fun _ => ?_, fun hw => (yw_n rfl hw).elim⟩
      obtain ⟨f11, d11⟩ := hdep ⟨11, .data⟩ (by simp) rfl
      have e11 : a.eval (.tmp 31) = .bool true := (d11 31 rfl).trans f11
      have e11' : a.tmps[31]?.getD undef = .bool true := by have h := e11; simp only [Act.eval, Array.getD_eq_getD_getElem?] at h; exact h
      obtain ⟨f12, d12⟩ := hdep ⟨12, .data⟩ (by simp) rfl
      have e12 : a.eval (.tmp 32) = .bool true := (d12 32 rfl).trans f12
      have e12' : a.tmps[32]?.getD undef = .bool true := by have h := e12; simp only [Act.eval, Array.getD_eq_getD_getElem?] at h; exact h
      exact wp_val (v := .bool true) (w' := w1) (by simp [execOp, go_sem, e11', e12']) (hK _ _ (Bel.refl _) rfl)
    | q + 14, hi, _, _, _ => exact absurd hi (by omega)
  · intro V w' hb hF
    have e : finA regTt.toArray 14 V (acOTt B1 B2 k n x c A len cap k2 n2 x2 c2 A2 len2 cap2 t1 t2 b s0 s1 s4 s5 s6 s7 s8 s9 s10 s11 s12 s13 s14 s15 s16 s17 s18 s19 s20 s21 s22 s23 s24 s25 s26 s27 s28 s29 s30 s31 s32 s33 df) = acVTt B1 B2 k n x c A len cap k2 n2 x2 c2 A2 len2 cap2 t1 t2 b s0 s1 s4 s5 s6 s7 s8 s9 s10 s11 s12 s13 s14 s15 s16 s17 s18 s19 s20 s21 s22 s23 s24 s25 s26 s27 s28 s29 s30 s31 s32 s33 df V := by kernel_rfl
    rw [e]
    exact hend V w' hb (hF 13 (by omega))
end Go.Proofs.YtomojelaookacaaDoor.Mu

