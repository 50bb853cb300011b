/-
  The statement TyMay, walked: its last statement's operations.
-/
import Derived.Test.YtomojelaookacaaDoorSolversG
import Derived.Test.YtomojelaookacaaDoorTyRefB
namespace Go.Proofs.YtomojelaookacaaDoor.Mu
open Go.ChangeShapes Go.WideShapes Go.ChangeAt Go.RowKit Go.Shelf

attribute [local go_sem] Oper.semAt_some
set_option linter.unusedVariables false

def regMy : List Oper := [
  { dst := some 10, op := Op.load 27 (Operand.tmp 2), type := 27, pos := "law.go:54", after := #[], guard := none },
  { dst := some 11, op := Op.call { callee := Callee.value (Operand.func 18), args := #[Operand.tmp 10], argTypes := #[27] }, type := 3, pos := "law.go:54", after := #[{ on := 0, ground := Ground.data }], guard := none },
  { dst := some 12, op := Op.load 27 (Operand.tmp 2), type := 27, pos := "law.go:54", after := #[], guard := none },
  { dst := some 13, op := Op.call { callee := Callee.value (Operand.func 19), args := #[Operand.tmp 12], argTypes := #[27] }, type := 3, pos := "law.go:54", after := #[{ on := 2, ground := Ground.data }, { on := 1, ground := Ground.chain }], guard := none },
  { dst := some 14, op := Op.binOp BinOp.eql 3 (Operand.tmp 11) (Operand.tmp 13) 3, type := 4, pos := "law.go:54", after := #[{ on := 1, ground := Ground.data }, { on := 3, ground := Ground.data }], guard := none },
  { dst := some 15, op := Op.move (Operand.tmp 14), type := 4, pos := "law.go:54", after := #[{ on := 4, ground := Ground.data }, { on := 3, ground := Ground.chain }], guard := none },
  { dst := some 16, op := Op.load 27 (Operand.tmp 2), type := 27, pos := "law.go:54", after := #[{ on := 5, ground := Ground.guard }], guard := some (5, true) },
  { dst := some 17, op := Op.call { callee := Callee.value (Operand.func 20), args := #[Operand.tmp 16], argTypes := #[27] }, type := 38, pos := "law.go:54", after := #[{ on := 6, ground := Ground.data }, { on := 5, ground := Ground.chain }, { on := 5, ground := Ground.guard }], guard := some (5, true) },
  { dst := some 18, op := Op.load 27 (Operand.tmp 2), type := 27, pos := "law.go:54", after := #[{ on := 5, ground := Ground.guard }], guard := some (5, true) },
  { dst := some 19, op := Op.call { callee := Callee.value (Operand.func 21), args := #[Operand.tmp 18], argTypes := #[27] }, type := 38, pos := "law.go:54", after := #[{ on := 8, ground := Ground.data }, { on := 7, ground := Ground.chain }, { on := 5, ground := Ground.guard }], guard := some (5, true) },
  { dst := some 20, op := Op.binOp BinOp.eql 38 (Operand.tmp 17) (Operand.tmp 19) 38, type := 4, pos := "law.go:54", after := #[{ on := 7, ground := Ground.data }, { on := 9, ground := Ground.data }, { on := 5, ground := Ground.guard }], guard := some (5, true) },
  { dst := some 21, op := Op.pick (Operand.tmp 15) (Operand.tmp 20) (Operand.const (Value.bool false)), type := 4, pos := "law.go:54", after := #[{ on := 5, ground := Ground.data }, { on := 10, ground := Ground.data }], guard := none },
  { dst := some 22, op := Op.move (Operand.tmp 21), type := 4, pos := "law.go:54", after := #[{ on := 11, ground := Ground.data }, { on := 9, ground := Ground.chain }], guard := none },
  { dst := some 23, op := Op.load 27 (Operand.tmp 2), type := 27, pos := "law.go:54", after := #[{ on := 12, ground := Ground.guard }], guard := some (12, true) },
  { dst := some 24, op := Op.load 27 (Operand.tmp 3), type := 27, pos := "law.go:54", after := #[{ on := 12, ground := Ground.guard }], guard := some (12, true) },
  { dst := some 25, op := Op.call { callee := Callee.value (Operand.func 22), args := #[Operand.tmp 23, Operand.tmp 24], argTypes := #[27, 27] }, type := 4, pos := "law.go:54", after := #[{ on := 13, ground := Ground.data }, { on := 14, ground := Ground.data }, { on := 12, ground := Ground.chain }, { on := 12, ground := Ground.guard }], guard := some (12, true) },
  { dst := some 26, op := Op.load 27 (Operand.tmp 2), type := 27, pos := "law.go:54", after := #[{ on := 12, ground := Ground.guard }], guard := some (12, true) },
  { dst := some 27, op := Op.load 27 (Operand.tmp 3), type := 27, pos := "law.go:54", after := #[{ on := 12, ground := Ground.guard }], guard := some (12, true) },
  { dst := some 28, op := Op.call { callee := Callee.value (Operand.func 23), args := #[Operand.tmp 26, Operand.tmp 27], argTypes := #[27, 27] }, type := 4, pos := "law.go:54", after := #[{ on := 16, ground := Ground.data }, { on := 17, ground := Ground.data }, { on := 15, ground := Ground.chain }, { on := 12, ground := Ground.guard }], guard := some (12, true) },
  { dst := some 29, op := Op.binOp BinOp.eql 4 (Operand.tmp 25) (Operand.tmp 28) 4, type := 4, pos := "law.go:54", after := #[{ on := 15, ground := Ground.data }, { on := 18, ground := Ground.data }, { on := 12, ground := Ground.guard }], guard := some (12, true) },
  { dst := some 30, op := Op.pick (Operand.tmp 22) (Operand.tmp 29) (Operand.const (Value.bool false)), type := 4, pos := "law.go:54", after := #[{ on := 12, ground := Ground.data }, { on := 19, ground := Ground.data }], guard := none },
  { dst := some 31, op := Op.move (Operand.tmp 30), type := 4, pos := "law.go:54", after := #[{ on := 20, ground := Ground.data }, { on := 18, ground := Ground.chain }], guard := none },
  { dst := some 32, op := Op.load 27 (Operand.tmp 2), type := 27, pos := "law.go:54", after := #[{ on := 21, ground := Ground.guard }], guard := some (21, true) },
  { dst := some 33, op := Op.load 27 (Operand.tmp 2), type := 27, pos := "law.go:54", after := #[{ on := 21, ground := Ground.guard }], guard := some (21, true) },
  { dst := some 34, op := Op.call { callee := Callee.value (Operand.func 22), args := #[Operand.tmp 32, Operand.tmp 33], argTypes := #[27, 27] }, type := 4, pos := "law.go:54", after := #[{ on := 22, ground := Ground.data }, { on := 23, ground := Ground.data }, { on := 21, ground := Ground.chain }, { on := 21, ground := Ground.guard }], guard := some (21, true) },
  { dst := some 35, op := Op.pick (Operand.tmp 31) (Operand.tmp 34) (Operand.const (Value.bool false)), type := 4, pos := "law.go:54", after := #[{ on := 21, ground := Ground.data }, { on := 24, ground := Ground.data }], guard := none },
  { dst := some 36, op := Op.move (Operand.tmp 35), type := 4, pos := "law.go:54", after := #[{ on := 25, ground := Ground.data }, { on := 24, ground := Ground.chain }], guard := none },
  { dst := some 37, op := Op.call { callee := Callee.value (Operand.func 11), args := #[], argTypes := #[] }, type := 4, pos := "law.go:54", after := #[{ on := 26, ground := Ground.chain }, { on := 26, ground := Ground.guard }], guard := some (26, true) },
  { dst := some 38, op := Op.pick (Operand.tmp 36) (Operand.tmp 37) (Operand.const (Value.bool false)), type := 4, pos := "law.go:54", after := #[{ on := 26, ground := Ground.data }, { on := 27, ground := Ground.data }], guard := none },
  { dst := some 4, op := Op.assign (Operand.tmp 38), type := 4, pos := "law.go:54", after := #[{ on := 28, ground := Ground.data }, { on := 27, ground := Ground.chain }, { on := 0, ground := Ground.phase }, { on := 1, ground := Ground.phase }, { on := 2, ground := Ground.phase }, { on := 3, ground := Ground.phase }, { on := 4, ground := Ground.phase }, { on := 5, ground := Ground.phase }, { on := 6, ground := Ground.phase }, { on := 7, ground := Ground.phase }, { on := 8, ground := Ground.phase }, { on := 9, ground := Ground.phase }, { on := 10, ground := Ground.phase }, { on := 11, ground := Ground.phase }, { on := 12, ground := Ground.phase }, { on := 13, ground := Ground.phase }, { on := 14, ground := Ground.phase }, { on := 15, ground := Ground.phase }, { on := 16, ground := Ground.phase }, { on := 17, ground := Ground.phase }, { on := 18, ground := Ground.phase }, { on := 19, ground := Ground.phase }, { on := 20, ground := Ground.phase }, { on := 21, ground := Ground.phase }, { on := 22, ground := Ground.phase }, { on := 23, ground := Ground.phase }, { on := 24, ground := Ground.phase }, { on := 25, ground := Ground.phase }, { on := 26, ground := Ground.phase }, { on := 27, ground := Ground.phase }, { on := 28, ground := Ground.phase }], guard := none }]
def specMy (B1 B2 : Nat) (k n x c : Int) (A : Option Addr) (len cap : Nat) (k2 n2 x2 c2 : Int) (A2 : Option Addr) (len2 cap2 : Nat) (z e1 : Int) (b : Bool) (i : Nat) (v : Value) (w : World) : Prop :=
  match i with
  | 0 => v = .agg #[.int .u8 k, .int .i64 n, .int .i64 x, .int .u8 c, .slice A len cap]
  | 1 => v = .int .i64 z
  | 2 => v = .agg #[.int .u8 k, .int .i64 n, .int .i64 x, .int .u8 c, .slice A len cap]
  | 3 => v = .int .i64 z
  | 4 => v = .bool true
  | 5 => v = .bool true
  | 6 => v = .agg #[.int .u8 k, .int .i64 n, .int .i64 x, .int .u8 c, .slice A len cap]
  | 7 => v = .int .i64 e1
  | 8 => v = .agg #[.int .u8 k, .int .i64 n, .int .i64 x, .int .u8 c, .slice A len cap]
  | 9 => v = .int .i64 e1
  | 10 => v = .bool true
  | 11 => v = .bool true
  | 12 => v = .bool true
  | 13 => v = .agg #[.int .u8 k, .int .i64 n, .int .i64 x, .int .u8 c, .slice A len cap]
  | 14 => v = .agg #[.int .u8 k2, .int .i64 n2, .int .i64 x2, .int .u8 c2, .slice A2 len2 cap2]
  | 15 => v = .bool b
  | 16 => v = .agg #[.int .u8 k, .int .i64 n, .int .i64 x, .int .u8 c, .slice A len cap]
  | 17 => v = .agg #[.int .u8 k2, .int .i64 n2, .int .i64 x2, .int .u8 c2, .slice A2 len2 cap2]
  | 18 => v = .bool b
  | 19 => v = .bool true
  | 20 => v = .bool true
  | 21 => v = .bool true
  | 22 => v = .agg #[.int .u8 k, .int .i64 n, .int .i64 x, .int .u8 c, .slice A len cap]
  | 23 => v = .agg #[.int .u8 k, .int .i64 n, .int .i64 x, .int .u8 c, .slice A len cap]
  | 24 => v = .bool true
  | 25 => v = .bool true
  | 26 => v = .bool true
  | 27 => v = .bool true
  | 28 => v = .bool true
  | _ => True
theorem specMy_mono {B1 B2 : Nat} {k n x c : Int} {A : Option Addr} {len cap : Nat} {k2 n2 x2 c2 : Int} {A2 : Option Addr} {len2 cap2 : Nat} {z e1 : Int} {b : Bool} (i : Nat) (v : Value) (w w' : World) (hi : i < 29) (h : specMy B1 B2 k n x c A len cap k2 n2 x2 c2 A2 len2 cap2 z e1 b i v w) (hb : Bel w w') : specMy B1 B2 k n x c A len cap k2 n2 x2 c2 A2 len2 cap2 z e1 b i v w' := by
  match i, hi, h with
  | 0, _, h => exact h
  | 1, _, h => exact h
  | 2, _, h => exact h
  | 3, _, h => exact h
  | 4, _, h => exact h
  | 5, _, h => exact h
  | 6, _, h => exact h
  | 7, _, h => exact h
  | 8, _, h => exact h
  | 9, _, h => exact h
  | 10, _, h => exact h
  | 11, _, h => exact h
  | 12, _, h => exact h
  | 13, _, h => exact h
  | 14, _, h => exact h
  | 15, _, h => exact h
  | 16, _, h => exact h
  | 17, _, h => exact h
  | 18, _, h => exact h
  | 19, _, h => exact h
  | 20, _, h => exact h
  | 21, _, h => exact h
  | 22, _, h => exact h
  | 23, _, h => exact h
  | 24, _, h => exact h
  | 25, _, h => exact h
  | 26, _, h => exact h
  | 27, _, h => exact h
  | 28, _, h => exact h
  | q + 29, hi, _ => exact absurd hi (by omega)
def acOMy (B1 B2 : Nat) (k n x c : Int) (A : Option Addr) (len cap : Nat) (k2 n2 x2 c2 : Int) (A2 : Option Addr) (len2 cap2 : Nat) (z e1 : Int) (b : Bool) (s0 s1 s4 s5 s6 s7 s8 s9 s10 s11 s12 s13 s14 s15 s16 s17 s18 s19 s20 s21 s22 s23 s24 s25 s26 s27 s28 s29 s30 s31 s32 s33 s34 s35 s36 s37 s38 : Value) (df : List Deferred) : Act := { tmps := #[s0, s1, .pointer (some ⟨B1, 0, none⟩), .pointer (some ⟨B2, 0, none⟩), s4, s5, s6, s7, s8, s9, s10, s11, s12, s13, s14, s15, s16, s17, s18, s19, s20, s21, s22, s23, s24, s25, s26, s27, s28, s29, s30, s31, s32, s33, s34, s35, s36, s37, s38], defers := df }
def acVMy (B1 B2 : Nat) (k n x c : Int) (A : Option Addr) (len cap : Nat) (k2 n2 x2 c2 : Int) (A2 : Option Addr) (len2 cap2 : Nat) (z e1 : Int) (b : Bool) (s0 s1 s4 s5 s6 s7 s8 s9 s10 s11 s12 s13 s14 s15 s16 s17 s18 s19 s20 s21 s22 s23 s24 s25 s26 s27 s28 s29 s30 s31 s32 s33 s34 s35 s36 s37 s38 : Value) (df : List Deferred) (V : Nat → Value) : Act := { tmps := #[s0, s1, .pointer (some ⟨B1, 0, none⟩), .pointer (some ⟨B2, 0, none⟩), s4, s5, s6, s7, s8, s9, V 0, V 1, V 2, V 3, V 4, V 5, V 6, V 7, V 8, V 9, V 10, V 11, V 12, V 13, V 14, V 15, V 16, V 17, V 18, V 19, V 20, V 21, V 22, V 23, V 24, V 25, V 26, V 27, V 28], defers := df }
theorem regMy_tail : tailB .any regMy.toArray 29 = true := by kernel_rfl
theorem regMy_fwd : fwdB regMy.toArray 29 = true := by kernel_rfl
theorem regMy_slots : slotsB regMy.toArray 39 = true := by kernel_rfl
theorem regMy_seq : Region.seqB .any regMy.toArray (regMy.length - 29) 29 (Array.replicate 29 true ++ Array.replicate (regMy.length - 29) false) = true := by kernel_rfl
set_option maxRecDepth 100000 in
set_option maxHeartbeats 8000000 in
theorem regMy_any {id : Nat} (B1 B2 : Nat) (k n x c : Int) (A : Option Addr) (len cap : Nat) (k2 n2 x2 c2 : Int) (A2 : Option Addr) (len2 cap2 : Nat) (z e1 : Int) (b : Bool) (s0 s1 s4 s5 s6 s7 s8 s9 s10 s11 s12 s13 s14 s15 s16 s17 s18 s19 s20 s21 s22 s23 s24 s25 s26 s27 s28 s29 s30 s31 s32 s33 s34 s35 s36 s37 s38 : Value) (df : List Deferred) (w : World) (c1 : w.drew.heap[B1]? = some (.cells #[.int .u8 k, .int .i64 n, .int .i64 x, .int .u8 c, .slice A len cap] 27 (0, 0))) (c2' : w.drew.heap[B2]? = some (.cells #[.int .u8 k2, .int .i64 n2, .int .i64 x2, .int .u8 c2, .slice A2 len2 cap2] 27 (0, 0)))
    (HZ : ∀ W, Bel w.drew W → Calls Tryd.prog 18 #[.agg #[.int .u8 k, .int .i64 n, .int .i64 x, .int .u8 c, .slice A len cap]] W fun e w' => e = .returned (.int .i64 z) ∧ Bel W w') (HZ2 : ∀ W, Bel w.drew W → Calls Tryd.prog 19 #[.agg #[.int .u8 k, .int .i64 n, .int .i64 x, .int .u8 c, .slice A len cap]] W fun e w' => e = .returned (.int .i64 z) ∧ Bel W w')
    (HM : ∀ W, Bel w.drew W → Calls Tryd.prog 20 #[.agg #[.int .u8 k, .int .i64 n, .int .i64 x, .int .u8 c, .slice A len cap]] W fun e w' => e = .returned (.int .i64 e1) ∧ Bel W w') (HM2 : ∀ W, Bel w.drew W → Calls Tryd.prog 21 #[.agg #[.int .u8 k, .int .i64 n, .int .i64 x, .int .u8 c, .slice A len cap]] W fun e w' => e = .returned (.int .i64 e1) ∧ Bel W w')
    (HS : ∀ W, Bel w.drew W → Calls Tryd.prog 22 #[.agg #[.int .u8 k, .int .i64 n, .int .i64 x, .int .u8 c, .slice A len cap], .agg #[.int .u8 k2, .int .i64 n2, .int .i64 x2, .int .u8 c2, .slice A2 len2 cap2]] W fun e w' => e = .returned (.bool b) ∧ Bel W w') (HS2 : ∀ W, Bel w.drew W → Calls Tryd.prog 23 #[.agg #[.int .u8 k, .int .i64 n, .int .i64 x, .int .u8 c, .slice A len cap], .agg #[.int .u8 k2, .int .i64 n2, .int .i64 x2, .int .u8 c2, .slice A2 len2 cap2]] W fun e w' => e = .returned (.bool b) ∧ Bel W w')
    (HS3 : ∀ W, Bel w.drew W → Calls Tryd.prog 22 #[.agg #[.int .u8 k, .int .i64 n, .int .i64 x, .int .u8 c, .slice A len cap], .agg #[.int .u8 k, .int .i64 n, .int .i64 x, .int .u8 c, .slice A len cap]] W fun e w' => e = .returned (.bool true) ∧ Bel W w') (HW : ∀ W, Bel w.drew W → Calls Tryd.prog 11 #[] W fun e w' => e = .returned (.bool true) ∧ Bel W w') (Q : Exit → Act → World → Prop)
    (hend : ∀ (V : Nat → Value) (w' : World), Bel w.drew w' → (V 28) = .bool true → wpList Tryd.prog regMy.toArray Q (regMy.drop 29) (acVMy B1 B2 k n x c A len cap k2 n2 x2 c2 A2 len2 cap2 z e1 b s0 s1 s4 s5 s6 s7 s8 s9 s10 s11 s12 s13 s14 s15 s16 s17 s18 s19 s20 s21 s22 s23 s24 s25 s26 s27 s28 s29 s30 s31 s32 s33 s34 s35 s36 s37 s38 df V) w') :
    (Code.region id regMy.toArray true).wp Tryd.prog Q (acOMy B1 B2 k n x c A len cap k2 n2 x2 c2 A2 len2 cap2 z e1 b s0 s1 s4 s5 s6 s7 s8 s9 s10 s11 s12 s13 s14 s15 s16 s17 s18 s19 s20 s21 s22 s23 s24 s25 s26 s27 s28 s29 s30 s31 s32 s33 s34 s35 s36 s37 s38 df) w := by
  refine wp_region_invG (l := regMy) 29 (acOMy B1 B2 k n x c A len cap k2 n2 x2 c2 A2 len2 cap2 z e1 b s0 s1 s4 s5 s6 s7 s8 s9 s10 s11 s12 s13 s14 s15 s16 s17 s18 s19 s20 s21 s22 s23 s24 s25 s26 s27 s28 s29 s30 s31 s32 s33 s34 s35 s36 s37 s38 df) w (specMy B1 B2 k n x c A len cap k2 n2 x2 c2 A2 len2 cap2 z e1 b) (by kernel_rfl) regMy_tail regMy_fwd regMy_slots regMy_seq (fun i v w w' hi h hb => specMy_mono i v w w' hi h hb) ?_ ?_
  · intro i' o hi' ho a w1 V hbel hdep hpar K hK
    have p2 : a.eval (.tmp 2) = .pointer (some ⟨B1, 0, none⟩) := hpar 2 (by show 2 < 39; decide) (by kernel_rfl)
    have p2' : a.tmps[2]?.getD undef = .pointer (some ⟨B1, 0, none⟩) := by have h := p2; simp only [Act.eval, Array.getD_eq_getD_getElem?] at h; exact h
    have p3 : a.eval (.tmp 3) = .pointer (some ⟨B2, 0, none⟩) := hpar 3 (by show 3 < 39; decide) (by kernel_rfl)
    have p3' : a.tmps[3]?.getD undef = .pointer (some ⟨B2, 0, none⟩) := by have h := p3; simp only [Act.eval, Array.getD_eq_getD_getElem?] at h; exact h
    obtain ⟨⟨m0, m1, m2, m3, m4⟩, _⟩ := cells5 (hbel.blk c1)
    obtain ⟨⟨o0, o1, o2, o3, o4⟩, _⟩ := cells5 (hbel.blk c2')
    match i', hi', ho, hdep, hK with
    | 0, _, ho, hdep, hK =>
      simp only [regMy, List.getElem?_toArray, List.getElem?_cons_zero, Option.some.injEq] at ho
      subst ho
      refine ⟨fun _ => ?_, fun hw => (yw_n rfl hw).elim⟩
      exact wp_val (v := .agg #[.int .u8 k, .int .i64 n, .int .i64 x, .int .u8 c, .slice A len cap]) (w' := w1) (by simp [execOp, go_sem, p2', m0, m1, m2, m3, m4]) (hK _ _ (Bel.refl _) rfl)
    | 1, _, ho, hdep, hK =>
      simp only [regMy, List.getElem?_toArray, List.getElem?_cons_zero, List.getElem?_cons_succ, Option.some.injEq] at ho
      subst ho
      refine ⟨fun _ => ?_, fun hw => (yw_n rfl hw).elim⟩
      obtain ⟨f0, d0⟩ := hdep ⟨0, .data⟩ (by simp) rfl
      have e0 : a.eval (.tmp 10) = .agg #[.int .u8 k, .int .i64 n, .int .i64 x, .int .u8 c, .slice A len cap] := (d0 10 rfl).trans f0
      have e0' : a.tmps[10]?.getD undef = .agg #[.int .u8 k, .int .i64 n, .int .i64 x, .int .u8 c, .slice A len cap] := by have h := e0; simp only [Act.eval, Array.getD_eq_getD_getElem?] at h; exact h
      refine wp_enter (f := 18) (args := #[.agg #[.int .u8 k, .int .i64 n, .int .i64 x, .int .u8 c, .slice A len cap]]) (by simp [go_sem, e0']) ((HZ w1 hbel).mono ?_)
      rintro e w' ⟨rfl, hb⟩
      exact ⟨_, rfl, hK _ _ hb rfl⟩
    | 2, _, ho, hdep, hK =>
      simp only [regMy, List.getElem?_toArray, List.getElem?_cons_zero, List.getElem?_cons_succ, Option.some.injEq] at ho
      subst ho
      refine ⟨fun _ => ?_, fun hw => (yw_n rfl hw).elim⟩
      exact wp_val (v := .agg #[.int .u8 k, .int .i64 n, .int .i64 x, .int .u8 c, .slice A len cap]) (w' := w1) (by simp [execOp, go_sem, p2', m0, m1, m2, m3, m4]) (hK _ _ (Bel.refl _) rfl)
    | 3, _, ho, hdep, hK =>
      simp only [regMy, List.getElem?_toArray, List.getElem?_cons_zero, List.getElem?_cons_succ, Option.some.injEq] at ho
      subst ho
      refine ⟨fun _ => ?_, fun hw => (yw_n rfl hw).elim⟩
      obtain ⟨f2, d2⟩ := hdep ⟨2, .data⟩ (by simp) rfl
      have e2 : a.eval (.tmp 12) = .agg #[.int .u8 k, .int .i64 n, .int .i64 x, .int .u8 c, .slice A len cap] := (d2 12 rfl).trans f2
      have e2' : a.tmps[12]?.getD undef = .agg #[.int .u8 k, .int .i64 n, .int .i64 x, .int .u8 c, .slice A len cap] := by have h := e2; simp only [Act.eval, Array.getD_eq_getD_getElem?] at h; exact h
      refine wp_enter (f := 19) (args := #[.agg #[.int .u8 k, .int .i64 n, .int .i64 x, .int .u8 c, .slice A len cap]]) (by simp [go_sem, e2']) ((HZ2 w1 hbel).mono ?_)
      rintro e w' ⟨rfl, hb⟩
      exact ⟨_, rfl, hK _ _ hb rfl⟩
    | 4, _, ho, hdep, hK =>
      simp only [regMy, List.getElem?_toArray, List.getElem?_cons_zero, List.getElem?_cons_succ, Option.some.injEq] at ho
      subst ho
      refine ⟨fun _ => ?_, fun hw => (yw_n rfl hw).elim⟩
      obtain ⟨f1, d1⟩ := hdep ⟨1, .data⟩ (by simp) rfl
      have e1 : a.eval (.tmp 11) = .int .i64 z := (d1 11 rfl).trans f1
      have e1' : a.tmps[11]?.getD undef = .int .i64 z := by have h := e1; simp only [Act.eval, Array.getD_eq_getD_getElem?] at h; exact h
      obtain ⟨f3, d3⟩ := hdep ⟨3, .data⟩ (by simp) rfl
      have e3 : a.eval (.tmp 13) = .int .i64 z := (d3 13 rfl).trans f3
      have e3' : a.tmps[13]?.getD undef = .int .i64 z := by have h := e3; simp only [Act.eval, Array.getD_eq_getD_getElem?] at h; exact h
      exact wp_val (v := .bool true) (w' := w1) (by simp [execOp, go_sem, e1', e3']) (hK _ _ (Bel.refl _) rfl)
    | 5, _, ho, hdep, hK =>
      simp only [regMy, List.getElem?_toArray, List.getElem?_cons_zero, List.getElem?_cons_succ, Option.some.injEq] at ho
      subst ho
      refine ⟨fun _ => ?_, fun hw => (yw_n rfl hw).elim⟩
      obtain ⟨f4, d4⟩ := hdep ⟨4, .data⟩ (by simp) rfl
      have e4 : a.eval (.tmp 14) = .bool true := (d4 14 rfl).trans f4
      have e4' : a.tmps[14]?.getD undef = .bool true := by have h := e4; simp only [Act.eval, Array.getD_eq_getD_getElem?] at h; exact h
      exact wp_val (v := .bool true) (w' := w1) (by simp [execOp, go_sem, e4']) (hK _ _ (Bel.refl _) rfl)
    | 6, _, ho, hdep, hK =>
      simp only [regMy, List.getElem?_toArray, List.getElem?_cons_zero, List.getElem?_cons_succ, Option.some.injEq] at ho
      subst ho
      obtain ⟨fg, dg⟩ := hdep ⟨5, .guard⟩ (by simp) rfl
      have eg : a.tmps.getD 15 undef = .bool true := (dg 15 rfl).trans fg
      refine ⟨fun _ => ?_, fun hw => (yw_t (d := 15) rfl rfl eg hw).elim⟩
      exact wp_val (v := .agg #[.int .u8 k, .int .i64 n, .int .i64 x, .int .u8 c, .slice A len cap]) (w' := w1) (by simp [execOp, go_sem, p2', m0, m1, m2, m3, m4]) (hK _ _ (Bel.refl _) rfl)
    | 7, _, ho, hdep, hK =>
      simp only [regMy, List.getElem?_toArray, List.getElem?_cons_zero, List.getElem?_cons_succ, Option.some.injEq] at ho
      subst ho
      obtain ⟨fg, dg⟩ := hdep ⟨5, .guard⟩ (by simp) rfl
      have eg : a.tmps.getD 15 undef = .bool true := (dg 15 rfl).trans fg
      refine ⟨fun _ => ?_, fun hw => (yw_t (d := 15) rfl rfl eg hw).elim⟩
      obtain ⟨f6, d6⟩ := hdep ⟨6, .data⟩ (by simp) rfl
      have e6 : a.eval (.tmp 16) = .agg #[.int .u8 k, .int .i64 n, .int .i64 x, .int .u8 c, .slice A len cap] := (d6 16 rfl).trans f6
      have e6' : a.tmps[16]?.getD undef = .agg #[.int .u8 k, .int .i64 n, .int .i64 x, .int .u8 c, .slice A len cap] := by have h := e6; simp only [Act.eval, Array.getD_eq_getD_getElem?] at h; exact h
      refine wp_enter (f := 20) (args := #[.agg #[.int .u8 k, .int .i64 n, .int .i64 x, .int .u8 c, .slice A len cap]]) (by simp [go_sem, e6']) ((HM w1 hbel).mono ?_)
      rintro e w' ⟨rfl, hb⟩
      exact ⟨_, rfl, hK _ _ hb rfl⟩
    | 8, _, ho, hdep, hK =>
      simp only [regMy, List.getElem?_toArray, List.getElem?_cons_zero, List.getElem?_cons_succ, Option.some.injEq] at ho
      subst ho
      obtain ⟨fg, dg⟩ := hdep ⟨5, .guard⟩ (by simp) rfl
      have eg : a.tmps.getD 15 undef = .bool true := (dg 15 rfl).trans fg
      refine ⟨fun _ => ?_, fun hw => (yw_t (d := 15) rfl rfl eg hw).elim⟩
      exact wp_val (v := .agg #[.int .u8 k, .int .i64 n, .int .i64 x, .int .u8 c, .slice A len cap]) (w' := w1) (by simp [execOp, go_sem, p2', m0, m1, m2, m3, m4]) (hK _ _ (Bel.refl _) rfl)
    | 9, _, ho, hdep, hK =>
      simp only [regMy, List.getElem?_toArray, List.getElem?_cons_zero, List.getElem?_cons_succ, Option.some.injEq] at ho
      subst ho
      obtain ⟨fg, dg⟩ := hdep ⟨5, .guard⟩ (by simp) rfl
      have eg : a.tmps.getD 15 undef = .bool true := (dg 15 rfl).trans fg
      refine ⟨fun _ => ?_, fun hw => (yw_t (d := 15) rfl rfl eg hw).elim⟩
      obtain ⟨f8, d8⟩ := hdep ⟨8, .data⟩ (by simp) rfl
      have e8 : a.eval (.tmp 18) = .agg #[.int .u8 k, .int .i64 n, .int .i64 x, .int .u8 c, .slice A len cap] := (d8 18 rfl).trans f8
      have e8' : a.tmps[18]?.getD undef = .agg #[.int .u8 k, .int .i64 n, .int .i64 x, .int .u8 c, .slice A len cap] := by have h := e8; simp only [Act.eval, Array.getD_eq_getD_getElem?] at h; exact h
      refine wp_enter (f := 21) (args := #[.agg #[.int .u8 k, .int .i64 n, .int .i64 x, .int .u8 c, .slice A len cap]]) (by simp [go_sem, e8']) ((HM2 w1 hbel).mono ?_)
      rintro e w' ⟨rfl, hb⟩
      exact ⟨_, rfl, hK _ _ hb rfl⟩
    | 10, _, ho, hdep, hK =>
      simp only [regMy, List.getElem?_toArray, List.getElem?_cons_zero, List.getElem?_cons_succ, Option.some.injEq] at ho
      subst ho
      obtain ⟨fg, dg⟩ := hdep ⟨5, .guard⟩ (by simp) rfl
      have eg : a.tmps.getD 15 undef = .bool true := (dg 15 rfl).trans fg
      refine ⟨fun _ => ?_, fun hw => (yw_t (d := 15) rfl rfl eg hw).elim⟩
      obtain ⟨f7, d7⟩ := hdep ⟨7, .data⟩ (by simp) rfl
      have e7 : a.eval (.tmp 17) = .int .i64 e1 := (d7 17 rfl).trans f7
      have e7' : a.tmps[17]?.getD undef = .int .i64 e1 := by have h := e7; simp only [Act.eval, Array.getD_eq_getD_getElem?] at h; exact h
      obtain ⟨f9, d9⟩ := hdep ⟨9, .data⟩ (by simp) rfl
      have e9 : a.eval (.tmp 19) = .int .i64 e1 := (d9 19 rfl).trans f9
      have e9' : a.tmps[19]?.getD undef = .int .i64 e1 := by have h := e9; simp only [Act.eval, Array.getD_eq_getD_getElem?] at h; exact h
      exact wp_val (v := .bool true) (w' := w1) (by simp [execOp, go_sem, e7', e9']) (hK _ _ (Bel.refl _) rfl)
    | 11, _, ho, hdep, hK =>
      simp only [regMy, List.getElem?_toArray, List.getElem?_cons_zero, List.getElem?_cons_succ, Option.some.injEq] at ho
      subst ho
      refine ⟨fun _ => ?_, fun hw => (yw_n rfl hw).elim⟩
      obtain ⟨f5, d5⟩ := hdep ⟨5, .data⟩ (by simp) rfl
      have e5 : a.eval (.tmp 15) = .bool true := (d5 15 rfl).trans f5
      have e5' : a.tmps[15]?.getD undef = .bool true := by have h := e5; simp only [Act.eval, Array.getD_eq_getD_getElem?] at h; exact h
      obtain ⟨f10, d10⟩ := hdep ⟨10, .data⟩ (by simp) rfl
      have e10 : a.eval (.tmp 20) = .bool true := (d10 20 rfl).trans f10
      have e10' : a.tmps[20]?.getD undef = .bool true := by have h := e10; simp only [Act.eval, Array.getD_eq_getD_getElem?] at h; exact h
      exact wp_val (v := .bool true) (w' := w1) (by simp [execOp, go_sem, e5', e10']) (hK _ _ (Bel.refl _) rfl)
    | 12, _, ho, hdep, hK =>
      simp only [regMy, List.getElem?_toArray, List.getElem?_cons_zero, List.getElem?_cons_succ, Option.some.injEq] at ho
      subst ho
      refine ⟨fun _ => ?_, fun hw => (yw_n rfl hw).elim⟩
      obtain ⟨f11, d11⟩ := hdep ⟨11, .data⟩ (by simp) rfl
      have e11 : a.eval (.tmp 21) = .bool true := (d11 21 rfl).trans f11
      have e11' : a.tmps[21]?.getD undef = .bool true := by have h := e11; simp only [Act.eval, Array.getD_eq_getD_getElem?] at h; exact h
      exact wp_val (v := .bool true) (w' := w1) (by simp [execOp, go_sem, e11']) (hK _ _ (Bel.refl _) rfl)
    | 13, _, ho, hdep, hK =>
      simp only [regMy, List.getElem?_toArray, List.getElem?_cons_zero, List.getElem?_cons_succ, Option.some.injEq] at ho
      subst ho
      obtain ⟨fg, dg⟩ := hdep ⟨12, .guard⟩ (by simp) rfl
      have eg : a.tmps.getD 22 undef = .bool true := (dg 22 rfl).trans fg
      refine ⟨fun _ => ?_, fun hw => (yw_t (d := 22) rfl rfl eg hw).elim⟩
      exact wp_val (v := .agg #[.int .u8 k, .int .i64 n, .int .i64 x, .int .u8 c, .slice A len cap]) (w' := w1) (by simp [execOp, go_sem, p2', m0, m1, m2, m3, m4]) (hK _ _ (Bel.refl _) rfl)
    | 14, _, ho, hdep, hK =>
      simp only [regMy, List.getElem?_toArray, List.getElem?_cons_zero, List.getElem?_cons_succ, Option.some.injEq] at ho
      subst ho
      obtain ⟨fg, dg⟩ := hdep ⟨12, .guard⟩ (by simp) rfl
      have eg : a.tmps.getD 22 undef = .bool true := (dg 22 rfl).trans fg
      refine ⟨fun _ => ?_, fun hw => (yw_t (d := 22) rfl rfl eg hw).elim⟩
      exact wp_val (v := .agg #[.int .u8 k2, .int .i64 n2, .int .i64 x2, .int .u8 c2, .slice A2 len2 cap2]) (w' := w1) (by simp [execOp, go_sem, p3', o0, o1, o2, o3, o4]) (hK _ _ (Bel.refl _) rfl)
    | 15, _, ho, hdep, hK =>
      simp only [regMy, List.getElem?_toArray, List.getElem?_cons_zero, List.getElem?_cons_succ, Option.some.injEq] at ho
      subst ho
      obtain ⟨fg, dg⟩ := hdep ⟨12, .guard⟩ (by simp) rfl
      have eg : a.tmps.getD 22 undef = .bool true := (dg 22 rfl).trans fg
      refine ⟨fun _ => ?_, fun hw => (yw_t (d := 22) rfl rfl eg hw).elim⟩
      obtain ⟨f13, d13⟩ := hdep ⟨13, .data⟩ (by simp) rfl
      have e13 : a.eval (.tmp 23) = .agg #[.int .u8 k, .int .i64 n, .int .i64 x, .int .u8 c, .slice A len cap] := (d13 23 rfl).trans f13
      have e13' : a.tmps[23]?.getD undef = .agg #[.int .u8 k, .int .i64 n, .int .i64 x, .int .u8 c, .slice A len cap] := by have h := e13; simp only [Act.eval, Array.getD_eq_getD_getElem?] at h; exact h
      obtain ⟨f14, d14⟩ := hdep ⟨14, .data⟩ (by simp) rfl
      have e14 : a.eval (.tmp 24) = .agg #[.int .u8 k2, .int .i64 n2, .int .i64 x2, .int .u8 c2, .slice A2 len2 cap2] := (d14 24 rfl).trans f14
      have e14' : a.tmps[24]?.getD undef = .agg #[.int .u8 k2, .int .i64 n2, .int .i64 x2, .int .u8 c2, .slice A2 len2 cap2] := by have h := e14; simp only [Act.eval, Array.getD_eq_getD_getElem?] at h; exact h
      refine wp_enter (f := 22) (args := #[.agg #[.int .u8 k, .int .i64 n, .int .i64 x, .int .u8 c, .slice A len cap], .agg #[.int .u8 k2, .int .i64 n2, .int .i64 x2, .int .u8 c2, .slice A2 len2 cap2]]) (by simp [go_sem, e13', e14']) ((HS w1 hbel).mono ?_)
      rintro e w' ⟨rfl, hb⟩
      exact ⟨_, rfl, hK _ _ hb rfl⟩
    | 16, _, ho, hdep, hK =>
      simp only [regMy, List.getElem?_toArray, List.getElem?_cons_zero, List.getElem?_cons_succ, Option.some.injEq] at ho
      subst ho
      obtain ⟨fg, dg⟩ := hdep ⟨12, .guard⟩ (by simp) rfl
      have eg : a.tmps.getD 22 undef = .bool true := (dg 22 rfl).trans fg
      refine ⟨fun _ => ?_, fun hw => (yw_t (d := 22) rfl rfl eg hw).elim⟩
      exact wp_val (v := .agg #[.int .u8 k, .int .i64 n, .int .i64 x, .int .u8 c, .slice A len cap]) (w' := w1) (by simp [execOp, go_sem, p2', m0, m1, m2, m3, m4]) (hK _ _ (Bel.refl _) rfl)
    | 17, _, ho, hdep, hK =>
      simp only [regMy, List.getElem?_toArray, List.getElem?_cons_zero, List.getElem?_cons_succ, Option.some.injEq] at ho
      subst ho
      obtain ⟨fg, dg⟩ := hdep ⟨12, .guard⟩ (by simp) rfl
      have eg : a.tmps.getD 22 undef = .bool true := (dg 22 rfl).trans fg
      refine ⟨fun _ => ?_, fun hw => (yw_t (d := 22) rfl rfl eg hw).elim⟩
      exact wp_val (v := .agg #[.int .u8 k2, .int .i64 n2, .int .i64 x2, .int .u8 c2, .slice A2 len2 cap2]) (w' := w1) (by simp [execOp, go_sem, p3', o0, o1, o2, o3, o4]) (hK _ _ (Bel.refl _) rfl)
    | 18, _, ho, hdep, hK =>
      simp only [regMy, List.getElem?_toArray, List.getElem?_cons_zero, List.getElem?_cons_succ, Option.some.injEq] at ho
      subst ho
      obtain ⟨fg, dg⟩ := hdep ⟨12, .guard⟩ (by simp) rfl
      have eg : a.tmps.getD 22 undef = .bool true := (dg 22 rfl).trans fg
      refine ⟨fun _ => ?_, fun hw => (yw_t (d := 22) rfl rfl eg hw).elim⟩
      obtain ⟨f16, d16⟩ := hdep ⟨16, .data⟩ (by simp) rfl
      have e16 : a.eval (.tmp 26) = .agg #[.int .u8 k, .int .i64 n, .int .i64 x, .int .u8 c, .slice A len cap] := (d16 26 rfl).trans f16
      have e16' : a.tmps[26]?.getD undef = .agg #[.int .u8 k, .int .i64 n, .int .i64 x, .int .u8 c, .slice A len cap] := by have h := e16; simp only [Act.eval, Array.getD_eq_getD_getElem?] at h; exact h
      obtain ⟨f17, d17⟩ := hdep ⟨17, .data⟩ (by simp) rfl
      have e17 : a.eval (.tmp 27) = .agg #[.int .u8 k2, .int .i64 n2, .int .i64 x2, .int .u8 c2, .slice A2 len2 cap2] := (d17 27 rfl).trans f17
      have e17' : a.tmps[27]?.getD undef = .agg #[.int .u8 k2, .int .i64 n2, .int .i64 x2, .int .u8 c2, .slice A2 len2 cap2] := by have h := e17; simp only [Act.eval, Array.getD_eq_getD_getElem?] at h; exact h
      refine wp_enter (f := 23) (args := #[.agg #[.int .u8 k, .int .i64 n, .int .i64 x, .int .u8 c, .slice A len cap], .agg #[.int .u8 k2, .int .i64 n2, .int .i64 x2, .int .u8 c2, .slice A2 len2 cap2]]) (by simp [go_sem, e16', e17']) ((HS2 w1 hbel).mono ?_)
      rintro e w' ⟨rfl, hb⟩
      exact ⟨_, rfl, hK _ _ hb rfl⟩
    | 19, _, ho, hdep, hK =>
      simp only [regMy, List.getElem?_toArray, List.getElem?_cons_zero, List.getElem?_cons_succ, Option.some.injEq] at ho
      subst ho
      obtain ⟨fg, dg⟩ := hdep ⟨12, .guard⟩ (by simp) rfl
      have eg : a.tmps.getD 22 undef = .bool true := (dg 22 rfl).trans fg
      refine ⟨fun _ => ?_, fun hw => (yw_t (d := 22) rfl rfl eg hw).elim⟩
      obtain ⟨f15, d15⟩ := hdep ⟨15, .data⟩ (by simp) rfl
      have e15 : a.eval (.tmp 25) = .bool b := (d15 25 rfl).trans f15
      have e15' : a.tmps[25]?.getD undef = .bool b := by have h := e15; simp only [Act.eval, Array.getD_eq_getD_getElem?] at h; exact h
      obtain ⟨f18, d18⟩ := hdep ⟨18, .data⟩ (by simp) rfl
      have e18 : a.eval (.tmp 28) = .bool b := (d18 28 rfl).trans f18
      have e18' : a.tmps[28]?.getD undef = .bool b := by have h := e18; simp only [Act.eval, Array.getD_eq_getD_getElem?] at h; exact h
      exact wp_val (v := .bool true) (w' := w1) (by simp [execOp, go_sem, e15', e18']) (hK _ _ (Bel.refl _) rfl)
    | 20, _, ho, hdep, hK =>
      simp only [regMy, List.getElem?_toArray, List.getElem?_cons_zero, List.getElem?_cons_succ, Option.some.injEq] at ho
      subst ho
      refine ⟨fun _ => ?_, fun hw => (yw_n rfl hw).elim⟩
      obtain ⟨f12, d12⟩ := hdep ⟨12, .data⟩ (by simp) rfl
      have e12 : a.eval (.tmp 22) = .bool true := (d12 22 rfl).trans f12
      have e12' : a.tmps[22]?.getD undef = .bool true := by have h := e12; simp only [Act.eval, Array.getD_eq_getD_getElem?] at h; exact h
      obtain ⟨f19, d19⟩ := hdep ⟨19, .data⟩ (by simp) rfl
      have e19 : a.eval (.tmp 29) = .bool true := (d19 29 rfl).trans f19
      have e19' : a.tmps[29]?.getD undef = .bool true := by have h := e19; simp only [Act.eval, Array.getD_eq_getD_getElem?] at h; exact h
      exact wp_val (v := .bool true) (w' := w1) (by simp [execOp, go_sem, e12', e19']) (hK _ _ (Bel.refl _) rfl)
    | 21, _, ho, hdep, hK =>
      simp only [regMy, List.getElem?_toArray, List.getElem?_cons_zero, List.getElem?_cons_succ, Option.some.injEq] at ho
      subst ho
      refine ⟨fun _ => ?_, fun hw => (yw_n rfl hw).elim⟩
      obtain ⟨f20, d20⟩ := hdep ⟨20, .data⟩ (by simp) rfl
      have e20 : a.eval (.tmp 30) = .bool true := (d20 30 rfl).trans f20
      have e20' : a.tmps[30]?.getD undef = .bool true := by have h := e20; simp only [Act.eval, Array.getD_eq_getD_getElem?] at h; exact h
      exact wp_val (v := .bool true) (w' := w1) (by simp [execOp, go_sem, e20']) (hK _ _ (Bel.refl _) rfl)
    | 22, _, ho, hdep, hK =>
      simp only [regMy, List.getElem?_toArray, List.getElem?_cons_zero, List.getElem?_cons_succ, Option.some.injEq] at ho
      subst ho
      obtain ⟨fg, dg⟩ := hdep ⟨21, .guard⟩ (by simp) rfl
      have eg : a.tmps.getD 31 undef = .bool true := (dg 31 rfl).trans fg
      refine ⟨fun _ => ?_, fun hw => (yw_t (d := 31) rfl rfl eg hw).elim⟩
      exact wp_val (v := .agg #[.int .u8 k, .int .i64 n, .int .i64 x, .int .u8 c, .slice A len cap]) (w' := w1) (by simp [execOp, go_sem, p2', m0, m1, m2, m3, m4]) (hK _ _ (Bel.refl _) rfl)
    | 23, _, ho, hdep, hK =>
      simp only [regMy, List.getElem?_toArray, List.getElem?_cons_zero, List.getElem?_cons_succ, Option.some.injEq] at ho
      subst ho
      obtain ⟨fg, dg⟩ := hdep ⟨21, .guard⟩ (by simp) rfl
      have eg : a.tmps.getD 31 undef = .bool true := (dg 31 rfl).trans fg
      refine ⟨fun _ => ?_, fun hw => (yw_t (d := 31) rfl rfl eg hw).elim⟩
      exact wp_val (v := .agg #[.int .u8 k, .int .i64 n, .int .i64 x, .int .u8 c, .slice A len cap]) (w' := w1) (by simp [execOp, go_sem, p2', m0, m1, m2, m3, m4]) (hK _ _ (Bel.refl _) rfl)
    | 24, _, ho, hdep, hK =>
      simp only [regMy, List.getElem?_toArray, List.getElem?_cons_zero, List.getElem?_cons_succ, Option.some.injEq] at ho
      subst ho
      obtain ⟨fg, dg⟩ := hdep ⟨21, .guard⟩ (by simp) rfl
      have eg : a.tmps.getD 31 undef = .bool true := (dg 31 rfl).trans fg
      refine ⟨fun _ => ?_, fun hw => (yw_t (d := 31) rfl rfl eg hw).elim⟩
      obtain ⟨f22, d22⟩ := hdep ⟨22, .data⟩ (by simp) rfl
      have e22 : a.eval (.tmp 32) = .agg #[.int .u8 k, .int .i64 n, .int .i64 x, .int .u8 c, .slice A len cap] := (d22 32 rfl).trans f22
      have e22' : a.tmps[32]?.getD undef = .agg #[.int .u8 k, .int .i64 n, .int .i64 x, .int .u8 c, .slice A len cap] := by have h := e22; simp only [Act.eval, Array.getD_eq_getD_getElem?] at h; exact h
      obtain ⟨f23, d23⟩ := hdep ⟨23, .data⟩ (by simp) rfl
      have e23 : a.eval (.tmp 33) = .agg #[.int .u8 k, .int .i64 n, .int .i64 x, .int .u8 c, .slice A len cap] := (d23 33 rfl).trans f23
      have e23' : a.tmps[33]?.getD undef = .agg #[.int .u8 k, .int .i64 n, .int .i64 x, .int .u8 c, .slice A len cap] := by have h := e23; simp only [Act.eval, Array.getD_eq_getD_getElem?] at h; exact h
      refine wp_enter (f := 22) (args := #[.agg #[.int .u8 k, .int .i64 n, .int .i64 x, .int .u8 c, .slice A len cap], .agg #[.int .u8 k, .int .i64 n, .int .i64 x, .int .u8 c, .slice A len cap]]) (by simp [go_sem, e22', e23']) ((HS3 w1 hbel).mono ?_)
      rintro e w' ⟨rfl, hb⟩
      exact ⟨_, rfl, hK _ _ hb rfl⟩
    | 25, _, ho, hdep, hK =>
      simp only [regMy, List.getElem?_toArray, List.getElem?_cons_zero, List.getElem?_cons_succ, Option.some.injEq] at ho
      subst ho
      refine ⟨fun _ => ?_, fun hw => (yw_n rfl hw).elim⟩
      obtain ⟨f21, d21⟩ := hdep ⟨21, .data⟩ (by simp) rfl
      have e21 : a.eval (.tmp 31) = .bool true := (d21 31 rfl).trans f21
      have e21' : a.tmps[31]?.getD undef = .bool true := by have h := e21; simp only [Act.eval, Array.getD_eq_getD_getElem?] at h; exact h
      obtain ⟨f24, d24⟩ := hdep ⟨24, .data⟩ (by simp) rfl
      have e24 : a.eval (.tmp 34) = .bool true := (d24 34 rfl).trans f24
      have e24' : a.tmps[34]?.getD undef = .bool true := by have h := e24; simp only [Act.eval, Array.getD_eq_getD_getElem?] at h; exact h
      exact wp_val (v := .bool true) (w' := w1) (by simp [execOp, go_sem, e21', e24']) (hK _ _ (Bel.refl _) rfl)
    | 26, _, ho, hdep, hK =>
      simp only [regMy, List.getElem?_toArray, List.getElem?_cons_zero, List.getElem?_cons_succ, Option.some.injEq] at ho
      subst ho
      refine ⟨fun _ => ?_, fun hw => (yw_n rfl hw).elim⟩
      obtain ⟨f25, d25⟩ := hdep ⟨25, .data⟩ (by simp) rfl
      have e25 : a.eval (.tmp 35) = .bool true := (d25 35 rfl).trans f25
      have e25' : a.tmps[35]?.getD undef = .bool true := by have h := e25; simp only [Act.eval, Array.getD_eq_getD_getElem?] at h; exact h
      exact wp_val (v := .bool true) (w' := w1) (by simp [execOp, go_sem, e25']) (hK _ _ (Bel.refl _) rfl)
    | 27, _, ho, hdep, hK =>
      simp only [regMy, List.getElem?_toArray, List.getElem?_cons_zero, List.getElem?_cons_succ, Option.some.injEq] at ho
      subst ho
      obtain ⟨fg, dg⟩ := hdep ⟨26, .guard⟩ (by simp) rfl
      have eg : a.tmps.getD 36 undef = .bool true := (dg 36 rfl).trans fg
      refine ⟨fun _ => ?_, fun hw => (yw_t (d := 36) rfl rfl eg hw).elim⟩
      refine wp_enter (f := 11) (args := #[]) (by simp [go_sem]) ((HW w1 hbel).mono ?_)
      rintro e w' ⟨rfl, hb⟩
      exact ⟨_, rfl, hK _ _ hb rfl⟩
    | 28, _, ho, hdep, hK =>
      simp only [regMy, List.getElem?_toArray, List.getElem?_cons_zero, List.getElem?_cons_succ, Option.some.injEq] at ho
      subst ho
      refine ⟨fun _ => ?_, fun hw => (yw_n rfl hw).elim⟩
      obtain ⟨f26, d26⟩ := hdep ⟨26, .data⟩ (by simp) rfl
      have e26 : a.eval (.tmp 36) = .bool true := (d26 36 rfl).trans f26
      have e26' : a.tmps[36]?.getD undef = .bool true := by have h := e26; simp only [Act.eval, Array.getD_eq_getD_getElem?] at h; exact h
      obtain ⟨f27, d27⟩ := hdep ⟨27, .data⟩ (by simp) rfl
      have e27 : a.eval (.tmp 37) = .bool true := (d27 37 rfl).trans f27
      have e27' : a.tmps[37]?.getD undef = .bool true := by have h := e27; simp only [Act.eval, Array.getD_eq_getD_getElem?] at h; exact h
      exact wp_val (v := .bool true) (w' := w1) (by simp [execOp, go_sem, e26', e27']) (hK _ _ (Bel.refl _) rfl)
    | q + 29, hi, _, _, _ => exact absurd hi (by omega)
  · intro V w' hb hF
    have e : finA regMy.toArray 29 V (acOMy B1 B2 k n x c A len cap k2 n2 x2 c2 A2 len2 cap2 z e1 b s0 s1 s4 s5 s6 s7 s8 s9 s10 s11 s12 s13 s14 s15 s16 s17 s18 s19 s20 s21 s22 s23 s24 s25 s26 s27 s28 s29 s30 s31 s32 s33 s34 s35 s36 s37 s38 df) = acVMy B1 B2 k n x c A len cap k2 n2 x2 c2 A2 len2 cap2 z e1 b s0 s1 s4 s5 s6 s7 s8 s9 s10 s11 s12 s13 s14 s15 s16 s17 s18 s19 s20 s21 s22 s23 s24 s25 s26 s27 s28 s29 s30 s31 s32 s33 s34 s35 s36 s37 s38 df V := by kernel_rfl
    rw [e]
    exact hend V w' hb (hF 28 (by omega))
end Go.Proofs.YtomojelaookacaaDoor.Mu

