/-
  The statement TyKnown, walked.
-/
import Derived.Test.YtomojelaookacaaDoorSolversG
import Derived.Test.YtomojelaookacaaDoorTyInjL
import Derived.Test.YtomojelaookacaaDoorTyMkW
namespace Go.Proofs.YtomojelaookacaaDoor.Mu
open Go.ChangeShapes Go.WideShapes Go.ChangeAt Go.RowKit Go.Shelf

attribute [local go_sem] Oper.semAt_some
set_option linter.unusedVariables false

theorem RNm.upK {w w' : World} {A : Option Addr} {n : Nat} {ts : List (List UInt8)} (h : RNm w w.heap.size A n ts) (hb : Bel w w') : RNm w' w'.heap.size A n ts :=
  ⟨h.1, fun h0 => by
    obtain ⟨b, off, e, hl, hc⟩ := h.2 h0
    exact ⟨b, off, e, Nat.lt_of_lt_of_le hl hb.size, fun j s hs => (hb.cell (p := ⟨b, off + j, none⟩) hl).trans (hc j s hs)⟩⟩
theorem known_text (k n v c : Int) (A : Option Addr) (len cap : Nat) (kids : Fo) (nm : List (List UInt8)) (lit : List UInt8) (N : Option Addr) (nn nc : Nat) (w : World) (h : KidsAt w (Old w) A len cap kids) (hwell : (Fo.cons k n v c kids .nil).well = true) (hsz : kids.size ≤ 1400000) (hT : Tabs w) (hnm : RNm w w.heap.size N nn nm) (hnn : nn ≤ 9223372036854775807)
    (e : Fo.one nm (.cons k n v c kids .nil) 0 = lit) (hlen : lit.length ≤ 140737488355328) :
    Calls Tryd.prog 12 #[.agg #[.int .u8 k, .int .i64 n, .int .i64 v, .int .u8 c, .slice A len cap], .slice N nn nc] w fun e w' => e = .returned (.string ⟨lit.toArray⟩) ∧ Bel w w' := by
  have := ttext_any k n v c A len cap kids nm N nn nc w h hwell hsz hT hnm hnn (by rw [e]; exact hlen)
  rw [e] at this
  exact this
def regKn : List Oper := [
  { dst := some 5, op := Op.call { callee := Callee.value (Operand.func 11), args := #[], argTypes := #[] }, type := 4, pos := "law.go:37", after := #[], guard := none },
  { dst := some 6, op := Op.move (Operand.tmp 5), type := 4, pos := "law.go:37", after := #[{ on := 0, ground := Ground.data }, { on := 0, ground := Ground.chain }], guard := none },
  { dst := some 7, op := Op.load 27 (Operand.tmp 1), type := 27, pos := "law.go:37", after := #[{ on := 1, ground := Ground.guard }], guard := some (1, true) },
  { dst := some 8, op := Op.build 24 #[(1, Operand.const (Value.int IntKind.u8 1))], type := 24, pos := "law.go:37", after := #[{ on := 1, ground := Ground.guard }], guard := some (1, true) },
  { dst := some 9, op := Op.call { callee := Callee.value (Operand.func 14), args := #[Operand.const (Value.int IntKind.u8 2), Operand.const (Value.slice none 0 0)], argTypes := #[5, 25] }, type := 27, pos := "law.go:37", after := #[{ on := 1, ground := Ground.chain }, { on := 1, ground := Ground.guard }], guard := some (1, true) },
  { dst := some 10, op := Op.call { callee := Callee.value (Operand.func 13), args := #[Operand.tmp 7, Operand.tmp 8, Operand.tmp 9], argTypes := #[27, 24, 27] }, type := 27, pos := "law.go:37", after := #[{ on := 2, ground := Ground.data }, { on := 3, ground := Ground.data }, { on := 4, ground := Ground.data }, { on := 4, ground := Ground.chain }, { on := 1, ground := Ground.guard }], guard := some (1, true) },
  { dst := some 11, op := Op.call { callee := Callee.value (Operand.func 15), args := #[], argTypes := #[] }, type := 33, pos := "law.go:37", after := #[{ on := 5, ground := Ground.chain }, { on := 1, ground := Ground.guard }], guard := some (1, true) },
  { dst := some 12, op := Op.call { callee := Callee.value (Operand.func 12), args := #[Operand.tmp 10, Operand.tmp 11], argTypes := #[27, 33] }, type := 9, pos := "law.go:37", after := #[{ on := 5, ground := Ground.data }, { on := 6, ground := Ground.data }, { on := 6, ground := Ground.chain }, { on := 1, ground := Ground.guard }], guard := some (1, true) },
  { dst := some 13, op := Op.binOp BinOp.eql 9 (Operand.tmp 12) (Operand.const (Value.string { data := #[97, 48, 32, 45, 49, 62, 32, 73, 110, 116] })) 9, type := 4, pos := "law.go:37", after := #[{ on := 7, ground := Ground.data }, { on := 1, ground := Ground.guard }], guard := some (1, true) },
  { dst := some 14, op := Op.pick (Operand.tmp 6) (Operand.tmp 13) (Operand.const (Value.bool false)), type := 4, pos := "law.go:37", after := #[{ on := 1, ground := Ground.data }, { on := 8, ground := Ground.data }], guard := none },
  { dst := some 15, op := Op.move (Operand.tmp 14), type := 4, pos := "law.go:37", after := #[{ on := 9, ground := Ground.data }, { on := 7, ground := Ground.chain }], guard := none },
  { dst := some 16, op := Op.load 27 (Operand.tmp 1), type := 27, pos := "law.go:37", after := #[{ on := 10, ground := Ground.guard }], guard := some (10, true) },
  { dst := some 17, op := Op.load 24 (Operand.tmp 2), type := 24, pos := "law.go:37", after := #[{ on := 10, ground := Ground.guard }], guard := some (10, true) },
  { dst := some 18, op := Op.load 27 (Operand.tmp 1), type := 27, pos := "law.go:37", after := #[{ on := 10, ground := Ground.guard }], guard := some (10, true) },
  { dst := some 19, op := Op.call { callee := Callee.value (Operand.func 13), args := #[Operand.tmp 16, Operand.tmp 17, Operand.tmp 18], argTypes := #[27, 24, 27] }, type := 27, pos := "law.go:37", after := #[{ on := 11, ground := Ground.data }, { on := 12, ground := Ground.data }, { on := 13, ground := Ground.data }, { on := 10, ground := Ground.chain }, { on := 10, ground := Ground.guard }], guard := some (10, true) },
  { dst := some 20, op := Op.build 24 #[(1, Operand.const (Value.int IntKind.u8 3))], type := 24, pos := "law.go:37", after := #[{ on := 10, ground := Ground.guard }], guard := some (10, true) },
  { dst := some 21, op := Op.load 27 (Operand.tmp 1), type := 27, pos := "law.go:37", after := #[{ on := 10, ground := Ground.guard }], guard := some (10, true) },
  { dst := some 22, op := Op.buildSlice 25 1 #[(0, Operand.tmp 21)], type := 25, pos := "law.go:37", after := #[{ on := 16, ground := Ground.data }, { on := 10, ground := Ground.guard }], guard := some (10, true) },
  { dst := some 23, op := Op.call { callee := Callee.value (Operand.func 16), args := #[Operand.const (Value.int IntKind.i64 1), Operand.tmp 22], argTypes := #[3, 25] }, type := 27, pos := "law.go:37", after := #[{ on := 17, ground := Ground.data }, { on := 14, ground := Ground.chain }, { on := 10, ground := Ground.guard }], guard := some (10, true) },
  { dst := some 24, op := Op.buildSlice 25 1 #[(0, Operand.tmp 23)], type := 25, pos := "law.go:37", after := #[{ on := 18, ground := Ground.data }, { on := 10, ground := Ground.guard }], guard := some (10, true) },
  { dst := some 25, op := Op.call { callee := Callee.value (Operand.func 16), args := #[Operand.const (Value.int IntKind.i64 1), Operand.tmp 24], argTypes := #[3, 25] }, type := 27, pos := "law.go:37", after := #[{ on := 19, ground := Ground.data }, { on := 18, ground := Ground.chain }, { on := 10, ground := Ground.guard }], guard := some (10, true) },
  { dst := some 26, op := Op.call { callee := Callee.value (Operand.func 13), args := #[Operand.tmp 19, Operand.tmp 20, Operand.tmp 25], argTypes := #[27, 24, 27] }, type := 27, pos := "law.go:37", after := #[{ on := 14, ground := Ground.data }, { on := 15, ground := Ground.data }, { on := 20, ground := Ground.data }, { on := 20, ground := Ground.chain }, { on := 10, ground := Ground.guard }], guard := some (10, true) },
  { dst := some 27, op := Op.call { callee := Callee.value (Operand.func 15), args := #[], argTypes := #[] }, type := 33, pos := "law.go:37", after := #[{ on := 21, ground := Ground.chain }, { on := 10, ground := Ground.guard }], guard := some (10, true) },
  { dst := some 28, op := Op.call { callee := Callee.value (Operand.func 12), args := #[Operand.tmp 26, Operand.tmp 27], argTypes := #[27, 33] }, type := 9, pos := "law.go:37", after := #[{ on := 21, ground := Ground.data }, { on := 22, ground := Ground.data }, { on := 22, ground := Ground.chain }, { on := 10, ground := Ground.guard }], guard := some (10, true) },
  { dst := some 29, op := Op.binOp BinOp.eql 9 (Operand.tmp 28) (Operand.const (Value.string { data := #[40, 97, 48, 32, 45, 109, 50, 62, 32, 97, 48, 41, 32, 45, 42, 62, 32, 76, 105, 115, 116, 32, 40, 76, 105, 115, 116, 32, 97, 48, 41] })) 9, type := 4, pos := "law.go:37", after := #[{ on := 23, ground := Ground.data }, { on := 10, ground := Ground.guard }], guard := some (10, true) },
  { dst := some 30, op := Op.pick (Operand.tmp 15) (Operand.tmp 29) (Operand.const (Value.bool false)), type := 4, pos := "law.go:37", after := #[{ on := 10, ground := Ground.data }, { on := 24, ground := Ground.data }], guard := none },
  { dst := some 31, op := Op.move (Operand.tmp 30), type := 4, pos := "law.go:37", after := #[{ on := 25, ground := Ground.data }, { on := 23, ground := Ground.chain }], guard := none },
  { dst := some 32, op := Op.call { callee := Callee.value (Operand.func 16), args := #[Operand.const (Value.int IntKind.i64 0), Operand.const (Value.slice none 0 0)], argTypes := #[3, 25] }, type := 27, pos := "law.go:37", after := #[{ on := 26, ground := Ground.chain }, { on := 26, ground := Ground.guard }], guard := some (26, true) },
  { dst := some 33, op := Op.buildSlice 25 1 #[(0, Operand.tmp 32)], type := 25, pos := "law.go:37", after := #[{ on := 27, ground := Ground.data }, { on := 26, ground := Ground.guard }], guard := some (26, true) },
  { dst := some 34, op := Op.call { callee := Callee.value (Operand.func 14), args := #[Operand.const (Value.int IntKind.u8 6), Operand.tmp 33], argTypes := #[5, 25] }, type := 27, pos := "law.go:37", after := #[{ on := 28, ground := Ground.data }, { on := 27, ground := Ground.chain }, { on := 26, ground := Ground.guard }], guard := some (26, true) },
  { dst := some 35, op := Op.call { callee := Callee.value (Operand.func 15), args := #[], argTypes := #[] }, type := 33, pos := "law.go:37", after := #[{ on := 29, ground := Ground.chain }, { on := 26, ground := Ground.guard }], guard := some (26, true) },
  { dst := some 36, op := Op.call { callee := Callee.value (Operand.func 12), args := #[Operand.tmp 34, Operand.tmp 35], argTypes := #[27, 33] }, type := 9, pos := "law.go:37", after := #[{ on := 29, ground := Ground.data }, { on := 30, ground := Ground.data }, { on := 30, ground := Ground.chain }, { on := 26, ground := Ground.guard }], guard := some (26, true) },
  { dst := some 37, op := Op.binOp BinOp.eql 9 (Operand.tmp 36) (Operand.const (Value.string { data := #[65, 114, 114, 32, 66, 111, 111, 108] })) 9, type := 4, pos := "law.go:37", after := #[{ on := 31, ground := Ground.data }, { on := 26, ground := Ground.guard }], guard := some (26, true) },
  { dst := some 38, op := Op.pick (Operand.tmp 31) (Operand.tmp 37) (Operand.const (Value.bool false)), type := 4, pos := "law.go:37", after := #[{ on := 26, ground := Ground.data }, { on := 32, ground := Ground.data }], guard := none },
  { dst := some 39, op := Op.move (Operand.tmp 38), type := 4, pos := "law.go:37", after := #[{ on := 33, ground := Ground.data }, { on := 31, ground := Ground.chain }], guard := none },
  { dst := some 40, op := Op.call { callee := Callee.value (Operand.func 14), args := #[Operand.const (Value.int IntKind.u8 3), Operand.const (Value.slice none 0 0)], argTypes := #[5, 25] }, type := 27, pos := "law.go:37", after := #[{ on := 34, ground := Ground.chain }, { on := 34, ground := Ground.guard }], guard := some (34, true) },
  { dst := some 41, op := Op.buildSlice 25 1 #[(0, Operand.tmp 40)], type := 25, pos := "law.go:37", after := #[{ on := 35, ground := Ground.data }, { on := 34, ground := Ground.guard }], guard := some (34, true) },
  { dst := some 42, op := Op.call { callee := Callee.value (Operand.func 14), args := #[Operand.const (Value.int IntKind.u8 6), Operand.tmp 41], argTypes := #[5, 25] }, type := 27, pos := "law.go:37", after := #[{ on := 36, ground := Ground.data }, { on := 35, ground := Ground.chain }, { on := 34, ground := Ground.guard }], guard := some (34, true) },
  { dst := some 43, op := Op.buildSlice 25 1 #[(0, Operand.tmp 42)], type := 25, pos := "law.go:37", after := #[{ on := 37, ground := Ground.data }, { on := 34, ground := Ground.guard }], guard := some (34, true) },
  { dst := some 44, op := Op.call { callee := Callee.value (Operand.func 14), args := #[Operand.const (Value.int IntKind.u8 6), Operand.tmp 43], argTypes := #[5, 25] }, type := 27, pos := "law.go:37", after := #[{ on := 38, ground := Ground.data }, { on := 37, ground := Ground.chain }, { on := 34, ground := Ground.guard }], guard := some (34, true) },
  { dst := some 45, op := Op.call { callee := Callee.value (Operand.func 15), args := #[], argTypes := #[] }, type := 33, pos := "law.go:37", after := #[{ on := 39, ground := Ground.chain }, { on := 34, ground := Ground.guard }], guard := some (34, true) },
  { dst := some 46, op := Op.call { callee := Callee.value (Operand.func 12), args := #[Operand.tmp 44, Operand.tmp 45], argTypes := #[27, 33] }, type := 9, pos := "law.go:37", after := #[{ on := 39, ground := Ground.data }, { on := 40, ground := Ground.data }, { on := 40, ground := Ground.chain }, { on := 34, ground := Ground.guard }], guard := some (34, true) },
  { dst := some 47, op := Op.binOp BinOp.eql 9 (Operand.tmp 46) (Operand.const (Value.string { data := #[65, 114, 114, 32, 40, 65, 114, 114, 32, 83, 116, 114, 41] })) 9, type := 4, pos := "law.go:37", after := #[{ on := 41, ground := Ground.data }, { on := 34, ground := Ground.guard }], guard := some (34, true) },
  { dst := some 48, op := Op.pick (Operand.tmp 39) (Operand.tmp 47) (Operand.const (Value.bool false)), type := 4, pos := "law.go:37", after := #[{ on := 34, ground := Ground.data }, { on := 42, ground := Ground.data }], guard := none },
  { dst := some 49, op := Op.move (Operand.tmp 48), type := 4, pos := "law.go:37", after := #[{ on := 43, ground := Ground.data }, { on := 41, ground := Ground.chain }], guard := none },
  { dst := some 50, op := Op.call { callee := Callee.value (Operand.func 16), args := #[Operand.const (Value.int IntKind.i64 7), Operand.const (Value.slice none 0 0)], argTypes := #[3, 25] }, type := 27, pos := "law.go:37", after := #[{ on := 44, ground := Ground.chain }, { on := 44, ground := Ground.guard }], guard := some (44, true) },
  { dst := some 51, op := Op.call { callee := Callee.value (Operand.func 12), args := #[Operand.tmp 50, Operand.const (Value.slice none 0 0)], argTypes := #[27, 33] }, type := 9, pos := "law.go:37", after := #[{ on := 45, ground := Ground.data }, { on := 45, ground := Ground.chain }, { on := 44, ground := Ground.guard }], guard := some (44, true) },
  { dst := some 52, op := Op.binOp BinOp.eql 9 (Operand.tmp 51) (Operand.const (Value.string { data := #[35, 55] })) 9, type := 4, pos := "law.go:37", after := #[{ on := 46, ground := Ground.data }, { on := 44, ground := Ground.guard }], guard := some (44, true) },
  { dst := some 53, op := Op.pick (Operand.tmp 49) (Operand.tmp 52) (Operand.const (Value.bool false)), type := 4, pos := "law.go:37", after := #[{ on := 44, ground := Ground.data }, { on := 47, ground := Ground.data }], guard := none },
  { dst := some 0, op := Op.assign (Operand.tmp 53), type := 4, pos := "law.go:37", after := #[{ on := 48, ground := Ground.data }, { on := 46, ground := Ground.chain }, { on := 0, ground := Ground.phase }, { on := 1, ground := Ground.phase }, { on := 2, ground := Ground.phase }, { on := 3, ground := Ground.phase }, { on := 4, ground := Ground.phase }, { on := 5, ground := Ground.phase }, { on := 6, ground := Ground.phase }, { on := 7, ground := Ground.phase }, { on := 8, ground := Ground.phase }, { on := 9, ground := Ground.phase }, { on := 10, ground := Ground.phase }, { on := 11, ground := Ground.phase }, { on := 12, ground := Ground.phase }, { on := 13, ground := Ground.phase }, { on := 14, ground := Ground.phase }, { on := 15, ground := Ground.phase }, { on := 16, ground := Ground.phase }, { on := 17, ground := Ground.phase }, { on := 18, ground := Ground.phase }, { on := 19, ground := Ground.phase }, { on := 20, ground := Ground.phase }, { on := 21, ground := Ground.phase }, { on := 22, ground := Ground.phase }, { on := 23, ground := Ground.phase }, { on := 24, ground := Ground.phase }, { on := 25, ground := Ground.phase }, { on := 26, ground := Ground.phase }, { on := 27, ground := Ground.phase }, { on := 28, ground := Ground.phase }, { on := 29, ground := Ground.phase }, { on := 30, ground := Ground.phase }, { on := 31, ground := Ground.phase }, { on := 32, ground := Ground.phase }, { on := 33, ground := Ground.phase }, { on := 34, ground := Ground.phase }, { on := 35, ground := Ground.phase }, { on := 36, ground := Ground.phase }, { on := 37, ground := Ground.phase }, { on := 38, ground := Ground.phase }, { on := 39, ground := Ground.phase }, { on := 40, ground := Ground.phase }, { on := 41, ground := Ground.phase }, { on := 42, ground := Ground.phase }, { on := 43, ground := Ground.phase }, { on := 44, ground := Ground.phase }, { on := 45, ground := Ground.phase }, { on := 46, ground := Ground.phase }, { on := 47, ground := Ground.phase }, { on := 48, ground := Ground.phase }], guard := none }]
def specKn (B1 B2 : Nat) (i : Nat) (v : Value) (w : World) : Prop :=
  match i with
  | 0 => v = .bool true
  | 1 => v = .bool true
  | 2 => v = .agg #[.int .u8 1, .int .i64 0, .int .i64 0, .int .u8 0, .slice none 0 0]
  | 3 => v = .agg #[.int .i64 0, .int .u8 1]
  | 4 => v = .agg #[.int .u8 2, .int .i64 0, .int .i64 0, .int .u8 0, .slice none 0 0]
  | 5 => ∃ A, v = .agg #[.int .u8 7, .int .i64 0, .int .i64 0, .int .u8 1, .slice A 2 2] ∧ KidsAt w (Old w) A 2 2 (.cons 1 0 0 0 .nil (.cons 2 0 0 0 .nil .nil))
  | 6 => ∃ g, v = .slice (some ⟨g, 0, none⟩) 2 2 ∧ RNm w w.heap.size (some ⟨g, 0, none⟩) 2 nm2
  | 7 => v = .string ⟨#[97, 48, 32, 45, 49, 62, 32, 73, 110, 116]⟩
  | 8 => v = .bool true
  | 9 => v = .bool true
  | 10 => v = .bool true
  | 11 => v = .agg #[.int .u8 1, .int .i64 0, .int .i64 0, .int .u8 0, .slice none 0 0]
  | 12 => v = .agg #[.int .i64 2, .int .u8 0]
  | 13 => v = .agg #[.int .u8 1, .int .i64 0, .int .i64 0, .int .u8 0, .slice none 0 0]
  | 14 => ∃ A, v = .agg #[.int .u8 7, .int .i64 0, .int .i64 2, .int .u8 0, .slice A 2 2] ∧ KidsAt w (Old w) A 2 2 (.cons 1 0 0 0 .nil (.cons 1 0 0 0 .nil .nil))
  | 15 => v = .agg #[.int .i64 0, .int .u8 3]
  | 16 => v = .agg #[.int .u8 1, .int .i64 0, .int .i64 0, .int .u8 0, .slice none 0 0]
  | 17 => ∃ A, v = .slice A 1 1 ∧ KidsAt w (Old w) A 1 1 (.cons 1 0 0 0 .nil .nil)
  | 18 => ∃ A, v = .agg #[.int .u8 8, .int .i64 1, .int .i64 0, .int .u8 0, .slice A 1 1] ∧ KidsAt w (Old w) A 1 1 (.cons 1 0 0 0 .nil .nil)
  | 19 => ∃ A, v = .slice A 1 1 ∧ KidsAt w (Old w) A 1 1 (.cons 8 1 0 0 (.cons 1 0 0 0 .nil .nil) .nil)
  | 20 => ∃ A, v = .agg #[.int .u8 8, .int .i64 1, .int .i64 0, .int .u8 0, .slice A 1 1] ∧ KidsAt w (Old w) A 1 1 (.cons 8 1 0 0 (.cons 1 0 0 0 .nil .nil) .nil)
  | 21 => ∃ A, v = .agg #[.int .u8 7, .int .i64 0, .int .i64 0, .int .u8 3, .slice A 2 2] ∧ KidsAt w (Old w) A 2 2 (.cons 7 0 2 0 (.cons 1 0 0 0 .nil (.cons 1 0 0 0 .nil .nil)) (.cons 8 1 0 0 (.cons 8 1 0 0 (.cons 1 0 0 0 .nil .nil) .nil) .nil))
  | 22 => ∃ g, v = .slice (some ⟨g, 0, none⟩) 2 2 ∧ RNm w w.heap.size (some ⟨g, 0, none⟩) 2 nm2
  | 23 => v = .string ⟨#[40, 97, 48, 32, 45, 109, 50, 62, 32, 97, 48, 41, 32, 45, 42, 62, 32, 76, 105, 115, 116, 32, 40, 76, 105, 115, 116, 32, 97, 48, 41]⟩
  | 24 => v = .bool true
  | 25 => v = .bool true
  | 26 => v = .bool true
  | 27 => v = .agg #[.int .u8 8, .int .i64 0, .int .i64 0, .int .u8 0, .slice none 0 0]
  | 28 => ∃ A, v = .slice A 1 1 ∧ KidsAt w (Old w) A 1 1 (.cons 8 0 0 0 .nil .nil)
  | 29 => ∃ A, v = .agg #[.int .u8 6, .int .i64 0, .int .i64 0, .int .u8 0, .slice A 1 1] ∧ KidsAt w (Old w) A 1 1 (.cons 8 0 0 0 .nil .nil)
  | 30 => ∃ g, v = .slice (some ⟨g, 0, none⟩) 2 2 ∧ RNm w w.heap.size (some ⟨g, 0, none⟩) 2 nm2
  | 31 => v = .string ⟨#[65, 114, 114, 32, 66, 111, 111, 108]⟩
  | 32 => v = .bool true
  | 33 => v = .bool true
  | 34 => v = .bool true
  | 35 => v = .agg #[.int .u8 3, .int .i64 0, .int .i64 0, .int .u8 0, .slice none 0 0]
  | 36 => ∃ A, v = .slice A 1 1 ∧ KidsAt w (Old w) A 1 1 (.cons 3 0 0 0 .nil .nil)
  | 37 => ∃ A, v = .agg #[.int .u8 6, .int .i64 0, .int .i64 0, .int .u8 0, .slice A 1 1] ∧ KidsAt w (Old w) A 1 1 (.cons 3 0 0 0 .nil .nil)
  | 38 => ∃ A, v = .slice A 1 1 ∧ KidsAt w (Old w) A 1 1 (.cons 6 0 0 0 (.cons 3 0 0 0 .nil .nil) .nil)
  | 39 => ∃ A, v = .agg #[.int .u8 6, .int .i64 0, .int .i64 0, .int .u8 0, .slice A 1 1] ∧ KidsAt w (Old w) A 1 1 (.cons 6 0 0 0 (.cons 3 0 0 0 .nil .nil) .nil)
  | 40 => ∃ g, v = .slice (some ⟨g, 0, none⟩) 2 2 ∧ RNm w w.heap.size (some ⟨g, 0, none⟩) 2 nm2
  | 41 => v = .string ⟨#[65, 114, 114, 32, 40, 65, 114, 114, 32, 83, 116, 114, 41]⟩
  | 42 => v = .bool true
  | 43 => v = .bool true
  | 44 => v = .bool true
  | 45 => v = .agg #[.int .u8 8, .int .i64 7, .int .i64 0, .int .u8 0, .slice none 0 0]
  | 46 => v = .string ⟨#[35, 55]⟩
  | 47 => v = .bool true
  | 48 => v = .bool true
  | _ => True
theorem specKn_mono {B1 B2 : Nat} (i : Nat) (v : Value) (w w' : World) (hi : i < 49) (h : specKn B1 B2 i v w) (hb : Bel w w') : specKn B1 B2 i v w' := by
  match i, hi, h with
  | 0, _, h => exact h
  | 1, _, h => exact h
  | 2, _, h => exact h
  | 3, _, h => exact h
  | 4, _, h => exact h
  | 5, _, h => obtain ⟨A, e, hk⟩ := h; exact ⟨A, e, hk.bel hb⟩
  | 6, _, h => obtain ⟨g, e, hn⟩ := h; exact ⟨g, e, hn.upK hb⟩
  | 7, _, h => exact h
  | 8, _, h => exact h
  | 9, _, h => exact h
  | 10, _, h => exact h
  | 11, _, h => exact h
  | 12, _, h => exact h
  | 13, _, h => exact h
  | 14, _, h => obtain ⟨A, e, hk⟩ := h; exact ⟨A, e, hk.bel hb⟩
  | 15, _, h => exact h
  | 16, _, h => exact h
  | 17, _, h => obtain ⟨A, e, hk⟩ := h; exact ⟨A, e, hk.bel hb⟩
  | 18, _, h => obtain ⟨A, e, hk⟩ := h; exact ⟨A, e, hk.bel hb⟩
  | 19, _, h => obtain ⟨A, e, hk⟩ := h; exact ⟨A, e, hk.bel hb⟩
  | 20, _, h => obtain ⟨A, e, hk⟩ := h; exact ⟨A, e, hk.bel hb⟩
  | 21, _, h => obtain ⟨A, e, hk⟩ := h; exact ⟨A, e, hk.bel hb⟩
  | 22, _, h => obtain ⟨g, e, hn⟩ := h; exact ⟨g, e, hn.upK hb⟩
  | 23, _, h => exact h
  | 24, _, h => exact h
  | 25, _, h => exact h
  | 26, _, h => exact h
  | 27, _, h => exact h
  | 28, _, h => obtain ⟨A, e, hk⟩ := h; exact ⟨A, e, hk.bel hb⟩
  | 29, _, h => obtain ⟨A, e, hk⟩ := h; exact ⟨A, e, hk.bel hb⟩
  | 30, _, h => obtain ⟨g, e, hn⟩ := h; exact ⟨g, e, hn.upK hb⟩
  | 31, _, h => exact h
  | 32, _, h => exact h
  | 33, _, h => exact h
  | 34, _, h => exact h
  | 35, _, h => exact h
  | 36, _, h => obtain ⟨A, e, hk⟩ := h; exact ⟨A, e, hk.bel hb⟩
  | 37, _, h => obtain ⟨A, e, hk⟩ := h; exact ⟨A, e, hk.bel hb⟩
  | 38, _, h => obtain ⟨A, e, hk⟩ := h; exact ⟨A, e, hk.bel hb⟩
  | 39, _, h => obtain ⟨A, e, hk⟩ := h; exact ⟨A, e, hk.bel hb⟩
  | 40, _, h => obtain ⟨g, e, hn⟩ := h; exact ⟨g, e, hn.upK hb⟩
  | 41, _, h => exact h
  | 42, _, h => exact h
  | 43, _, h => exact h
  | 44, _, h => exact h
  | 45, _, h => exact h
  | 46, _, h => exact h
  | 47, _, h => exact h
  | 48, _, h => exact h
  | q + 49, hi, _ => exact absurd hi (by omega)
def acOKn (B1 B2 : Nat) (s0 s3 s4 s5 s6 s7 s8 s9 s10 s11 s12 s13 s14 s15 s16 s17 s18 s19 s20 s21 s22 s23 s24 s25 s26 s27 s28 s29 s30 s31 s32 s33 s34 s35 s36 s37 s38 s39 s40 s41 s42 s43 s44 s45 s46 s47 s48 s49 s50 s51 s52 s53 : Value) (df : List Deferred) : Act := { tmps := #[s0, .pointer (some ⟨B1, 0, none⟩), .pointer (some ⟨B2, 0, none⟩), s3, s4, s5, s6, s7, s8, s9, s10, s11, s12, s13, s14, s15, s16, s17, s18, s19, s20, s21, s22, s23, s24, s25, s26, s27, s28, s29, s30, s31, s32, s33, s34, s35, s36, s37, s38, s39, s40, s41, s42, s43, s44, s45, s46, s47, s48, s49, s50, s51, s52, s53], defers := df }
def acVKn (B1 B2 : Nat) (s0 s3 s4 s5 s6 s7 s8 s9 s10 s11 s12 s13 s14 s15 s16 s17 s18 s19 s20 s21 s22 s23 s24 s25 s26 s27 s28 s29 s30 s31 s32 s33 s34 s35 s36 s37 s38 s39 s40 s41 s42 s43 s44 s45 s46 s47 s48 s49 s50 s51 s52 s53 : Value) (df : List Deferred) (V : Nat → Value) : Act := { tmps := #[s0, .pointer (some ⟨B1, 0, none⟩), .pointer (some ⟨B2, 0, none⟩), s3, s4, V 0, V 1, V 2, V 3, V 4, V 5, V 6, V 7, V 8, V 9, V 10, V 11, V 12, V 13, V 14, V 15, V 16, V 17, V 18, V 19, V 20, V 21, V 22, V 23, V 24, V 25, V 26, V 27, V 28, V 29, V 30, V 31, V 32, V 33, V 34, V 35, V 36, V 37, V 38, V 39, V 40, V 41, V 42, V 43, V 44, V 45, V 46, V 47, V 48], defers := df }
theorem regKn_tail : tailB .any regKn.toArray 49 = true := by kernel_rfl
theorem regKn_fwd : fwdB regKn.toArray 49 = true := by kernel_rfl
theorem regKn_slots : slotsB regKn.toArray 54 = true := by kernel_rfl
theorem regKn_seq : Region.seqB .any regKn.toArray (regKn.length - 49) 49 (Array.replicate 49 true ++ Array.replicate (regKn.length - 49) false) = true := by kernel_rfl
set_option maxRecDepth 100000 in
set_option maxHeartbeats 8000000 in
theorem regKn_any {id : Nat} (B1 B2 : Nat) (s0 s3 s4 s5 s6 s7 s8 s9 s10 s11 s12 s13 s14 s15 s16 s17 s18 s19 s20 s21 s22 s23 s24 s25 s26 s27 s28 s29 s30 s31 s32 s33 s34 s35 s36 s37 s38 s39 s40 s41 s42 s43 s44 s45 s46 s47 s48 s49 s50 s51 s52 s53 : Value) (df : List Deferred) (w : World) (c1 : w.drew.heap[B1]? = some (.cells #[.int .u8 1, .int .i64 0, .int .i64 0, .int .u8 0, .slice none 0 0] 27 (0, 0))) (c2' : w.drew.heap[B2]? = some (.cells #[.int .i64 2, .int .u8 0] 24 (0, 0))) (HT : Tabs w.drew) (Q : Exit → Act → World → Prop)
    (hend : ∀ (V : Nat → Value) (w' : World), Bel w.drew w' → (V 48) = .bool true → wpList Tryd.prog regKn.toArray Q (regKn.drop 49) (acVKn B1 B2 s0 s3 s4 s5 s6 s7 s8 s9 s10 s11 s12 s13 s14 s15 s16 s17 s18 s19 s20 s21 s22 s23 s24 s25 s26 s27 s28 s29 s30 s31 s32 s33 s34 s35 s36 s37 s38 s39 s40 s41 s42 s43 s44 s45 s46 s47 s48 s49 s50 s51 s52 s53 df V) w') :
    (Code.region id regKn.toArray true).wp Tryd.prog Q (acOKn B1 B2 s0 s3 s4 s5 s6 s7 s8 s9 s10 s11 s12 s13 s14 s15 s16 s17 s18 s19 s20 s21 s22 s23 s24 s25 s26 s27 s28 s29 s30 s31 s32 s33 s34 s35 s36 s37 s38 s39 s40 s41 s42 s43 s44 s45 s46 s47 s48 s49 s50 s51 s52 s53 df) w := by
  refine wp_region_invG (l := regKn) 49 (acOKn B1 B2 s0 s3 s4 s5 s6 s7 s8 s9 s10 s11 s12 s13 s14 s15 s16 s17 s18 s19 s20 s21 s22 s23 s24 s25 s26 s27 s28 s29 s30 s31 s32 s33 s34 s35 s36 s37 s38 s39 s40 s41 s42 s43 s44 s45 s46 s47 s48 s49 s50 s51 s52 s53 df) w (specKn B1 B2) (by kernel_rfl) regKn_tail regKn_fwd regKn_slots regKn_seq (fun i v w w' hi h hb => specKn_mono i v w w' hi h hb) ?_ ?_
  · intro i' o hi' ho a w1 V hbel hdep hpar K hK
    have p1 : a.eval (.tmp 1) = .pointer (some ⟨B1, 0, none⟩) := hpar 1 (by show 1 < 54; decide) (by kernel_rfl)
    have p1' : a.tmps[1]?.getD undef = .pointer (some ⟨B1, 0, none⟩) := by have h := p1; simp only [Act.eval, Array.getD_eq_getD_getElem?] at h; exact h
    have p2 : a.eval (.tmp 2) = .pointer (some ⟨B2, 0, none⟩) := hpar 2 (by show 2 < 54; decide) (by kernel_rfl)
    have p2' : a.tmps[2]?.getD undef = .pointer (some ⟨B2, 0, none⟩) := by have h := p2; simp only [Act.eval, Array.getD_eq_getD_getElem?] at h; exact h
    obtain ⟨⟨m0, m1, m2, m3, m4⟩, _⟩ := cells5 (hbel.blk c1)
    obtain ⟨o0, o1, _, _⟩ := cellsT2 (hbel.blk c2')
    match i', hi', ho, hdep, hK with
    | 0, _, ho, hdep, hK =>
      simp only [regKn, List.getElem?_toArray, List.getElem?_cons_zero, Option.some.injEq] at ho
      subst ho
      refine ⟨fun _ => ?_, fun hw => (yw_n rfl hw).elim⟩
      refine wp_enter (f := 11) (args := #[]) (by simp [go_sem]) ((works6_any w1 (HT.bel hbel)).mono ?_)
      rintro e w' ⟨rfl, hb⟩
      exact ⟨_, rfl, hK _ _ hb rfl⟩
    | 1, _, ho, hdep, hK =>
      simp only [regKn, List.getElem?_toArray, List.getElem?_cons_zero, List.getElem?_cons_succ, Option.some.injEq] at ho
      subst ho
      refine ⟨fun _ => ?_, fun hw => (yw_n rfl hw).elim⟩
      obtain ⟨f0, d0⟩ := hdep ⟨0, .data⟩ (by simp) rfl
      have e0 : a.eval (.tmp 5) = .bool true := (d0 5 rfl).trans f0
      have e0' : a.tmps[5]?.getD undef = .bool true := by have h := e0; simp only [Act.eval, Array.getD_eq_getD_getElem?] at h; exact h
      exact wp_val (v := .bool true) (w' := w1) (by simp [execOp, go_sem, e0']) (hK _ _ (Bel.refl _) rfl)
    | 2, _, ho, hdep, hK =>
      simp only [regKn, List.getElem?_toArray, List.getElem?_cons_zero, List.getElem?_cons_succ, Option.some.injEq] at ho
      subst ho
      obtain ⟨fg, dg⟩ := hdep ⟨1, .guard⟩ (by simp) rfl
      have eg : a.tmps.getD 6 undef = .bool true := (dg 6 rfl).trans fg
      refine ⟨fun _ => ?_, fun hw => (yw_t (d := 6) rfl rfl eg hw).elim⟩
      exact wp_val (v := .agg #[.int .u8 1, .int .i64 0, .int .i64 0, .int .u8 0, .slice none 0 0]) (w' := w1) (by simp [execOp, go_sem, p1', m0, m1, m2, m3, m4]) (hK _ _ (Bel.refl _) rfl)
    | 3, _, ho, hdep, hK =>
      simp only [regKn, List.getElem?_toArray, List.getElem?_cons_zero, List.getElem?_cons_succ, Option.some.injEq] at ho
      subst ho
      obtain ⟨fg, dg⟩ := hdep ⟨1, .guard⟩ (by simp) rfl
      have eg : a.tmps.getD 6 undef = .bool true := (dg 6 rfl).trans fg
      refine ⟨fun _ => ?_, fun hw => (yw_t (d := 6) rfl rfl eg hw).elim⟩
      exact wp_val (v := .agg #[.int .i64 0, .int .u8 1]) (w' := w1) (by simp [execOp, go_sem]) (hK _ _ (Bel.refl _) rfl)
    | 4, _, ho, hdep, hK =>
      simp only [regKn, List.getElem?_toArray, List.getElem?_cons_zero, List.getElem?_cons_succ, Option.some.injEq] at ho
      subst ho
      obtain ⟨fg, dg⟩ := hdep ⟨1, .guard⟩ (by simp) rfl
      have eg : a.tmps.getD 6 undef = .bool true := (dg 6 rfl).trans fg
      refine ⟨fun _ => ?_, fun hw => (yw_t (d := 6) rfl rfl eg hw).elim⟩
      refine wp_enter (f := 14) (args := #[.int .u8 2, .slice none 0 0]) (by simp [go_sem]) ((mkOf_any 2 none 0 0 w1).mono ?_)
      rintro e w' ⟨rfl, hb⟩
      exact ⟨_, rfl, hK _ _ hb rfl⟩
    | 5, _, ho, hdep, hK =>
      simp only [regKn, List.getElem?_toArray, List.getElem?_cons_zero, List.getElem?_cons_succ, Option.some.injEq] at ho
      subst ho
      obtain ⟨fg, dg⟩ := hdep ⟨1, .guard⟩ (by simp) rfl
      have eg : a.tmps.getD 6 undef = .bool true := (dg 6 rfl).trans fg
      refine ⟨fun _ => ?_, fun hw => (yw_t (d := 6) rfl rfl eg hw).elim⟩
      obtain ⟨f2, d2⟩ := hdep ⟨2, .data⟩ (by simp) rfl
      have e2 : a.eval (.tmp 7) = .agg #[.int .u8 1, .int .i64 0, .int .i64 0, .int .u8 0, .slice none 0 0] := (d2 7 rfl).trans f2
      have e2' : a.tmps[7]?.getD undef = .agg #[.int .u8 1, .int .i64 0, .int .i64 0, .int .u8 0, .slice none 0 0] := by have h := e2; simp only [Act.eval, Array.getD_eq_getD_getElem?] at h; exact h
      obtain ⟨f3, d3⟩ := hdep ⟨3, .data⟩ (by simp) rfl
      have e3 : a.eval (.tmp 8) = .agg #[.int .i64 0, .int .u8 1] := (d3 8 rfl).trans f3
      have e3' : a.tmps[8]?.getD undef = .agg #[.int .i64 0, .int .u8 1] := by have h := e3; simp only [Act.eval, Array.getD_eq_getD_getElem?] at h; exact h
      obtain ⟨f4, d4⟩ := hdep ⟨4, .data⟩ (by simp) rfl
      have e4 : a.eval (.tmp 9) = .agg #[.int .u8 2, .int .i64 0, .int .i64 0, .int .u8 0, .slice none 0 0] := (d4 9 rfl).trans f4
      have e4' : a.tmps[9]?.getD undef = .agg #[.int .u8 2, .int .i64 0, .int .i64 0, .int .u8 0, .slice none 0 0] := by have h := e4; simp only [Act.eval, Array.getD_eq_getD_getElem?] at h; exact h
      refine wp_enter (f := 13) (args := #[.agg #[.int .u8 1, .int .i64 0, .int .i64 0, .int .u8 0, .slice none 0 0], .agg #[.int .i64 0, .int .u8 1], .agg #[.int .u8 2, .int .i64 0, .int .i64 0, .int .u8 0, .slice none 0 0]]) (by simp [go_sem, e2', e3', e4']) ((mkFun_any 0 1 1 0 0 0 2 0 0 0 none 0 0 none 0 0 w1).mono ?_)
      rintro e w' ⟨g, rfl, hg1, hg2, hb⟩
      exact ⟨_, rfl, hK _ _ hb ⟨_, rfl, kids_two hg2 (Array.getElem?_eq_some_iff.1 hg2).1 (Nat.le_refl _) (((kids_nil w1 (Old w1) none 0)).bel hb) (((kids_nil w1 (Old w1) none 0)).bel hb)⟩⟩
    | 6, _, ho, hdep, hK =>
      simp only [regKn, List.getElem?_toArray, List.getElem?_cons_zero, List.getElem?_cons_succ, Option.some.injEq] at ho
      subst ho
      obtain ⟨fg, dg⟩ := hdep ⟨1, .guard⟩ (by simp) rfl
      have eg : a.tmps.getD 6 undef = .bool true := (dg 6 rfl).trans fg
      refine ⟨fun _ => ?_, fun hw => (yw_t (d := 6) rfl rfl eg hw).elim⟩
      refine wp_enter (f := 15) (args := #[]) (by simp [go_sem]) ((names_any w1).mono ?_)
      rintro e w' ⟨g, rfl, hn, hb⟩
      exact ⟨_, rfl, hK _ _ hb ⟨g, rfl, hn⟩⟩
    | 7, _, ho, hdep, hK =>
      simp only [regKn, List.getElem?_toArray, List.getElem?_cons_zero, List.getElem?_cons_succ, Option.some.injEq] at ho
      subst ho
      obtain ⟨fg, dg⟩ := hdep ⟨1, .guard⟩ (by simp) rfl
      have eg : a.tmps.getD 6 undef = .bool true := (dg 6 rfl).trans fg
      refine ⟨fun _ => ?_, fun hw => (yw_t (d := 6) rfl rfl eg hw).elim⟩
      obtain ⟨f5, d5⟩ := hdep ⟨5, .data⟩ (by simp) rfl
      obtain ⟨A5, hv5, hk5⟩ := f5
      have e5 : a.eval (.tmp 10) = .agg #[.int .u8 7, .int .i64 0, .int .i64 0, .int .u8 1, .slice A5 2 2] := (d5 10 rfl).trans hv5
      have e5' : a.tmps[10]?.getD undef = .agg #[.int .u8 7, .int .i64 0, .int .i64 0, .int .u8 1, .slice A5 2 2] := by have h := e5; simp only [Act.eval, Array.getD_eq_getD_getElem?] at h; exact h
      obtain ⟨f6, d6⟩ := hdep ⟨6, .data⟩ (by simp) rfl
      obtain ⟨g6, hv6, hn6⟩ := f6
      have e6 : a.eval (.tmp 11) = .slice (some ⟨g6, 0, none⟩) 2 2 := (d6 11 rfl).trans hv6
      have e6' : a.tmps[11]?.getD undef = .slice (some ⟨g6, 0, none⟩) 2 2 := by have h := e6; simp only [Act.eval, Array.getD_eq_getD_getElem?] at h; exact h
      refine wp_enter (f := 12) (args := #[.agg #[.int .u8 7, .int .i64 0, .int .i64 0, .int .u8 1, .slice A5 2 2], .slice (some ⟨g6, 0, none⟩) 2 2]) (by simp [go_sem, e5', e6']) ((known_text 7 0 0 1 A5 2 2 (.cons 1 0 0 0 .nil (.cons 2 0 0 0 .nil .nil)) nm2 [97, 48, 32, 45, 49, 62, 32, 73, 110, 116] (some ⟨g6, 0, none⟩) 2 2 w1 (hk5) (by decide +kernel) (by decide +kernel) (HT.bel hbel) hn6 (by decide) (by decide +kernel) (by decide)).mono ?_)
      rintro e w' ⟨rfl, hb⟩
      exact ⟨_, rfl, hK _ _ hb rfl⟩
    | 8, _, ho, hdep, hK =>
      simp only [regKn, List.getElem?_toArray, List.getElem?_cons_zero, List.getElem?_cons_succ, Option.some.injEq] at ho
      subst ho
      obtain ⟨fg, dg⟩ := hdep ⟨1, .guard⟩ (by simp) rfl
      have eg : a.tmps.getD 6 undef = .bool true := (dg 6 rfl).trans fg
      refine ⟨fun _ => ?_, fun hw => (yw_t (d := 6) rfl rfl eg hw).elim⟩
      obtain ⟨f7, d7⟩ := hdep ⟨7, .data⟩ (by simp) rfl
      have e7 : a.eval (.tmp 12) = .string ⟨#[97, 48, 32, 45, 49, 62, 32, 73, 110, 116]⟩ := (d7 12 rfl).trans f7
      have e7' : a.tmps[12]?.getD undef = .string ⟨#[97, 48, 32, 45, 49, 62, 32, 73, 110, 116]⟩ := by have h := e7; simp only [Act.eval, Array.getD_eq_getD_getElem?] at h; exact h
      exact wp_val (v := .bool true) (w' := w1) (by simp [execOp, go_sem, e7']) (hK _ _ (Bel.refl _) rfl)
    | 9, _, ho, hdep, hK =>
      simp only [regKn, List.getElem?_toArray, List.getElem?_cons_zero, List.getElem?_cons_succ, Option.some.injEq] at ho
      subst ho
      refine ⟨fun _ => ?_, fun hw => (yw_n rfl hw).elim⟩
      obtain ⟨f1, d1⟩ := hdep ⟨1, .data⟩ (by simp) rfl
      have e1 : a.eval (.tmp 6) = .bool true := (d1 6 rfl).trans f1
      have e1' : a.tmps[6]?.getD undef = .bool true := by have h := e1; simp only [Act.eval, Array.getD_eq_getD_getElem?] at h; exact h
      obtain ⟨f8, d8⟩ := hdep ⟨8, .data⟩ (by simp) rfl
      have e8 : a.eval (.tmp 13) = .bool true := (d8 13 rfl).trans f8
      have e8' : a.tmps[13]?.getD undef = .bool true := by have h := e8; simp only [Act.eval, Array.getD_eq_getD_getElem?] at h; exact h
      exact wp_val (v := .bool true) (w' := w1) (by simp [execOp, go_sem, e1', e8']) (hK _ _ (Bel.refl _) rfl)
    | 10, _, ho, hdep, hK =>
      simp only [regKn, List.getElem?_toArray, List.getElem?_cons_zero, List.getElem?_cons_succ, Option.some.injEq] at ho
      subst ho
      refine ⟨fun _ => ?_, fun hw => (yw_n rfl hw).elim⟩
      obtain ⟨f9, d9⟩ := hdep ⟨9, .data⟩ (by simp) rfl
      have e9 : a.eval (.tmp 14) = .bool true := (d9 14 rfl).trans f9
      have e9' : a.tmps[14]?.getD undef = .bool true := by have h := e9; simp only [Act.eval, Array.getD_eq_getD_getElem?] at h; exact h
      exact wp_val (v := .bool true) (w' := w1) (by simp [execOp, go_sem, e9']) (hK _ _ (Bel.refl _) rfl)
    | 11, _, ho, hdep, hK =>
      simp only [regKn, List.getElem?_toArray, List.getElem?_cons_zero, List.getElem?_cons_succ, Option.some.injEq] at ho
      subst ho
      obtain ⟨fg, dg⟩ := hdep ⟨10, .guard⟩ (by simp) rfl
      have eg : a.tmps.getD 15 undef = .bool true := (dg 15 rfl).trans fg
      refine ⟨fun _ => ?_, fun hw => (yw_t (d := 15) rfl rfl eg hw).elim⟩
      exact wp_val (v := .agg #[.int .u8 1, .int .i64 0, .int .i64 0, .int .u8 0, .slice none 0 0]) (w' := w1) (by simp [execOp, go_sem, p1', m0, m1, m2, m3, m4]) (hK _ _ (Bel.refl _) rfl)
    | 12, _, ho, hdep, hK =>
      simp only [regKn, List.getElem?_toArray, List.getElem?_cons_zero, List.getElem?_cons_succ, Option.some.injEq] at ho
      subst ho
      obtain ⟨fg, dg⟩ := hdep ⟨10, .guard⟩ (by simp) rfl
      have eg : a.tmps.getD 15 undef = .bool true := (dg 15 rfl).trans fg
      refine ⟨fun _ => ?_, fun hw => (yw_t (d := 15) rfl rfl eg hw).elim⟩
      exact wp_val (v := .agg #[.int .i64 2, .int .u8 0]) (w' := w1) (by simp [execOp, go_sem, p2', o0, o1]) (hK _ _ (Bel.refl _) rfl)
    | 13, _, ho, hdep, hK =>
      simp only [regKn, List.getElem?_toArray, List.getElem?_cons_zero, List.getElem?_cons_succ, Option.some.injEq] at ho
      subst ho
      obtain ⟨fg, dg⟩ := hdep ⟨10, .guard⟩ (by simp) rfl
      have eg : a.tmps.getD 15 undef = .bool true := (dg 15 rfl).trans fg
      refine ⟨fun _ => ?_, fun hw => (yw_t (d := 15) rfl rfl eg hw).elim⟩
      exact wp_val (v := .agg #[.int .u8 1, .int .i64 0, .int .i64 0, .int .u8 0, .slice none 0 0]) (w' := w1) (by simp [execOp, go_sem, p1', m0, m1, m2, m3, m4]) (hK _ _ (Bel.refl _) rfl)
    | 14, _, ho, hdep, hK =>
      simp only [regKn, List.getElem?_toArray, List.getElem?_cons_zero, List.getElem?_cons_succ, Option.some.injEq] at ho
      subst ho
      obtain ⟨fg, dg⟩ := hdep ⟨10, .guard⟩ (by simp) rfl
      have eg : a.tmps.getD 15 undef = .bool true := (dg 15 rfl).trans fg
      refine ⟨fun _ => ?_, fun hw => (yw_t (d := 15) rfl rfl eg hw).elim⟩
      obtain ⟨f11, d11⟩ := hdep ⟨11, .data⟩ (by simp) rfl
      have e11 : a.eval (.tmp 16) = .agg #[.int .u8 1, .int .i64 0, .int .i64 0, .int .u8 0, .slice none 0 0] := (d11 16 rfl).trans f11
      have e11' : a.tmps[16]?.getD undef = .agg #[.int .u8 1, .int .i64 0, .int .i64 0, .int .u8 0, .slice none 0 0] := by have h := e11; simp only [Act.eval, Array.getD_eq_getD_getElem?] at h; exact h
      obtain ⟨f12, d12⟩ := hdep ⟨12, .data⟩ (by simp) rfl
      have e12 : a.eval (.tmp 17) = .agg #[.int .i64 2, .int .u8 0] := (d12 17 rfl).trans f12
      have e12' : a.tmps[17]?.getD undef = .agg #[.int .i64 2, .int .u8 0] := by have h := e12; simp only [Act.eval, Array.getD_eq_getD_getElem?] at h; exact h
      obtain ⟨f13, d13⟩ := hdep ⟨13, .data⟩ (by simp) rfl
      have e13 : a.eval (.tmp 18) = .agg #[.int .u8 1, .int .i64 0, .int .i64 0, .int .u8 0, .slice none 0 0] := (d13 18 rfl).trans f13
      have e13' : a.tmps[18]?.getD undef = .agg #[.int .u8 1, .int .i64 0, .int .i64 0, .int .u8 0, .slice none 0 0] := by have h := e13; simp only [Act.eval, Array.getD_eq_getD_getElem?] at h; exact h
      refine wp_enter (f := 13) (args := #[.agg #[.int .u8 1, .int .i64 0, .int .i64 0, .int .u8 0, .slice none 0 0], .agg #[.int .i64 2, .int .u8 0], .agg #[.int .u8 1, .int .i64 0, .int .i64 0, .int .u8 0, .slice none 0 0]]) (by simp [go_sem, e11', e12', e13']) ((mkFun_any 2 0 1 0 0 0 1 0 0 0 none 0 0 none 0 0 w1).mono ?_)
      rintro e w' ⟨g, rfl, hg1, hg2, hb⟩
      exact ⟨_, rfl, hK _ _ hb ⟨_, rfl, kids_two hg2 (Array.getElem?_eq_some_iff.1 hg2).1 (Nat.le_refl _) (((kids_nil w1 (Old w1) none 0)).bel hb) (((kids_nil w1 (Old w1) none 0)).bel hb)⟩⟩
    | 15, _, ho, hdep, hK =>
      simp only [regKn, List.getElem?_toArray, List.getElem?_cons_zero, List.getElem?_cons_succ, Option.some.injEq] at ho
      subst ho
      obtain ⟨fg, dg⟩ := hdep ⟨10, .guard⟩ (by simp) rfl
      have eg : a.tmps.getD 15 undef = .bool true := (dg 15 rfl).trans fg
      refine ⟨fun _ => ?_, fun hw => (yw_t (d := 15) rfl rfl eg hw).elim⟩
      exact wp_val (v := .agg #[.int .i64 0, .int .u8 3]) (w' := w1) (by simp [execOp, go_sem]) (hK _ _ (Bel.refl _) rfl)
    | 16, _, ho, hdep, hK =>
      simp only [regKn, List.getElem?_toArray, List.getElem?_cons_zero, List.getElem?_cons_succ, Option.some.injEq] at ho
      subst ho
      obtain ⟨fg, dg⟩ := hdep ⟨10, .guard⟩ (by simp) rfl
      have eg : a.tmps.getD 15 undef = .bool true := (dg 15 rfl).trans fg
      refine ⟨fun _ => ?_, fun hw => (yw_t (d := 15) rfl rfl eg hw).elim⟩
      exact wp_val (v := .agg #[.int .u8 1, .int .i64 0, .int .i64 0, .int .u8 0, .slice none 0 0]) (w' := w1) (by simp [execOp, go_sem, p1', m0, m1, m2, m3, m4]) (hK _ _ (Bel.refl _) rfl)
    | 17, _, ho, hdep, hK =>
      simp only [regKn, List.getElem?_toArray, List.getElem?_cons_zero, List.getElem?_cons_succ, Option.some.injEq] at ho
      subst ho
      obtain ⟨fg, dg⟩ := hdep ⟨10, .guard⟩ (by simp) rfl
      have eg : a.tmps.getD 15 undef = .bool true := (dg 15 rfl).trans fg
      refine ⟨fun _ => ?_, fun hw => (yw_t (d := 15) rfl rfl eg hw).elim⟩
      obtain ⟨f16, d16⟩ := hdep ⟨16, .data⟩ (by simp) rfl
      have e16 : a.eval (.tmp 21) = .agg #[.int .u8 1, .int .i64 0, .int .i64 0, .int .u8 0, .slice none 0 0] := (d16 21 rfl).trans f16
      have e16' : a.tmps[21]?.getD undef = .agg #[.int .u8 1, .int .i64 0, .int .i64 0, .int .u8 0, .slice none 0 0] := by have h := e16; simp only [Act.eval, Array.getD_eq_getD_getElem?] at h; exact h
      refine wp_val (v := .slice (some ⟨w1.heap.size, 0, none⟩) 1 1) (w' := w1.alloc (.cells #[.int .u8 1, .int .i64 0, .int .i64 0, .int .u8 0, .slice none 0 0] 27)) (by simp [execOp, go_sem, e16']) (hK _ _ ((Bel.refl w1).alloc _) ?_)
      exact ⟨_, rfl, kids_one (blk1 w1 _) (Array.getElem?_eq_some_iff.1 (blk1 w1 _)).1 (Nat.le_refl _) (((kids_nil w1 (Old w1) none 0)).bel ((Bel.refl w1).alloc _))⟩
    | 18, _, ho, hdep, hK =>
      simp only [regKn, List.getElem?_toArray, List.getElem?_cons_zero, List.getElem?_cons_succ, Option.some.injEq] at ho
      subst ho
      obtain ⟨fg, dg⟩ := hdep ⟨10, .guard⟩ (by simp) rfl
      have eg : a.tmps.getD 15 undef = .bool true := (dg 15 rfl).trans fg
      refine ⟨fun _ => ?_, fun hw => (yw_t (d := 15) rfl rfl eg hw).elim⟩
      obtain ⟨f17, d17⟩ := hdep ⟨17, .data⟩ (by simp) rfl
      obtain ⟨A17, hv17, hk17⟩ := f17
      have e17 : a.eval (.tmp 22) = .slice A17 1 1 := (d17 22 rfl).trans hv17
      have e17' : a.tmps[22]?.getD undef = .slice A17 1 1 := by have h := e17; simp only [Act.eval, Array.getD_eq_getD_getElem?] at h; exact h
      refine wp_enter (f := 16) (args := #[.int .i64 1, .slice A17 1 1]) (by simp [go_sem, e17']) ((mkData_any 1 A17 1 1 w1).mono ?_)
      rintro e w' ⟨rfl, hb⟩
      exact ⟨_, rfl, hK _ _ hb ⟨_, rfl, (hk17).bel hb⟩⟩
    | 19, _, ho, hdep, hK =>
      simp only [regKn, List.getElem?_toArray, List.getElem?_cons_zero, List.getElem?_cons_succ, Option.some.injEq] at ho
      subst ho
      obtain ⟨fg, dg⟩ := hdep ⟨10, .guard⟩ (by simp) rfl
      have eg : a.tmps.getD 15 undef = .bool true := (dg 15 rfl).trans fg
      refine ⟨fun _ => ?_, fun hw => (yw_t (d := 15) rfl rfl eg hw).elim⟩
      obtain ⟨f18, d18⟩ := hdep ⟨18, .data⟩ (by simp) rfl
      obtain ⟨A18, hv18, hk18⟩ := f18
      have e18 : a.eval (.tmp 23) = .agg #[.int .u8 8, .int .i64 1, .int .i64 0, .int .u8 0, .slice A18 1 1] := (d18 23 rfl).trans hv18
      have e18' : a.tmps[23]?.getD undef = .agg #[.int .u8 8, .int .i64 1, .int .i64 0, .int .u8 0, .slice A18 1 1] := by have h := e18; simp only [Act.eval, Array.getD_eq_getD_getElem?] at h; exact h
      refine wp_val (v := .slice (some ⟨w1.heap.size, 0, none⟩) 1 1) (w' := w1.alloc (.cells #[.int .u8 8, .int .i64 1, .int .i64 0, .int .u8 0, .slice A18 1 1] 27)) (by simp [execOp, go_sem, e18']) (hK _ _ ((Bel.refl w1).alloc _) ?_)
      exact ⟨_, rfl, kids_one (blk1 w1 _) (Array.getElem?_eq_some_iff.1 (blk1 w1 _)).1 (Nat.le_refl _) ((hk18).bel ((Bel.refl w1).alloc _))⟩
    | 20, _, ho, hdep, hK =>
      simp only [regKn, List.getElem?_toArray, List.getElem?_cons_zero, List.getElem?_cons_succ, Option.some.injEq] at ho
      subst ho
      obtain ⟨fg, dg⟩ := hdep ⟨10, .guard⟩ (by simp) rfl
      have eg : a.tmps.getD 15 undef = .bool true := (dg 15 rfl).trans fg
      refine ⟨fun _ => ?_, fun hw => (yw_t (d := 15) rfl rfl eg hw).elim⟩
      obtain ⟨f19, d19⟩ := hdep ⟨19, .data⟩ (by simp) rfl
      obtain ⟨A19, hv19, hk19⟩ := f19
      have e19 : a.eval (.tmp 24) = .slice A19 1 1 := (d19 24 rfl).trans hv19
      have e19' : a.tmps[24]?.getD undef = .slice A19 1 1 := by have h := e19; simp only [Act.eval, Array.getD_eq_getD_getElem?] at h; exact h
      refine wp_enter (f := 16) (args := #[.int .i64 1, .slice A19 1 1]) (by simp [go_sem, e19']) ((mkData_any 1 A19 1 1 w1).mono ?_)
      rintro e w' ⟨rfl, hb⟩
      exact ⟨_, rfl, hK _ _ hb ⟨_, rfl, (hk19).bel hb⟩⟩
    | 21, _, ho, hdep, hK =>
      simp only [regKn, List.getElem?_toArray, List.getElem?_cons_zero, List.getElem?_cons_succ, Option.some.injEq] at ho
      subst ho
      obtain ⟨fg, dg⟩ := hdep ⟨10, .guard⟩ (by simp) rfl
      have eg : a.tmps.getD 15 undef = .bool true := (dg 15 rfl).trans fg
      refine ⟨fun _ => ?_, fun hw => (yw_t (d := 15) rfl rfl eg hw).elim⟩
      obtain ⟨f14, d14⟩ := hdep ⟨14, .data⟩ (by simp) rfl
      obtain ⟨A14, hv14, hk14⟩ := f14
      have e14 : a.eval (.tmp 19) = .agg #[.int .u8 7, .int .i64 0, .int .i64 2, .int .u8 0, .slice A14 2 2] := (d14 19 rfl).trans hv14
      have e14' : a.tmps[19]?.getD undef = .agg #[.int .u8 7, .int .i64 0, .int .i64 2, .int .u8 0, .slice A14 2 2] := by have h := e14; simp only [Act.eval, Array.getD_eq_getD_getElem?] at h; exact h
      obtain ⟨f15, d15⟩ := hdep ⟨15, .data⟩ (by simp) rfl
      have e15 : a.eval (.tmp 20) = .agg #[.int .i64 0, .int .u8 3] := (d15 20 rfl).trans f15
      have e15' : a.tmps[20]?.getD undef = .agg #[.int .i64 0, .int .u8 3] := by have h := e15; simp only [Act.eval, Array.getD_eq_getD_getElem?] at h; exact h
      obtain ⟨f20, d20⟩ := hdep ⟨20, .data⟩ (by simp) rfl
      obtain ⟨A20, hv20, hk20⟩ := f20
      have e20 : a.eval (.tmp 25) = .agg #[.int .u8 8, .int .i64 1, .int .i64 0, .int .u8 0, .slice A20 1 1] := (d20 25 rfl).trans hv20
      have e20' : a.tmps[25]?.getD undef = .agg #[.int .u8 8, .int .i64 1, .int .i64 0, .int .u8 0, .slice A20 1 1] := by have h := e20; simp only [Act.eval, Array.getD_eq_getD_getElem?] at h; exact h
      refine wp_enter (f := 13) (args := #[.agg #[.int .u8 7, .int .i64 0, .int .i64 2, .int .u8 0, .slice A14 2 2], .agg #[.int .i64 0, .int .u8 3], .agg #[.int .u8 8, .int .i64 1, .int .i64 0, .int .u8 0, .slice A20 1 1]]) (by simp [go_sem, e14', e15', e20']) ((mkFun_any 0 3 7 0 2 0 8 1 0 0 A14 2 2 A20 1 1 w1).mono ?_)
      rintro e w' ⟨g, rfl, hg1, hg2, hb⟩
      exact ⟨_, rfl, hK _ _ hb ⟨_, rfl, kids_two hg2 (Array.getElem?_eq_some_iff.1 hg2).1 (Nat.le_refl _) ((hk14).bel hb) ((hk20).bel hb)⟩⟩
    | 22, _, ho, hdep, hK =>
      simp only [regKn, List.getElem?_toArray, List.getElem?_cons_zero, List.getElem?_cons_succ, Option.some.injEq] at ho
      subst ho
      obtain ⟨fg, dg⟩ := hdep ⟨10, .guard⟩ (by simp) rfl
      have eg : a.tmps.getD 15 undef = .bool true := (dg 15 rfl).trans fg
      refine ⟨fun _ => ?_, fun hw => (yw_t (d := 15) rfl rfl eg hw).elim⟩
      refine wp_enter (f := 15) (args := #[]) (by simp [go_sem]) ((names_any w1).mono ?_)
      rintro e w' ⟨g, rfl, hn, hb⟩
      exact ⟨_, rfl, hK _ _ hb ⟨g, rfl, hn⟩⟩
    | 23, _, ho, hdep, hK =>
      simp only [regKn, List.getElem?_toArray, List.getElem?_cons_zero, List.getElem?_cons_succ, Option.some.injEq] at ho
      subst ho
      obtain ⟨fg, dg⟩ := hdep ⟨10, .guard⟩ (by simp) rfl
      have eg : a.tmps.getD 15 undef = .bool true := (dg 15 rfl).trans fg
      refine ⟨fun _ => ?_, fun hw => (yw_t (d := 15) rfl rfl eg hw).elim⟩
      obtain ⟨f21, d21⟩ := hdep ⟨21, .data⟩ (by simp) rfl
      obtain ⟨A21, hv21, hk21⟩ := f21
      have e21 : a.eval (.tmp 26) = .agg #[.int .u8 7, .int .i64 0, .int .i64 0, .int .u8 3, .slice A21 2 2] := (d21 26 rfl).trans hv21
      have e21' : a.tmps[26]?.getD undef = .agg #[.int .u8 7, .int .i64 0, .int .i64 0, .int .u8 3, .slice A21 2 2] := by have h := e21; simp only [Act.eval, Array.getD_eq_getD_getElem?] at h; exact h
      obtain ⟨f22, d22⟩ := hdep ⟨22, .data⟩ (by simp) rfl
      obtain ⟨g22, hv22, hn22⟩ := f22
      have e22 : a.eval (.tmp 27) = .slice (some ⟨g22, 0, none⟩) 2 2 := (d22 27 rfl).trans hv22
      have e22' : a.tmps[27]?.getD undef = .slice (some ⟨g22, 0, none⟩) 2 2 := by have h := e22; simp only [Act.eval, Array.getD_eq_getD_getElem?] at h; exact h
      refine wp_enter (f := 12) (args := #[.agg #[.int .u8 7, .int .i64 0, .int .i64 0, .int .u8 3, .slice A21 2 2], .slice (some ⟨g22, 0, none⟩) 2 2]) (by simp [go_sem, e21', e22']) ((known_text 7 0 0 3 A21 2 2 (.cons 7 0 2 0 (.cons 1 0 0 0 .nil (.cons 1 0 0 0 .nil .nil)) (.cons 8 1 0 0 (.cons 8 1 0 0 (.cons 1 0 0 0 .nil .nil) .nil) .nil)) nm2 [40, 97, 48, 32, 45, 109, 50, 62, 32, 97, 48, 41, 32, 45, 42, 62, 32, 76, 105, 115, 116, 32, 40, 76, 105, 115, 116, 32, 97, 48, 41] (some ⟨g22, 0, none⟩) 2 2 w1 (hk21) (by decide +kernel) (by decide +kernel) (HT.bel hbel) hn22 (by decide) (by decide +kernel) (by decide)).mono ?_)
      rintro e w' ⟨rfl, hb⟩
      exact ⟨_, rfl, hK _ _ hb rfl⟩
    | 24, _, ho, hdep, hK =>
      simp only [regKn, List.getElem?_toArray, List.getElem?_cons_zero, List.getElem?_cons_succ, Option.some.injEq] at ho
      subst ho
      obtain ⟨fg, dg⟩ := hdep ⟨10, .guard⟩ (by simp) rfl
      have eg : a.tmps.getD 15 undef = .bool true := (dg 15 rfl).trans fg
      refine ⟨fun _ => ?_, fun hw => (yw_t (d := 15) rfl rfl eg hw).elim⟩
      obtain ⟨f23, d23⟩ := hdep ⟨23, .data⟩ (by simp) rfl
      have e23 : a.eval (.tmp 28) = .string ⟨#[40, 97, 48, 32, 45, 109, 50, 62, 32, 97, 48, 41, 32, 45, 42, 62, 32, 76, 105, 115, 116, 32, 40, 76, 105, 115, 116, 32, 97, 48, 41]⟩ := (d23 28 rfl).trans f23
      have e23' : a.tmps[28]?.getD undef = .string ⟨#[40, 97, 48, 32, 45, 109, 50, 62, 32, 97, 48, 41, 32, 45, 42, 62, 32, 76, 105, 115, 116, 32, 40, 76, 105, 115, 116, 32, 97, 48, 41]⟩ := by have h := e23; simp only [Act.eval, Array.getD_eq_getD_getElem?] at h; exact h
      exact wp_val (v := .bool true) (w' := w1) (by simp [execOp, go_sem, e23']) (hK _ _ (Bel.refl _) rfl)
    | 25, _, ho, hdep, hK =>
      simp only [regKn, List.getElem?_toArray, List.getElem?_cons_zero, List.getElem?_cons_succ, Option.some.injEq] at ho
      subst ho
      refine ⟨fun _ => ?_, fun hw => (yw_n rfl hw).elim⟩
      obtain ⟨f10, d10⟩ := hdep ⟨10, .data⟩ (by simp) rfl
      have e10 : a.eval (.tmp 15) = .bool true := (d10 15 rfl).trans f10
      have e10' : a.tmps[15]?.getD undef = .bool true := by have h := e10; simp only [Act.eval, Array.getD_eq_getD_getElem?] at h; exact h
      obtain ⟨f24, d24⟩ := hdep ⟨24, .data⟩ (by simp) rfl
      have e24 : a.eval (.tmp 29) = .bool true := (d24 29 rfl).trans f24
      have e24' : a.tmps[29]?.getD undef = .bool true := by have h := e24; simp only [Act.eval, Array.getD_eq_getD_getElem?] at h; exact h
      exact wp_val (v := .bool true) (w' := w1) (by simp [execOp, go_sem, e10', e24']) (hK _ _ (Bel.refl _) rfl)
    | 26, _, ho, hdep, hK =>
      simp only [regKn, List.getElem?_toArray, List.getElem?_cons_zero, List.getElem?_cons_succ, Option.some.injEq] at ho
      subst ho
      refine ⟨fun _ => ?_, fun hw => (yw_n rfl hw).elim⟩
      obtain ⟨f25, d25⟩ := hdep ⟨25, .data⟩ (by simp) rfl
      have e25 : a.eval (.tmp 30) = .bool true := (d25 30 rfl).trans f25
      have e25' : a.tmps[30]?.getD undef = .bool true := by have h := e25; simp only [Act.eval, Array.getD_eq_getD_getElem?] at h; exact h
      exact wp_val (v := .bool true) (w' := w1) (by simp [execOp, go_sem, e25']) (hK _ _ (Bel.refl _) rfl)
    | 27, _, ho, hdep, hK =>
      simp only [regKn, List.getElem?_toArray, List.getElem?_cons_zero, List.getElem?_cons_succ, Option.some.injEq] at ho
      subst ho
      obtain ⟨fg, dg⟩ := hdep ⟨26, .guard⟩ (by simp) rfl
      have eg : a.tmps.getD 31 undef = .bool true := (dg 31 rfl).trans fg
      refine ⟨fun _ => ?_, fun hw => (yw_t (d := 31) rfl rfl eg hw).elim⟩
      refine wp_enter (f := 16) (args := #[.int .i64 0, .slice none 0 0]) (by simp [go_sem]) ((mkData_any 0 none 0 0 w1).mono ?_)
      rintro e w' ⟨rfl, hb⟩
      exact ⟨_, rfl, hK _ _ hb rfl⟩
    | 28, _, ho, hdep, hK =>
      simp only [regKn, List.getElem?_toArray, List.getElem?_cons_zero, List.getElem?_cons_succ, Option.some.injEq] at ho
      subst ho
      obtain ⟨fg, dg⟩ := hdep ⟨26, .guard⟩ (by simp) rfl
      have eg : a.tmps.getD 31 undef = .bool true := (dg 31 rfl).trans fg
      refine ⟨fun _ => ?_, fun hw => (yw_t (d := 31) rfl rfl eg hw).elim⟩
      obtain ⟨f27, d27⟩ := hdep ⟨27, .data⟩ (by simp) rfl
      have e27 : a.eval (.tmp 32) = .agg #[.int .u8 8, .int .i64 0, .int .i64 0, .int .u8 0, .slice none 0 0] := (d27 32 rfl).trans f27
      have e27' : a.tmps[32]?.getD undef = .agg #[.int .u8 8, .int .i64 0, .int .i64 0, .int .u8 0, .slice none 0 0] := by have h := e27; simp only [Act.eval, Array.getD_eq_getD_getElem?] at h; exact h
      refine wp_val (v := .slice (some ⟨w1.heap.size, 0, none⟩) 1 1) (w' := w1.alloc (.cells #[.int .u8 8, .int .i64 0, .int .i64 0, .int .u8 0, .slice none 0 0] 27)) (by simp [execOp, go_sem, e27']) (hK _ _ ((Bel.refl w1).alloc _) ?_)
      exact ⟨_, rfl, kids_one (blk1 w1 _) (Array.getElem?_eq_some_iff.1 (blk1 w1 _)).1 (Nat.le_refl _) (((kids_nil w1 (Old w1) none 0)).bel ((Bel.refl w1).alloc _))⟩
    | 29, _, ho, hdep, hK =>
      simp only [regKn, List.getElem?_toArray, List.getElem?_cons_zero, List.getElem?_cons_succ, Option.some.injEq] at ho
      subst ho
      obtain ⟨fg, dg⟩ := hdep ⟨26, .guard⟩ (by simp) rfl
      have eg : a.tmps.getD 31 undef = .bool true := (dg 31 rfl).trans fg
      refine ⟨fun _ => ?_, fun hw => (yw_t (d := 31) rfl rfl eg hw).elim⟩
      obtain ⟨f28, d28⟩ := hdep ⟨28, .data⟩ (by simp) rfl
      obtain ⟨A28, hv28, hk28⟩ := f28
      have e28 : a.eval (.tmp 33) = .slice A28 1 1 := (d28 33 rfl).trans hv28
      have e28' : a.tmps[33]?.getD undef = .slice A28 1 1 := by have h := e28; simp only [Act.eval, Array.getD_eq_getD_getElem?] at h; exact h
      refine wp_enter (f := 14) (args := #[.int .u8 6, .slice A28 1 1]) (by simp [go_sem, e28']) ((mkOf_any 6 A28 1 1 w1).mono ?_)
      rintro e w' ⟨rfl, hb⟩
      exact ⟨_, rfl, hK _ _ hb ⟨_, rfl, (hk28).bel hb⟩⟩
    | 30, _, ho, hdep, hK =>
      simp only [regKn, List.getElem?_toArray, List.getElem?_cons_zero, List.getElem?_cons_succ, Option.some.injEq] at ho
      subst ho
      obtain ⟨fg, dg⟩ := hdep ⟨26, .guard⟩ (by simp) rfl
      have eg : a.tmps.getD 31 undef = .bool true := (dg 31 rfl).trans fg
      refine ⟨fun _ => ?_, fun hw => (yw_t (d := 31) rfl rfl eg hw).elim⟩
      refine wp_enter (f := 15) (args := #[]) (by simp [go_sem]) ((names_any w1).mono ?_)
      rintro e w' ⟨g, rfl, hn, hb⟩
      exact ⟨_, rfl, hK _ _ hb ⟨g, rfl, hn⟩⟩
    | 31, _, ho, hdep, hK =>
      simp only [regKn, List.getElem?_toArray, List.getElem?_cons_zero, List.getElem?_cons_succ, Option.some.injEq] at ho
      subst ho
      obtain ⟨fg, dg⟩ := hdep ⟨26, .guard⟩ (by simp) rfl
      have eg : a.tmps.getD 31 undef = .bool true := (dg 31 rfl).trans fg
      refine ⟨fun _ => ?_, fun hw => (yw_t (d := 31) rfl rfl eg hw).elim⟩
      obtain ⟨f29, d29⟩ := hdep ⟨29, .data⟩ (by simp) rfl
      obtain ⟨A29, hv29, hk29⟩ := f29
      have e29 : a.eval (.tmp 34) = .agg #[.int .u8 6, .int .i64 0, .int .i64 0, .int .u8 0, .slice A29 1 1] := (d29 34 rfl).trans hv29
      have e29' : a.tmps[34]?.getD undef = .agg #[.int .u8 6, .int .i64 0, .int .i64 0, .int .u8 0, .slice A29 1 1] := by have h := e29; simp only [Act.eval, Array.getD_eq_getD_getElem?] at h; exact h
      obtain ⟨f30, d30⟩ := hdep ⟨30, .data⟩ (by simp) rfl
      obtain ⟨g30, hv30, hn30⟩ := f30
      have e30 : a.eval (.tmp 35) = .slice (some ⟨g30, 0, none⟩) 2 2 := (d30 35 rfl).trans hv30
      have e30' : a.tmps[35]?.getD undef = .slice (some ⟨g30, 0, none⟩) 2 2 := by have h := e30; simp only [Act.eval, Array.getD_eq_getD_getElem?] at h; exact h
      refine wp_enter (f := 12) (args := #[.agg #[.int .u8 6, .int .i64 0, .int .i64 0, .int .u8 0, .slice A29 1 1], .slice (some ⟨g30, 0, none⟩) 2 2]) (by simp [go_sem, e29', e30']) ((known_text 6 0 0 0 A29 1 1 (.cons 8 0 0 0 .nil .nil) nm2 [65, 114, 114, 32, 66, 111, 111, 108] (some ⟨g30, 0, none⟩) 2 2 w1 (hk29) (by decide +kernel) (by decide +kernel) (HT.bel hbel) hn30 (by decide) (by decide +kernel) (by decide)).mono ?_)
      rintro e w' ⟨rfl, hb⟩
      exact ⟨_, rfl, hK _ _ hb rfl⟩
    | 32, _, ho, hdep, hK =>
      simp only [regKn, List.getElem?_toArray, List.getElem?_cons_zero, List.getElem?_cons_succ, Option.some.injEq] at ho
      subst ho
      obtain ⟨fg, dg⟩ := hdep ⟨26, .guard⟩ (by simp) rfl
      have eg : a.tmps.getD 31 undef = .bool true := (dg 31 rfl).trans fg
      refine ⟨fun _ => ?_, fun hw => (yw_t (d := 31) rfl rfl eg hw).elim⟩
      obtain ⟨f31, d31⟩ := hdep ⟨31, .data⟩ (by simp) rfl
      have e31 : a.eval (.tmp 36) = .string ⟨#[65, 114, 114, 32, 66, 111, 111, 108]⟩ := (d31 36 rfl).trans f31
      have e31' : a.tmps[36]?.getD undef = .string ⟨#[65, 114, 114, 32, 66, 111, 111, 108]⟩ := by have h := e31; simp only [Act.eval, Array.getD_eq_getD_getElem?] at h; exact h
      exact wp_val (v := .bool true) (w' := w1) (by simp [execOp, go_sem, e31']) (hK _ _ (Bel.refl _) rfl)
    | 33, _, ho, hdep, hK =>
      simp only [regKn, List.getElem?_toArray, List.getElem?_cons_zero, List.getElem?_cons_succ, Option.some.injEq] at ho
      subst ho
      refine ⟨fun _ => ?_, fun hw => (yw_n rfl hw).elim⟩
      obtain ⟨f26, d26⟩ := hdep ⟨26, .data⟩ (by simp) rfl
      have e26 : a.eval (.tmp 31) = .bool true := (d26 31 rfl).trans f26
      have e26' : a.tmps[31]?.getD undef = .bool true := by have h := e26; simp only [Act.eval, Array.getD_eq_getD_getElem?] at h; exact h
      obtain ⟨f32, d32⟩ := hdep ⟨32, .data⟩ (by simp) rfl
      have e32 : a.eval (.tmp 37) = .bool true := (d32 37 rfl).trans f32
      have e32' : a.tmps[37]?.getD undef = .bool true := by have h := e32; simp only [Act.eval, Array.getD_eq_getD_getElem?] at h; exact h
      exact wp_val (v := .bool true) (w' := w1) (by simp [execOp, go_sem, e26', e32']) (hK _ _ (Bel.refl _) rfl)
    | 34, _, ho, hdep, hK =>
      simp only [regKn, List.getElem?_toArray, List.getElem?_cons_zero, List.getElem?_cons_succ, Option.some.injEq] at ho
      subst ho
      refine ⟨fun _ => ?_, fun hw => (yw_n rfl hw).elim⟩
      obtain ⟨f33, d33⟩ := hdep ⟨33, .data⟩ (by simp) rfl
      have e33 : a.eval (.tmp 38) = .bool true := (d33 38 rfl).trans f33
      have e33' : a.tmps[38]?.getD undef = .bool true := by have h := e33; simp only [Act.eval, Array.getD_eq_getD_getElem?] at h; exact h
      exact wp_val (v := .bool true) (w' := w1) (by simp [execOp, go_sem, e33']) (hK _ _ (Bel.refl _) rfl)
    | 35, _, ho, hdep, hK =>
      simp only [regKn, List.getElem?_toArray, List.getElem?_cons_zero, List.getElem?_cons_succ, Option.some.injEq] at ho
      subst ho
      obtain ⟨fg, dg⟩ := hdep ⟨34, .guard⟩ (by simp) rfl
      have eg : a.tmps.getD 39 undef = .bool true := (dg 39 rfl).trans fg
      refine ⟨fun _ => ?_, fun hw => (yw_t (d := 39) rfl rfl eg hw).elim⟩
      refine wp_enter (f := 14) (args := #[.int .u8 3, .slice none 0 0]) (by simp [go_sem]) ((mkOf_any 3 none 0 0 w1).mono ?_)
      rintro e w' ⟨rfl, hb⟩
      exact ⟨_, rfl, hK _ _ hb rfl⟩
    | 36, _, ho, hdep, hK =>
      simp only [regKn, List.getElem?_toArray, List.getElem?_cons_zero, List.getElem?_cons_succ, Option.some.injEq] at ho
      subst ho
      obtain ⟨fg, dg⟩ := hdep ⟨34, .guard⟩ (by simp) rfl
      have eg : a.tmps.getD 39 undef = .bool true := (dg 39 rfl).trans fg
      refine ⟨fun _ => ?_, fun hw => (yw_t (d := 39) rfl rfl eg hw).elim⟩
      obtain ⟨f35, d35⟩ := hdep ⟨35, .data⟩ (by simp) rfl
      have e35 : a.eval (.tmp 40) = .agg #[.int .u8 3, .int .i64 0, .int .i64 0, .int .u8 0, .slice none 0 0] := (d35 40 rfl).trans f35
      have e35' : a.tmps[40]?.getD undef = .agg #[.int .u8 3, .int .i64 0, .int .i64 0, .int .u8 0, .slice none 0 0] := by have h := e35; simp only [Act.eval, Array.getD_eq_getD_getElem?] at h; exact h
      refine wp_val (v := .slice (some ⟨w1.heap.size, 0, none⟩) 1 1) (w' := w1.alloc (.cells #[.int .u8 3, .int .i64 0, .int .i64 0, .int .u8 0, .slice none 0 0] 27)) (by simp [execOp, go_sem, e35']) (hK _ _ ((Bel.refl w1).alloc _) ?_)
      exact ⟨_, rfl, kids_one (blk1 w1 _) (Array.getElem?_eq_some_iff.1 (blk1 w1 _)).1 (Nat.le_refl _) (((kids_nil w1 (Old w1) none 0)).bel ((Bel.refl w1).alloc _))⟩
    | 37, _, ho, hdep, hK =>
      simp only [regKn, List.getElem?_toArray, List.getElem?_cons_zero, List.getElem?_cons_succ, Option.some.injEq] at ho
      subst ho
      obtain ⟨fg, dg⟩ := hdep ⟨34, .guard⟩ (by simp) rfl
      have eg : a.tmps.getD 39 undef = .bool true := (dg 39 rfl).trans fg
      refine ⟨fun _ => ?_, fun hw => (yw_t (d := 39) rfl rfl eg hw).elim⟩
      obtain ⟨f36, d36⟩ := hdep ⟨36, .data⟩ (by simp) rfl
      obtain ⟨A36, hv36, hk36⟩ := f36
      have e36 : a.eval (.tmp 41) = .slice A36 1 1 := (d36 41 rfl).trans hv36
      have e36' : a.tmps[41]?.getD undef = .slice A36 1 1 := by have h := e36; simp only [Act.eval, Array.getD_eq_getD_getElem?] at h; exact h
      refine wp_enter (f := 14) (args := #[.int .u8 6, .slice A36 1 1]) (by simp [go_sem, e36']) ((mkOf_any 6 A36 1 1 w1).mono ?_)
      rintro e w' ⟨rfl, hb⟩
      exact ⟨_, rfl, hK _ _ hb ⟨_, rfl, (hk36).bel hb⟩⟩
    | 38, _, ho, hdep, hK =>
      simp only [regKn, List.getElem?_toArray, List.getElem?_cons_zero, List.getElem?_cons_succ, Option.some.injEq] at ho
      subst ho
      obtain ⟨fg, dg⟩ := hdep ⟨34, .guard⟩ (by simp) rfl
      have eg : a.tmps.getD 39 undef = .bool true := (dg 39 rfl).trans fg
      refine ⟨fun _ => ?_, fun hw => (yw_t (d := 39) rfl rfl eg hw).elim⟩
      obtain ⟨f37, d37⟩ := hdep ⟨37, .data⟩ (by simp) rfl
      obtain ⟨A37, hv37, hk37⟩ := f37
      have e37 : a.eval (.tmp 42) = .agg #[.int .u8 6, .int .i64 0, .int .i64 0, .int .u8 0, .slice A37 1 1] := (d37 42 rfl).trans hv37
      have e37' : a.tmps[42]?.getD undef = .agg #[.int .u8 6, .int .i64 0, .int .i64 0, .int .u8 0, .slice A37 1 1] := by have h := e37; simp only [Act.eval, Array.getD_eq_getD_getElem?] at h; exact h
      refine wp_val (v := .slice (some ⟨w1.heap.size, 0, none⟩) 1 1) (w' := w1.alloc (.cells #[.int .u8 6, .int .i64 0, .int .i64 0, .int .u8 0, .slice A37 1 1] 27)) (by simp [execOp, go_sem, e37']) (hK _ _ ((Bel.refl w1).alloc _) ?_)
      exact ⟨_, rfl, kids_one (blk1 w1 _) (Array.getElem?_eq_some_iff.1 (blk1 w1 _)).1 (Nat.le_refl _) ((hk37).bel ((Bel.refl w1).alloc _))⟩
    | 39, _, ho, hdep, hK =>
      simp only [regKn, List.getElem?_toArray, List.getElem?_cons_zero, List.getElem?_cons_succ, Option.some.injEq] at ho
      subst ho
      obtain ⟨fg, dg⟩ := hdep ⟨34, .guard⟩ (by simp) rfl
      have eg : a.tmps.getD 39 undef = .bool true := (dg 39 rfl).trans fg
      refine ⟨fun _ => ?_, fun hw => (yw_t (d := 39) rfl rfl eg hw).elim⟩
      obtain ⟨f38, d38⟩ := hdep ⟨38, .data⟩ (by simp) rfl
      obtain ⟨A38, hv38, hk38⟩ := f38
      have e38 : a.eval (.tmp 43) = .slice A38 1 1 := (d38 43 rfl).trans hv38
      have e38' : a.tmps[43]?.getD undef = .slice A38 1 1 := by have h := e38; simp only [Act.eval, Array.getD_eq_getD_getElem?] at h; exact h
      refine wp_enter (f := 14) (args := #[.int .u8 6, .slice A38 1 1]) (by simp [go_sem, e38']) ((mkOf_any 6 A38 1 1 w1).mono ?_)
      rintro e w' ⟨rfl, hb⟩
      exact ⟨_, rfl, hK _ _ hb ⟨_, rfl, (hk38).bel hb⟩⟩
    | 40, _, ho, hdep, hK =>
      simp only [regKn, List.getElem?_toArray, List.getElem?_cons_zero, List.getElem?_cons_succ, Option.some.injEq] at ho
      subst ho
      obtain ⟨fg, dg⟩ := hdep ⟨34, .guard⟩ (by simp) rfl
      have eg : a.tmps.getD 39 undef = .bool true := (dg 39 rfl).trans fg
      refine ⟨fun _ => ?_, fun hw => (yw_t (d := 39) rfl rfl eg hw).elim⟩
      refine wp_enter (f := 15) (args := #[]) (by simp [go_sem]) ((names_any w1).mono ?_)
      rintro e w' ⟨g, rfl, hn, hb⟩
      exact ⟨_, rfl, hK _ _ hb ⟨g, rfl, hn⟩⟩
    | 41, _, ho, hdep, hK =>
      simp only [regKn, List.getElem?_toArray, List.getElem?_cons_zero, List.getElem?_cons_succ, Option.some.injEq] at ho
      subst ho
      obtain ⟨fg, dg⟩ := hdep ⟨34, .guard⟩ (by simp) rfl
      have eg : a.tmps.getD 39 undef = .bool true := (dg 39 rfl).trans fg
      refine ⟨fun _ => ?_, fun hw => (yw_t (d := 39) rfl rfl eg hw).elim⟩
      obtain ⟨f39, d39⟩ := hdep ⟨39, .data⟩ (by simp) rfl
      obtain ⟨A39, hv39, hk39⟩ := f39
      have e39 : a.eval (.tmp 44) = .agg #[.int .u8 6, .int .i64 0, .int .i64 0, .int .u8 0, .slice A39 1 1] := (d39 44 rfl).trans hv39
      have e39' : a.tmps[44]?.getD undef = .agg #[.int .u8 6, .int .i64 0, .int .i64 0, .int .u8 0, .slice A39 1 1] := by have h := e39; simp only [Act.eval, Array.getD_eq_getD_getElem?] at h; exact h
      obtain ⟨f40, d40⟩ := hdep ⟨40, .data⟩ (by simp) rfl
      obtain ⟨g40, hv40, hn40⟩ := f40
      have e40 : a.eval (.tmp 45) = .slice (some ⟨g40, 0, none⟩) 2 2 := (d40 45 rfl).trans hv40
      have e40' : a.tmps[45]?.getD undef = .slice (some ⟨g40, 0, none⟩) 2 2 := by have h := e40; simp only [Act.eval, Array.getD_eq_getD_getElem?] at h; exact h
      refine wp_enter (f := 12) (args := #[.agg #[.int .u8 6, .int .i64 0, .int .i64 0, .int .u8 0, .slice A39 1 1], .slice (some ⟨g40, 0, none⟩) 2 2]) (by simp [go_sem, e39', e40']) ((known_text 6 0 0 0 A39 1 1 (.cons 6 0 0 0 (.cons 3 0 0 0 .nil .nil) .nil) nm2 [65, 114, 114, 32, 40, 65, 114, 114, 32, 83, 116, 114, 41] (some ⟨g40, 0, none⟩) 2 2 w1 (hk39) (by decide +kernel) (by decide +kernel) (HT.bel hbel) hn40 (by decide) (by decide +kernel) (by decide)).mono ?_)
      rintro e w' ⟨rfl, hb⟩
      exact ⟨_, rfl, hK _ _ hb rfl⟩
    | 42, _, ho, hdep, hK =>
      simp only [regKn, List.getElem?_toArray, List.getElem?_cons_zero, List.getElem?_cons_succ, Option.some.injEq] at ho
      subst ho
      obtain ⟨fg, dg⟩ := hdep ⟨34, .guard⟩ (by simp) rfl
      have eg : a.tmps.getD 39 undef = .bool true := (dg 39 rfl).trans fg
      refine ⟨fun _ => ?_, fun hw => (yw_t (d := 39) rfl rfl eg hw).elim⟩
      obtain ⟨f41, d41⟩ := hdep ⟨41, .data⟩ (by simp) rfl
      have e41 : a.eval (.tmp 46) = .string ⟨#[65, 114, 114, 32, 40, 65, 114, 114, 32, 83, 116, 114, 41]⟩ := (d41 46 rfl).trans f41
      have e41' : a.tmps[46]?.getD undef = .string ⟨#[65, 114, 114, 32, 40, 65, 114, 114, 32, 83, 116, 114, 41]⟩ := by have h := e41; simp only [Act.eval, Array.getD_eq_getD_getElem?] at h; exact h
      exact wp_val (v := .bool true) (w' := w1) (by simp [execOp, go_sem, e41']) (hK _ _ (Bel.refl _) rfl)
    | 43, _, ho, hdep, hK =>
      simp only [regKn, List.getElem?_toArray, List.getElem?_cons_zero, List.getElem?_cons_succ, Option.some.injEq] at ho
      subst ho
      refine ⟨fun _ => ?_, fun hw => (yw_n rfl hw).elim⟩
      obtain ⟨f34, d34⟩ := hdep ⟨34, .data⟩ (by simp) rfl
      have e34 : a.eval (.tmp 39) = .bool true := (d34 39 rfl).trans f34
      have e34' : a.tmps[39]?.getD undef = .bool true := by have h := e34; simp only [Act.eval, Array.getD_eq_getD_getElem?] at h; exact h
      obtain ⟨f42, d42⟩ := hdep ⟨42, .data⟩ (by simp) rfl
      have e42 : a.eval (.tmp 47) = .bool true := (d42 47 rfl).trans f42
      have e42' : a.tmps[47]?.getD undef = .bool true := by have h := e42; simp only [Act.eval, Array.getD_eq_getD_getElem?] at h; exact h
      exact wp_val (v := .bool true) (w' := w1) (by simp [execOp, go_sem, e34', e42']) (hK _ _ (Bel.refl _) rfl)
    | 44, _, ho, hdep, hK =>
      simp only [regKn, List.getElem?_toArray, List.getElem?_cons_zero, List.getElem?_cons_succ, Option.some.injEq] at ho
      subst ho
      refine ⟨fun _ => ?_, fun hw => (yw_n rfl hw).elim⟩
      obtain ⟨f43, d43⟩ := hdep ⟨43, .data⟩ (by simp) rfl
      have e43 : a.eval (.tmp 48) = .bool true := (d43 48 rfl).trans f43
      have e43' : a.tmps[48]?.getD undef = .bool true := by have h := e43; simp only [Act.eval, Array.getD_eq_getD_getElem?] at h; exact h
      exact wp_val (v := .bool true) (w' := w1) (by simp [execOp, go_sem, e43']) (hK _ _ (Bel.refl _) rfl)
    | 45, _, ho, hdep, hK =>
      simp only [regKn, List.getElem?_toArray, List.getElem?_cons_zero, List.getElem?_cons_succ, Option.some.injEq] at ho
      subst ho
      obtain ⟨fg, dg⟩ := hdep ⟨44, .guard⟩ (by simp) rfl
      have eg : a.tmps.getD 49 undef = .bool true := (dg 49 rfl).trans fg
      refine ⟨fun _ => ?_, fun hw => (yw_t (d := 49) rfl rfl eg hw).elim⟩
      refine wp_enter (f := 16) (args := #[.int .i64 7, .slice none 0 0]) (by simp [go_sem]) ((mkData_any 7 none 0 0 w1).mono ?_)
      rintro e w' ⟨rfl, hb⟩
      exact ⟨_, rfl, hK _ _ hb rfl⟩
    | 46, _, ho, hdep, hK =>
      simp only [regKn, List.getElem?_toArray, List.getElem?_cons_zero, List.getElem?_cons_succ, Option.some.injEq] at ho
      subst ho
      obtain ⟨fg, dg⟩ := hdep ⟨44, .guard⟩ (by simp) rfl
      have eg : a.tmps.getD 49 undef = .bool true := (dg 49 rfl).trans fg
      refine ⟨fun _ => ?_, fun hw => (yw_t (d := 49) rfl rfl eg hw).elim⟩
      obtain ⟨f45, d45⟩ := hdep ⟨45, .data⟩ (by simp) rfl
      have e45 : a.eval (.tmp 50) = .agg #[.int .u8 8, .int .i64 7, .int .i64 0, .int .u8 0, .slice none 0 0] := (d45 50 rfl).trans f45
      have e45' : a.tmps[50]?.getD undef = .agg #[.int .u8 8, .int .i64 7, .int .i64 0, .int .u8 0, .slice none 0 0] := by have h := e45; simp only [Act.eval, Array.getD_eq_getD_getElem?] at h; exact h
      refine wp_enter (f := 12) (args := #[.agg #[.int .u8 8, .int .i64 7, .int .i64 0, .int .u8 0, .slice none 0 0], .slice none 0 0]) (by simp [go_sem, e45']) ((known_text 8 7 0 0 none 0 0 .nil [] [35, 55] none 0 0 w1 ((kids_nil w1 (Old w1) none 0)) (by decide +kernel) (by decide +kernel) (HT.bel hbel) ⟨rfl, fun h => by omega⟩ (by decide) (by decide +kernel) (by decide)).mono ?_)
      rintro e w' ⟨rfl, hb⟩
      exact ⟨_, rfl, hK _ _ hb rfl⟩
    | 47, _, ho, hdep, hK =>
      simp only [regKn, List.getElem?_toArray, List.getElem?_cons_zero, List.getElem?_cons_succ, Option.some.injEq] at ho
      subst ho
      obtain ⟨fg, dg⟩ := hdep ⟨44, .guard⟩ (by simp) rfl
      have eg : a.tmps.getD 49 undef = .bool true := (dg 49 rfl).trans fg
      refine ⟨fun _ => ?_, fun hw => (yw_t (d := 49) rfl rfl eg hw).elim⟩
      obtain ⟨f46, d46⟩ := hdep ⟨46, .data⟩ (by simp) rfl
      have e46 : a.eval (.tmp 51) = .string ⟨#[35, 55]⟩ := (d46 51 rfl).trans f46
      have e46' : a.tmps[51]?.getD undef = .string ⟨#[35, 55]⟩ := by have h := e46; simp only [Act.eval, Array.getD_eq_getD_getElem?] at h; exact h
      exact wp_val (v := .bool true) (w' := w1) (by simp [execOp, go_sem, e46']) (hK _ _ (Bel.refl _) rfl)
    | 48, _, ho, hdep, hK =>
      simp only [regKn, List.getElem?_toArray, List.getElem?_cons_zero, List.getElem?_cons_succ, Option.some.injEq] at ho
      subst ho
      refine ⟨fun _ => ?_, fun hw => (yw_n rfl hw).elim⟩
      obtain ⟨f44, d44⟩ := hdep ⟨44, .data⟩ (by simp) rfl
      have e44 : a.eval (.tmp 49) = .bool true := (d44 49 rfl).trans f44
      have e44' : a.tmps[49]?.getD undef = .bool true := by have h := e44; simp only [Act.eval, Array.getD_eq_getD_getElem?] at h; exact h
      obtain ⟨f47, d47⟩ := hdep ⟨47, .data⟩ (by simp) rfl
      have e47 : a.eval (.tmp 52) = .bool true := (d47 52 rfl).trans f47
      have e47' : a.tmps[52]?.getD undef = .bool true := by have h := e47; simp only [Act.eval, Array.getD_eq_getD_getElem?] at h; exact h
      exact wp_val (v := .bool true) (w' := w1) (by simp [execOp, go_sem, e44', e47']) (hK _ _ (Bel.refl _) rfl)
    | q + 49, hi, _, _, _ => exact absurd hi (by omega)
  · intro V w' hb hF
    have e : finA regKn.toArray 49 V (acOKn B1 B2 s0 s3 s4 s5 s6 s7 s8 s9 s10 s11 s12 s13 s14 s15 s16 s17 s18 s19 s20 s21 s22 s23 s24 s25 s26 s27 s28 s29 s30 s31 s32 s33 s34 s35 s36 s37 s38 s39 s40 s41 s42 s43 s44 s45 s46 s47 s48 s49 s50 s51 s52 s53 df) = acVKn B1 B2 s0 s3 s4 s5 s6 s7 s8 s9 s10 s11 s12 s13 s14 s15 s16 s17 s18 s19 s20 s21 s22 s23 s24 s25 s26 s27 s28 s29 s30 s31 s32 s33 s34 s35 s36 s37 s38 s39 s40 s41 s42 s43 s44 s45 s46 s47 s48 s49 s50 s51 s52 s53 df V := by kernel_rfl
    rw [e]
    exact hend V w' hb (hF 48 (by omega))
def TrueK (w : World) (e : Ending) (w' : World) : Prop := e = .returned (.bool true) ∧ Bel w w'
set_option maxRecDepth 100000 in
set_option maxHeartbeats 4000000 in
theorem tyKnown_any (w : World) (ht : Tabs w) : Calls Tryd.prog 3 #[] w (TrueK w) := by
  have HT := Lib.hid ht
  clear ht
  have HR := Lib.hid (regKn_any (id := 2))
  go_enter Tryd.func3, Tryd.ntmps3
  go_wp2_with fail
  refine (mkV_any 0 w).mono ?_
  rintro e w1 ⟨rfl, hb1⟩
  have HB1 := Lib.hid hb1
  clear hb1
  go_wp2_with fail
  obtain ⟨q1, q2⟩ := blk2 w1 (.cells #[.int .u8 1, .int .i64 0, .int .i64 0, .int .u8 0, .slice none 0 0] 27) (.cells #[.int .i64 2, .int .u8 0] 24)
  have hb2 : Bel w1 ((w1.alloc (.cells #[.int .u8 1, .int .i64 0, .int .i64 0, .int .u8 0, .slice none 0 0] 27)).alloc (.cells #[.int .i64 2, .int .u8 0] 24)) := ((Bel.refl w1).alloc _).alloc _
  obtain ⟨w2, hw2⟩ : ∃ w2, w2 = (w1.alloc (.cells #[.int .u8 1, .int .i64 0, .int .i64 0, .int .u8 0, .slice none 0 0] 27)).alloc (.cells #[.int .i64 2, .int .u8 0] 24) := ⟨_, rfl⟩
  rw [← hw2] at q1 q2 hb2 ⊢
  clear hw2
  have HD : Hid (Bel w w2.drew) := Lib.hid (HB1.out.on hb2).drew
  refine HR.out _ _ _ _ _ _ _ _ _ _ _ _ _ _ _ _ _ _ _ _ _ _ _ _ _ _ _ _ _ _ _ _ _ _ _ _ _ _ _ _ _ _ _ _ _ _ _ _ _ _ _ _ _ _ _ w2 ((Bel.refl w2).drew.blk q1) ((Bel.refl w2).drew.blk q2) (HT.out.bel HD.out) _ ?_
  intro V w6 hb6 hv
  have HB6 := Lib.hid (HD.out.on hb6)
  simp only [regKn, List.drop_succ_cons, List.drop_zero, acVKn, hv]
  clear hb6 hv HR q1 q2 hb2
  go_wp2_with fail
  go_ret
  exact ⟨rfl, HB6.out⟩
end Go.Proofs.YtomojelaookacaaDoor.Mu

