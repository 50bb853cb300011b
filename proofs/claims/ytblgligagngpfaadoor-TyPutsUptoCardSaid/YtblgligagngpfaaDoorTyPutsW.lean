/-
  The statement TyPuts, walked: what it compares, operation by operation.
  The statement TyPuts, walked: its last statement's operations.
  TyPuts: what is asked of all that comes in, bit by bit; what Put answers, by its parts; how great what is put may be.
  TyPuts, walked.
-/
import Derived.Test.YtblgligagngpfaaDoorSolversG
import Derived.Test.YtblgligagngpfaaDoorTySeeV
import Derived.Test.YtblgligagngpfaaDoorTyTxR
import Derived.Test.YtblgligagngpfaaDoorTyRefB
import Derived.Test.YtblgligagngpfaaDoorTyMkW
import Derived.Test.YtblgligagngpfaaDoorTyVC
import Derived.Test.YtblgligagngpfaaDoorTyCanB
namespace Go.Proofs.YtblgligagngpfaaDoor.Mu
open Go.ChangeShapes Go.WideShapes Go.ChangeAt Go.RowKit Go.Shelf

attribute [local go_sem] Oper.semAt_some
set_option linter.unusedVariables false

theorem two_cells {w : World} {g : Nat} {t : TypeId} {x y : Value} (h : w.heap[g]? = some (.cells #[x, y] t (0, 0))) : w.cell? ⟨g, 0, none⟩ = some x ∧ w.cell? ⟨g, 1, none⟩ = some y := by
  simp [World.cell?, h]
def regPu : List Oper := [
  { dst := some 120, op := Op.move (Operand.tmp 10), type := 32, pos := "law.go:80", after := #[], guard := none },
  { dst := some 121, op := Op.binOp BinOp.neq 32 (Operand.tmp 120) (Operand.const (Value.int IntKind.i64 0)) 32, type := 4, pos := "law.go:80", after := #[{ on := 0, ground := Ground.data }], guard := none },
  { dst := some 122, op := Op.move (Operand.tmp 121), type := 4, pos := "law.go:80", after := #[{ on := 1, ground := Ground.data }], guard := none },
  { dst := some 123, op := Op.load 27 (Operand.tmp 9), type := 27, pos := "law.go:80", after := #[{ on := 2, ground := Ground.guard }], guard := some (2, false) },
  { dst := some 124, op := Op.load 27 (Operand.tmp 16), type := 27, pos := "law.go:80", after := #[{ on := 2, ground := Ground.guard }], guard := some (2, false) },
  { dst := some 125, op := Op.call { callee := Callee.value (Operand.func 9), args := #[Operand.tmp 123, Operand.tmp 124], argTypes := #[27, 27] }, type := 4, pos := "law.go:80", after := #[{ on := 3, ground := Ground.data }, { on := 4, ground := Ground.data }, { on := 2, ground := Ground.chain }, { on := 2, ground := Ground.guard }], guard := some (2, false) },
  { dst := some 126, op := Op.unOp UnOp.not 4 (Operand.tmp 125), type := 4, pos := "law.go:80", after := #[{ on := 5, ground := Ground.data }, { on := 2, ground := Ground.guard }], guard := some (2, false) },
  { dst := some 127, op := Op.pick (Operand.tmp 122) (Operand.const (Value.bool true)) (Operand.tmp 126), type := 4, pos := "law.go:80", after := #[{ on := 2, ground := Ground.data }, { on := 6, ground := Ground.data }], guard := none },
  { dst := some 128, op := Op.move (Operand.tmp 127), type := 4, pos := "law.go:80", after := #[{ on := 7, ground := Ground.data }, { on := 5, ground := Ground.chain }], guard := none },
  { dst := some 129, op := Op.move (Operand.tmp 17), type := 40, pos := "law.go:80", after := #[{ on := 8, ground := Ground.guard }], guard := some (8, false) },
  { dst := some 130, op := Op.fieldAddr 46 (Operand.tmp 22) 0, type := 0, pos := "law.go:80", after := #[{ on := 8, ground := Ground.guard }], guard := some (8, false) },
  { dst := some 131, op := Op.load 40 (Operand.tmp 130), type := 40, pos := "law.go:80", after := #[{ on := 10, ground := Ground.data }, { on := 8, ground := Ground.guard }], guard := some (8, false) },
  { dst := some 132, op := Op.call { callee := Callee.value (Operand.func 15), args := #[Operand.tmp 129, Operand.tmp 131], argTypes := #[40, 40] }, type := 4, pos := "law.go:80", after := #[{ on := 9, ground := Ground.data }, { on := 11, ground := Ground.data }, { on := 8, ground := Ground.chain }, { on := 8, ground := Ground.guard }], guard := some (8, false) },
  { dst := some 133, op := Op.unOp UnOp.not 4 (Operand.tmp 132), type := 4, pos := "law.go:80", after := #[{ on := 12, ground := Ground.data }, { on := 8, ground := Ground.guard }], guard := some (8, false) },
  { dst := some 134, op := Op.pick (Operand.tmp 128) (Operand.const (Value.bool true)) (Operand.tmp 133), type := 4, pos := "law.go:80", after := #[{ on := 8, ground := Ground.data }, { on := 13, ground := Ground.data }], guard := none },
  { dst := some 135, op := Op.move (Operand.tmp 134), type := 4, pos := "law.go:80", after := #[{ on := 14, ground := Ground.data }, { on := 12, ground := Ground.chain }], guard := none },
  { dst := some 136, op := Op.move (Operand.tmp 18), type := 40, pos := "law.go:80", after := #[{ on := 15, ground := Ground.guard }], guard := some (15, false) },
  { dst := some 137, op := Op.fieldAddr 46 (Operand.tmp 22) 1, type := 0, pos := "law.go:80", after := #[{ on := 15, ground := Ground.guard }], guard := some (15, false) },
  { dst := some 138, op := Op.load 40 (Operand.tmp 137), type := 40, pos := "law.go:80", after := #[{ on := 17, ground := Ground.data }, { on := 15, ground := Ground.guard }], guard := some (15, false) },
  { dst := some 139, op := Op.call { callee := Callee.value (Operand.func 15), args := #[Operand.tmp 136, Operand.tmp 138], argTypes := #[40, 40] }, type := 4, pos := "law.go:80", after := #[{ on := 16, ground := Ground.data }, { on := 18, ground := Ground.data }, { on := 15, ground := Ground.chain }, { on := 15, ground := Ground.guard }], guard := some (15, false) },
  { dst := some 140, op := Op.unOp UnOp.not 4 (Operand.tmp 139), type := 4, pos := "law.go:80", after := #[{ on := 19, ground := Ground.data }, { on := 15, ground := Ground.guard }], guard := some (15, false) },
  { dst := some 141, op := Op.pick (Operand.tmp 135) (Operand.const (Value.bool true)) (Operand.tmp 140), type := 4, pos := "law.go:80", after := #[{ on := 15, ground := Ground.data }, { on := 20, ground := Ground.data }], guard := none },
  { dst := some 142, op := Op.move (Operand.tmp 141), type := 4, pos := "law.go:80", after := #[{ on := 21, ground := Ground.data }, { on := 19, ground := Ground.chain }], guard := none },
  { dst := some 143, op := Op.move (Operand.tmp 20), type := 40, pos := "law.go:80", after := #[{ on := 22, ground := Ground.guard }], guard := some (22, false) },
  { dst := some 144, op := Op.move (Operand.tmp 17), type := 40, pos := "law.go:80", after := #[{ on := 22, ground := Ground.guard }], guard := some (22, false) },
  { dst := some 145, op := Op.call { callee := Callee.value (Operand.func 15), args := #[Operand.tmp 143, Operand.tmp 144], argTypes := #[40, 40] }, type := 4, pos := "law.go:80", after := #[{ on := 23, ground := Ground.data }, { on := 24, ground := Ground.data }, { on := 22, ground := Ground.chain }, { on := 22, ground := Ground.guard }], guard := some (22, false) },
  { dst := some 146, op := Op.unOp UnOp.not 4 (Operand.tmp 145), type := 4, pos := "law.go:80", after := #[{ on := 25, ground := Ground.data }, { on := 22, ground := Ground.guard }], guard := some (22, false) },
  { dst := some 147, op := Op.pick (Operand.tmp 142) (Operand.const (Value.bool true)) (Operand.tmp 146), type := 4, pos := "law.go:80", after := #[{ on := 22, ground := Ground.data }, { on := 26, ground := Ground.data }], guard := none },
  { dst := some 148, op := Op.move (Operand.tmp 147), type := 4, pos := "law.go:80", after := #[{ on := 27, ground := Ground.data }, { on := 25, ground := Ground.chain }], guard := none },
  { dst := some 149, op := Op.move (Operand.tmp 21), type := 40, pos := "law.go:80", after := #[{ on := 28, ground := Ground.guard }], guard := some (28, false) },
  { dst := some 150, op := Op.move (Operand.tmp 18), type := 40, pos := "law.go:80", after := #[{ on := 28, ground := Ground.guard }], guard := some (28, false) },
  { dst := some 151, op := Op.call { callee := Callee.value (Operand.func 15), args := #[Operand.tmp 149, Operand.tmp 150], argTypes := #[40, 40] }, type := 4, pos := "law.go:80", after := #[{ on := 29, ground := Ground.data }, { on := 30, ground := Ground.data }, { on := 28, ground := Ground.chain }, { on := 28, ground := Ground.guard }], guard := some (28, false) },
  { dst := some 152, op := Op.unOp UnOp.not 4 (Operand.tmp 151), type := 4, pos := "law.go:80", after := #[{ on := 31, ground := Ground.data }, { on := 28, ground := Ground.guard }], guard := some (28, false) },
  { dst := some 153, op := Op.pick (Operand.tmp 148) (Operand.const (Value.bool true)) (Operand.tmp 152), type := 4, pos := "law.go:80", after := #[{ on := 28, ground := Ground.data }, { on := 32, ground := Ground.data }], guard := none },
  { dst := some 154, op := Op.move (Operand.tmp 153), type := 4, pos := "law.go:80", after := #[{ on := 33, ground := Ground.data }, { on := 31, ground := Ground.chain }], guard := none },
  { dst := some 155, op := Op.load 27 (Operand.tmp 19), type := 27, pos := "law.go:80", after := #[{ on := 34, ground := Ground.guard }], guard := some (34, false) },
  { dst := some 156, op := Op.load 27 (Operand.tmp 4), type := 27, pos := "law.go:80", after := #[{ on := 34, ground := Ground.guard }], guard := some (34, false) },
  { dst := some 157, op := Op.call { callee := Callee.value (Operand.func 16), args := #[Operand.tmp 156], argTypes := #[27] }, type := 27, pos := "law.go:80", after := #[{ on := 36, ground := Ground.data }, { on := 34, ground := Ground.chain }, { on := 34, ground := Ground.guard }], guard := some (34, false) },
  { dst := some 158, op := Op.call { callee := Callee.value (Operand.func 9), args := #[Operand.tmp 155, Operand.tmp 157], argTypes := #[27, 27] }, type := 4, pos := "law.go:80", after := #[{ on := 35, ground := Ground.data }, { on := 37, ground := Ground.data }, { on := 37, ground := Ground.chain }, { on := 34, ground := Ground.guard }], guard := some (34, false) },
  { dst := some 159, op := Op.unOp UnOp.not 4 (Operand.tmp 158), type := 4, pos := "law.go:80", after := #[{ on := 38, ground := Ground.data }, { on := 34, ground := Ground.guard }], guard := some (34, false) },
  { dst := some 160, op := Op.pick (Operand.tmp 154) (Operand.const (Value.bool true)) (Operand.tmp 159), type := 4, pos := "law.go:80", after := #[{ on := 34, ground := Ground.data }, { on := 39, ground := Ground.data }], guard := none }]
def specPu (BX BW BS BC BT : Nat) (kx nx vx cx : Int) (AX : Option Addr) (lx px : Nat) (AW : Option Addr) (pw : Nat) (V1 : Option Addr) (l1 vc1 : Nat) (V2 : Option Addr) (l2 vc2 : Nat) (S1 : Option Addr) (sc1 : Nat) (S2 : Option Addr) (sc2 : Nat) (C1 : Option Addr) (cc1 : Nat) (C2 : Option Addr) (cc2 : Nat) (k n x c : Int) (A : Option Addr) (len cap : Nat) (kc nc xc mc : Int) (AC : Option Addr) (lc pc : Nat) (kidsc : Fo) (i : Nat) (v : Value) (w : World) : Prop :=
  match i with
  | 0 => v = .int .i64 0
  | 1 => v = .bool false
  | 2 => v = .bool false
  | 3 => v = .agg #[.int .u8 kx, .int .i64 nx, .int .i64 vx, .int .u8 cx, .slice AX lx px]
  | 4 => v = .agg #[.int .u8 kx, .int .i64 nx, .int .i64 vx, .int .u8 cx, .slice AW lx pw]
  | 5 => v = .bool true
  | 6 => v = .bool false
  | 7 => v = .bool false
  | 8 => v = .bool false
  | 9 => v = .slice V1 l1 vc1
  | 10 => v = .pointer (some ⟨BS, 0, none⟩)
  | 11 => v = .slice S1 l1 sc1
  | 12 => v = .bool true
  | 13 => v = .bool false
  | 14 => v = .bool false
  | 15 => v = .bool false
  | 16 => v = .slice V2 l2 vc2
  | 17 => v = .pointer (some ⟨BS, 1, none⟩)
  | 18 => v = .slice S2 l2 sc2
  | 19 => v = .bool true
  | 20 => v = .bool false
  | 21 => v = .bool false
  | 22 => v = .bool false
  | 23 => v = .slice C1 l1 cc1
  | 24 => v = .slice V1 l1 vc1
  | 25 => v = .bool true
  | 26 => v = .bool false
  | 27 => v = .bool false
  | 28 => v = .bool false
  | 29 => v = .slice C2 l2 cc2
  | 30 => v = .slice V2 l2 vc2
  | 31 => v = .bool true
  | 32 => v = .bool false
  | 33 => v = .bool false
  | 34 => v = .bool false
  | 35 => v = .agg #[.int .u8 kc, .int .i64 nc, .int .i64 xc, .int .u8 mc, .slice AC lc pc]
  | 36 => v = .agg #[.int .u8 k, .int .i64 n, .int .i64 x, .int .u8 c, .slice A len cap]
  | 37 => ∃ A c, v = .agg #[.int .u8 kc, .int .i64 nc, .int .i64 xc, .int .u8 mc, .slice A lc c] ∧ KidsAt w (Old w) A lc c kidsc
  | 38 => v = .bool true
  | 39 => v = .bool false
  | _ => True
theorem specPu_mono {BX BW BS BC BT : Nat} {kx nx vx cx : Int} {AX : Option Addr} {lx px : Nat} {AW : Option Addr} {pw : Nat} {V1 : Option Addr} {l1 vc1 : Nat} {V2 : Option Addr} {l2 vc2 : Nat} {S1 : Option Addr} {sc1 : Nat} {S2 : Option Addr} {sc2 : Nat} {C1 : Option Addr} {cc1 : Nat} {C2 : Option Addr} {cc2 : Nat} {k n x c : Int} {A : Option Addr} {len cap : Nat} {kc nc xc mc : Int} {AC : Option Addr} {lc pc : Nat} {kidsc : Fo} (i : Nat) (v : Value) (w w' : World) (hi : i < 40) (h : specPu BX BW BS BC BT kx nx vx cx AX lx px AW pw V1 l1 vc1 V2 l2 vc2 S1 sc1 S2 sc2 C1 cc1 C2 cc2 k n x c A len cap kc nc xc mc AC lc pc kidsc i v w) (hb : Bel w w') : specPu BX BW BS BC BT kx nx vx cx AX lx px AW pw V1 l1 vc1 V2 l2 vc2 S1 sc1 S2 sc2 C1 cc1 C2 cc2 k n x c A len cap kc nc xc mc AC lc pc kidsc i v w' := by
  match i, hi, h with
  | 0, _, h => exact h
  | 1, _, h => exact h
  | 2, _, h => exact h
  | 3, _, h => exact h
  | 4, _, h => exact h
  | 5, _, h => exact h
  | 6, _, h => exact h
  | 7, _, h => exact h
  | 8, _, h => exact h
  | 9, _, h => exact h
  | 10, _, h => exact h
  | 11, _, h => exact h
  | 12, _, h => exact h
  | 13, _, h => exact h
  | 14, _, h => exact h
  | 15, _, h => exact h
  | 16, _, h => exact h
  | 17, _, h => exact h
  | 18, _, h => exact h
  | 19, _, h => exact h
  | 20, _, h => exact h
  | 21, _, h => exact h
  | 22, _, h => exact h
  | 23, _, h => exact h
  | 24, _, h => exact h
  | 25, _, h => exact h
  | 26, _, h => exact h
  | 27, _, h => exact h
  | 28, _, h => exact h
  | 29, _, h => exact h
  | 30, _, h => exact h
  | 31, _, h => exact h
  | 32, _, h => exact h
  | 33, _, h => exact h
  | 34, _, h => exact h
  | 35, _, h => exact h
  | 36, _, h => exact h
  | 37, _, h => obtain ⟨A, c, e, hn⟩ := h; exact ⟨A, c, e, hn.bel hb⟩
  | 38, _, h => exact h
  | 39, _, h => exact h
  | q + 40, hi, _ => exact absurd hi (by omega)
def acOPu (BX BW BS BC BT : Nat) (kx nx vx cx : Int) (AX : Option Addr) (lx px : Nat) (AW : Option Addr) (pw : Nat) (V1 : Option Addr) (l1 vc1 : Nat) (V2 : Option Addr) (l2 vc2 : Nat) (S1 : Option Addr) (sc1 : Nat) (S2 : Option Addr) (sc2 : Nat) (C1 : Option Addr) (cc1 : Nat) (C2 : Option Addr) (cc2 : Nat) (k n x c : Int) (A : Option Addr) (len cap : Nat) (kc nc xc mc : Int) (AC : Option Addr) (lc pc : Nat) (kidsc : Fo) (s0 s1 s2 s3 s5 s6 s7 s8 s11 s12 s13 s14 s15 s23 s24 s25 s26 s27 s28 s29 s30 s31 s32 s33 s34 s35 s36 s37 s38 s39 s40 s41 s42 s43 s44 s45 s46 s47 s48 s49 s50 s51 s52 s53 s54 s55 s56 s57 s58 s59 s60 s61 s62 s63 s64 s65 s66 s67 s68 s69 s70 s71 s72 s73 s74 s75 s76 s77 s78 s79 s80 s81 s82 s83 s84 s85 s86 s87 s88 s89 s90 s91 s92 s93 s94 s95 s96 s97 s98 s99 s100 s101 s102 s103 s104 s105 s106 s107 s108 s109 s110 s111 s112 s113 s114 s115 s116 s117 s118 s119 s120 s121 s122 s123 s124 s125 s126 s127 s128 s129 s130 s131 s132 s133 s134 s135 s136 s137 s138 s139 s140 s141 s142 s143 s144 s145 s146 s147 s148 s149 s150 s151 s152 s153 s154 s155 s156 s157 s158 s159 s160 s161 s162 s163 s164 s165 s166 s167 s168 s169 s170 s171 s172 s173 s174 s175 s176 s177 s178 s179 s180 s181 s182 s183 s184 s185 : Value) (df : List Deferred) : Act := { tmps := #[s0, s1, s2, s3, .pointer (some ⟨BT, 0, none⟩), s5, s6, s7, s8, .pointer (some ⟨BX, 0, none⟩), .int .i64 0, s11, s12, s13, s14, s15, .pointer (some ⟨BW, 0, none⟩), .slice V1 l1 vc1, .slice V2 l2 vc2, .pointer (some ⟨BC, 0, none⟩), .slice C1 l1 cc1, .slice C2 l2 cc2, .pointer (some ⟨BS, 0, none⟩), s23, s24, s25, s26, s27, s28, s29, s30, s31, s32, s33, s34, s35, s36, s37, s38, s39, s40, s41, s42, s43, s44, s45, s46, s47, s48, s49, s50, s51, s52, s53, s54, s55, s56, s57, s58, s59, s60, s61, s62, s63, s64, s65, s66, s67, s68, s69, s70, s71, s72, s73, s74, s75, s76, s77, s78, s79, s80, s81, s82, s83, s84, s85, s86, s87, s88, s89, s90, s91, s92, s93, s94, s95, s96, s97, s98, s99, s100, s101, s102, s103, s104, s105, s106, s107, s108, s109, s110, s111, s112, s113, s114, s115, s116, s117, s118, s119, s120, s121, s122, s123, s124, s125, s126, s127, s128, s129, s130, s131, s132, s133, s134, s135, s136, s137, s138, s139, s140, s141, s142, s143, s144, s145, s146, s147, s148, s149, s150, s151, s152, s153, s154, s155, s156, s157, s158, s159, s160, s161, s162, s163, s164, s165, s166, s167, s168, s169, s170, s171, s172, s173, s174, s175, s176, s177, s178, s179, s180, s181, s182, s183, s184, s185], defers := df }
def acVPu (BX BW BS BC BT : Nat) (kx nx vx cx : Int) (AX : Option Addr) (lx px : Nat) (AW : Option Addr) (pw : Nat) (V1 : Option Addr) (l1 vc1 : Nat) (V2 : Option Addr) (l2 vc2 : Nat) (S1 : Option Addr) (sc1 : Nat) (S2 : Option Addr) (sc2 : Nat) (C1 : Option Addr) (cc1 : Nat) (C2 : Option Addr) (cc2 : Nat) (k n x c : Int) (A : Option Addr) (len cap : Nat) (kc nc xc mc : Int) (AC : Option Addr) (lc pc : Nat) (kidsc : Fo) (s0 s1 s2 s3 s5 s6 s7 s8 s11 s12 s13 s14 s15 s23 s24 s25 s26 s27 s28 s29 s30 s31 s32 s33 s34 s35 s36 s37 s38 s39 s40 s41 s42 s43 s44 s45 s46 s47 s48 s49 s50 s51 s52 s53 s54 s55 s56 s57 s58 s59 s60 s61 s62 s63 s64 s65 s66 s67 s68 s69 s70 s71 s72 s73 s74 s75 s76 s77 s78 s79 s80 s81 s82 s83 s84 s85 s86 s87 s88 s89 s90 s91 s92 s93 s94 s95 s96 s97 s98 s99 s100 s101 s102 s103 s104 s105 s106 s107 s108 s109 s110 s111 s112 s113 s114 s115 s116 s117 s118 s119 s120 s121 s122 s123 s124 s125 s126 s127 s128 s129 s130 s131 s132 s133 s134 s135 s136 s137 s138 s139 s140 s141 s142 s143 s144 s145 s146 s147 s148 s149 s150 s151 s152 s153 s154 s155 s156 s157 s158 s159 s160 s161 s162 s163 s164 s165 s166 s167 s168 s169 s170 s171 s172 s173 s174 s175 s176 s177 s178 s179 s180 s181 s182 s183 s184 s185 : Value) (df : List Deferred) (V : Nat → Value) : Act := { tmps := #[s0, s1, s2, s3, .pointer (some ⟨BT, 0, none⟩), s5, s6, s7, s8, .pointer (some ⟨BX, 0, none⟩), .int .i64 0, s11, s12, s13, s14, s15, .pointer (some ⟨BW, 0, none⟩), .slice V1 l1 vc1, .slice V2 l2 vc2, .pointer (some ⟨BC, 0, none⟩), .slice C1 l1 cc1, .slice C2 l2 cc2, .pointer (some ⟨BS, 0, none⟩), s23, s24, s25, s26, s27, s28, s29, s30, s31, s32, s33, s34, s35, s36, s37, s38, s39, s40, s41, s42, s43, s44, s45, s46, s47, s48, s49, s50, s51, s52, s53, s54, s55, s56, s57, s58, s59, s60, s61, s62, s63, s64, s65, s66, s67, s68, s69, s70, s71, s72, s73, s74, s75, s76, s77, s78, s79, s80, s81, s82, s83, s84, s85, s86, s87, s88, s89, s90, s91, s92, s93, s94, s95, s96, s97, s98, s99, s100, s101, s102, s103, s104, s105, s106, s107, s108, s109, s110, s111, s112, s113, s114, s115, s116, s117, s118, s119, V 0, V 1, V 2, V 3, V 4, V 5, V 6, V 7, V 8, V 9, V 10, V 11, V 12, V 13, V 14, V 15, V 16, V 17, V 18, V 19, V 20, V 21, V 22, V 23, V 24, V 25, V 26, V 27, V 28, V 29, V 30, V 31, V 32, V 33, V 34, V 35, V 36, V 37, V 38, V 39, s160, s161, s162, s163, s164, s165, s166, s167, s168, s169, s170, s171, s172, s173, s174, s175, s176, s177, s178, s179, s180, s181, s182, s183, s184, s185], defers := df }
theorem regPu_tail : tailB .any regPu.toArray 40 = true := by kernel_rfl
theorem regPu_fwd : fwdB regPu.toArray 40 = true := by kernel_rfl
theorem regPu_slots : slotsB regPu.toArray 186 = true := by kernel_rfl
theorem regPu_seq : Region.seqB .any regPu.toArray (regPu.length - 40) 40 (Array.replicate 40 true ++ Array.replicate (regPu.length - 40) false) = true := by kernel_rfl
set_option maxRecDepth 100000 in
set_option maxHeartbeats 8000000 in
theorem regPu_any {id : Nat} (BX BW BS BC BT : Nat) (kx nx vx cx : Int) (AX : Option Addr) (lx px : Nat) (AW : Option Addr) (pw : Nat) (V1 : Option Addr) (l1 vc1 : Nat) (V2 : Option Addr) (l2 vc2 : Nat) (S1 : Option Addr) (sc1 : Nat) (S2 : Option Addr) (sc2 : Nat) (C1 : Option Addr) (cc1 : Nat) (C2 : Option Addr) (cc2 : Nat) (k n x c : Int) (A : Option Addr) (len cap : Nat) (kc nc xc mc : Int) (AC : Option Addr) (lc pc : Nat) (kidsc : Fo) (s0 s1 s2 s3 s5 s6 s7 s8 s11 s12 s13 s14 s15 s23 s24 s25 s26 s27 s28 s29 s30 s31 s32 s33 s34 s35 s36 s37 s38 s39 s40 s41 s42 s43 s44 s45 s46 s47 s48 s49 s50 s51 s52 s53 s54 s55 s56 s57 s58 s59 s60 s61 s62 s63 s64 s65 s66 s67 s68 s69 s70 s71 s72 s73 s74 s75 s76 s77 s78 s79 s80 s81 s82 s83 s84 s85 s86 s87 s88 s89 s90 s91 s92 s93 s94 s95 s96 s97 s98 s99 s100 s101 s102 s103 s104 s105 s106 s107 s108 s109 s110 s111 s112 s113 s114 s115 s116 s117 s118 s119 s120 s121 s122 s123 s124 s125 s126 s127 s128 s129 s130 s131 s132 s133 s134 s135 s136 s137 s138 s139 s140 s141 s142 s143 s144 s145 s146 s147 s148 s149 s150 s151 s152 s153 s154 s155 s156 s157 s158 s159 s160 s161 s162 s163 s164 s165 s166 s167 s168 s169 s170 s171 s172 s173 s174 s175 s176 s177 s178 s179 s180 s181 s182 s183 s184 s185 : Value) (df : List Deferred) (w : World) (x1 : w.drew.heap[BX]? = some (.cells #[.int .u8 kx, .int .i64 nx, .int .i64 vx, .int .u8 cx, .slice AX lx px] 27 (0, 0))) (x2 : w.drew.heap[BW]? = some (.cells #[.int .u8 kx, .int .i64 nx, .int .i64 vx, .int .u8 cx, .slice AW lx pw] 27 (0, 0))) (x3 : w.drew.heap[BC]? = some (.cells #[.int .u8 kc, .int .i64 nc, .int .i64 xc, .int .u8 mc, .slice AC lc pc] 27 (0, 0))) (x4 : w.drew.heap[BT]? = some (.cells #[.int .u8 k, .int .i64 n, .int .i64 x, .int .u8 c, .slice A len cap] 27 (0, 0))) (x5 : w.drew.heap[BS]? = some (.cells #[.slice S1 l1 sc1, .slice S2 l2 sc2] 46 (0, 0)))
    (HS1 : ∀ W, Bel w.drew W → Calls Tryd.prog 9 #[.agg #[.int .u8 kx, .int .i64 nx, .int .i64 vx, .int .u8 cx, .slice AX lx px], .agg #[.int .u8 kx, .int .i64 nx, .int .i64 vx, .int .u8 cx, .slice AW lx pw]] W (SameP true W)) (HE1 : ∀ W, Bel w.drew W → Calls Tryd.prog 15 #[.slice V1 l1 vc1, .slice S1 l1 sc1] W (SameP true W)) (HE2 : ∀ W, Bel w.drew W → Calls Tryd.prog 15 #[.slice V2 l2 vc2, .slice S2 l2 sc2] W (SameP true W)) (HE3 : ∀ W, Bel w.drew W → Calls Tryd.prog 15 #[.slice C1 l1 cc1, .slice V1 l1 vc1] W (SameP true W)) (HE4 : ∀ W, Bel w.drew W → Calls Tryd.prog 15 #[.slice C2 l2 cc2, .slice V2 l2 vc2] W (SameP true W))
    (HC : ∀ W, Bel w.drew W → Calls Tryd.prog 16 #[.agg #[.int .u8 k, .int .i64 n, .int .i64 x, .int .u8 c, .slice A len cap]] W fun e w' => ∃ A c, e = .returned (.agg #[.int .u8 kc, .int .i64 nc, .int .i64 xc, .int .u8 mc, .slice A lc c]) ∧ KidsAt w' (Old w') A lc c kidsc ∧ Bel W w')
    (HS2 : ∀ W A c, Bel w.drew W → KidsAt W (Old W) A lc c kidsc → Calls Tryd.prog 9 #[.agg #[.int .u8 kc, .int .i64 nc, .int .i64 xc, .int .u8 mc, .slice AC lc pc], .agg #[.int .u8 kc, .int .i64 nc, .int .i64 xc, .int .u8 mc, .slice A lc c]] W (SameP true W)) (Q : Exit → Act → World → Prop)
    (hend : ∀ (V : Nat → Value) (w' : World), Bel w.drew w' → ((V 34) = .bool false) → ((V 39) = .bool false) → wpList Tryd.prog regPu.toArray Q (regPu.drop 40) (acVPu BX BW BS BC BT kx nx vx cx AX lx px AW pw V1 l1 vc1 V2 l2 vc2 S1 sc1 S2 sc2 C1 cc1 C2 cc2 k n x c A len cap kc nc xc mc AC lc pc kidsc s0 s1 s2 s3 s5 s6 s7 s8 s11 s12 s13 s14 s15 s23 s24 s25 s26 s27 s28 s29 s30 s31 s32 s33 s34 s35 s36 s37 s38 s39 s40 s41 s42 s43 s44 s45 s46 s47 s48 s49 s50 s51 s52 s53 s54 s55 s56 s57 s58 s59 s60 s61 s62 s63 s64 s65 s66 s67 s68 s69 s70 s71 s72 s73 s74 s75 s76 s77 s78 s79 s80 s81 s82 s83 s84 s85 s86 s87 s88 s89 s90 s91 s92 s93 s94 s95 s96 s97 s98 s99 s100 s101 s102 s103 s104 s105 s106 s107 s108 s109 s110 s111 s112 s113 s114 s115 s116 s117 s118 s119 s120 s121 s122 s123 s124 s125 s126 s127 s128 s129 s130 s131 s132 s133 s134 s135 s136 s137 s138 s139 s140 s141 s142 s143 s144 s145 s146 s147 s148 s149 s150 s151 s152 s153 s154 s155 s156 s157 s158 s159 s160 s161 s162 s163 s164 s165 s166 s167 s168 s169 s170 s171 s172 s173 s174 s175 s176 s177 s178 s179 s180 s181 s182 s183 s184 s185 df V) w') :
    (Code.region id regPu.toArray true).wp Tryd.prog Q (acOPu BX BW BS BC BT kx nx vx cx AX lx px AW pw V1 l1 vc1 V2 l2 vc2 S1 sc1 S2 sc2 C1 cc1 C2 cc2 k n x c A len cap kc nc xc mc AC lc pc kidsc s0 s1 s2 s3 s5 s6 s7 s8 s11 s12 s13 s14 s15 s23 s24 s25 s26 s27 s28 s29 s30 s31 s32 s33 s34 s35 s36 s37 s38 s39 s40 s41 s42 s43 s44 s45 s46 s47 s48 s49 s50 s51 s52 s53 s54 s55 s56 s57 s58 s59 s60 s61 s62 s63 s64 s65 s66 s67 s68 s69 s70 s71 s72 s73 s74 s75 s76 s77 s78 s79 s80 s81 s82 s83 s84 s85 s86 s87 s88 s89 s90 s91 s92 s93 s94 s95 s96 s97 s98 s99 s100 s101 s102 s103 s104 s105 s106 s107 s108 s109 s110 s111 s112 s113 s114 s115 s116 s117 s118 s119 s120 s121 s122 s123 s124 s125 s126 s127 s128 s129 s130 s131 s132 s133 s134 s135 s136 s137 s138 s139 s140 s141 s142 s143 s144 s145 s146 s147 s148 s149 s150 s151 s152 s153 s154 s155 s156 s157 s158 s159 s160 s161 s162 s163 s164 s165 s166 s167 s168 s169 s170 s171 s172 s173 s174 s175 s176 s177 s178 s179 s180 s181 s182 s183 s184 s185 df) w := by
  refine wp_region_invG (l := regPu) 40 (acOPu BX BW BS BC BT kx nx vx cx AX lx px AW pw V1 l1 vc1 V2 l2 vc2 S1 sc1 S2 sc2 C1 cc1 C2 cc2 k n x c A len cap kc nc xc mc AC lc pc kidsc s0 s1 s2 s3 s5 s6 s7 s8 s11 s12 s13 s14 s15 s23 s24 s25 s26 s27 s28 s29 s30 s31 s32 s33 s34 s35 s36 s37 s38 s39 s40 s41 s42 s43 s44 s45 s46 s47 s48 s49 s50 s51 s52 s53 s54 s55 s56 s57 s58 s59 s60 s61 s62 s63 s64 s65 s66 s67 s68 s69 s70 s71 s72 s73 s74 s75 s76 s77 s78 s79 s80 s81 s82 s83 s84 s85 s86 s87 s88 s89 s90 s91 s92 s93 s94 s95 s96 s97 s98 s99 s100 s101 s102 s103 s104 s105 s106 s107 s108 s109 s110 s111 s112 s113 s114 s115 s116 s117 s118 s119 s120 s121 s122 s123 s124 s125 s126 s127 s128 s129 s130 s131 s132 s133 s134 s135 s136 s137 s138 s139 s140 s141 s142 s143 s144 s145 s146 s147 s148 s149 s150 s151 s152 s153 s154 s155 s156 s157 s158 s159 s160 s161 s162 s163 s164 s165 s166 s167 s168 s169 s170 s171 s172 s173 s174 s175 s176 s177 s178 s179 s180 s181 s182 s183 s184 s185 df) w (specPu BX BW BS BC BT kx nx vx cx AX lx px AW pw V1 l1 vc1 V2 l2 vc2 S1 sc1 S2 sc2 C1 cc1 C2 cc2 k n x c A len cap kc nc xc mc AC lc pc kidsc) (by kernel_rfl) regPu_tail regPu_fwd regPu_slots regPu_seq (fun i v w w' hi h hb => specPu_mono i v w w' hi h hb) ?_ ?_
  · intro i' o hi' ho a w1 V hbel hdep hpar K hK
    have p10 : a.eval (.tmp 10) = .int .i64 0 := hpar 10 (by show 10 < 186; decide) (by kernel_rfl)
    have p10' : a.tmps[10]?.getD undef = .int .i64 0 := by have h := p10; simp only [Act.eval, Array.getD_eq_getD_getElem?] at h; exact h
    have p9 : a.eval (.tmp 9) = .pointer (some ⟨BX, 0, none⟩) := hpar 9 (by show 9 < 186; decide) (by kernel_rfl)
    have p9' : a.tmps[9]?.getD undef = .pointer (some ⟨BX, 0, none⟩) := by have h := p9; simp only [Act.eval, Array.getD_eq_getD_getElem?] at h; exact h
    have p16 : a.eval (.tmp 16) = .pointer (some ⟨BW, 0, none⟩) := hpar 16 (by show 16 < 186; decide) (by kernel_rfl)
    have p16' : a.tmps[16]?.getD undef = .pointer (some ⟨BW, 0, none⟩) := by have h := p16; simp only [Act.eval, Array.getD_eq_getD_getElem?] at h; exact h
    have p19 : a.eval (.tmp 19) = .pointer (some ⟨BC, 0, none⟩) := hpar 19 (by show 19 < 186; decide) (by kernel_rfl)
    have p19' : a.tmps[19]?.getD undef = .pointer (some ⟨BC, 0, none⟩) := by have h := p19; simp only [Act.eval, Array.getD_eq_getD_getElem?] at h; exact h
    have p4 : a.eval (.tmp 4) = .pointer (some ⟨BT, 0, none⟩) := hpar 4 (by show 4 < 186; decide) (by kernel_rfl)
    have p4' : a.tmps[4]?.getD undef = .pointer (some ⟨BT, 0, none⟩) := by have h := p4; simp only [Act.eval, Array.getD_eq_getD_getElem?] at h; exact h
    have p22 : a.eval (.tmp 22) = .pointer (some ⟨BS, 0, none⟩) := hpar 22 (by show 22 < 186; decide) (by kernel_rfl)
    have p22' : a.tmps[22]?.getD undef = .pointer (some ⟨BS, 0, none⟩) := by have h := p22; simp only [Act.eval, Array.getD_eq_getD_getElem?] at h; exact h
    have p17 : a.eval (.tmp 17) = .slice V1 l1 vc1 := hpar 17 (by show 17 < 186; decide) (by kernel_rfl)
    have p17' : a.tmps[17]?.getD undef = .slice V1 l1 vc1 := by have h := p17; simp only [Act.eval, Array.getD_eq_getD_getElem?] at h; exact h
    have p18 : a.eval (.tmp 18) = .slice V2 l2 vc2 := hpar 18 (by show 18 < 186; decide) (by kernel_rfl)
    have p18' : a.tmps[18]?.getD undef = .slice V2 l2 vc2 := by have h := p18; simp only [Act.eval, Array.getD_eq_getD_getElem?] at h; exact h
    have p20 : a.eval (.tmp 20) = .slice C1 l1 cc1 := hpar 20 (by show 20 < 186; decide) (by kernel_rfl)
    have p20' : a.tmps[20]?.getD undef = .slice C1 l1 cc1 := by have h := p20; simp only [Act.eval, Array.getD_eq_getD_getElem?] at h; exact h
    have p21 : a.eval (.tmp 21) = .slice C2 l2 cc2 := hpar 21 (by show 21 < 186; decide) (by kernel_rfl)
    have p21' : a.tmps[21]?.getD undef = .slice C2 l2 cc2 := by have h := p21; simp only [Act.eval, Array.getD_eq_getD_getElem?] at h; exact h
    obtain ⟨⟨m0, m1, m2, m3, m4⟩, _⟩ := cells5 (hbel.blk x1)
    obtain ⟨⟨o0, o1, o2, o3, o4⟩, _⟩ := cells5 (hbel.blk x2)
    obtain ⟨⟨q0, q1, q2, q3, q4⟩, _⟩ := cells5 (hbel.blk x3)
    obtain ⟨⟨t0, t1, t2, t3, t4⟩, _⟩ := cells5 (hbel.blk x4)
    obtain ⟨z0, z1⟩ := two_cells (hbel.blk x5)
    match i', hi', ho, hdep, hK with
    | 0, _, ho, hdep, hK =>
      simp only [regPu, List.getElem?_toArray, List.getElem?_cons_zero, Option.some.injEq] at ho
      subst ho
      refine ⟨fun _ => ?_, fun hw => (yw_n rfl hw).elim⟩
      exact wp_val (v := .int .i64 0) (w' := w1) (by simp [execOp, go_sem, p10']) (hK _ _ (Bel.refl _) rfl)
    | 1, _, ho, hdep, hK =>
      simp only [regPu, List.getElem?_toArray, List.getElem?_cons_zero, List.getElem?_cons_succ, Option.some.injEq] at ho
      subst ho
      refine ⟨fun _ => ?_, fun hw => (yw_n rfl hw).elim⟩
      obtain ⟨f0, d0⟩ := hdep ⟨0, .data⟩ (by simp) rfl
      have e0 : a.eval (.tmp 120) = .int .i64 0 := (d0 120 rfl).trans f0
      have e0' : a.tmps[120]?.getD undef = .int .i64 0 := by have h := e0; simp only [Act.eval, Array.getD_eq_getD_getElem?] at h; exact h
      exact wp_val (v := .bool false) (w' := w1) (by simp [execOp, go_sem, e0']) (hK _ _ (Bel.refl _) rfl)
    | 2, _, ho, hdep, hK =>
      simp only [regPu, List.getElem?_toArray, List.getElem?_cons_zero, List.getElem?_cons_succ, Option.some.injEq] at ho
      subst ho
      refine ⟨fun _ => ?_, fun hw => (yw_n rfl hw).elim⟩
      obtain ⟨f1, d1⟩ := hdep ⟨1, .data⟩ (by simp) rfl
      have e1 : a.eval (.tmp 121) = .bool false := (d1 121 rfl).trans f1
      have e1' : a.tmps[121]?.getD undef = .bool false := by have h := e1; simp only [Act.eval, Array.getD_eq_getD_getElem?] at h; exact h
      exact wp_val (v := .bool false) (w' := w1) (by simp [execOp, go_sem, e1']) (hK _ _ (Bel.refl _) rfl)
    | 3, _, ho, hdep, hK =>
      simp only [regPu, List.getElem?_toArray, List.getElem?_cons_zero, List.getElem?_cons_succ, Option.some.injEq] at ho
      subst ho
      obtain ⟨fg, dg⟩ := hdep ⟨2, .guard⟩ (by simp) rfl
      have eg : a.tmps.getD 122 undef = .bool false := (dg 122 rfl).trans fg
      refine ⟨fun _ => ?_, fun hw => (yw_f (d := 122) rfl rfl eg hw).elim⟩
      exact wp_val (v := .agg #[.int .u8 kx, .int .i64 nx, .int .i64 vx, .int .u8 cx, .slice AX lx px]) (w' := w1) (by simp [execOp, go_sem, p9', m0, m1, m2, m3, m4]) (hK _ _ (Bel.refl _) rfl)
    | 4, _, ho, hdep, hK =>
      simp only [regPu, List.getElem?_toArray, List.getElem?_cons_zero, List.getElem?_cons_succ, Option.some.injEq] at ho
      subst ho
      obtain ⟨fg, dg⟩ := hdep ⟨2, .guard⟩ (by simp) rfl
      have eg : a.tmps.getD 122 undef = .bool false := (dg 122 rfl).trans fg
      refine ⟨fun _ => ?_, fun hw => (yw_f (d := 122) rfl rfl eg hw).elim⟩
      exact wp_val (v := .agg #[.int .u8 kx, .int .i64 nx, .int .i64 vx, .int .u8 cx, .slice AW lx pw]) (w' := w1) (by simp [execOp, go_sem, p16', o0, o1, o2, o3, o4]) (hK _ _ (Bel.refl _) rfl)
    | 5, _, ho, hdep, hK =>
      simp only [regPu, List.getElem?_toArray, List.getElem?_cons_zero, List.getElem?_cons_succ, Option.some.injEq] at ho
      subst ho
      obtain ⟨fg, dg⟩ := hdep ⟨2, .guard⟩ (by simp) rfl
      have eg : a.tmps.getD 122 undef = .bool false := (dg 122 rfl).trans fg
      refine ⟨fun _ => ?_, fun hw => (yw_f (d := 122) rfl rfl eg hw).elim⟩
      obtain ⟨f3, d3⟩ := hdep ⟨3, .data⟩ (by simp) rfl
      have e3 : a.eval (.tmp 123) = .agg #[.int .u8 kx, .int .i64 nx, .int .i64 vx, .int .u8 cx, .slice AX lx px] := (d3 123 rfl).trans f3
      have e3' : a.tmps[123]?.getD undef = .agg #[.int .u8 kx, .int .i64 nx, .int .i64 vx, .int .u8 cx, .slice AX lx px] := by have h := e3; simp only [Act.eval, Array.getD_eq_getD_getElem?] at h; exact h
      obtain ⟨f4, d4⟩ := hdep ⟨4, .data⟩ (by simp) rfl
      have e4 : a.eval (.tmp 124) = .agg #[.int .u8 kx, .int .i64 nx, .int .i64 vx, .int .u8 cx, .slice AW lx pw] := (d4 124 rfl).trans f4
      have e4' : a.tmps[124]?.getD undef = .agg #[.int .u8 kx, .int .i64 nx, .int .i64 vx, .int .u8 cx, .slice AW lx pw] := by have h := e4; simp only [Act.eval, Array.getD_eq_getD_getElem?] at h; exact h
      refine wp_enter (f := 9) (args := #[.agg #[.int .u8 kx, .int .i64 nx, .int .i64 vx, .int .u8 cx, .slice AX lx px], .agg #[.int .u8 kx, .int .i64 nx, .int .i64 vx, .int .u8 cx, .slice AW lx pw]]) (by simp [go_sem, e3', e4']) ((HS1 w1 hbel).mono ?_)
      rintro e w' ⟨rfl, hb⟩
      exact ⟨_, rfl, hK _ _ hb rfl⟩
    | 6, _, ho, hdep, hK =>
      simp only [regPu, List.getElem?_toArray, List.getElem?_cons_zero, List.getElem?_cons_succ, Option.some.injEq] at ho
      subst ho
      obtain ⟨fg, dg⟩ := hdep ⟨2, .guard⟩ (by simp) rfl
      have eg : a.tmps.getD 122 undef = .bool false := (dg 122 rfl).trans fg
      refine ⟨fun _ => ?_, fun hw => (yw_f (d := 122) rfl rfl eg hw).elim⟩
      obtain ⟨f5, d5⟩ := hdep ⟨5, .data⟩ (by simp) rfl
      have e5 : a.eval (.tmp 125) = .bool true := (d5 125 rfl).trans f5
      have e5' : a.tmps[125]?.getD undef = .bool true := by have h := e5; simp only [Act.eval, Array.getD_eq_getD_getElem?] at h; exact h
      exact wp_val (v := .bool false) (w' := w1) (by simp [execOp, go_sem, e5']) (hK _ _ (Bel.refl _) rfl)
    | 7, _, ho, hdep, hK =>
      simp only [regPu, List.getElem?_toArray, List.getElem?_cons_zero, List.getElem?_cons_succ, Option.some.injEq] at ho
      subst ho
      refine ⟨fun _ => ?_, fun hw => (yw_n rfl hw).elim⟩
      obtain ⟨f2, d2⟩ := hdep ⟨2, .data⟩ (by simp) rfl
      have e2 : a.eval (.tmp 122) = .bool false := (d2 122 rfl).trans f2
      have e2' : a.tmps[122]?.getD undef = .bool false := by have h := e2; simp only [Act.eval, Array.getD_eq_getD_getElem?] at h; exact h
      obtain ⟨f6, d6⟩ := hdep ⟨6, .data⟩ (by simp) rfl
      have e6 : a.eval (.tmp 126) = .bool false := (d6 126 rfl).trans f6
      have e6' : a.tmps[126]?.getD undef = .bool false := by have h := e6; simp only [Act.eval, Array.getD_eq_getD_getElem?] at h; exact h
      exact wp_val (v := .bool false) (w' := w1) (by simp [execOp, go_sem, e2', e6']) (hK _ _ (Bel.refl _) rfl)
    | 8, _, ho, hdep, hK =>
      simp only [regPu, List.getElem?_toArray, List.getElem?_cons_zero, List.getElem?_cons_succ, Option.some.injEq] at ho
      subst ho
      refine ⟨fun _ => ?_, fun hw => (yw_n rfl hw).elim⟩
      obtain ⟨f7, d7⟩ := hdep ⟨7, .data⟩ (by simp) rfl
      have e7 : a.eval (.tmp 127) = .bool false := (d7 127 rfl).trans f7
      have e7' : a.tmps[127]?.getD undef = .bool false := by have h := e7; simp only [Act.eval, Array.getD_eq_getD_getElem?] at h; exact h
      exact wp_val (v := .bool false) (w' := w1) (by simp [execOp, go_sem, e7']) (hK _ _ (Bel.refl _) rfl)
    | 9, _, ho, hdep, hK =>
      simp only [regPu, List.getElem?_toArray, List.getElem?_cons_zero, List.getElem?_cons_succ, Option.some.injEq] at ho
      subst ho
      obtain ⟨fg, dg⟩ := hdep ⟨8, .guard⟩ (by simp) rfl
      have eg : a.tmps.getD 128 undef = .bool false := (dg 128 rfl).trans fg
      refine ⟨fun _ => ?_, fun hw => (yw_f (d := 128) rfl rfl eg hw).elim⟩
      exact wp_val (v := .slice V1 l1 vc1) (w' := w1) (by simp [execOp, go_sem, p17']) (hK _ _ (Bel.refl _) rfl)
    | 10, _, ho, hdep, hK =>
      simp only [regPu, List.getElem?_toArray, List.getElem?_cons_zero, List.getElem?_cons_succ, Option.some.injEq] at ho
      subst ho
      obtain ⟨fg, dg⟩ := hdep ⟨8, .guard⟩ (by simp) rfl
      have eg : a.tmps.getD 128 undef = .bool false := (dg 128 rfl).trans fg
      refine ⟨fun _ => ?_, fun hw => (yw_f (d := 128) rfl rfl eg hw).elim⟩
      exact wp_val (v := .pointer (some ⟨BS, 0, none⟩)) (w' := w1) (by simp [execOp, go_sem, p22']) (hK _ _ (Bel.refl _) rfl)
    | 11, _, ho, hdep, hK =>
      simp only [regPu, List.getElem?_toArray, List.getElem?_cons_zero, List.getElem?_cons_succ, Option.some.injEq] at ho
      subst ho
      obtain ⟨fg, dg⟩ := hdep ⟨8, .guard⟩ (by simp) rfl
      have eg : a.tmps.getD 128 undef = .bool false := (dg 128 rfl).trans fg
      refine ⟨fun _ => ?_, fun hw => (yw_f (d := 128) rfl rfl eg hw).elim⟩
      obtain ⟨f10, d10⟩ := hdep ⟨10, .data⟩ (by simp) rfl
      have e10 : a.eval (.tmp 130) = .pointer (some ⟨BS, 0, none⟩) := (d10 130 rfl).trans f10
      have e10' : a.tmps[130]?.getD undef = .pointer (some ⟨BS, 0, none⟩) := by have h := e10; simp only [Act.eval, Array.getD_eq_getD_getElem?] at h; exact h
      exact wp_val (v := .slice S1 l1 sc1) (w' := w1) (by simp [execOp, go_sem, e10', z0]) (hK _ _ (Bel.refl _) rfl)
    | 12, _, ho, hdep, hK =>
      simp only [regPu, List.getElem?_toArray, List.getElem?_cons_zero, List.getElem?_cons_succ, Option.some.injEq] at ho
      subst ho
      obtain ⟨fg, dg⟩ := hdep ⟨8, .guard⟩ (by simp) rfl
      have eg : a.tmps.getD 128 undef = .bool false := (dg 128 rfl).trans fg
      refine ⟨fun _ => ?_, fun hw => (yw_f (d := 128) rfl rfl eg hw).elim⟩
      obtain ⟨f9, d9⟩ := hdep ⟨9, .data⟩ (by simp) rfl
      have e9 : a.eval (.tmp 129) = .slice V1 l1 vc1 := (d9 129 rfl).trans f9
      have e9' : a.tmps[129]?.getD undef = .slice V1 l1 vc1 := by have h := e9; simp only [Act.eval, Array.getD_eq_getD_getElem?] at h; exact h
      obtain ⟨f11, d11⟩ := hdep ⟨11, .data⟩ (by simp) rfl
      have e11 : a.eval (.tmp 131) = .slice S1 l1 sc1 := (d11 131 rfl).trans f11
      have e11' : a.tmps[131]?.getD undef = .slice S1 l1 sc1 := by have h := e11; simp only [Act.eval, Array.getD_eq_getD_getElem?] at h; exact h
      refine wp_enter (f := 15) (args := #[.slice V1 l1 vc1, .slice S1 l1 sc1]) (by simp [go_sem, e9', e11']) ((HE1 w1 hbel).mono ?_)
      rintro e w' ⟨rfl, hb⟩
      exact ⟨_, rfl, hK _ _ hb rfl⟩
    | 13, _, ho, hdep, hK =>
      simp only [regPu, List.getElem?_toArray, List.getElem?_cons_zero, List.getElem?_cons_succ, Option.some.injEq] at ho
      subst ho
      obtain ⟨fg, dg⟩ := hdep ⟨8, .guard⟩ (by simp) rfl
      have eg : a.tmps.getD 128 undef = .bool false := (dg 128 rfl).trans fg
      refine ⟨fun _ => ?_, fun hw => (yw_f (d := 128) rfl rfl eg hw).elim⟩
      obtain ⟨f12, d12⟩ := hdep ⟨12, .data⟩ (by simp) rfl
      have e12 : a.eval (.tmp 132) = .bool true := (d12 132 rfl).trans f12
      have e12' : a.tmps[132]?.getD undef = .bool true := by have h := e12; simp only [Act.eval, Array.getD_eq_getD_getElem?] at h; exact h
      exact wp_val (v := .bool false) (w' := w1) (by simp [execOp, go_sem, e12']) (hK _ _ (Bel.refl _) rfl)
    | 14, _, ho, hdep, hK =>
      simp only [regPu, List.getElem?_toArray, List.getElem?_cons_zero, List.getElem?_cons_succ, Option.some.injEq] at ho
      subst ho
      refine ⟨fun _ => ?_, fun hw => (yw_n rfl hw).elim⟩
      obtain ⟨f8, d8⟩ := hdep ⟨8, .data⟩ (by simp) rfl
      have e8 : a.eval (.tmp 128) = .bool false := (d8 128 rfl).trans f8
      have e8' : a.tmps[128]?.getD undef = .bool false := by have h := e8; simp only [Act.eval, Array.getD_eq_getD_getElem?] at h; exact h
      obtain ⟨f13, d13⟩ := hdep ⟨13, .data⟩ (by simp) rfl
      have e13 : a.eval (.tmp 133) = .bool false := (d13 133 rfl).trans f13
      have e13' : a.tmps[133]?.getD undef = .bool false := by have h := e13; simp only [Act.eval, Array.getD_eq_getD_getElem?] at h; exact h
      exact wp_val (v := .bool false) (w' := w1) (by simp [execOp, go_sem, e8', e13']) (hK _ _ (Bel.refl _) rfl)
    | 15, _, ho, hdep, hK =>
      simp only [regPu, List.getElem?_toArray, List.getElem?_cons_zero, List.getElem?_cons_succ, Option.some.injEq] at ho
      subst ho
      refine ⟨fun _ => ?_, fun hw => (yw_n rfl hw).elim⟩
      obtain ⟨f14, d14⟩ := hdep ⟨14, .data⟩ (by simp) rfl
      have e14 : a.eval (.tmp 134) = .bool false := (d14 134 rfl).trans f14
      have e14' : a.tmps[134]?.getD undef = .bool false := by have h := e14; simp only [Act.eval, Array.getD_eq_getD_getElem?] at h; exact h
      exact wp_val (v := .bool false) (w' := w1) (by simp [execOp, go_sem, e14']) (hK _ _ (Bel.refl _) rfl)
    | 16, _, ho, hdep, hK =>
      simp only [regPu, List.getElem?_toArray, List.getElem?_cons_zero, List.getElem?_cons_succ, Option.some.injEq] at ho
      subst ho
      obtain ⟨fg, dg⟩ := hdep ⟨15, .guard⟩ (by simp) rfl
      have eg : a.tmps.getD 135 undef = .bool false := (dg 135 rfl).trans fg
      refine ⟨fun _ => ?_, fun hw => (yw_f (d := 135) rfl rfl eg hw).elim⟩
      exact wp_val (v := .slice V2 l2 vc2) (w' := w1) (by simp [execOp, go_sem, p18']) (hK _ _ (Bel.refl _) rfl)
    | 17, _, ho, hdep, hK =>
      simp only [regPu, List.getElem?_toArray, List.getElem?_cons_zero, List.getElem?_cons_succ, Option.some.injEq] at ho
      subst ho
      obtain ⟨fg, dg⟩ := hdep ⟨15, .guard⟩ (by simp) rfl
      have eg : a.tmps.getD 135 undef = .bool false := (dg 135 rfl).trans fg
      refine ⟨fun _ => ?_, fun hw => (yw_f (d := 135) rfl rfl eg hw).elim⟩
      exact wp_val (v := .pointer (some ⟨BS, 1, none⟩)) (w' := w1) (by simp [execOp, go_sem, p22']) (hK _ _ (Bel.refl _) rfl)
    | 18, _, ho, hdep, hK =>
      simp only [regPu, List.getElem?_toArray, List.getElem?_cons_zero, List.getElem?_cons_succ, Option.some.injEq] at ho
      subst ho
      obtain ⟨fg, dg⟩ := hdep ⟨15, .guard⟩ (by simp) rfl
      have eg : a.tmps.getD 135 undef = .bool false := (dg 135 rfl).trans fg
      refine ⟨fun _ => ?_, fun hw => (yw_f (d := 135) rfl rfl eg hw).elim⟩
      obtain ⟨f17, d17⟩ := hdep ⟨17, .data⟩ (by simp) rfl
      have e17 : a.eval (.tmp 137) = .pointer (some ⟨BS, 1, none⟩) := (d17 137 rfl).trans f17
      have e17' : a.tmps[137]?.getD undef = .pointer (some ⟨BS, 1, none⟩) := by have h := e17; simp only [Act.eval, Array.getD_eq_getD_getElem?] at h; exact h
      exact wp_val (v := .slice S2 l2 sc2) (w' := w1) (by simp [execOp, go_sem, e17', z1]) (hK _ _ (Bel.refl _) rfl)
    | 19, _, ho, hdep, hK =>
      simp only [regPu, List.getElem?_toArray, List.getElem?_cons_zero, List.getElem?_cons_succ, Option.some.injEq] at ho
      subst ho
      obtain ⟨fg, dg⟩ := hdep ⟨15, .guard⟩ (by simp) rfl
      have eg : a.tmps.getD 135 undef = .bool false := (dg 135 rfl).trans fg
      refine ⟨fun _ => ?_, fun hw => (yw_f (d := 135) rfl rfl eg hw).elim⟩
      obtain ⟨f16, d16⟩ := hdep ⟨16, .data⟩ (by simp) rfl
      have e16 : a.eval (.tmp 136) = .slice V2 l2 vc2 := (d16 136 rfl).trans f16
      have e16' : a.tmps[136]?.getD undef = .slice V2 l2 vc2 := by have h := e16; simp only [Act.eval, Array.getD_eq_getD_getElem?] at h; exact h
      obtain ⟨f18, d18⟩ := hdep ⟨18, .data⟩ (by simp) rfl
      have e18 : a.eval (.tmp 138) = .slice S2 l2 sc2 := (d18 138 rfl).trans f18
      have e18' : a.tmps[138]?.getD undef = .slice S2 l2 sc2 := by have h := e18; simp only [Act.eval, Array.getD_eq_getD_getElem?] at h; exact h
      refine wp_enter (f := 15) (args := #[.slice V2 l2 vc2, .slice S2 l2 sc2]) (by simp [go_sem, e16', e18']) ((HE2 w1 hbel).mono ?_)
      rintro e w' ⟨rfl, hb⟩
      exact ⟨_, rfl, hK _ _ hb rfl⟩
    | 20, _, ho, hdep, hK =>
      simp only [regPu, List.getElem?_toArray, List.getElem?_cons_zero, List.getElem?_cons_succ, Option.some.injEq] at ho
      subst ho
      obtain ⟨fg, dg⟩ := hdep ⟨15, .guard⟩ (by simp) rfl
      have eg : a.tmps.getD 135 undef = .bool false := (dg 135 rfl).trans fg
      refine ⟨fun _ => ?_, fun hw => (yw_f (d := 135) rfl rfl eg hw).elim⟩
      obtain ⟨f19, d19⟩ := hdep ⟨19, .data⟩ (by simp) rfl
      have e19 : a.eval (.tmp 139) = .bool true := (d19 139 rfl).trans f19
      have e19' : a.tmps[139]?.getD undef = .bool true := by have h := e19; simp only [Act.eval, Array.getD_eq_getD_getElem?] at h; exact h
      exact wp_val (v := .bool false) (w' := w1) (by simp [execOp, go_sem, e19']) (hK _ _ (Bel.refl _) rfl)
    | 21, _, ho, hdep, hK =>
      simp only [regPu, List.getElem?_toArray, List.getElem?_cons_zero, List.getElem?_cons_succ, Option.some.injEq] at ho
      subst ho
      refine ⟨fun _ => ?_, fun hw => (yw_n rfl hw).elim⟩
      obtain ⟨f15, d15⟩ := hdep ⟨15, .data⟩ (by simp) rfl
      have e15 : a.eval (.tmp 135) = .bool false := (d15 135 rfl).trans f15
      have e15' : a.tmps[135]?.getD undef = .bool false := by have h := e15; simp only [Act.eval, Array.getD_eq_getD_getElem?] at h; exact h
      obtain ⟨f20, d20⟩ := hdep ⟨20, .data⟩ (by simp) rfl
      have e20 : a.eval (.tmp 140) = .bool false := (d20 140 rfl).trans f20
      have e20' : a.tmps[140]?.getD undef = .bool false := by have h := e20; simp only [Act.eval, Array.getD_eq_getD_getElem?] at h; exact h
      exact wp_val (v := .bool false) (w' := w1) (by simp [execOp, go_sem, e15', e20']) (hK _ _ (Bel.refl _) rfl)
    | 22, _, ho, hdep, hK =>
      simp only [regPu, List.getElem?_toArray, List.getElem?_cons_zero, List.getElem?_cons_succ, Option.some.injEq] at ho
      subst ho
      refine ⟨fun _ => ?_, fun hw => (yw_n rfl hw).elim⟩
      obtain ⟨f21, d21⟩ := hdep ⟨21, .data⟩ (by simp) rfl
      have e21 : a.eval (.tmp 141) = .bool false := (d21 141 rfl).trans f21
      have e21' : a.tmps[141]?.getD undef = .bool false := by have h := e21; simp only [Act.eval, Array.getD_eq_getD_getElem?] at h; exact h
      exact wp_val (v := .bool false) (w' := w1) (by simp [execOp, go_sem, e21']) (hK _ _ (Bel.refl _) rfl)
    | 23, _, ho, hdep, hK =>
      simp only [regPu, List.getElem?_toArray, List.getElem?_cons_zero, List.getElem?_cons_succ, Option.some.injEq] at ho
      subst ho
      obtain ⟨fg, dg⟩ := hdep ⟨22, .guard⟩ (by simp) rfl
      have eg : a.tmps.getD 142 undef = .bool false := (dg 142 rfl).trans fg
      refine ⟨fun _ => ?_, fun hw => (yw_f (d := 142) rfl rfl eg hw).elim⟩
      exact wp_val (v := .slice C1 l1 cc1) (w' := w1) (by simp [execOp, go_sem, p20']) (hK _ _ (Bel.refl _) rfl)
    | 24, _, ho, hdep, hK =>
      simp only [regPu, List.getElem?_toArray, List.getElem?_cons_zero, List.getElem?_cons_succ, Option.some.injEq] at ho
      subst ho
      obtain ⟨fg, dg⟩ := hdep ⟨22, .guard⟩ (by simp) rfl
      have eg : a.tmps.getD 142 undef = .bool false := (dg 142 rfl).trans fg
      refine ⟨fun _ => ?_, fun hw => (yw_f (d := 142) rfl rfl eg hw).elim⟩
      exact wp_val (v := .slice V1 l1 vc1) (w' := w1) (by simp [execOp, go_sem, p17']) (hK _ _ (Bel.refl _) rfl)
    | 25, _, ho, hdep, hK =>
      simp only [regPu, List.getElem?_toArray, List.getElem?_cons_zero, List.getElem?_cons_succ, Option.some.injEq] at ho
      subst ho
      obtain ⟨fg, dg⟩ := hdep ⟨22, .guard⟩ (by simp) rfl
      have eg : a.tmps.getD 142 undef = .bool false := (dg 142 rfl).trans fg
      refine ⟨fun _ => ?_, fun hw => (yw_f (d := 142) rfl rfl eg hw).elim⟩
      obtain ⟨f23, d23⟩ := hdep ⟨23, .data⟩ (by simp) rfl
      have e23 : a.eval (.tmp 143) = .slice C1 l1 cc1 := (d23 143 rfl).trans f23
      have e23' : a.tmps[143]?.getD undef = .slice C1 l1 cc1 := by have h := e23; simp only [Act.eval, Array.getD_eq_getD_getElem?] at h; exact h
      obtain ⟨f24, d24⟩ := hdep ⟨24, .data⟩ (by simp) rfl
      have e24 : a.eval (.tmp 144) = .slice V1 l1 vc1 := (d24 144 rfl).trans f24
      have e24' : a.tmps[144]?.getD undef = .slice V1 l1 vc1 := by have h := e24; simp only [Act.eval, Array.getD_eq_getD_getElem?] at h; exact h
      refine wp_enter (f := 15) (args := #[.slice C1 l1 cc1, .slice V1 l1 vc1]) (by simp [go_sem, e23', e24']) ((HE3 w1 hbel).mono ?_)
      rintro e w' ⟨rfl, hb⟩
      exact ⟨_, rfl, hK _ _ hb rfl⟩
    | 26, _, ho, hdep, hK =>
      simp only [regPu, List.getElem?_toArray, List.getElem?_cons_zero, List.getElem?_cons_succ, Option.some.injEq] at ho
      subst ho
      obtain ⟨fg, dg⟩ := hdep ⟨22, .guard⟩ (by simp) rfl
      have eg : a.tmps.getD 142 undef = .bool false := (dg 142 rfl).trans fg
      refine ⟨fun _ => ?_, fun hw => (yw_f (d := 142) rfl rfl eg hw).elim⟩
      obtain ⟨f25, d25⟩ := hdep ⟨25, .data⟩ (by simp) rfl
      have e25 : a.eval (.tmp 145) = .bool true := (d25 145 rfl).trans f25
      have e25' : a.tmps[145]?.getD undef = .bool true := by have h := e25; simp only [Act.eval, Array.getD_eq_getD_getElem?] at h; exact h
      exact wp_val (v := .bool false) (w' := w1) (by simp [execOp, go_sem, e25']) (hK _ _ (Bel.refl _) rfl)
    | 27, _, ho, hdep, hK =>
      simp only [regPu, List.getElem?_toArray, List.getElem?_cons_zero, List.getElem?_cons_succ, Option.some.injEq] at ho
      subst ho
      refine ⟨fun _ => ?_, fun hw => (yw_n rfl hw).elim⟩
      obtain ⟨f22, d22⟩ := hdep ⟨22, .data⟩ (by simp) rfl
      have e22 : a.eval (.tmp 142) = .bool false := (d22 142 rfl).trans f22
      have e22' : a.tmps[142]?.getD undef = .bool false := by have h := e22; simp only [Act.eval, Array.getD_eq_getD_getElem?] at h; exact h
      obtain ⟨f26, d26⟩ := hdep ⟨26, .data⟩ (by simp) rfl
      have e26 : a.eval (.tmp 146) = .bool false := (d26 146 rfl).trans f26
      have e26' : a.tmps[146]?.getD undef = .bool false := by have h := e26; simp only [Act.eval, Array.getD_eq_getD_getElem?] at h; exact h
      exact wp_val (v := .bool false) (w' := w1) (by simp [execOp, go_sem, e22', e26']) (hK _ _ (Bel.refl _) rfl)
    | 28, _, ho, hdep, hK =>
      simp only [regPu, List.getElem?_toArray, List.getElem?_cons_zero, List.getElem?_cons_succ, Option.some.injEq] at ho
      subst ho
      refine ⟨fun _ => ?_, fun hw => (yw_n rfl hw).elim⟩
      obtain ⟨f27, d27⟩ := hdep ⟨27, .data⟩ (by simp) rfl
      have e27 : a.eval (.tmp 147) = .bool false := (d27 147 rfl).trans f27
      have e27' : a.tmps[147]?.getD undef = .bool false := by have h := e27; simp only [Act.eval, Array.getD_eq_getD_getElem?] at h; exact h
      exact wp_val (v := .bool false) (w' := w1) (by simp [execOp, go_sem, e27']) (hK _ _ (Bel.refl _) rfl)
    | 29, _, ho, hdep, hK =>
      simp only [regPu, List.getElem?_toArray, List.getElem?_cons_zero, List.getElem?_cons_succ, Option.some.injEq] at ho
      subst ho
      obtain ⟨fg, dg⟩ := hdep ⟨28, .guard⟩ (by simp) rfl
      have eg : a.tmps.getD 148 undef = .bool false := (dg 148 rfl).trans fg
      refine ⟨fun _ => ?_, fun hw => (yw_f (d := 148) rfl rfl eg hw).elim⟩
      exact wp_val (v := .slice C2 l2 cc2) (w' := w1) (by simp [execOp, go_sem, p21']) (hK _ _ (Bel.refl _) rfl)
    | 30, _, ho, hdep, hK =>
      simp only [regPu, List.getElem?_toArray, List.getElem?_cons_zero, List.getElem?_cons_succ, Option.some.injEq] at ho
      subst ho
      obtain ⟨fg, dg⟩ := hdep ⟨28, .guard⟩ (by simp) rfl
      have eg : a.tmps.getD 148 undef = .bool false := (dg 148 rfl).trans fg
      refine ⟨fun _ => ?_, fun hw => (yw_f (d := 148) rfl rfl eg hw).elim⟩
      exact wp_val (v := .slice V2 l2 vc2) (w' := w1) (by simp [execOp, go_sem, p18']) (hK _ _ (Bel.refl _) rfl)
    | 31, _, ho, hdep, hK =>
      simp only [regPu, List.getElem?_toArray, List.getElem?_cons_zero, List.getElem?_cons_succ, Option.some.injEq] at ho
      subst ho
      obtain ⟨fg, dg⟩ := hdep ⟨28, .guard⟩ (by simp) rfl
      have eg : a.tmps.getD 148 undef = .bool false := (dg 148 rfl).trans fg
      refine ⟨fun _ => ?_, fun hw => (yw_f (d := 148) rfl rfl eg hw).elim⟩
      obtain ⟨f29, d29⟩ := hdep ⟨29, .data⟩ (by simp) rfl
      have e29 : a.eval (.tmp 149) = .slice C2 l2 cc2 := (d29 149 rfl).trans f29
      have e29' : a.tmps[149]?.getD undef = .slice C2 l2 cc2 := by have h := e29; simp only [Act.eval, Array.getD_eq_getD_getElem?] at h; exact h
      obtain ⟨f30, d30⟩ := hdep ⟨30, .data⟩ (by simp) rfl
      have e30 : a.eval (.tmp 150) = .slice V2 l2 vc2 := (d30 150 rfl).trans f30
      have e30' : a.tmps[150]?.getD undef = .slice V2 l2 vc2 := by have h := e30; simp only [Act.eval, Array.getD_eq_getD_getElem?] at h; exact h
      refine wp_enter (f := 15) (args := #[.slice C2 l2 cc2, .slice V2 l2 vc2]) (by simp [go_sem, e29', e30']) ((HE4 w1 hbel).mono ?_)
      rintro e w' ⟨rfl, hb⟩
      exact ⟨_, rfl, hK _ _ hb rfl⟩
    | 32, _, ho, hdep, hK =>
      simp only [regPu, List.getElem?_toArray, List.getElem?_cons_zero, List.getElem?_cons_succ, Option.some.injEq] at ho
      subst ho
      obtain ⟨fg, dg⟩ := hdep ⟨28, .guard⟩ (by simp) rfl
      have eg : a.tmps.getD 148 undef = .bool false := (dg 148 rfl).trans fg
      refine ⟨fun _ => ?_, fun hw => (yw_f (d := 148) rfl rfl eg hw).elim⟩
      obtain ⟨f31, d31⟩ := hdep ⟨31, .data⟩ (by simp) rfl
      have e31 : a.eval (.tmp 151) = .bool true := (d31 151 rfl).trans f31
      have e31' : a.tmps[151]?.getD undef = .bool true := by have h := e31; simp only [Act.eval, Array.getD_eq_getD_getElem?] at h; exact h
      exact wp_val (v := .bool false) (w' := w1) (by simp [execOp, go_sem, e31']) (hK _ _ (Bel.refl _) rfl)
    | 33, _, ho, hdep, hK =>
      simp only [regPu, List.getElem?_toArray, List.getElem?_cons_zero, List.getElem?_cons_succ, Option.some.injEq] at ho
      subst ho
      refine ⟨fun _ => ?_, fun hw => (yw_n rfl hw).elim⟩
      obtain ⟨f28, d28⟩ := hdep ⟨28, .data⟩ (by simp) rfl
      have e28 : a.eval (.tmp 148) = .bool false := (d28 148 rfl).trans f28
      have e28' : a.tmps[148]?.getD undef = .bool false := by have h := e28; simp only [Act.eval, Array.getD_eq_getD_getElem?] at h; exact h
      obtain ⟨f32, d32⟩ := hdep ⟨32, .data⟩ (by simp) rfl
      have e32 : a.eval (.tmp 152) = .bool false := (d32 152 rfl).trans f32
      have e32' : a.tmps[152]?.getD undef = .bool false := by have h := e32; simp only [Act.eval, Array.getD_eq_getD_getElem?] at h; exact h
      exact wp_val (v := .bool false) (w' := w1) (by simp [execOp, go_sem, e28', e32']) (hK _ _ (Bel.refl _) rfl)
    | 34, _, ho, hdep, hK =>
      simp only [regPu, List.getElem?_toArray, List.getElem?_cons_zero, List.getElem?_cons_succ, Option.some.injEq] at ho
      subst ho
      refine ⟨fun _ => ?_, fun hw => (yw_n rfl hw).elim⟩
      obtain ⟨f33, d33⟩ := hdep ⟨33, .data⟩ (by simp) rfl
      have e33 : a.eval (.tmp 153) = .bool false := (d33 153 rfl).trans f33
      have e33' : a.tmps[153]?.getD undef = .bool false := by have h := e33; simp only [Act.eval, Array.getD_eq_getD_getElem?] at h; exact h
      exact wp_val (v := .bool false) (w' := w1) (by simp [execOp, go_sem, e33']) (hK _ _ (Bel.refl _) rfl)
    | 35, _, ho, hdep, hK =>
      simp only [regPu, List.getElem?_toArray, List.getElem?_cons_zero, List.getElem?_cons_succ, Option.some.injEq] at ho
      subst ho
      obtain ⟨fg, dg⟩ := hdep ⟨34, .guard⟩ (by simp) rfl
      have eg : a.tmps.getD 154 undef = .bool false := (dg 154 rfl).trans fg
      refine ⟨fun _ => ?_, fun hw => (yw_f (d := 154) rfl rfl eg hw).elim⟩
      exact wp_val (v := .agg #[.int .u8 kc, .int .i64 nc, .int .i64 xc, .int .u8 mc, .slice AC lc pc]) (w' := w1) (by simp [execOp, go_sem, p19', q0, q1, q2, q3, q4]) (hK _ _ (Bel.refl _) rfl)
    | 36, _, ho, hdep, hK =>
      simp only [regPu, List.getElem?_toArray, List.getElem?_cons_zero, List.getElem?_cons_succ, Option.some.injEq] at ho
      subst ho
      obtain ⟨fg, dg⟩ := hdep ⟨34, .guard⟩ (by simp) rfl
      have eg : a.tmps.getD 154 undef = .bool false := (dg 154 rfl).trans fg
      refine ⟨fun _ => ?_, fun hw => (yw_f (d := 154) rfl rfl eg hw).elim⟩
      exact wp_val (v := .agg #[.int .u8 k, .int .i64 n, .int .i64 x, .int .u8 c, .slice A len cap]) (w' := w1) (by simp [execOp, go_sem, p4', t0, t1, t2, t3, t4]) (hK _ _ (Bel.refl _) rfl)
    | 37, _, ho, hdep, hK =>
      simp only [regPu, List.getElem?_toArray, List.getElem?_cons_zero, List.getElem?_cons_succ, Option.some.injEq] at ho
      subst ho
      obtain ⟨fg, dg⟩ := hdep ⟨34, .guard⟩ (by simp) rfl
      have eg : a.tmps.getD 154 undef = .bool false := (dg 154 rfl).trans fg
      refine ⟨fun _ => ?_, fun hw => (yw_f (d := 154) rfl rfl eg hw).elim⟩
      obtain ⟨f36, d36⟩ := hdep ⟨36, .data⟩ (by simp) rfl
      have e36 : a.eval (.tmp 156) = .agg #[.int .u8 k, .int .i64 n, .int .i64 x, .int .u8 c, .slice A len cap] := (d36 156 rfl).trans f36
      have e36' : a.tmps[156]?.getD undef = .agg #[.int .u8 k, .int .i64 n, .int .i64 x, .int .u8 c, .slice A len cap] := by have h := e36; simp only [Act.eval, Array.getD_eq_getD_getElem?] at h; exact h
      refine wp_enter (f := 16) (args := #[.agg #[.int .u8 k, .int .i64 n, .int .i64 x, .int .u8 c, .slice A len cap]]) (by simp [go_sem, e36']) ((HC w1 hbel).mono ?_)
      rintro e w' ⟨A37, c37, rfl, hn, hb⟩
      exact ⟨_, rfl, hK _ _ hb ⟨A37, c37, rfl, hn⟩⟩
    | 38, _, ho, hdep, hK =>
      simp only [regPu, List.getElem?_toArray, List.getElem?_cons_zero, List.getElem?_cons_succ, Option.some.injEq] at ho
      subst ho
      obtain ⟨fg, dg⟩ := hdep ⟨34, .guard⟩ (by simp) rfl
      have eg : a.tmps.getD 154 undef = .bool false := (dg 154 rfl).trans fg
      refine ⟨fun _ => ?_, fun hw => (yw_f (d := 154) rfl rfl eg hw).elim⟩
      obtain ⟨f35, d35⟩ := hdep ⟨35, .data⟩ (by simp) rfl
      have e35 : a.eval (.tmp 155) = .agg #[.int .u8 kc, .int .i64 nc, .int .i64 xc, .int .u8 mc, .slice AC lc pc] := (d35 155 rfl).trans f35
      have e35' : a.tmps[155]?.getD undef = .agg #[.int .u8 kc, .int .i64 nc, .int .i64 xc, .int .u8 mc, .slice AC lc pc] := by have h := e35; simp only [Act.eval, Array.getD_eq_getD_getElem?] at h; exact h
      obtain ⟨f37, d37⟩ := hdep ⟨37, .data⟩ (by simp) rfl
      obtain ⟨A37, c37, hv37, hn37⟩ := f37
      have e37 : a.eval (.tmp 157) = .agg #[.int .u8 kc, .int .i64 nc, .int .i64 xc, .int .u8 mc, .slice A37 lc c37] := (d37 157 rfl).trans hv37
      have e37' : a.tmps[157]?.getD undef = .agg #[.int .u8 kc, .int .i64 nc, .int .i64 xc, .int .u8 mc, .slice A37 lc c37] := by have h := e37; simp only [Act.eval, Array.getD_eq_getD_getElem?] at h; exact h
      refine wp_enter (f := 9) (args := #[.agg #[.int .u8 kc, .int .i64 nc, .int .i64 xc, .int .u8 mc, .slice AC lc pc], .agg #[.int .u8 kc, .int .i64 nc, .int .i64 xc, .int .u8 mc, .slice A37 lc c37]]) (by simp [go_sem, e35', e37']) ((HS2 w1 A37 c37 hbel hn37).mono ?_)
      rintro e w' ⟨rfl, hb⟩
      exact ⟨_, rfl, hK _ _ hb rfl⟩
    | 39, _, ho, hdep, hK =>
      simp only [regPu, List.getElem?_toArray, List.getElem?_cons_zero, List.getElem?_cons_succ, Option.some.injEq] at ho
      subst ho
      obtain ⟨fg, dg⟩ := hdep ⟨34, .guard⟩ (by simp) rfl
      have eg : a.tmps.getD 154 undef = .bool false := (dg 154 rfl).trans fg
      refine ⟨fun _ => ?_, fun hw => (yw_f (d := 154) rfl rfl eg hw).elim⟩
      obtain ⟨f38, d38⟩ := hdep ⟨38, .data⟩ (by simp) rfl
      have e38 : a.eval (.tmp 158) = .bool true := (d38 158 rfl).trans f38
      have e38' : a.tmps[158]?.getD undef = .bool true := by have h := e38; simp only [Act.eval, Array.getD_eq_getD_getElem?] at h; exact h
      exact wp_val (v := .bool false) (w' := w1) (by simp [execOp, go_sem, e38']) (hK _ _ (Bel.refl _) rfl)
    | q + 40, hi, _, _, _ => exact absurd hi (by omega)
  · intro V w' hb hF
    have e : finA regPu.toArray 40 V (acOPu BX BW BS BC BT kx nx vx cx AX lx px AW pw V1 l1 vc1 V2 l2 vc2 S1 sc1 S2 sc2 C1 cc1 C2 cc2 k n x c A len cap kc nc xc mc AC lc pc kidsc s0 s1 s2 s3 s5 s6 s7 s8 s11 s12 s13 s14 s15 s23 s24 s25 s26 s27 s28 s29 s30 s31 s32 s33 s34 s35 s36 s37 s38 s39 s40 s41 s42 s43 s44 s45 s46 s47 s48 s49 s50 s51 s52 s53 s54 s55 s56 s57 s58 s59 s60 s61 s62 s63 s64 s65 s66 s67 s68 s69 s70 s71 s72 s73 s74 s75 s76 s77 s78 s79 s80 s81 s82 s83 s84 s85 s86 s87 s88 s89 s90 s91 s92 s93 s94 s95 s96 s97 s98 s99 s100 s101 s102 s103 s104 s105 s106 s107 s108 s109 s110 s111 s112 s113 s114 s115 s116 s117 s118 s119 s120 s121 s122 s123 s124 s125 s126 s127 s128 s129 s130 s131 s132 s133 s134 s135 s136 s137 s138 s139 s140 s141 s142 s143 s144 s145 s146 s147 s148 s149 s150 s151 s152 s153 s154 s155 s156 s157 s158 s159 s160 s161 s162 s163 s164 s165 s166 s167 s168 s169 s170 s171 s172 s173 s174 s175 s176 s177 s178 s179 s180 s181 s182 s183 s184 s185 df) = acVPu BX BW BS BC BT kx nx vx cx AX lx px AW pw V1 l1 vc1 V2 l2 vc2 S1 sc1 S2 sc2 C1 cc1 C2 cc2 k n x c A len cap kc nc xc mc AC lc pc kidsc s0 s1 s2 s3 s5 s6 s7 s8 s11 s12 s13 s14 s15 s23 s24 s25 s26 s27 s28 s29 s30 s31 s32 s33 s34 s35 s36 s37 s38 s39 s40 s41 s42 s43 s44 s45 s46 s47 s48 s49 s50 s51 s52 s53 s54 s55 s56 s57 s58 s59 s60 s61 s62 s63 s64 s65 s66 s67 s68 s69 s70 s71 s72 s73 s74 s75 s76 s77 s78 s79 s80 s81 s82 s83 s84 s85 s86 s87 s88 s89 s90 s91 s92 s93 s94 s95 s96 s97 s98 s99 s100 s101 s102 s103 s104 s105 s106 s107 s108 s109 s110 s111 s112 s113 s114 s115 s116 s117 s118 s119 s120 s121 s122 s123 s124 s125 s126 s127 s128 s129 s130 s131 s132 s133 s134 s135 s136 s137 s138 s139 s140 s141 s142 s143 s144 s145 s146 s147 s148 s149 s150 s151 s152 s153 s154 s155 s156 s157 s158 s159 s160 s161 s162 s163 s164 s165 s166 s167 s168 s169 s170 s171 s172 s173 s174 s175 s176 s177 s178 s179 s180 s181 s182 s183 s184 s185 df V := by kernel_rfl
    rw [e]
    exact hend V w' hb (hF 34 (by omega)) (hF 39 (by omega))
end Go.Proofs.YtblgligagngpfaaDoor.Mu
namespace Go.Proofs.YtblgligagngpfaaDoor.Mu
open Go.ChangeShapes Go.WideShapes Go.ChangeAt Go.RowKit Go.Shelf

attribute [local go_sem] Oper.semAt_some
set_option linter.unusedVariables false

def regPt : List Oper := [
  { dst := some 176, op := Op.load 27 (Operand.tmp 4), type := 27, pos := "law.go:88", after := #[], guard := none },
  { dst := some 177, op := Op.move (Operand.tmp 3), type := 29, pos := "law.go:88", after := #[], guard := none },
  { dst := some 178, op := Op.call { callee := Callee.value (Operand.func 18), args := #[Operand.tmp 176, Operand.tmp 177], argTypes := #[27, 29] }, type := 9, pos := "law.go:88", after := #[{ on := 0, ground := Ground.data }, { on := 1, ground := Ground.data }], guard := none },
  { dst := some 179, op := Op.load 27 (Operand.tmp 4), type := 27, pos := "law.go:88", after := #[], guard := none },
  { dst := some 180, op := Op.move (Operand.tmp 3), type := 29, pos := "law.go:88", after := #[], guard := none },
  { dst := some 181, op := Op.call { callee := Callee.value (Operand.func 19), args := #[Operand.tmp 179, Operand.tmp 180], argTypes := #[27, 29] }, type := 9, pos := "law.go:88", after := #[{ on := 3, ground := Ground.data }, { on := 4, ground := Ground.data }, { on := 2, ground := Ground.chain }], guard := none },
  { dst := some 182, op := Op.binOp BinOp.eql 9 (Operand.tmp 178) (Operand.tmp 181) 9, type := 4, pos := "law.go:88", after := #[{ on := 2, ground := Ground.data }, { on := 5, ground := Ground.data }], guard := none },
  { dst := some 183, op := Op.move (Operand.tmp 182), type := 4, pos := "law.go:88", after := #[{ on := 6, ground := Ground.data }, { on := 5, ground := Ground.chain }], guard := none },
  { dst := some 184, op := Op.call { callee := Callee.value (Operand.func 5), args := #[], argTypes := #[] }, type := 4, pos := "law.go:88", after := #[{ on := 7, ground := Ground.chain }, { on := 7, ground := Ground.guard }], guard := some (7, true) },
  { dst := some 185, op := Op.pick (Operand.tmp 183) (Operand.tmp 184) (Operand.const (Value.bool false)), type := 4, pos := "law.go:88", after := #[{ on := 7, ground := Ground.data }, { on := 8, ground := Ground.data }], guard := none },
  { dst := some 8, op := Op.assign (Operand.tmp 185), type := 4, pos := "law.go:88", after := #[{ on := 9, ground := Ground.data }, { on := 8, ground := Ground.chain }, { on := 0, ground := Ground.phase }, { on := 1, ground := Ground.phase }, { on := 2, ground := Ground.phase }, { on := 3, ground := Ground.phase }, { on := 4, ground := Ground.phase }, { on := 5, ground := Ground.phase }, { on := 6, ground := Ground.phase }, { on := 7, ground := Ground.phase }, { on := 8, ground := Ground.phase }, { on := 9, ground := Ground.phase }], guard := none }]
def specPt (BT : Nat) (k n x c : Int) (A : Option Addr) (len cap : Nat) (Nm : Option Addr) (nn nc : Nat) (tt : List UInt8) (i : Nat) (v : Value) (w : World) : Prop :=
  match i with
  | 0 => v = .agg #[.int .u8 k, .int .i64 n, .int .i64 x, .int .u8 c, .slice A len cap]
  | 1 => v = .slice Nm nn nc
  | 2 => v = .string ⟨tt.toArray⟩
  | 3 => v = .agg #[.int .u8 k, .int .i64 n, .int .i64 x, .int .u8 c, .slice A len cap]
  | 4 => v = .slice Nm nn nc
  | 5 => v = .string ⟨tt.toArray⟩
  | 6 => v = .bool true
  | 7 => v = .bool true
  | 8 => v = .bool true
  | 9 => v = .bool true
  | _ => True
theorem specPt_mono {BT : Nat} {k n x c : Int} {A : Option Addr} {len cap : Nat} {Nm : Option Addr} {nn nc : Nat} {tt : List UInt8} (i : Nat) (v : Value) (w w' : World) (hi : i < 10) (h : specPt BT k n x c A len cap Nm nn nc tt i v w) (hb : Bel w w') : specPt BT k n x c A len cap Nm nn nc tt i v w' := by
  match i, hi, h with
  | 0, _, h => exact h
  | 1, _, h => exact h
  | 2, _, h => exact h
  | 3, _, h => exact h
  | 4, _, h => exact h
  | 5, _, h => exact h
  | 6, _, h => exact h
  | 7, _, h => exact h
  | 8, _, h => exact h
  | 9, _, h => exact h
  | q + 10, hi, _ => exact absurd hi (by omega)
def acOPt (BT : Nat) (k n x c : Int) (A : Option Addr) (len cap : Nat) (Nm : Option Addr) (nn nc : Nat) (tt : List UInt8) (s0 s1 s2 s5 s6 s7 s8 s9 s10 s11 s12 s13 s14 s15 s16 s17 s18 s19 s20 s21 s22 s23 s24 s25 s26 s27 s28 s29 s30 s31 s32 s33 s34 s35 s36 s37 s38 s39 s40 s41 s42 s43 s44 s45 s46 s47 s48 s49 s50 s51 s52 s53 s54 s55 s56 s57 s58 s59 s60 s61 s62 s63 s64 s65 s66 s67 s68 s69 s70 s71 s72 s73 s74 s75 s76 s77 s78 s79 s80 s81 s82 s83 s84 s85 s86 s87 s88 s89 s90 s91 s92 s93 s94 s95 s96 s97 s98 s99 s100 s101 s102 s103 s104 s105 s106 s107 s108 s109 s110 s111 s112 s113 s114 s115 s116 s117 s118 s119 s120 s121 s122 s123 s124 s125 s126 s127 s128 s129 s130 s131 s132 s133 s134 s135 s136 s137 s138 s139 s140 s141 s142 s143 s144 s145 s146 s147 s148 s149 s150 s151 s152 s153 s154 s155 s156 s157 s158 s159 s160 s161 s162 s163 s164 s165 s166 s167 s168 s169 s170 s171 s172 s173 s174 s175 s176 s177 s178 s179 s180 s181 s182 s183 s184 s185 : Value) (df : List Deferred) : Act := { tmps := #[s0, s1, s2, .slice Nm nn nc, .pointer (some ⟨BT, 0, none⟩), s5, s6, s7, s8, s9, s10, s11, s12, s13, s14, s15, s16, s17, s18, s19, s20, s21, s22, s23, s24, s25, s26, s27, s28, s29, s30, s31, s32, s33, s34, s35, s36, s37, s38, s39, s40, s41, s42, s43, s44, s45, s46, s47, s48, s49, s50, s51, s52, s53, s54, s55, s56, s57, s58, s59, s60, s61, s62, s63, s64, s65, s66, s67, s68, s69, s70, s71, s72, s73, s74, s75, s76, s77, s78, s79, s80, s81, s82, s83, s84, s85, s86, s87, s88, s89, s90, s91, s92, s93, s94, s95, s96, s97, s98, s99, s100, s101, s102, s103, s104, s105, s106, s107, s108, s109, s110, s111, s112, s113, s114, s115, s116, s117, s118, s119, s120, s121, s122, s123, s124, s125, s126, s127, s128, s129, s130, s131, s132, s133, s134, s135, s136, s137, s138, s139, s140, s141, s142, s143, s144, s145, s146, s147, s148, s149, s150, s151, s152, s153, s154, s155, s156, s157, s158, s159, s160, s161, s162, s163, s164, s165, s166, s167, s168, s169, s170, s171, s172, s173, s174, s175, s176, s177, s178, s179, s180, s181, s182, s183, s184, s185], defers := df }
def acVPt (BT : Nat) (k n x c : Int) (A : Option Addr) (len cap : Nat) (Nm : Option Addr) (nn nc : Nat) (tt : List UInt8) (s0 s1 s2 s5 s6 s7 s8 s9 s10 s11 s12 s13 s14 s15 s16 s17 s18 s19 s20 s21 s22 s23 s24 s25 s26 s27 s28 s29 s30 s31 s32 s33 s34 s35 s36 s37 s38 s39 s40 s41 s42 s43 s44 s45 s46 s47 s48 s49 s50 s51 s52 s53 s54 s55 s56 s57 s58 s59 s60 s61 s62 s63 s64 s65 s66 s67 s68 s69 s70 s71 s72 s73 s74 s75 s76 s77 s78 s79 s80 s81 s82 s83 s84 s85 s86 s87 s88 s89 s90 s91 s92 s93 s94 s95 s96 s97 s98 s99 s100 s101 s102 s103 s104 s105 s106 s107 s108 s109 s110 s111 s112 s113 s114 s115 s116 s117 s118 s119 s120 s121 s122 s123 s124 s125 s126 s127 s128 s129 s130 s131 s132 s133 s134 s135 s136 s137 s138 s139 s140 s141 s142 s143 s144 s145 s146 s147 s148 s149 s150 s151 s152 s153 s154 s155 s156 s157 s158 s159 s160 s161 s162 s163 s164 s165 s166 s167 s168 s169 s170 s171 s172 s173 s174 s175 s176 s177 s178 s179 s180 s181 s182 s183 s184 s185 : Value) (df : List Deferred) (V : Nat → Value) : Act := { tmps := #[s0, s1, s2, .slice Nm nn nc, .pointer (some ⟨BT, 0, none⟩), s5, s6, s7, s8, s9, s10, s11, s12, s13, s14, s15, s16, s17, s18, s19, s20, s21, s22, s23, s24, s25, s26, s27, s28, s29, s30, s31, s32, s33, s34, s35, s36, s37, s38, s39, s40, s41, s42, s43, s44, s45, s46, s47, s48, s49, s50, s51, s52, s53, s54, s55, s56, s57, s58, s59, s60, s61, s62, s63, s64, s65, s66, s67, s68, s69, s70, s71, s72, s73, s74, s75, s76, s77, s78, s79, s80, s81, s82, s83, s84, s85, s86, s87, s88, s89, s90, s91, s92, s93, s94, s95, s96, s97, s98, s99, s100, s101, s102, s103, s104, s105, s106, s107, s108, s109, s110, s111, s112, s113, s114, s115, s116, s117, s118, s119, s120, s121, s122, s123, s124, s125, s126, s127, s128, s129, s130, s131, s132, s133, s134, s135, s136, s137, s138, s139, s140, s141, s142, s143, s144, s145, s146, s147, s148, s149, s150, s151, s152, s153, s154, s155, s156, s157, s158, s159, s160, s161, s162, s163, s164, s165, s166, s167, s168, s169, s170, s171, s172, s173, s174, s175, V 0, V 1, V 2, V 3, V 4, V 5, V 6, V 7, V 8, V 9], defers := df }
theorem regPt_tail : tailB .any regPt.toArray 10 = true := by kernel_rfl
theorem regPt_fwd : fwdB regPt.toArray 10 = true := by kernel_rfl
theorem regPt_slots : slotsB regPt.toArray 186 = true := by kernel_rfl
theorem regPt_seq : Region.seqB .any regPt.toArray (regPt.length - 10) 10 (Array.replicate 10 true ++ Array.replicate (regPt.length - 10) false) = true := by kernel_rfl
set_option maxRecDepth 100000 in
set_option maxHeartbeats 8000000 in
theorem regPt_any {id : Nat} (BT : Nat) (k n x c : Int) (A : Option Addr) (len cap : Nat) (Nm : Option Addr) (nn nc : Nat) (tt : List UInt8) (s0 s1 s2 s5 s6 s7 s8 s9 s10 s11 s12 s13 s14 s15 s16 s17 s18 s19 s20 s21 s22 s23 s24 s25 s26 s27 s28 s29 s30 s31 s32 s33 s34 s35 s36 s37 s38 s39 s40 s41 s42 s43 s44 s45 s46 s47 s48 s49 s50 s51 s52 s53 s54 s55 s56 s57 s58 s59 s60 s61 s62 s63 s64 s65 s66 s67 s68 s69 s70 s71 s72 s73 s74 s75 s76 s77 s78 s79 s80 s81 s82 s83 s84 s85 s86 s87 s88 s89 s90 s91 s92 s93 s94 s95 s96 s97 s98 s99 s100 s101 s102 s103 s104 s105 s106 s107 s108 s109 s110 s111 s112 s113 s114 s115 s116 s117 s118 s119 s120 s121 s122 s123 s124 s125 s126 s127 s128 s129 s130 s131 s132 s133 s134 s135 s136 s137 s138 s139 s140 s141 s142 s143 s144 s145 s146 s147 s148 s149 s150 s151 s152 s153 s154 s155 s156 s157 s158 s159 s160 s161 s162 s163 s164 s165 s166 s167 s168 s169 s170 s171 s172 s173 s174 s175 s176 s177 s178 s179 s180 s181 s182 s183 s184 s185 : Value) (df : List Deferred) (w : World) (x4 : w.drew.heap[BT]? = some (.cells #[.int .u8 k, .int .i64 n, .int .i64 x, .int .u8 c, .slice A len cap] 27 (0, 0)))
    (HX1 : ∀ W, Bel w.drew W → Calls Tryd.prog 18 #[.agg #[.int .u8 k, .int .i64 n, .int .i64 x, .int .u8 c, .slice A len cap], .slice Nm nn nc] W (StrP tt W)) (HX2 : ∀ W, Bel w.drew W → Calls Tryd.prog 19 #[.agg #[.int .u8 k, .int .i64 n, .int .i64 x, .int .u8 c, .slice A len cap], .slice Nm nn nc] W (StrP tt W)) (HW : ∀ W, Bel w.drew W → Calls Tryd.prog 5 #[] W (SameP true W)) (Q : Exit → Act → World → Prop)
    (hend : ∀ (V : Nat → Value) (w' : World), Bel w.drew w' → (V 9) = .bool true → wpList Tryd.prog regPt.toArray Q (regPt.drop 10) (acVPt BT k n x c A len cap Nm nn nc tt s0 s1 s2 s5 s6 s7 s8 s9 s10 s11 s12 s13 s14 s15 s16 s17 s18 s19 s20 s21 s22 s23 s24 s25 s26 s27 s28 s29 s30 s31 s32 s33 s34 s35 s36 s37 s38 s39 s40 s41 s42 s43 s44 s45 s46 s47 s48 s49 s50 s51 s52 s53 s54 s55 s56 s57 s58 s59 s60 s61 s62 s63 s64 s65 s66 s67 s68 s69 s70 s71 s72 s73 s74 s75 s76 s77 s78 s79 s80 s81 s82 s83 s84 s85 s86 s87 s88 s89 s90 s91 s92 s93 s94 s95 s96 s97 s98 s99 s100 s101 s102 s103 s104 s105 s106 s107 s108 s109 s110 s111 s112 s113 s114 s115 s116 s117 s118 s119 s120 s121 s122 s123 s124 s125 s126 s127 s128 s129 s130 s131 s132 s133 s134 s135 s136 s137 s138 s139 s140 s141 s142 s143 s144 s145 s146 s147 s148 s149 s150 s151 s152 s153 s154 s155 s156 s157 s158 s159 s160 s161 s162 s163 s164 s165 s166 s167 s168 s169 s170 s171 s172 s173 s174 s175 s176 s177 s178 s179 s180 s181 s182 s183 s184 s185 df V) w') :
    (Code.region id regPt.toArray true).wp Tryd.prog Q (acOPt BT k n x c A len cap Nm nn nc tt s0 s1 s2 s5 s6 s7 s8 s9 s10 s11 s12 s13 s14 s15 s16 s17 s18 s19 s20 s21 s22 s23 s24 s25 s26 s27 s28 s29 s30 s31 s32 s33 s34 s35 s36 s37 s38 s39 s40 s41 s42 s43 s44 s45 s46 s47 s48 s49 s50 s51 s52 s53 s54 s55 s56 s57 s58 s59 s60 s61 s62 s63 s64 s65 s66 s67 s68 s69 s70 s71 s72 s73 s74 s75 s76 s77 s78 s79 s80 s81 s82 s83 s84 s85 s86 s87 s88 s89 s90 s91 s92 s93 s94 s95 s96 s97 s98 s99 s100 s101 s102 s103 s104 s105 s106 s107 s108 s109 s110 s111 s112 s113 s114 s115 s116 s117 s118 s119 s120 s121 s122 s123 s124 s125 s126 s127 s128 s129 s130 s131 s132 s133 s134 s135 s136 s137 s138 s139 s140 s141 s142 s143 s144 s145 s146 s147 s148 s149 s150 s151 s152 s153 s154 s155 s156 s157 s158 s159 s160 s161 s162 s163 s164 s165 s166 s167 s168 s169 s170 s171 s172 s173 s174 s175 s176 s177 s178 s179 s180 s181 s182 s183 s184 s185 df) w := by
  refine wp_region_invG (l := regPt) 10 (acOPt BT k n x c A len cap Nm nn nc tt s0 s1 s2 s5 s6 s7 s8 s9 s10 s11 s12 s13 s14 s15 s16 s17 s18 s19 s20 s21 s22 s23 s24 s25 s26 s27 s28 s29 s30 s31 s32 s33 s34 s35 s36 s37 s38 s39 s40 s41 s42 s43 s44 s45 s46 s47 s48 s49 s50 s51 s52 s53 s54 s55 s56 s57 s58 s59 s60 s61 s62 s63 s64 s65 s66 s67 s68 s69 s70 s71 s72 s73 s74 s75 s76 s77 s78 s79 s80 s81 s82 s83 s84 s85 s86 s87 s88 s89 s90 s91 s92 s93 s94 s95 s96 s97 s98 s99 s100 s101 s102 s103 s104 s105 s106 s107 s108 s109 s110 s111 s112 s113 s114 s115 s116 s117 s118 s119 s120 s121 s122 s123 s124 s125 s126 s127 s128 s129 s130 s131 s132 s133 s134 s135 s136 s137 s138 s139 s140 s141 s142 s143 s144 s145 s146 s147 s148 s149 s150 s151 s152 s153 s154 s155 s156 s157 s158 s159 s160 s161 s162 s163 s164 s165 s166 s167 s168 s169 s170 s171 s172 s173 s174 s175 s176 s177 s178 s179 s180 s181 s182 s183 s184 s185 df) w (specPt BT k n x c A len cap Nm nn nc tt) (by kernel_rfl) regPt_tail regPt_fwd regPt_slots regPt_seq (fun i v w w' hi h hb => specPt_mono i v w w' hi h hb) ?_ ?_
  · intro i' o hi' ho a w1 V hbel hdep hpar K hK
    have p4 : a.eval (.tmp 4) = .pointer (some ⟨BT, 0, none⟩) := hpar 4 (by show 4 < 186; decide) (by kernel_rfl)
    have p4' : a.tmps[4]?.getD undef = .pointer (some ⟨BT, 0, none⟩) := by have h := p4; simp only [Act.eval, Array.getD_eq_getD_getElem?] at h; exact h
    have p3 : a.eval (.tmp 3) = .slice Nm nn nc := hpar 3 (by show 3 < 186; decide) (by kernel_rfl)
    have p3' : a.tmps[3]?.getD undef = .slice Nm nn nc := by have h := p3; simp only [Act.eval, Array.getD_eq_getD_getElem?] at h; exact h
    obtain ⟨⟨t0, t1, t2, t3, t4⟩, _⟩ := cells5 (hbel.blk x4)
    match i', hi', ho, hdep, hK with
    | 0, _, ho, hdep, hK =>
      simp only [regPt, List.getElem?_toArray, List.getElem?_cons_zero, Option.some.injEq] at ho
      subst ho
      refine ⟨fun _ => ?_, fun hw => (yw_n rfl hw).elim⟩
      exact wp_val (v := .agg #[.int .u8 k, .int .i64 n, .int .i64 x, .int .u8 c, .slice A len cap]) (w' := w1) (by simp [execOp, go_sem, p4', t0, t1, t2, t3, t4]) (hK _ _ (Bel.refl _) rfl)
    | 1, _, ho, hdep, hK =>
      simp only [regPt, List.getElem?_toArray, List.getElem?_cons_zero, List.getElem?_cons_succ, Option.some.injEq] at ho
      subst ho
      refine ⟨fun _ => ?_, fun hw => (yw_n rfl hw).elim⟩
      exact wp_val (v := .slice Nm nn nc) (w' := w1) (by simp [execOp, go_sem, p3']) (hK _ _ (Bel.refl _) rfl)
    | 2, _, ho, hdep, hK =>
      simp only [regPt, List.getElem?_toArray, List.getElem?_cons_zero, List.getElem?_cons_succ, Option.some.injEq] at ho
      subst ho
      refine ⟨fun _ => ?_, fun hw => (yw_n rfl hw).elim⟩
      obtain ⟨f0, d0⟩ := hdep ⟨0, .data⟩ (by simp) rfl
      have e0 : a.eval (.tmp 176) = .agg #[.int .u8 k, .int .i64 n, .int .i64 x, .int .u8 c, .slice A len cap] := (d0 176 rfl).trans f0
      have e0' : a.tmps[176]?.getD undef = .agg #[.int .u8 k, .int .i64 n, .int .i64 x, .int .u8 c, .slice A len cap] := by have h := e0; simp only [Act.eval, Array.getD_eq_getD_getElem?] at h; exact h
      obtain ⟨f1, d1⟩ := hdep ⟨1, .data⟩ (by simp) rfl
      have e1 : a.eval (.tmp 177) = .slice Nm nn nc := (d1 177 rfl).trans f1
      have e1' : a.tmps[177]?.getD undef = .slice Nm nn nc := by have h := e1; simp only [Act.eval, Array.getD_eq_getD_getElem?] at h; exact h
      refine wp_enter (f := 18) (args := #[.agg #[.int .u8 k, .int .i64 n, .int .i64 x, .int .u8 c, .slice A len cap], .slice Nm nn nc]) (by simp [go_sem, e0', e1']) ((HX1 w1 hbel).mono ?_)
      rintro e w' ⟨rfl, hb⟩
      exact ⟨_, rfl, hK _ _ hb rfl⟩
    | 3, _, ho, hdep, hK =>
      simp only [regPt, List.getElem?_toArray, List.getElem?_cons_zero, List.getElem?_cons_succ, Option.some.injEq] at ho
      subst ho
      refine ⟨fun _ => ?_, fun hw => (yw_n rfl hw).elim⟩
      exact wp_val (v := .agg #[.int .u8 k, .int .i64 n, .int .i64 x, .int .u8 c, .slice A len cap]) (w' := w1) (by simp [execOp, go_sem, p4', t0, t1, t2, t3, t4]) (hK _ _ (Bel.refl _) rfl)
    | 4, _, ho, hdep, hK =>
      simp only [regPt, List.getElem?_toArray, List.getElem?_cons_zero, List.getElem?_cons_succ, Option.some.injEq] at ho
      subst ho
      refine ⟨fun _ => ?_, fun hw => (yw_n rfl hw).elim⟩
      exact wp_val (v := .slice Nm nn nc) (w' := w1) (by simp [execOp, go_sem, p3']) (hK _ _ (Bel.refl _) rfl)
    | 5, _, ho, hdep, hK =>
      simp only [regPt, List.getElem?_toArray, List.getElem?_cons_zero, List.getElem?_cons_succ, Option.some.injEq] at ho
      subst ho
      refine ⟨fun _ => ?_, fun hw => (yw_n rfl hw).elim⟩
      obtain ⟨f3, d3⟩ := hdep ⟨3, .data⟩ (by simp) rfl
      have e3 : a.eval (.tmp 179) = .agg #[.int .u8 k, .int .i64 n, .int .i64 x, .int .u8 c, .slice A len cap] := (d3 179 rfl).trans f3
      have e3' : a.tmps[179]?.getD undef = .agg #[.int .u8 k, .int .i64 n, .int .i64 x, .int .u8 c, .slice A len cap] := by have h := e3; simp only [Act.eval, Array.getD_eq_getD_getElem?] at h; exact h
      obtain ⟨f4, d4⟩ := hdep ⟨4, .data⟩ (by simp) rfl
      have e4 : a.eval (.tmp 180) = .slice Nm nn nc := (d4 180 rfl).trans f4
      have e4' : a.tmps[180]?.getD undef = .slice Nm nn nc := by have h := e4; simp only [Act.eval, Array.getD_eq_getD_getElem?] at h; exact h
      refine wp_enter (f := 19) (args := #[.agg #[.int .u8 k, .int .i64 n, .int .i64 x, .int .u8 c, .slice A len cap], .slice Nm nn nc]) (by simp [go_sem, e3', e4']) ((HX2 w1 hbel).mono ?_)
      rintro e w' ⟨rfl, hb⟩
      exact ⟨_, rfl, hK _ _ hb rfl⟩
    | 6, _, ho, hdep, hK =>
      simp only [regPt, List.getElem?_toArray, List.getElem?_cons_zero, List.getElem?_cons_succ, Option.some.injEq] at ho
      subst ho
      refine ⟨fun _ => ?_, fun hw => (yw_n rfl hw).elim⟩
      obtain ⟨f2, d2⟩ := hdep ⟨2, .data⟩ (by simp) rfl
      have e2 : a.eval (.tmp 178) = .string ⟨tt.toArray⟩ := (d2 178 rfl).trans f2
      have e2' : a.tmps[178]?.getD undef = .string ⟨tt.toArray⟩ := by have h := e2; simp only [Act.eval, Array.getD_eq_getD_getElem?] at h; exact h
      obtain ⟨f5, d5⟩ := hdep ⟨5, .data⟩ (by simp) rfl
      have e5 : a.eval (.tmp 181) = .string ⟨tt.toArray⟩ := (d5 181 rfl).trans f5
      have e5' : a.tmps[181]?.getD undef = .string ⟨tt.toArray⟩ := by have h := e5; simp only [Act.eval, Array.getD_eq_getD_getElem?] at h; exact h
      exact wp_val (v := .bool true) (w' := w1) (by simp [execOp, go_sem, e2', e5']) (hK _ _ (Bel.refl _) rfl)
    | 7, _, ho, hdep, hK =>
      simp only [regPt, List.getElem?_toArray, List.getElem?_cons_zero, List.getElem?_cons_succ, Option.some.injEq] at ho
      subst ho
      refine ⟨fun _ => ?_, fun hw => (yw_n rfl hw).elim⟩
      obtain ⟨f6, d6⟩ := hdep ⟨6, .data⟩ (by simp) rfl
      have e6 : a.eval (.tmp 182) = .bool true := (d6 182 rfl).trans f6
      have e6' : a.tmps[182]?.getD undef = .bool true := by have h := e6; simp only [Act.eval, Array.getD_eq_getD_getElem?] at h; exact h
      exact wp_val (v := .bool true) (w' := w1) (by simp [execOp, go_sem, e6']) (hK _ _ (Bel.refl _) rfl)
    | 8, _, ho, hdep, hK =>
      simp only [regPt, List.getElem?_toArray, List.getElem?_cons_zero, List.getElem?_cons_succ, Option.some.injEq] at ho
      subst ho
      obtain ⟨fg, dg⟩ := hdep ⟨7, .guard⟩ (by simp) rfl
      have eg : a.tmps.getD 183 undef = .bool true := (dg 183 rfl).trans fg
      refine ⟨fun _ => ?_, fun hw => (yw_t (d := 183) rfl rfl eg hw).elim⟩
      refine wp_enter (f := 5) (args := #[]) (by simp [go_sem]) ((HW w1 hbel).mono ?_)
      rintro e w' ⟨rfl, hb⟩
      exact ⟨_, rfl, hK _ _ hb rfl⟩
    | 9, _, ho, hdep, hK =>
      simp only [regPt, List.getElem?_toArray, List.getElem?_cons_zero, List.getElem?_cons_succ, Option.some.injEq] at ho
      subst ho
      refine ⟨fun _ => ?_, fun hw => (yw_n rfl hw).elim⟩
      obtain ⟨f7, d7⟩ := hdep ⟨7, .data⟩ (by simp) rfl
      have e7 : a.eval (.tmp 183) = .bool true := (d7 183 rfl).trans f7
      have e7' : a.tmps[183]?.getD undef = .bool true := by have h := e7; simp only [Act.eval, Array.getD_eq_getD_getElem?] at h; exact h
      obtain ⟨f8, d8⟩ := hdep ⟨8, .data⟩ (by simp) rfl
      have e8 : a.eval (.tmp 184) = .bool true := (d8 184 rfl).trans f8
      have e8' : a.tmps[184]?.getD undef = .bool true := by have h := e8; simp only [Act.eval, Array.getD_eq_getD_getElem?] at h; exact h
      exact wp_val (v := .bool true) (w' := w1) (by simp [execOp, go_sem, e7', e8']) (hK _ _ (Bel.refl _) rfl)
    | q + 10, hi, _, _, _ => exact absurd hi (by omega)
  · intro V w' hb hF
    have e : finA regPt.toArray 10 V (acOPt BT k n x c A len cap Nm nn nc tt s0 s1 s2 s5 s6 s7 s8 s9 s10 s11 s12 s13 s14 s15 s16 s17 s18 s19 s20 s21 s22 s23 s24 s25 s26 s27 s28 s29 s30 s31 s32 s33 s34 s35 s36 s37 s38 s39 s40 s41 s42 s43 s44 s45 s46 s47 s48 s49 s50 s51 s52 s53 s54 s55 s56 s57 s58 s59 s60 s61 s62 s63 s64 s65 s66 s67 s68 s69 s70 s71 s72 s73 s74 s75 s76 s77 s78 s79 s80 s81 s82 s83 s84 s85 s86 s87 s88 s89 s90 s91 s92 s93 s94 s95 s96 s97 s98 s99 s100 s101 s102 s103 s104 s105 s106 s107 s108 s109 s110 s111 s112 s113 s114 s115 s116 s117 s118 s119 s120 s121 s122 s123 s124 s125 s126 s127 s128 s129 s130 s131 s132 s133 s134 s135 s136 s137 s138 s139 s140 s141 s142 s143 s144 s145 s146 s147 s148 s149 s150 s151 s152 s153 s154 s155 s156 s157 s158 s159 s160 s161 s162 s163 s164 s165 s166 s167 s168 s169 s170 s171 s172 s173 s174 s175 s176 s177 s178 s179 s180 s181 s182 s183 s184 s185 df) = acVPt BT k n x c A len cap Nm nn nc tt s0 s1 s2 s5 s6 s7 s8 s9 s10 s11 s12 s13 s14 s15 s16 s17 s18 s19 s20 s21 s22 s23 s24 s25 s26 s27 s28 s29 s30 s31 s32 s33 s34 s35 s36 s37 s38 s39 s40 s41 s42 s43 s44 s45 s46 s47 s48 s49 s50 s51 s52 s53 s54 s55 s56 s57 s58 s59 s60 s61 s62 s63 s64 s65 s66 s67 s68 s69 s70 s71 s72 s73 s74 s75 s76 s77 s78 s79 s80 s81 s82 s83 s84 s85 s86 s87 s88 s89 s90 s91 s92 s93 s94 s95 s96 s97 s98 s99 s100 s101 s102 s103 s104 s105 s106 s107 s108 s109 s110 s111 s112 s113 s114 s115 s116 s117 s118 s119 s120 s121 s122 s123 s124 s125 s126 s127 s128 s129 s130 s131 s132 s133 s134 s135 s136 s137 s138 s139 s140 s141 s142 s143 s144 s145 s146 s147 s148 s149 s150 s151 s152 s153 s154 s155 s156 s157 s158 s159 s160 s161 s162 s163 s164 s165 s166 s167 s168 s169 s170 s171 s172 s173 s174 s175 s176 s177 s178 s179 s180 s181 s182 s183 s184 s185 df V := by kernel_rfl
    rw [e]
    exact hend V w' hb (hF 9 (by omega))
end Go.Proofs.YtblgligagngpfaaDoor.Mu
namespace Go.Proofs.YtblgligagngpfaaDoor.Mu
open Go.ChangeShapes Go.WideShapes Go.ChangeAt Go.RowKit Go.Shelf

set_option linter.unusedVariables false

theorem all_inP : ∀ (f : Fo) (VS : List Int), f.All (fun _ n v _ _ => (Lit.int .i64 n).wf = true ∧ (Lit.int .i64 v).wf = true) → (∀ x ∈ f.nv, x ∈ VS) → f.All (inVS VS)
  | .nil, _, _, _ => trivial
  | .cons k n v c kids rest, VS, hw, hs => ⟨⟨⟨hs n (by simp [Fo.nv]), hs v (by simp [Fo.nv])⟩, hw.1⟩, all_inP kids VS hw.2.1 fun x hx => hs x (by simp [Fo.nv, hx]), all_inP rest VS hw.2.2 fun x hx => hs x (by simp [Fo.nv, hx])⟩
theorem RNm.upP {w w' : World} {A : Option Addr} {n : Nat} {ts : List (List UInt8)} (h : RNm w w.heap.size A n ts) (hb : Bel w w') : RNm w' w'.heap.size A n ts :=
  ⟨h.1, fun h0 => by
    obtain ⟨b, off, e, hl, hc⟩ := h.2 h0
    exact ⟨b, off, e, Nat.lt_of_lt_of_le hl hb.size, fun j s hs => (hb.cell (p := ⟨b, off + j, none⟩) hl).trans (hc j s hs)⟩⟩
/-- How far all that came in may be: types, then multiplicities. -/
def okT (f ts : Fo) : Nat → Bool
  | 0 => tyErr f == 0
  | j + 1 => okT f ts j && (tyErr (ts.nth j) == 0)
def okM (b : Bool) (ms : List (Int × Int)) : Nat → Bool
  | 0 => b
  | j + 1 => okM b ms j && isB (ms[j]?.getD (0, 0)).1 (ms[j]?.getD (0, 0)).2
theorem okT_iff (f ts : Fo) : ∀ j, okT f ts j = true ↔ tyErr f = 0 ∧ ∀ i, i < j → tyErr (ts.nth i) = 0
  | 0 => by simp [okT]
  | j + 1 => by
    simp only [okT, Bool.and_eq_true, okT_iff f ts j, beq_iff_eq]
    constructor
    · rintro ⟨⟨h1, h2⟩, h3⟩
      exact ⟨h1, fun i hi => by rcases Nat.lt_or_ge i j with h | h; exact h2 i h; (obtain rfl : i = j := by omega); exact h3⟩
    · rintro ⟨h1, h2⟩
      exact ⟨⟨h1, fun i hi => h2 i (by omega)⟩, h2 j (by omega)⟩
theorem okM_iff (b : Bool) (ms : List (Int × Int)) : ∀ j, okM b ms j = true ↔ b = true ∧ ∀ i, i < j → isB (ms[i]?.getD (0, 0)).1 (ms[i]?.getD (0, 0)).2 = true
  | 0 => by simp [okM]
  | j + 1 => by
    simp only [okM, Bool.and_eq_true, okM_iff b ms j]
    constructor
    · rintro ⟨⟨h1, h2⟩, h3⟩
      exact ⟨h1, fun i hi => by rcases Nat.lt_or_ge i j with h | h; exact h2 i h; (obtain rfl : i = j := by omega); exact h3⟩
    · rintro ⟨h1, h2⟩
      exact ⟨⟨h1, fun i hi => h2 i (by omega)⟩, h2 j (by omega)⟩
theorem ok_all (f ts : Fo) (ms : List (Int × Int)) : okM (okT f ts ts.len) ms ms.length = okPut f ts ms := by
  rw [Bool.eq_iff_iff, okM_iff, okT_iff]
  simp only [okPut, Bool.and_eq_true, decide_eq_true_eq, Bool.not_eq_true']
  constructor
  · rintro ⟨⟨h1, h2⟩, h3⟩
    refine ⟨⟨h1, Fo.bad_no ts h2⟩, ?_⟩
    unfold musBad
    rw [List.any_eq_false]
    intro x hx
    obtain ⟨i, hi, rfl⟩ := List.getElem_of_mem hx
    have := h3 i hi
    rw [List.getElem?_eq_getElem hi] at this
    simpa using this
  · rintro ⟨⟨h1, h2⟩, h3⟩
    refine ⟨⟨h1, fun i hi => ?_⟩, fun i hi => ?_⟩
    · by_cases h : tyErr (ts.nth i) = 0
      · exact h
      · have := Fo.bad_of ts i hi h
        rw [h2] at this; cases this
    · unfold musBad at h3
      rw [List.any_eq_false] at h3
      have := h3 ms[i] (List.getElem_mem hi)
      rw [List.getElem?_eq_getElem hi]
      simpa using this
theorem nth_ge : ∀ (f : Fo) (i : Nat), f.len ≤ i → f.nth i = .nil
  | .nil, _, _ => rfl
  | .cons k n v c kids rest, 0, h => by simp [Fo.len] at h
  | .cons k n v c kids rest, i + 1, h => nth_ge rest i (by simp only [Fo.len] at h; omega)
theorem putSize_300 {ts : Fo} (hb : ts.bad = false) (tn : Nat) : ∀ f : Fo, Fo.putSize ts tn f ≤ f.size * 300
  | .nil => by simp [Fo.putSize]
  | .cons k n v c kids rest => by
    have h1 := putSize_300 hb tn kids
    have h2 := putSize_300 hb tn rest
    have h3 : (ts.nth n.toNat).size ≤ 300 := by
      by_cases hl : n.toNat < ts.len
      · by_cases h : tyErr (ts.nth n.toNat) = 0
        · exact (err_small h).1
        · have := Fo.bad_of ts n.toNat hl h
          rw [hb] at this; cases this
      · rw [nth_ge ts _ (by omega)]; simp [Fo.size]
    simp only [Fo.putSize, Fo.size]
    split <;> omega
/-- What Put answers, by its parts. -/
def PutO (f ts : Fo) (ms : List (Int × Int)) (w : World) (e : Ending) (w' : World) : Prop :=
  ∃ k n v c A l cap kids r, e = .returned (.tuple #[.agg #[.int .u8 k, .int .i64 n, .int .i64 v, .int .u8 c, .slice A l cap], .int .i64 r]) ∧ KidsAt w' (Old w') A l cap kids ∧ kids.size ≤ 1400000 ∧
    ((okPut f ts ms = false ∧ r = 2 ∧ (k = 0 ∧ n = 0 ∧ v = 0 ∧ c = 0 ∧ kids = .nil)) ∨ (okPut f ts ms = true ∧ 300 < Fo.putSize ts ts.len f ∧ r = 3 ∧ (k = 0 ∧ n = 0 ∧ v = 0 ∧ c = 0 ∧ kids = .nil)) ∨
      (okPut f ts ms = true ∧ Fo.putSize ts ts.len f ≤ 300 ∧ r = 0 ∧ Fo.subst ts ts.len ms f = .cons k n v c kids .nil)) ∧ Bel w w'
theorem put_O {f : Fo} {k n v c : Int} {kids : Fo} (hf : f = .cons k n v c kids .nil) (A : Option Addr) (len cap : Nat) (T : Option Addr) (tn tc : Nat) (ts : Fo) (U : Option Addr) (un uc : Nat) (ms : List (Int × Int)) (w : World) (h : KidsAt w (Old w) A len cap kids) (hsz : kids.size ≤ 1400000) (ht : KidsAt w (Old w) T tn tc ts) (hts : TsOk ts) (hu : RMu w U un ms) (hun : un ≤ 9223372036854775807) :
    Calls Tryd.prog 6 #[.agg #[.int .u8 k, .int .i64 n, .int .i64 v, .int .u8 c, .slice A len cap], .slice T tn tc, .slice U un uc] w (PutO f ts ms w) := by
  subst hf
  have htn := ht.1
  refine (put_any k n v c A len cap kids T tn tc ts U un uc ms w h hsz ht hts hu hun).mono ?_
  rintro e w1 ⟨hp, hb⟩
  subst htn
  have hnil : KidsAt w1 (Old w1) none 0 0 .nil := ⟨rfl, Nat.le_refl _, fun h => absurd h (by omega)⟩
  by_cases h1 : okPut (.cons k n v c kids .nil) ts ms = false
  · rw [if_pos h1] at hp
    exact ⟨0, 0, 0, 0, none, 0, 0, .nil, 2, hp, hnil, Nat.zero_le _, .inl ⟨h1, rfl, rfl, rfl, rfl, rfl, rfl⟩, hb⟩
  · have h1' : okPut (.cons k n v c kids .nil) ts ms = true := by simpa using h1
    rw [if_neg h1] at hp
    by_cases h2 : 300 < Fo.putSize ts ts.len (.cons k n v c kids .nil)
    · rw [if_pos h2] at hp
      exact ⟨0, 0, 0, 0, none, 0, 0, .nil, 3, hp, hnil, Nat.zero_le _, .inr (.inl ⟨h1', h2, rfl, rfl, rfl, rfl, rfl, rfl⟩), hb⟩
    · rw [if_neg h2] at hp
      obtain ⟨k1, n1, v1, c1, kids1, A1, cap1, e1, rfl, h3⟩ := hp
      rw [puts_eq] at e1
      have hs := subst_size (ts := ts) (ms := ms) _ (okPut_parts h1').1
      rw [e1] at hs
      simp only [Fo.size] at hs
      exact ⟨k1, n1, v1, c1, A1, kids1.len, cap1, kids1, 0, rfl, h3.down, by omega, .inr (.inr ⟨h1', by omega, rfl, e1⟩), hb⟩
theorem has_blank (l : List UInt8) : (decide (0 ≤ Lib.indexByte l 32)) = decide ((32 : UInt8) ∈ l) := by
  rw [Bool.eq_iff_iff, decide_eq_true_eq, decide_eq_true_eq]
  constructor
  · intro h
    obtain ⟨o, ho⟩ : ∃ o : Nat, Lib.indexByte l 32 = o := ⟨_, (Int.toNat_of_nonneg h).symm⟩
    exact List.mem_of_getElem? (Lib.indexByte_some ho).1
  · intro h
    rcases Int.lt_or_le (Lib.indexByte l 32) 0 with h1 | h1
    · have h2 := Lib.indexByte_ge l 32
      obtain ⟨i, hi, he⟩ := List.getElem_of_mem h
      exact absurd (by rw [List.getElem?_eq_getElem hi, he]) (Lib.indexByte_none (show Lib.indexByte l 32 = -1 by omega) i)
    · exact h1
end Go.Proofs.YtblgligagngpfaaDoor.Mu
namespace Go.Proofs.YtblgligagngpfaaDoor.Mu
open Go.ChangeShapes Go.WideShapes Go.ChangeAt Go.RowKit Go.Shelf

attribute [local go_sem] Oper.semAt_some
set_option linter.unusedVariables false

set_option maxRecDepth 100000 in
set_option maxHeartbeats 8000000 in
theorem tyPuts_any (k n v c : Int) (A : Option Addr) (len cap : Nat) (kids : Fo) (T : Option Addr) (tn tc : Nat) (ts : Fo) (U : Option Addr) (un uc : Nat) (ms : List (Int × Int)) (Nm : Option Addr) (nn nc : Nat) (nm : List (List UInt8)) (w : World)
    (h : KidsAt w (Old w) A len cap kids) (hT : KidsAt w (Old w) T tn tc ts) (hU : RMu w U un ms) (hN : RNm w w.heap.size Nm nn nm) (hsz : kids.size + ts.size + un + nn ≤ 1300000) (hwf : (Fo.cons k n v c kids .nil).All (fun _ n v _ _ => (Lit.int .i64 n).wf = true ∧ (Lit.int .i64 v).wf = true)) (ht : Tabs w) :
    Calls Tryd.prog 3 #[.agg #[.int .u8 k, .int .i64 n, .int .i64 v, .int .u8 c, .slice A len cap], .slice T tn tc, .slice U un uc, .slice Nm nn nc] w (SameP true w) := by
  obtain ⟨w1, hw1⟩ : ∃ w1, w1 = w.alloc (.cells #[.int .u8 k, .int .i64 n, .int .i64 v, .int .u8 c, .slice A len cap] 27) := ⟨_, rfl⟩
  have q1 : w1.heap[w.heap.size]? = some (.cells #[.int .u8 k, .int .i64 n, .int .i64 v, .int .u8 c, .slice A len cap] 27 (0, 0)) := by rw [hw1]; exact blk1 w _
  have hb1 : Bel w w1 := by rw [hw1]; exact (Bel.refl w).alloc _
  have hs1 : w1.heap.size = w.heap.size + 1 := by rw [hw1]; simp
  have hk1 := h.bel hb1
  have ht1 := ht.bel hb1
  obtain ⟨f, hf⟩ : ∃ f, f = Fo.cons k n v c kids .nil := ⟨_, rfl⟩
  have HF := Lib.hid hf
  have HW : Hid (∀ W, Bel w1 W → Calls Tryd.prog 5 #[] W (SameP true W)) := Lib.hid fun W hW => works6_any W (ht1.bel hW)
  have HTB := Lib.hid ht1
  have HGr : Hid (∀ W gb, Bel w1 W → W.heap[gb]? = some (.cells #[.int .u8 k, .int .i64 n, .int .i64 v, .int .u8 c, .slice A len cap] 27 (0, 0)) → Calls Tryd.prog 4 #[.slice (some ⟨gb, 0, none⟩) 1 1] W fun e w' => e = .returned (.bool (decide (5000 < f.grt))) ∧ Bel W w') := Lib.hid fun W gb hW hg => by
    rw [hf]
    exact great6_any (some ⟨gb, 0, none⟩) 1 1 _ W (kids_one hg (Array.getElem?_eq_some_iff.1 hg).1 (Nat.le_refl _) (hk1.bel hW)) (by simp only [Fo.size]; omega)
  have HGt : Hid (∀ W, Bel w1 W → Calls Tryd.prog 4 #[.slice T tn tc] W fun e w' => e = .returned (.bool (decide (5000 < ts.grt))) ∧ Bel W w') := Lib.hid fun W hW => great6_any T tn tc ts W (hT.bel (hb1.on hW)) (by omega)
  have HM1 : Hid (∀ W, Bel w1 W → Calls Tryd.prog 7 #[.agg #[.int .u8 k, .int .i64 n, .int .i64 v, .int .u8 c, .slice A len cap]] W fun e w' => e = .returned (.int .i64 (tyErr f)) ∧ Bel W w') := Lib.hid fun W hW => by
    rw [hf]
    exact rmay6_any k n v c A len cap kids W (hk1.bel hW) (by omega)
  have HPut : Hid (∀ W, Bel w1 W → Calls Tryd.prog 6 #[.agg #[.int .u8 k, .int .i64 n, .int .i64 v, .int .u8 c, .slice A len cap], .slice T tn tc, .slice U un uc] W (PutO f ts ms W)) := Lib.hid fun W hW => put_O hf A len cap T tn tc ts U un uc ms W (hk1.bel hW) (by omega) (hT.bel (hb1.on hW)) (TsOk.of (by omega)) (hU.bel (hb1.on hW)) (by omega)
  have HVa : Hid (∀ W, Bel w1 W → Calls Tryd.prog 12 #[.agg #[.int .u8 k, .int .i64 n, .int .i64 v, .int .u8 c, .slice A len cap]] W (VarsP f.varsF.1 f.varsF.2 W)) := Lib.hid fun W hW => by
    rw [hf]
    exact vars_any (Fo.cons k n v c kids .nil).nv (by rw [Fo.nv_len]; simp only [Fo.size]; omega) k n v c A len cap kids W (hk1.bel hW) (by omega) (all_inP _ _ hwf fun x hx => hx)
  have HCa : Hid (∀ W, Bel w1 W → Calls Tryd.prog 13 #[.agg #[.int .u8 k, .int .i64 n, .int .i64 v, .int .u8 c, .slice A len cap]] W (CanonP f W)) := Lib.hid fun W hW => by
    rw [hf]
    exact canon_any (Fo.cons k n v c kids .nil).nv (by rw [Fo.nv_len]; simp only [Fo.size]; omega) k n v c A len cap kids W (hk1.bel hW) (by omega) (all_inP _ _ hwf fun x hx => hx)
  have HB1 := Lib.hid hb1
  have HQ1 := Lib.hid q1
  have HS1 := Lib.hid hs1
  have HK := Lib.hid hk1
  have HT := Lib.hid (hT.bel hb1)
  have HU := Lib.hid (hU.bel hb1)
  have HN := Lib.hid (hN.upP hb1)
  obtain ⟨g1, hg1⟩ : ∃ g, g = decide (5000 < f.grt) := ⟨_, rfl⟩
  obtain ⟨g2, hg2⟩ : ∃ g, g = decide (5000 < ts.grt) := ⟨_, rfl⟩
  rw [← hg1] at HGr
  rw [← hg2] at HGt
  clear ht1 h ht hk1 hf hwf hT hU hN hg1 hg2
  go_enter Tryd.func3, Tryd.ntmps3
  go_wp2_with fail
  rw [← hw1]
  clear hw1
  refine (HGr.out _ _ ((Bel.refl w1).alloc _) (blk_at (by have := HS1.out; omega))).mono ?_
  rintro e w2 ⟨rfl, hb2⟩
  have HB2 := Lib.hid ((((Bel.refl w1).alloc _)).on hb2)
  clear hb2 q1 HGr
  cases g1
  case true =>
    go_wp2_with fail
    refine (HW.out _ HB2.out).mono ?_
    rintro e w9 ⟨rfl, hb9⟩
    have HB9 := Lib.hid (HB2.out.on hb9)
    clear hb9
    go_wp2_with fail
    go_ret
    exact ⟨rfl, HB1.out.on HB9.out⟩
  go_wp2_with fail
  refine (HGt.out _ HB2.out).mono ?_
  rintro e w3 ⟨rfl, hb3⟩
  have HB3 := Lib.hid (HB2.out.on hb3)
  clear hb3 HGt HB2
  cases g2
  case true =>
    go_wp2_with fail
    refine (HW.out _ HB3.out).mono ?_
    rintro e w9 ⟨rfl, hb9⟩
    have HB9 := Lib.hid (HB3.out.on hb9)
    clear hb9
    go_wp2_with fail
    go_ret
    exact ⟨rfl, HB1.out.on HB9.out⟩
  by_cases d1 : 1000 < un
  case pos =>
    have d1' : (1000 : Int) < (un : Int) := by omega
    go_wp2_with fail
    refine (HW.out _ HB3.out).mono ?_
    rintro e w9 ⟨rfl, hb9⟩
    have HB9 := Lib.hid (HB3.out.on hb9)
    clear hb9
    go_wp2_with fail
    go_ret
    exact ⟨rfl, HB1.out.on HB9.out⟩
  have d1' : (un : Int) ≤ (1000 : Int) := by omega
  by_cases d2 : 100 < nn
  case pos =>
    have d2' : (100 : Int) < (nn : Int) := by omega
    go_wp2_with fail
    refine (HW.out _ HB3.out).mono ?_
    rintro e w9 ⟨rfl, hb9⟩
    have HB9 := Lib.hid (HB3.out.on hb9)
    clear hb9
    go_wp2_with fail
    go_ret
    exact ⟨rfl, HB1.out.on HB9.out⟩
  have d2' : (nn : Int) ≤ (100 : Int) := by omega
  have hlt3 : w.heap.size < w3.heap.size := by have := HB3.out.size; have := HS1.out; omega
  obtain ⟨⟨t0, t1, t2, t3, t4⟩, _⟩ := cells5 (HB3.out.blk HQ1.out)
  go_wp2_with fail
  refine (HPut.out _ HB3.out).mono ?_
  rintro e w4 ⟨kx, nx, vx, cx, Ax, lx, px, kidsx, rx, rfl, hkx, hsx, hcase, hb4⟩
  have HB4 := Lib.hid (HB3.out.on hb4)
  have HKX := Lib.hid hkx
  have HCS := Lib.hid hcase
  have HBX : Hid ((w4.alloc (.cells #[.int .u8 kx, .int .i64 nx, .int .i64 vx, .int .u8 cx, .slice Ax lx px] 27)).heap[w4.heap.size]? = some (.cells #[.int .u8 kx, .int .i64 nx, .int .i64 vx, .int .u8 cx, .slice Ax lx px] 27 (0, 0))) := Lib.hid (blk1 w4 _)
  obtain ⟨W4, hW4⟩ : ∃ W, W = w4.alloc (.cells #[.int .u8 kx, .int .i64 nx, .int .i64 vx, .int .u8 cx, .slice Ax lx px] 27) := ⟨_, rfl⟩
  rw [← hW4] at HBX
  have HB5 : Hid (Bel w1 W4) := Lib.hid (by rw [hW4]; exact HB4.out.alloc _)
  have HB45 : Hid (Bel w4 W4) := Lib.hid (by rw [hW4]; exact (Bel.refl w4).alloc _)
  clear hkx hcase hb4 t0 t1 t2 t3 t4 hlt3 HPut HB3
  have hlt4 : w.heap.size < w4.heap.size := by have := HB4.out.size; have := HS1.out; omega
  have hlt5 : w.heap.size < W4.heap.size := by have := HB5.out.size; have := HS1.out; omega
  obtain ⟨⟨t0, t1, t2, t3, t4⟩, _⟩ := cells5 (HB4.out.blk HQ1.out)
  obtain ⟨e1, he1⟩ : ∃ e1, e1 = tyErr f := ⟨_, rfl⟩
  rw [← he1] at HM1
  obtain ⟨b0, hb0⟩ : ∃ b, (e1 == 0) = b := ⟨_, rfl⟩
  have HT0 : Hid (okT f ts 0 = b0) := Lib.hid (by show (tyErr f == 0) = b0; rw [← he1]; exact hb0)
  clear he1
  go_wp2_with fail
  rw [← hW4]
  clear hW4
  refine (HM1.out _ HB5.out).mono ?_
  rintro e w5 ⟨rfl, hb5⟩
  have HB6 := Lib.hid (HB5.out.on hb5)
  have HB46 := Lib.hid (HB45.out.on hb5)
  have HBX6 := Lib.hid (hb5.blk HBX.out)
  clear hb5 t0 t1 t2 t3 t4 hlt4 hlt5 HBX HB45
  go_wp2_with fail
  rw [← HT0.out]
  go_loopw [11, 55] (fun bv iv wr => ∃ j : Nat, j ≤ tn ∧ iv = .int .i64 (j : Int) ∧ bv = .bool (okT f ts j) ∧ Hid (Bel w5 wr)) (fun _ i _ => tn - (intOf i).toNat)
  case atStart => exact ⟨0, Nat.zero_le _, rfl, rfl, Lib.hid (Bel.refl _)⟩
  case round =>
    obtain ⟨j, hj, rfl, rfl, HBR⟩ := hrel
    by_cases hlt : j < tn
    · have hkr : KidsAt wr (Old w1) T tn tc ts := HT.out.keep fun i hi => (HB6.out.on HBR.out).block i hi
      obtain ⟨ub, uo, eA, hob, hfo⟩ := hkr.2.2 (by omega)
      subst eA
      obtain ⟨k', n', v', c', kids', A', cap', en, e1, e2, e3, e4, e5, hk'⟩ := FoAt.nth ts j ub uo hfo (by have := HT.out.1; omega)
      have hsn := Fo.nth_size ts j
      rw [en] at hsn
      simp only [Fo.size] at hsn
      have HC : Hid (∀ W, Bel wr W → Calls Tryd.prog 7 #[.agg #[.int .u8 k', .int .i64 n', .int .i64 v', .int .u8 c', .slice A' kids'.len cap']] W fun e w' => e = .returned (.int .i64 (tyErr (ts.nth j))) ∧ Bel W w') := Lib.hid fun W hW => by
        rw [en]
        exact rmay6_any k' n' v' c' A' kids'.len cap' kids' W ((hk'.wide fun i hi => Nat.lt_of_lt_of_le hi (HB6.out.on HBR.out).size).bel hW) (by omega)
      obtain ⟨x, hx⟩ : ∃ x, x = tyErr (ts.nth j) := ⟨_, rfl⟩
      rw [← hx] at HC
      obtain ⟨b2, hb2⟩ : ∃ b, (x == 0) = b := ⟨_, rfl⟩
      obtain ⟨b1, hb1⟩ : ∃ b, b = okT f ts j := ⟨_, rfl⟩
      have HS : Hid (okT f ts (j + 1) = (b1 && b2)) := Lib.hid (by rw [hb1, ← hb2, hx]; rfl)
      rw [← hb1]
      obtain ⟨l', hl'⟩ : ∃ l', l' = kids'.len := ⟨_, rfl⟩
      rw [← hl'] at e5 HC
      have i1 : (0 : Int) ≤ (j : Int) := by omega
      have i2 : (j : Int) < (tn : Int) := by omega
      have i3 : (tn : Int) ≤ 1300000 := by have := HT.out.1; have := ts.len_le; omega
      clear hkr hfo en hk' hsn hx hb1 hl'
      cases b1
      case false =>
        go_wp2_with fail
        go_roundw
        case rel => exact ⟨j + 1, by omega, by go_num, by rw [HS.out]; rfl, Lib.hid (HBR.out.alloc _)⟩
        case measure => simp [intOf]; omega
      case true =>
        go_wp2_with fail
        refine (HC.out _ ((Bel.refl wr).alloc _)).mono ?_
        rintro e w2 ⟨rfl, hb3⟩
        have HB3 := Lib.hid ((HBR.out.alloc _).on hb3)
        clear hb3
        go_wp2_with fail
        go_roundw
        case rel => exact ⟨j + 1, by omega, by go_num, by rw [HS.out]; rfl, HB3⟩
        case measure => simp [intOf]; omega
    · obtain rfl : j = tn := by omega
      obtain ⟨b1, hb1⟩ : ∃ b, b = okT f ts j := ⟨_, rfl⟩
      have HOT := Lib.hid hb1
      rw [← hb1]
      clear hb1
      obtain ⟨wl, hwl⟩ : ∃ W, W = wr := ⟨_, rfl⟩
      rw [← hwl] at HBR ⊢
      clear hwl
      go_wp2_with fail
      rw [show b1 = okM b1 ms 0 from rfl]
      go_loopw [11, 68] (fun bv iv wr => ∃ i : Nat, i ≤ un ∧ iv = .int .i64 (i : Int) ∧ bv = .bool (okM b1 ms i) ∧ Hid (Bel wl wr)) (fun _ i _ => un - (intOf i).toNat)
      case atStart => exact ⟨0, Nat.zero_le _, rfl, rfl, Lib.hid (Bel.refl _)⟩
      case round =>
        obtain ⟨i, hi, rfl, rfl, HBQ⟩ := hrel
        by_cases hlt2 : i < un
        · obtain ⟨mb, mo, eU, hmb, hmc⟩ := (HU.out.bel (HB6.out.on (HBR.out.on HBQ.out))).2 (by omega)
          subst eU
          obtain ⟨y, hy⟩ : ∃ y, ms[i]? = some y := ⟨_, List.getElem?_eq_getElem (by have := HU.out.1; omega)⟩
          obtain ⟨m0, m1⟩ := hmc i y hy
          have HCI : Hid (∀ W, Calls Tryd.prog 8 #[.agg #[.int .i64 y.1, .int .u8 y.2]] W fun e w' => e = .returned (.bool (isB y.1 y.2)) ∧ Bel W w') := Lib.hid fun W => risT_any y.1 y.2 W
          obtain ⟨b3, hb3⟩ : ∃ b, b = isB y.1 y.2 := ⟨_, rfl⟩
          rw [← hb3] at HCI
          obtain ⟨b2, hb2⟩ : ∃ b, b = okM b1 ms i := ⟨_, rfl⟩
          have HS : Hid (okM b1 ms (i + 1) = (b2 && b3)) := Lib.hid (by rw [hb2, hb3]; show (okM b1 ms i && isB (ms[i]?.getD (0, 0)).1 (ms[i]?.getD (0, 0)).2) = _; rw [hy]; rfl)
          rw [← hb2]
          obtain ⟨y1, y2⟩ := y
          have i1 : (0 : Int) ≤ (i : Int) := by omega
          have i2 : (i : Int) < (un : Int) := by omega
          simp only at m0 m1 HCI
          clear hmc hy hb3 hb2
          cases b2
          case false =>
            go_wp2_with fail
            go_roundw
            case rel => exact ⟨i + 1, by omega, by go_num, by rw [HS.out]; rfl, Lib.hid (HBQ.out.alloc _)⟩
            case measure => simp [intOf]; omega
          case true =>
            go_wp2_with fail
            refine (HCI.out _).mono ?_
            rintro e w2 ⟨rfl, hb4⟩
            have HB4' := Lib.hid ((HBQ.out.alloc _).on hb4)
            clear hb4
            go_wp2_with fail
            go_roundw
            case rel => exact ⟨i + 1, by omega, by go_num, by rw [HS.out]; rfl, HB4'⟩
            case measure => simp [intOf]; omega
        · obtain rfl : i = un := by omega
          obtain ⟨b2, hb2⟩ : ∃ b, b = okM b1 ms i := ⟨_, rfl⟩
          have HOK : Hid (okPut f ts ms = b2) := Lib.hid (by rw [hb2, HOT.out, ← ok_all, HT.out.1, HU.out.1])
          rw [← hb2]
          clear hb2
          have HBw : Hid (Bel w5 wr) := Lib.hid (HBR.out.on HBQ.out)
          have HB7 : Hid (Bel w1 wr) := Lib.hid (HB6.out.on HBw.out)
          have HBX7 := Lib.hid (HBw.out.blk HBX6.out)
          have HKX7 := Lib.hid (HKX.out.bel (HB46.out.on HBw.out))
          have hx7 : w4.heap.size < wr.heap.size := (Array.getElem?_eq_some_iff.1 HBX7.out).1
          have ht7 : w.heap.size < wr.heap.size := (Array.getElem?_eq_some_iff.1 (HB7.out.blk HQ1.out)).1
          obtain ⟨⟨t0, t1, t2, t3, t4⟩, _⟩ := cells5 (HB7.out.blk HQ1.out)
          obtain ⟨⟨s0, s1, s2, s3, s4⟩, _⟩ := cells5 HBX7.out
          cases b2
          case false =>
            have hc := HCS.out
            rw [HOK.out] at hc
            rcases hc with ⟨-, rfl, rfl, rfl, rfl, rfl, rfl⟩ | ⟨h, -⟩ | ⟨h, -⟩
            · obtain rfl : lx = 0 := HKX7.out.1
              have HSm : Hid (∀ W, Bel wr W → Calls Tryd.prog 9 #[.agg #[.int .u8 0, .int .i64 0, .int .i64 0, .int .u8 0, .slice Ax 0 px], .agg #[.int .u8 0, .int .i64 0, .int .i64 0, .int .u8 0, .slice none 0 0]] W (SameP true W)) := Lib.hid fun W hW =>
                same_any 0 0 0 0 Ax 0 px .nil 0 0 0 0 none 0 0 .nil W (HKX7.out.bel hW) ⟨rfl, Nat.le_refl _, fun h => absurd h (by omega)⟩ (by simp [Fo.size]) (by simp [Fo.size])
              go_wp2_with fail
              refine (HSm.out _ (Bel.refl _)).mono ?_
              rintro e w8 ⟨rfl, hb8⟩
              have HB8 := Lib.hid (HB7.out.on hb8)
              clear hb8
              go_wp2_with fail
              refine (HW.out _ HB8.out).mono ?_
              rintro e w9 ⟨rfl, hb9⟩
              have HB9 := Lib.hid (HB8.out.on hb9)
              clear hb9
              go_wp2_with fail
              go_ret
              exact ⟨rfl, HB1.out.on HB9.out⟩
            · cases h
            · cases h
          case true =>
            have hwl : f.well = true := (okPut_parts HOK.out).1
            have hbd : ts.bad = false := (okPut_parts HOK.out).2.1
            have hfs : f.size ≤ 300 := (err_small (okPut_three HOK.out).1).1
            have hps := putSize_300 hbd ts.len f
            have hss := subst_size (ts := ts) (ms := ms) f hwl
            obtain ⟨ky, ny, vy, cy, kidsy, hsub⟩ : ∃ ky ny vy cy kidsy, Fo.subst ts ts.len ms f = .cons ky ny vy cy kidsy .nil := by
              rw [HF.out]
              obtain ⟨k', n', v', c', kids', h⟩ := subst_head ts ts.len ms k n v c kids
              exact ⟨k', n', v', c', kids', by rw [h .nil]; rfl⟩
            have hys : 1 + kidsy.size = Fo.putSize ts ts.len f := by rw [← hss, hsub]; simp [Fo.size]
            have hyb : kidsy.size ≤ 1400000 := by omega
            have hwf' : (Fo.cons k n v c kids .nil).well = true := by rw [← HF.out]; exact hwl
            have hks : kids.size ≤ 1400000 := by omega
            have HRp : Hid (∀ W, Bel w1 W → Calls Tryd.prog 10 #[.agg #[.int .u8 k, .int .i64 n, .int .i64 v, .int .u8 c, .slice A len cap], .slice T j tc, .slice U i uc] W (RtQ w1.heap.size ky ny vy cy kidsy W)) := Lib.hid fun W hW =>
              rput_any w1 T j tc ts U i uc ms HT.out HU.out kids.size k n v c A len cap kids W rfl hW (HK.out.bel hW) hwf' hks ky ny vy cy kidsy (by rw [← HF.out, HT.out.1]; exact hsub)
            obtain ⟨zs, hzs⟩ : ∃ z : Int, z = ((1 + kidsy.size : Nat) : Int) := ⟨_, rfl⟩
            have HZS := Lib.hid hzs
            have HYS := Lib.hid hys
            have HYB := Lib.hid hyb
            have HSUB := Lib.hid hsub
            have HWL := Lib.hid hwl
            have HFS := Lib.hid hfs
            clear hwl hbd hfs hps hss hsub hys hyb hwf'
            go_wp2_with fail
            refine (HRp.out _ HB7.out).mono ?_
            rintro e w8 ⟨Aw, pw, rfl, hkw, hb8⟩
            have hkw' : KidsAt w8 (Old w8) Aw kidsy.len pw kidsy := hkw.wide fun q hq => hq.elim (fun h => h.2) fun h => h.2
            have HRs : Hid (∀ W, Bel w8 W → Calls Tryd.prog 11 #[.agg #[.int .u8 ky, .int .i64 ny, .int .i64 vy, .int .u8 cy, .slice Aw kidsy.len pw]] W fun e w' => e = .returned (.int .i64 zs) ∧ Bel W w') := Lib.hid fun W hW => by
              rw [HZS.out]
              exact rsize_any kidsy.size ky ny vy cy Aw kidsy.len pw kidsy W rfl (hkw'.bel hW) HYB.out
            have HKW := Lib.hid hkw'
            obtain ⟨ly, hly⟩ : ∃ l, l = kidsy.len := ⟨_, rfl⟩
            rw [← hly] at HKW HRs ⊢
            have HLY := Lib.hid hly
            have HB8 := Lib.hid (HB7.out.on hb8)
            have HB78 := Lib.hid hb8
            have HBX8 := Lib.hid (hb8.blk HBX7.out)
            have HKX8 := Lib.hid (HKX7.out.bel hb8)
            obtain ⟨W9, hW9⟩ : ∃ W, W = w8.alloc (.cells #[.int .u8 ky, .int .i64 ny, .int .i64 vy, .int .u8 cy, .slice Aw ly pw] 27) := ⟨_, rfl⟩
            have HBW : Hid (W9.heap[w8.heap.size]? = some (.cells #[.int .u8 ky, .int .i64 ny, .int .i64 vy, .int .u8 cy, .slice Aw ly pw] 27 (0, 0))) := Lib.hid (by rw [hW9]; exact blk1 w8 _)
            have HB89 : Hid (Bel w8 W9) := Lib.hid (by rw [hW9]; exact (Bel.refl w8).alloc _)
            clear hkw hkw' hly hb8 hzs t0 t1 t2 t3 t4 s0 s1 s2 s3 s4 hx7 ht7
            go_wp2_with fail
            rw [← hW9]
            clear hW9
            refine (HRs.out _ HB89.out).mono ?_
            rintro e w10 ⟨rfl, hb10⟩
            have HB810 := Lib.hid (HB89.out.on hb10)
            have HB10 := Lib.hid (HB8.out.on HB810.out)
            have HBW10 := Lib.hid (hb10.blk HBW.out)
            have HBX10 := Lib.hid (HB810.out.blk HBX8.out)
            have HKX10 := Lib.hid (HKX8.out.bel HB810.out)
            have HKW10 := Lib.hid (HKW.out.bel HB810.out)
            clear hb10 HBW HBX8 HKX8 HKW HRs
            have hx7 : w4.heap.size < w10.heap.size := (Array.getElem?_eq_some_iff.1 HBX10.out).1
            have ht7 : w.heap.size < w10.heap.size := (Array.getElem?_eq_some_iff.1 (HB10.out.blk HQ1.out)).1
            obtain ⟨⟨t0, t1, t2, t3, t4⟩, _⟩ := cells5 (HB10.out.blk HQ1.out)
            obtain ⟨⟨s0, s1, s2, s3, s4⟩, _⟩ := cells5 HBX10.out
            have hc := HCS.out
            rw [HOK.out] at hc
            rcases hc with ⟨h, -⟩ | ⟨-, h3, rfl, rfl, rfl, rfl, rfl, rfl⟩ | ⟨-, h3, rfl, h4⟩
            · cases h
            · have hz3 : (300 : Int) < zs := by have := HZS.out; have := HYS.out; omega
              obtain rfl : lx = 0 := HKX10.out.1
              have HSm : Hid (∀ W, Bel w10 W → Calls Tryd.prog 9 #[.agg #[.int .u8 0, .int .i64 0, .int .i64 0, .int .u8 0, .slice Ax 0 px], .agg #[.int .u8 0, .int .i64 0, .int .i64 0, .int .u8 0, .slice none 0 0]] W (SameP true W)) := Lib.hid fun W hW =>
                same_any 0 0 0 0 Ax 0 px .nil 0 0 0 0 none 0 0 .nil W (HKX10.out.bel hW) ⟨rfl, Nat.le_refl _, fun h => absurd h (by omega)⟩ (by simp [Fo.size]) (by simp [Fo.size])
              clear h3
              go_wp2_with fail
              refine (HSm.out _ (Bel.refl _)).mono ?_
              rintro e w11 ⟨rfl, hb11⟩
              have HB11 := Lib.hid (HB10.out.on hb11)
              clear hb11
              go_wp2_with fail
              refine (HW.out _ HB11.out).mono ?_
              rintro e w12 ⟨rfl, hb12⟩
              have HB12 := Lib.hid (HB11.out.on hb12)
              clear hb12
              go_wp2_with fail
              go_ret
              exact ⟨rfl, HB1.out.on HB12.out⟩
            · have hz3 : zs ≤ (300 : Int) := by have := HZS.out; have := HYS.out; omega
              obtain ⟨rfl, rfl, rfl, rfl, rfl, -⟩ := Fo.cons.inj (h4.symm.trans HSUB.out)
              clear h3 h4
              obtain ⟨V1, V2, hvs⟩ : ∃ V1 V2, f.varsF = (V1, V2) := ⟨_, _, rfl⟩
              have HVS := Lib.hid hvs
              go_wp2_with fail
              refine (HVa.out _ HB10.out).mono ?_
              rintro e w11 ⟨A1, vc1, A2, vc2, rfl, hv1, hv2, hb11⟩
              obtain ⟨l1, hl1⟩ : ∃ n, n = f.varsF.1.length := ⟨_, rfl⟩
              obtain ⟨l2, hl2⟩ : ∃ n, n = f.varsF.2.length := ⟨_, rfl⟩
              rw [← hl1] at hv1 ⊢
              rw [← hl2] at hv2 ⊢
              have HL : Hid (l1 ≤ 2600002 ∧ l2 ≤ 2600002) := Lib.hid (by have := varsF_len f; have := HFS.out; rw [hl1, hl2]; omega)
              have HL12 := Lib.hid (And.intro hl1 hl2)
              have HV1 := Lib.hid hv1
              have HV2 := Lib.hid hv2
              have HB11 := Lib.hid (HB10.out.on hb11)
              have HB1011 := Lib.hid hb11
              clear hv1 hv2 hb11 hl1 hl2 t0 t1 t2 t3 t4 s0 s1 s2 s3 s4 hx7 ht7
              have ht7 : w.heap.size < w11.heap.size := (Array.getElem?_eq_some_iff.1 (HB11.out.blk HQ1.out)).1
              obtain ⟨⟨t0, t1, t2, t3, t4⟩, _⟩ := cells5 (HB11.out.blk HQ1.out)
              go_wp2_with fail
              refine (HCa.out _ HB11.out).mono ?_
              rintro e w12 ⟨kc, nx', xc, mc, kidsc, AC, pc, C1, cc1, C2, cc2, hcan, rfl, hkc, hc1, hc2, hb12⟩
              have hcv : f.canW.2.2 = f.varsF := by rw [canW_eq]
              rw [hcv, ← HL12.out.1] at hc1
              rw [hcv, ← HL12.out.2] at hc2
              rw [hcv, ← HL12.out.1, ← HL12.out.2]
              have hkc' := hkc.down
              obtain ⟨lc, hlc⟩ : ∃ l, l = kidsc.len := ⟨_, rfl⟩
              rw [← hlc] at hkc' ⊢
              have HLC := Lib.hid hlc
              have HCAN := Lib.hid hcan
              have HC1 := Lib.hid hc1
              have HC2 := Lib.hid hc2
              have HKC := Lib.hid hkc'
              have HB12 := Lib.hid (HB11.out.on hb12)
              have HB1012 := Lib.hid (HB1011.out.on hb12)
              have HB1112 := Lib.hid hb12
              obtain ⟨W12, hW12⟩ : ∃ W, W = w12.alloc (.cells #[.int .u8 kc, .int .i64 nx', .int .i64 xc, .int .u8 mc, .slice AC lc pc] 27) := ⟨_, rfl⟩
              have HBC : Hid (W12.heap[w12.heap.size]? = some (.cells #[.int .u8 kc, .int .i64 nx', .int .i64 xc, .int .u8 mc, .slice AC lc pc] 27 (0, 0))) := Lib.hid (by rw [hW12]; exact blk1 w12 _)
              have HB1213 : Hid (Bel w12 W12) := Lib.hid (by rw [hW12]; exact (Bel.refl w12).alloc _)
              clear hcv hcan hkc hkc' hlc hc1 hc2 hb12 t0 t1 t2 t3 t4 ht7
              have ht7 : w.heap.size < w12.heap.size := (Array.getElem?_eq_some_iff.1 (HB12.out.blk HQ1.out)).1
              obtain ⟨⟨t0, t1, t2, t3, t4⟩, _⟩ := cells5 (HB12.out.blk HQ1.out)
              have HRv : Hid (∀ W, Bel w1 W → Calls Tryd.prog 14 #[.agg #[.int .u8 k, .int .i64 n, .int .i64 v, .int .u8 c, .slice A len cap]] W (RVarsP f.varsF.1 f.varsF.2 W)) := Lib.hid fun W hW => by
                rw [HF.out]
                exact rvars_any k n v c A len cap kids W (HK.out.bel hW) (by rw [← HF.out]; exact HWL.out) hks
              go_wp2_with fail
              rw [← hW12]
              clear hW12
              refine (HRv.out _ (HB12.out.on HB1213.out)).mono ?_
              rintro e w13 ⟨S1, sc1, S2, sc2, rfl, hs1', hs2', hb13⟩
              rw [← HL12.out.1] at hs1' ⊢
              rw [← HL12.out.2] at hs2' ⊢
              have HS1' := Lib.hid hs1'
              have HS2' := Lib.hid hs2'
              have HB1013 := Lib.hid (HB1012.out.on (HB1213.out.on hb13))
              have HB1113 := Lib.hid (HB1112.out.on (HB1213.out.on hb13))
              have HB1213' := Lib.hid (HB1213.out.on hb13)
              have HBC13 := Lib.hid (hb13.blk HBC.out)
              clear hs1' hs2' hb13 t0 t1 t2 t3 t4 ht7
              obtain ⟨W13, hW13⟩ : ∃ W, W = w13.alloc (.cells #[.slice S1 l1 sc1, .slice S2 l2 sc2] 46) := ⟨_, rfl⟩
              have HBS : Hid (W13.heap[w13.heap.size]? = some (.cells #[.slice S1 l1 sc1, .slice S2 l2 sc2] 46 (0, 0))) := Lib.hid (by rw [hW13]; exact blk1 w13 _)
              have HBB : Hid (Bel w13 W13.drew) := Lib.hid (by rw [hW13]; exact ((Bel.refl w13).alloc _).drew)
              have HB1D : Hid (Bel w1 W13.drew) := Lib.hid (HB10.out.on (HB1013.out.on HBB.out))
              have HB10D : Hid (Bel w10 W13.drew) := Lib.hid (HB1013.out.on HBB.out)
              have hlx : lx = ly := by rw [HKX10.out.1, HLY.out]
              subst hlx
              go_wp2_with fail
              rw [← hW13]
              clear hW13
              refine regPu_any _ _ _ _ _ _ _ _ _ _ _ _ _ _ _ _ _ _ _ _ _ _ _ _ _ _ _ _ _ _ _ _ _ _ _ _ _ _ _ _ _ _ kidsc _ _ _ _ _ _ _ _ _ _ _ _ _ _ _ _ _ _ _ _ _ _ _ _ _ _ _ _ _ _ _ _ _ _ _ _ _ _ _ _ _ _ _ _ _ _ _ _ _ _ _ _ _ _ _ _ _ _ _ _ _ _ _ _ _ _ _ _ _ _ _ _ _ _ _ _ _ _ _ _ _ _ _ _ _ _ _ _ _ _ _ _ _ _ _ _ _ _ _ _ _ _ _ _ _ _ _ _ _ _ _ _ _ _ _ _ _ _ _ _ _ _ _ _ _ _ _ _ _ _ _ _ _ _ _ _ _ _ _ _ _ _ _ _ _ _ _ _ _ _ _ _ _ _ _ _ _ _ _ _ _ _ _ _ _ _ _ _ _ _ _ _ _ _ _ _ _ _ (HB10D.out.blk HBX10.out) (HB10D.out.blk HBW10.out) (HBB.out.blk HBC13.out) (HB1D.out.blk HQ1.out) HBS.out ?_ ?_ ?_ ?_ ?_ ?_ ?_ _ ?_
              · intro W hW
                have := same_any kx nx vx cx Ax lx px kidsx kx nx vx cx Aw lx pw kidsx W (HKX10.out.bel (HB10D.out.on hW)) (HKW10.out.bel (HB10D.out.on hW)) HYB.out HYB.out
                rw [Fo.eqB_refl] at this
                exact this
              · intro W hW
                exact (equal_any A1 S1 l1 l1 vc1 sc1 _ _ W (HV1.out.bel (HB1113.out.on (HBB.out.on hW))) (HS1'.out.bel (HBB.out.on hW)) (by have := HL.out; omega) (by have := HL.out; omega)).mono fun e w' q => ⟨by rw [q.1]; simp, q.2⟩
              · intro W hW
                exact (equal_any A2 S2 l2 l2 vc2 sc2 _ _ W (HV2.out.bel (HB1113.out.on (HBB.out.on hW))) (HS2'.out.bel (HBB.out.on hW)) (by have := HL.out; omega) (by have := HL.out; omega)).mono fun e w' q => ⟨by rw [q.1]; simp, q.2⟩
              · intro W hW
                exact (equal_any C1 A1 l1 l1 cc1 vc1 _ _ W (HC1.out.bel (HB1213'.out.on (HBB.out.on hW))) (HV1.out.bel (HB1113.out.on (HBB.out.on hW))) (by have := HL.out; omega) (by have := HL.out; omega)).mono fun e w' q => ⟨by rw [q.1]; simp, q.2⟩
              · intro W hW
                exact (equal_any C2 A2 l2 l2 cc2 vc2 _ _ W (HC2.out.bel (HB1213'.out.on (HBB.out.on hW))) (HV2.out.bel (HB1113.out.on (HBB.out.on hW))) (by have := HL.out; omega) (by have := HL.out; omega)).mono fun e w' q => ⟨by rw [q.1]; simp, q.2⟩
              · intro W hW
                refine (rcan_any k n v c A len cap kids W (HK.out.bel (HB1D.out.on hW)) (by rw [← HF.out]; exact HWL.out) hks kc nx' xc mc kidsc (by rw [← HF.out]; exact HCAN.out)).mono ?_
                rintro e w' ⟨AQ, pq, rfl, hq, hbq⟩
                exact ⟨AQ, pq, by rw [HLC.out], by rw [HLC.out]; exact hq.wide fun q hq => hq.elim (fun h => h.2) fun h => h.2, hbq⟩
              · intro W AQ pq hW hq
                have hsz2 : kidsc.size ≤ 1400000 := by
                  have e1 : f.canW.1.size = f.size := by rw [canW_eq]; exact ren_size _ _ _
                  rw [HCAN.out] at e1
                  simp only [Fo.size] at e1
                  have := HFS.out
                  omega
                have := same_any kc nx' xc mc AC lc pc kidsc kc nx' xc mc AQ lc pq kidsc W (HKC.out.bel (HB1213'.out.on (HBB.out.on hW))) hq hsz2 hsz2
                rw [Fo.eqB_refl] at this
                exact this
              intro V w14 hb14 hv1 hv2
              have HB14 := Lib.hid (HB1D.out.on hb14)
              simp only [regPu, List.drop_succ_cons, List.drop_zero, acVPu, hv1, hv2]
              clear hb14 hv1 hv2
              go_wp2_with fail
              go_loop [163] (fun iv => ∃ q : Nat, q ≤ nn ∧ iv = .int .i64 (q : Int) ∧ Hid (∀ s ∈ nm.take q, s.length ≤ 1000 ∧ (32 : UInt8) ∉ s)) (fun i => nn - (intOf i).toNat)
              case atStart => exact ⟨0, Nat.zero_le _, rfl, Lib.hid (by intro s hs; simp at hs)⟩
              case round =>
                obtain ⟨q, hq, rfl, HG⟩ := hrel
                by_cases hlt3 : q < nn
                · obtain ⟨nb, no, eN, hnb, hnc⟩ := (HN.out.upP HB14.out).2 (by omega)
                  subst eN
                  obtain ⟨s, hs⟩ : ∃ s, nm[q]? = some s := ⟨_, List.getElem?_eq_getElem (by have := HN.out.1; omega)⟩
                  have hcell := hnc q s hs
                  obtain ⟨S, hS⟩ : ∃ S : ByteArray, S = ⟨s.toArray⟩ := ⟨_, rfl⟩
                  rw [← hS] at hcell
                  have hSl : S.size = s.length := by rw [hS]; simp [ByteArray.size]
                  obtain ⟨bl, hbl⟩ : ∃ b, b = decide ((32 : UInt8) ∈ s) := ⟨_, rfl⟩
                  have HCN : Hid (∀ W, Calls Tryd.prog 17 #[.string S, .string { data := #[32] }] W fun e w' => e = .returned (.bool bl) ∧ W = w') := Lib.hid fun W => (Tryd.strings_Contains_one S 32 W).mono fun e w' q => ⟨by rw [q.1, hbl, ← has_blank s, hS], q.2.symm⟩
                  have HSS := Lib.hid (And.intro hs (And.intro hSl hbl))
                  have i1 : (0 : Int) ≤ (q : Int) := by omega
                  have i2 : (q : Int) < (nn : Int) := by omega
                  by_cases hbig : 1000 < S.size
                  · have hb2 : (1000 : Int) < (S.size : Int) := by omega
                    clear hnc hs hS hSl hbl
                    go_wp2_with fail
                    refine (HW.out _ HB14.out).mono ?_
                    rintro e w15 ⟨rfl, hb15⟩
                    have HB15 := Lib.hid (HB14.out.on hb15)
                    clear hb15
                    go_wp2_with fail
                    go_ret
                    exact ⟨rfl, HB1.out.on HB15.out⟩
                  · have hb2 : (S.size : Int) ≤ (1000 : Int) := by omega
                    have hb3 : decide ((1000 : Int) < (S.size : Int)) = false := by rw [decide_eq_false_iff_not]; omega
                    clear hnc hs hS hSl hbl
                    cases bl
                    case true =>
                      go_wp2_with (go_at_call 17; refine (HCN.out _).mono ?_; rintro e w' ⟨rfl, rfl⟩)
                      refine (HW.out _ HB14.out).mono ?_
                      rintro e w15 ⟨rfl, hb15⟩
                      have HB15 := Lib.hid (HB14.out.on hb15)
                      clear hb15
                      go_wp2_with fail
                      go_ret
                      exact ⟨rfl, HB1.out.on HB15.out⟩
                    case false =>
                      go_wp2_with (go_at_call 17; refine (HCN.out _).mono ?_; rintro e w' ⟨rfl, rfl⟩)
                      go_round
                      case rel => exact ⟨q + 1, by omega, by go_num, Lib.hid (by
                        intro x hx
                        obtain ⟨g1, g2, g3⟩ := HSS.out
                        have hql : q < nm.length := (List.getElem?_eq_some_iff.1 g1).1
                        rw [List.take_succ_eq_append_getElem hql, (List.getElem?_eq_some_iff.1 g1).2] at hx
                        rcases List.mem_append.1 hx with hx | hx
                        · exact HG.out x hx
                        · obtain rfl := List.mem_singleton.1 hx
                          exact ⟨by omega, by simpa using g3⟩)⟩
                      case measure => simp [intOf]; omega
                · have hall : ∀ s ∈ nm, s.length ≤ 1000 ∧ (32 : UInt8) ∉ s := by
                    have := HG.out
                    rwa [List.take_of_length_le (by have := HN.out.1; omega)] at this
                  have hwl2 : (Fo.cons k n v c kids .nil).well = true := by rw [← HF.out]; exact HWL.out
                  have hk300 : kids.size ≤ 300 := by have := HFS.out; rw [HF.out] at this; simp only [Fo.size] at this; omega
                  have HB1E : Hid (Bel w1 w14.drew) := Lib.hid HB14.out.drew
                  have HX1 : Hid (∀ W, Bel w14.drew W → Calls Tryd.prog 18 #[.agg #[.int .u8 k, .int .i64 n, .int .i64 v, .int .u8 c, .slice A len cap], .slice Nm nn nc] W (StrP (Fo.one nm (.cons k n v c kids .nil) 0) W)) := Lib.hid fun W hW =>
                    ttext_any k n v c A len cap kids nm Nm nn nc W (HK.out.bel (HB1E.out.on hW)) hwl2 (by omega) (HTB.out.bel (HB1E.out.on hW)) (HN.out.upP (HB1E.out.on hW)) (by omega) (by
                      have := one_len (fun s hs => (hall s hs).1) hwl2 0
                      omega)
                  have HX2 : Hid (∀ W, Bel w14.drew W → Calls Tryd.prog 19 #[.agg #[.int .u8 k, .int .i64 n, .int .i64 v, .int .u8 c, .slice A len cap], .slice Nm nn nc] W (StrP (Fo.one nm (.cons k n v c kids .nil) 0) W)) := Lib.hid fun W hW =>
                    rtext_any nm (fun s hs => (hall s hs).1) (fun s hs => (hall s hs).2) w1 Nm nn nc HN.out (fun x W h0 h1 => rdigP_any x W h0 h1) (fun x W h0 h1 => rmulP_any x W h0 h1) kids.size k n v c A len cap kids W rfl (HB1E.out.on hW) (HK.out.bel (HB1E.out.on hW)) hwl2 (by omega)
                  obtain ⟨tt, htt⟩ : ∃ tt, tt = Fo.one nm (.cons k n v c kids .nil) 0 := ⟨_, rfl⟩
                  rw [← htt] at HX1 HX2
                  clear hall hwl2 htt
                  go_wp2_with fail
                  refine regPt_any _ _ _ _ _ _ _ _ _ _ _ tt _ _ _ _ _ _ _ _ _ _ _ _ _ _ _ _ _ _ _ _ _ _ _ _ _ _ _ _ _ _ _ _ _ _ _ _ _ _ _ _ _ _ _ _ _ _ _ _ _ _ _ _ _ _ _ _ _ _ _ _ _ _ _ _ _ _ _ _ _ _ _ _ _ _ _ _ _ _ _ _ _ _ _ _ _ _ _ _ _ _ _ _ _ _ _ _ _ _ _ _ _ _ _ _ _ _ _ _ _ _ _ _ _ _ _ _ _ _ _ _ _ _ _ _ _ _ _ _ _ _ _ _ _ _ _ _ _ _ _ _ _ _ _ _ _ _ _ _ _ _ _ _ _ _ _ _ _ _ _ _ _ _ _ _ _ _ _ _ _ _ _ _ _ _ _ _ _ _ _ _ _ _ _ _ _ _ (HB1E.out.blk HQ1.out) HX1.out HX2.out (fun W hW => HW.out W (HB1E.out.on hW)) _ ?_
                  intro V w16 hb16 hv1
                  have HB16 := Lib.hid (HB1E.out.on hb16)
                  simp only [regPt, List.drop_succ_cons, List.drop_zero, acVPt, hv1]
                  clear hb16 hv1
                  go_wp2_with fail
                  go_ret
                  exact ⟨rfl, HB1.out.on HB16.out⟩
end Go.Proofs.YtblgligagngpfaaDoor.Mu

