/-
  LexTail: what it compares, operation by operation.
-/
import Derived.Test.YteockaolmobmeaaGreatDoorLxSam
namespace Go.Proofs.YteockaolmobmeaaGreatDoor.Mu
open Go Go.RowKit Go.Shelf

attribute [local go_sem] Oper.semAt_some
set_option linter.unusedVariables false

def regTa : List Oper := [
  { dst := some 38, op := Op.fieldAddr 32 (Operand.tmp 7) 0, type := 0, pos := "outright.go:85", after := #[], guard := none },
  { dst := some 39, op := Op.load 3 (Operand.tmp 38), type := 3, pos := "outright.go:85", after := #[{ on := 0, ground := Ground.data }], guard := none },
  { dst := some 40, op := Op.binOp BinOp.lss 3 (Operand.tmp 39) (Operand.const (Value.int IntKind.i64 0)) 3, type := 4, pos := "outright.go:85", after := #[{ on := 1, ground := Ground.data }], guard := none },
  { dst := some 41, op := Op.move (Operand.tmp 40), type := 4, pos := "outright.go:85", after := #[{ on := 2, ground := Ground.data }], guard := none },
  { dst := some 42, op := Op.fieldAddr 32 (Operand.tmp 7) 0, type := 0, pos := "outright.go:85", after := #[{ on := 3, ground := Ground.guard }], guard := some (3, false) },
  { dst := some 43, op := Op.load 3 (Operand.tmp 42), type := 3, pos := "outright.go:85", after := #[{ on := 4, ground := Ground.data }, { on := 3, ground := Ground.guard }], guard := some (3, false) },
  { dst := some 44, op := Op.move (Operand.tmp 0), type := 9, pos := "outright.go:85", after := #[{ on := 3, ground := Ground.guard }], guard := some (3, false) },
  { dst := some 45, op := Op.call { callee := Callee.builtin Builtin.len, args := #[Operand.tmp 44], argTypes := #[9] }, type := 3, pos := "outright.go:85", after := #[{ on := 6, ground := Ground.data }, { on := 3, ground := Ground.guard }], guard := some (3, false) },
  { dst := some 46, op := Op.binOp BinOp.geq 3 (Operand.tmp 43) (Operand.tmp 45) 3, type := 4, pos := "outright.go:85", after := #[{ on := 5, ground := Ground.data }, { on := 7, ground := Ground.data }, { on := 3, ground := Ground.guard }], guard := some (3, false) },
  { dst := some 47, op := Op.pick (Operand.tmp 41) (Operand.const (Value.bool true)) (Operand.tmp 46), type := 4, pos := "outright.go:85", after := #[{ on := 3, ground := Ground.data }, { on := 8, ground := Ground.data }], guard := none },
  { dst := some 48, op := Op.move (Operand.tmp 47), type := 4, pos := "outright.go:85", after := #[{ on := 9, ground := Ground.data }, { on := 3, ground := Ground.chain }], guard := none },
  { dst := some 49, op := Op.move (Operand.tmp 1), type := 3, pos := "outright.go:85", after := #[{ on := 10, ground := Ground.guard }], guard := some (10, false) },
  { dst := some 50, op := Op.binOp BinOp.gtr 3 (Operand.tmp 49) (Operand.const (Value.int IntKind.i64 0)) 3, type := 4, pos := "outright.go:85", after := #[{ on := 11, ground := Ground.data }, { on := 10, ground := Ground.guard }], guard := some (10, false) },
  { dst := some 51, op := Op.move (Operand.tmp 50), type := 4, pos := "outright.go:85", after := #[{ on := 12, ground := Ground.data }, { on := 10, ground := Ground.chain }, { on := 10, ground := Ground.guard }], guard := some (10, false) },
  { dst := some 52, op := Op.fieldAddr 32 (Operand.tmp 7) 0, type := 0, pos := "outright.go:85", after := #[{ on := 13, ground := Ground.guard }], guard := some (13, true) },
  { dst := some 53, op := Op.load 3 (Operand.tmp 52), type := 3, pos := "outright.go:85", after := #[{ on := 14, ground := Ground.data }, { on := 13, ground := Ground.guard }], guard := some (13, true) },
  { dst := some 54, op := Op.move (Operand.tmp 5), type := 26, pos := "outright.go:85", after := #[{ on := 13, ground := Ground.guard }], guard := some (13, true) },
  { dst := some 55, op := Op.move (Operand.tmp 1), type := 3, pos := "outright.go:85", after := #[{ on := 13, ground := Ground.guard }], guard := some (13, true) },
  { dst := some 56, op := Op.binOp BinOp.sub 3 (Operand.tmp 55) (Operand.const (Value.int IntKind.i64 1)) 3, type := 3, pos := "outright.go:85", after := #[{ on := 17, ground := Ground.data }, { on := 13, ground := Ground.guard }], guard := some (13, true) },
  { dst := some 57, op := Op.indexAddr 26 (Operand.tmp 54) (Operand.tmp 56), type := 0, pos := "outright.go:85", after := #[{ on := 16, ground := Ground.data }, { on := 18, ground := Ground.data }, { on := 13, ground := Ground.guard }], guard := some (13, true) },
  { dst := some 58, op := Op.fieldAddr 44 (Operand.tmp 57) 3, type := 0, pos := "outright.go:85", after := #[{ on := 19, ground := Ground.data }, { on := 13, ground := Ground.guard }], guard := some (13, true) },
  { dst := some 59, op := Op.fieldAddr 32 (Operand.tmp 58) 0, type := 0, pos := "outright.go:85", after := #[{ on := 20, ground := Ground.data }, { on := 13, ground := Ground.guard }], guard := some (13, true) },
  { dst := some 60, op := Op.load 3 (Operand.tmp 59), type := 3, pos := "outright.go:85", after := #[{ on := 21, ground := Ground.data }, { on := 13, ground := Ground.guard }], guard := some (13, true) },
  { dst := some 61, op := Op.binOp BinOp.leq 3 (Operand.tmp 53) (Operand.tmp 60) 3, type := 4, pos := "outright.go:85", after := #[{ on := 15, ground := Ground.data }, { on := 22, ground := Ground.data }, { on := 13, ground := Ground.guard }], guard := some (13, true) },
  { dst := some 62, op := Op.pick (Operand.tmp 51) (Operand.tmp 61) (Operand.const (Value.bool false)), type := 4, pos := "outright.go:85", after := #[{ on := 13, ground := Ground.data }, { on := 23, ground := Ground.data }, { on := 10, ground := Ground.guard }], guard := some (10, false) },
  { dst := some 63, op := Op.pick (Operand.tmp 48) (Operand.const (Value.bool true)) (Operand.tmp 62), type := 4, pos := "outright.go:85", after := #[{ on := 10, ground := Ground.data }, { on := 24, ground := Ground.data }], guard := none }]
def specTa (g7 b1 o1 n1 c1 k k1 : Nat) (s : ByteArray) (pa za : Int) (i : Nat) (v : Value) (w : World) : Prop :=
  match i with
  | 0 => v = .pointer (some ⟨g7, 0, none⟩)
  | 1 => v = .int .i64 pa
  | 2 => v = .bool false
  | 3 => v = .bool false
  | 4 => v = .pointer (some ⟨g7, 0, none⟩)
  | 5 => v = .int .i64 pa
  | 6 => v = .string s
  | 7 => v = .int .i64 (s.size : Int)
  | 8 => v = .bool false
  | 9 => v = .bool false
  | 10 => v = .bool false
  | 11 => v = .int .i64 (k : Int)
  | 12 => v = .bool false
  | 13 => v = .bool false
  | 14 => v = undef
  | 15 => v = undef
  | 16 => v = undef
  | 17 => v = undef
  | 18 => v = undef
  | 19 => v = undef
  | 20 => v = undef
  | 21 => v = undef
  | 22 => v = undef
  | 23 => v = undef
  | 24 => v = .bool false
  | _ => True
theorem specTa_mono {g7 b1 o1 n1 c1 k k1 : Nat} {s : ByteArray} {pa za : Int} (i : Nat) (v : Value) (w w' : World) (hi : i < 25) (h : specTa g7 b1 o1 n1 c1 k k1 s pa za i v w) (hb : Bel w w') : specTa g7 b1 o1 n1 c1 k k1 s pa za i v w' := by
  match i, hi, h with
  | 0, _, h => exact h
  | 1, _, h => exact h
  | 2, _, h => exact h
  | 3, _, h => exact h
  | 4, _, h => exact h
  | 5, _, h => exact h
  | 6, _, h => exact h
  | 7, _, h => exact h
  | 8, _, h => exact h
  | 9, _, h => exact h
  | 10, _, h => exact h
  | 11, _, h => exact h
  | 12, _, h => exact h
  | 13, _, h => exact h
  | 14, _, h => exact h
  | 15, _, h => exact h
  | 16, _, h => exact h
  | 17, _, h => exact h
  | 18, _, h => exact h
  | 19, _, h => exact h
  | 20, _, h => exact h
  | 21, _, h => exact h
  | 22, _, h => exact h
  | 23, _, h => exact h
  | 24, _, h => exact h
  | q + 25, hi, _ => exact absurd hi (by omega)
def acOTa (g7 b1 o1 n1 c1 k k1 : Nat) (s : ByteArray) (pa za : Int) (s2 s3 s4 s6 s8 s9 s10 s11 s12 s13 s14 s15 s16 s17 s18 s19 s20 s21 s22 s23 s24 s25 s26 s27 s28 s29 s30 s31 s32 s33 s34 s35 s36 s37 s38 s39 s40 s41 s42 s43 s44 s45 s46 s47 s48 s49 s50 s51 s52 s53 s54 s55 s56 s57 s58 s59 s60 s61 s62 s63 s64 s65 s66 s67 s68 s69 s70 s71 s72 s73 s74 s75 s76 s77 s78 s79 s80 s81 s82 s83 s84 s85 s86 s87 s88 s89 s90 s91 s92 s93 s94 s95 s96 s97 s98 s99 s100 s101 s102 s103 s104 s105 s106 s107 s108 s109 s110 s111 s112 s113 s114 s115 s116 s117 s118 s119 s120 s121 s122 s123 s124 s125 s126 s127 s128 s129 s130 s131 s132 s133 s134 s135 s136 s137 s138 s139 s140 s141 s142 s143 s144 s145 s146 : Value) (df : List Deferred) : Act := { tmps := #[.string s, .int .i64 (k : Int), s2, s3, s4, .slice (some ⟨b1, o1, none⟩) n1 c1, s6, .pointer (some ⟨g7, 0, none⟩), s8, s9, s10, s11, s12, s13, s14, s15, s16, s17, s18, s19, s20, s21, s22, s23, s24, s25, s26, s27, s28, s29, s30, s31, s32, s33, s34, s35, s36, s37, s38, s39, s40, s41, s42, s43, s44, s45, s46, s47, s48, s49, s50, s51, s52, s53, s54, s55, s56, s57, s58, s59, s60, s61, s62, s63, s64, s65, s66, s67, s68, s69, s70, s71, s72, s73, s74, s75, s76, s77, s78, s79, s80, s81, s82, s83, s84, s85, s86, s87, s88, s89, s90, s91, s92, s93, s94, s95, s96, s97, s98, s99, s100, s101, s102, s103, s104, s105, s106, s107, s108, s109, s110, s111, s112, s113, s114, s115, s116, s117, s118, s119, s120, s121, s122, s123, s124, s125, s126, s127, s128, s129, s130, s131, s132, s133, s134, s135, s136, s137, s138, s139, s140, s141, s142, s143, s144, s145, s146], defers := df }
def acVTa (g7 b1 o1 n1 c1 k k1 : Nat) (s : ByteArray) (pa za : Int) (s2 s3 s4 s6 s8 s9 s10 s11 s12 s13 s14 s15 s16 s17 s18 s19 s20 s21 s22 s23 s24 s25 s26 s27 s28 s29 s30 s31 s32 s33 s34 s35 s36 s37 s38 s39 s40 s41 s42 s43 s44 s45 s46 s47 s48 s49 s50 s51 s52 s53 s54 s55 s56 s57 s58 s59 s60 s61 s62 s63 s64 s65 s66 s67 s68 s69 s70 s71 s72 s73 s74 s75 s76 s77 s78 s79 s80 s81 s82 s83 s84 s85 s86 s87 s88 s89 s90 s91 s92 s93 s94 s95 s96 s97 s98 s99 s100 s101 s102 s103 s104 s105 s106 s107 s108 s109 s110 s111 s112 s113 s114 s115 s116 s117 s118 s119 s120 s121 s122 s123 s124 s125 s126 s127 s128 s129 s130 s131 s132 s133 s134 s135 s136 s137 s138 s139 s140 s141 s142 s143 s144 s145 s146 : Value) (df : List Deferred) (V : Nat → Value) : Act := { tmps := #[.string s, .int .i64 (k : Int), s2, s3, s4, .slice (some ⟨b1, o1, none⟩) n1 c1, s6, .pointer (some ⟨g7, 0, none⟩), s8, s9, s10, s11, s12, s13, s14, s15, s16, s17, s18, s19, s20, s21, s22, s23, s24, s25, s26, s27, s28, s29, s30, s31, s32, s33, s34, s35, s36, s37, V 0, V 1, V 2, V 3, V 4, V 5, V 6, V 7, V 8, V 9, V 10, V 11, V 12, V 13, V 14, V 15, V 16, V 17, V 18, V 19, V 20, V 21, V 22, V 23, V 24, s63, s64, s65, s66, s67, s68, s69, s70, s71, s72, s73, s74, s75, s76, s77, s78, s79, s80, s81, s82, s83, s84, s85, s86, s87, s88, s89, s90, s91, s92, s93, s94, s95, s96, s97, s98, s99, s100, s101, s102, s103, s104, s105, s106, s107, s108, s109, s110, s111, s112, s113, s114, s115, s116, s117, s118, s119, s120, s121, s122, s123, s124, s125, s126, s127, s128, s129, s130, s131, s132, s133, s134, s135, s136, s137, s138, s139, s140, s141, s142, s143, s144, s145, s146], defers := df }
theorem regTa_tail : tailB .any regTa.toArray 25 = true := by kernel_rfl
theorem regTa_fwd : fwdB regTa.toArray 25 = true := by kernel_rfl
theorem regTa_slots : slotsB regTa.toArray 147 = true := by kernel_rfl
theorem regTa_seq : Region.seqB .any regTa.toArray (regTa.length - 25) 25 (Array.replicate 25 true ++ Array.replicate (regTa.length - 25) false) = true := by kernel_rfl
set_option maxRecDepth 100000 in
set_option maxHeartbeats 8000000 in
theorem regTa_any {id : Nat} (g7 b1 o1 n1 c1 k k1 : Nat) (s : ByteArray) (pa za : Int) (s2 s3 s4 s6 s8 s9 s10 s11 s12 s13 s14 s15 s16 s17 s18 s19 s20 s21 s22 s23 s24 s25 s26 s27 s28 s29 s30 s31 s32 s33 s34 s35 s36 s37 s38 s39 s40 s41 s42 s43 s44 s45 s46 s47 s48 s49 s50 s51 s52 s53 s54 s55 s56 s57 s58 s59 s60 s61 s62 s63 s64 s65 s66 s67 s68 s69 s70 s71 s72 s73 s74 s75 s76 s77 s78 s79 s80 s81 s82 s83 s84 s85 s86 s87 s88 s89 s90 s91 s92 s93 s94 s95 s96 s97 s98 s99 s100 s101 s102 s103 s104 s105 s106 s107 s108 s109 s110 s111 s112 s113 s114 s115 s116 s117 s118 s119 s120 s121 s122 s123 s124 s125 s126 s127 s128 s129 s130 s131 s132 s133 s134 s135 s136 s137 s138 s139 s140 s141 s142 s143 s144 s145 s146 : Value) (df : List Deferred) (w : World) (h7 : g7 < w.drew.heap.size) (a0 : w.drew.cell? ⟨g7, 0, none⟩ = some (.int .i64 pa)) (z0 : ¬ pa < 0) (z1 : ¬ (s.size : Int) ≤ pa) (z2 : k = 0) (Q : Exit → Act → World → Prop)
    (hend : ∀ (V : Nat → Value) (w' : World), Bel w.drew w' → ((V 10) = .bool false) → ((V 24) = .bool false) → wpList Tryz.prog regTa.toArray Q (regTa.drop 25) (acVTa g7 b1 o1 n1 c1 k k1 s pa za s2 s3 s4 s6 s8 s9 s10 s11 s12 s13 s14 s15 s16 s17 s18 s19 s20 s21 s22 s23 s24 s25 s26 s27 s28 s29 s30 s31 s32 s33 s34 s35 s36 s37 s38 s39 s40 s41 s42 s43 s44 s45 s46 s47 s48 s49 s50 s51 s52 s53 s54 s55 s56 s57 s58 s59 s60 s61 s62 s63 s64 s65 s66 s67 s68 s69 s70 s71 s72 s73 s74 s75 s76 s77 s78 s79 s80 s81 s82 s83 s84 s85 s86 s87 s88 s89 s90 s91 s92 s93 s94 s95 s96 s97 s98 s99 s100 s101 s102 s103 s104 s105 s106 s107 s108 s109 s110 s111 s112 s113 s114 s115 s116 s117 s118 s119 s120 s121 s122 s123 s124 s125 s126 s127 s128 s129 s130 s131 s132 s133 s134 s135 s136 s137 s138 s139 s140 s141 s142 s143 s144 s145 s146 df V) w') :
    (Code.region id regTa.toArray true).wp Tryz.prog Q (acOTa g7 b1 o1 n1 c1 k k1 s pa za s2 s3 s4 s6 s8 s9 s10 s11 s12 s13 s14 s15 s16 s17 s18 s19 s20 s21 s22 s23 s24 s25 s26 s27 s28 s29 s30 s31 s32 s33 s34 s35 s36 s37 s38 s39 s40 s41 s42 s43 s44 s45 s46 s47 s48 s49 s50 s51 s52 s53 s54 s55 s56 s57 s58 s59 s60 s61 s62 s63 s64 s65 s66 s67 s68 s69 s70 s71 s72 s73 s74 s75 s76 s77 s78 s79 s80 s81 s82 s83 s84 s85 s86 s87 s88 s89 s90 s91 s92 s93 s94 s95 s96 s97 s98 s99 s100 s101 s102 s103 s104 s105 s106 s107 s108 s109 s110 s111 s112 s113 s114 s115 s116 s117 s118 s119 s120 s121 s122 s123 s124 s125 s126 s127 s128 s129 s130 s131 s132 s133 s134 s135 s136 s137 s138 s139 s140 s141 s142 s143 s144 s145 s146 df) w := by
  refine wp_region_invG (l := regTa) 25 (acOTa g7 b1 o1 n1 c1 k k1 s pa za s2 s3 s4 s6 s8 s9 s10 s11 s12 s13 s14 s15 s16 s17 s18 s19 s20 s21 s22 s23 s24 s25 s26 s27 s28 s29 s30 s31 s32 s33 s34 s35 s36 s37 s38 s39 s40 s41 s42 s43 s44 s45 s46 s47 s48 s49 s50 s51 s52 s53 s54 s55 s56 s57 s58 s59 s60 s61 s62 s63 s64 s65 s66 s67 s68 s69 s70 s71 s72 s73 s74 s75 s76 s77 s78 s79 s80 s81 s82 s83 s84 s85 s86 s87 s88 s89 s90 s91 s92 s93 s94 s95 s96 s97 s98 s99 s100 s101 s102 s103 s104 s105 s106 s107 s108 s109 s110 s111 s112 s113 s114 s115 s116 s117 s118 s119 s120 s121 s122 s123 s124 s125 s126 s127 s128 s129 s130 s131 s132 s133 s134 s135 s136 s137 s138 s139 s140 s141 s142 s143 s144 s145 s146 df) w (specTa g7 b1 o1 n1 c1 k k1 s pa za) (by kernel_rfl) regTa_tail regTa_fwd regTa_slots regTa_seq (fun i v w w' hi h hb => specTa_mono i v w w' hi h hb) ?_ ?_
  · intro i' o hi' ho a w1 V hbel hdep hpar K hK
    have p0 : a.eval (.tmp 0) = .string s := hpar 0 (by show 0 < 147; decide) (by kernel_rfl)
    have p0' : a.tmps[0]?.getD undef = .string s := by have h := p0; simp only [Act.eval, Array.getD_eq_getD_getElem?] at h; exact h
    have p1 : a.eval (.tmp 1) = .int .i64 (k : Int) := hpar 1 (by show 1 < 147; decide) (by kernel_rfl)
    have p1' : a.tmps[1]?.getD undef = .int .i64 (k : Int) := by have h := p1; simp only [Act.eval, Array.getD_eq_getD_getElem?] at h; exact h
    have p5 : a.eval (.tmp 5) = .slice (some ⟨b1, o1, none⟩) n1 c1 := hpar 5 (by show 5 < 147; decide) (by kernel_rfl)
    have p5' : a.tmps[5]?.getD undef = .slice (some ⟨b1, o1, none⟩) n1 c1 := by have h := p5; simp only [Act.eval, Array.getD_eq_getD_getElem?] at h; exact h
    have p7 : a.eval (.tmp 7) = .pointer (some ⟨g7, 0, none⟩) := hpar 7 (by show 7 < 147; decide) (by kernel_rfl)
    have p7' : a.tmps[7]?.getD undef = .pointer (some ⟨g7, 0, none⟩) := by have h := p7; simp only [Act.eval, Array.getD_eq_getD_getElem?] at h; exact h
    have s0 := (hbel.cell (p := ⟨g7, 0, none⟩) h7).trans a0
    match i', hi', ho, hdep, hK with
    | 0, _, ho, hdep, hK =>
      simp only [regTa, List.getElem?_toArray, List.getElem?_cons_zero, Option.some.injEq] at ho
      subst ho
      refine ⟨fun _ => ?_, fun hw => (yw_n rfl hw).elim⟩
      exact wp_val (v := .pointer (some ⟨g7, 0, none⟩)) (w' := w1) (by simp [execOp, go_sem, p7']) (hK _ _ (Bel.refl _) rfl)
    | 1, _, ho, hdep, hK =>
      simp only [regTa, List.getElem?_toArray, List.getElem?_cons_zero, List.getElem?_cons_succ, Option.some.injEq] at ho
      subst ho
      refine ⟨fun _ => ?_, fun hw => (yw_n rfl hw).elim⟩
      obtain ⟨f0, d0⟩ := hdep ⟨0, .data⟩ (by simp) rfl
      have e0 : a.eval (.tmp 38) = .pointer (some ⟨g7, 0, none⟩) := (d0 38 rfl).trans f0
      have e0' : a.tmps[38]?.getD undef = .pointer (some ⟨g7, 0, none⟩) := by have h := e0; simp only [Act.eval, Array.getD_eq_getD_getElem?] at h; exact h
      exact wp_val (v := .int .i64 pa) (w' := w1) (by simp [execOp, go_sem, e0', s0]) (hK _ _ (Bel.refl _) rfl)
    | 2, _, ho, hdep, hK =>
      simp only [regTa, List.getElem?_toArray, List.getElem?_cons_zero, List.getElem?_cons_succ, Option.some.injEq] at ho
      subst ho
      refine ⟨fun _ => ?_, fun hw => (yw_n rfl hw).elim⟩
      obtain ⟨f1, d1⟩ := hdep ⟨1, .data⟩ (by simp) rfl
      have e1 : a.eval (.tmp 39) = .int .i64 pa := (d1 39 rfl).trans f1
      have e1' : a.tmps[39]?.getD undef = .int .i64 pa := by have h := e1; simp only [Act.eval, Array.getD_eq_getD_getElem?] at h; exact h
      exact wp_val (v := .bool false) (w' := w1) (by simp [execOp, go_sem, e1', z0]) (hK _ _ (Bel.refl _) rfl)
    | 3, _, ho, hdep, hK =>
      simp only [regTa, List.getElem?_toArray, List.getElem?_cons_zero, List.getElem?_cons_succ, Option.some.injEq] at ho
      subst ho
      refine ⟨fun _ => ?_, fun hw => (yw_n rfl hw).elim⟩
      obtain ⟨f2, d2⟩ := hdep ⟨2, .data⟩ (by simp) rfl
      have e2 : a.eval (.tmp 40) = .bool false := (d2 40 rfl).trans f2
      have e2' : a.tmps[40]?.getD undef = .bool false := by have h := e2; simp only [Act.eval, Array.getD_eq_getD_getElem?] at h; exact h
      exact wp_val (v := .bool false) (w' := w1) (by simp [execOp, go_sem, e2']) (hK _ _ (Bel.refl _) rfl)
    | 4, _, ho, hdep, hK =>
      simp only [regTa, List.getElem?_toArray, List.getElem?_cons_zero, List.getElem?_cons_succ, Option.some.injEq] at ho
      subst ho
      obtain ⟨fg, dg⟩ := hdep ⟨3, .guard⟩ (by simp) rfl
      have eg : a.tmps.getD 41 undef = .bool false := (dg 41 rfl).trans fg
      refine ⟨fun _ => ?_, fun hw => (yw_f (d := 41) rfl rfl eg hw).elim⟩
      exact wp_val (v := .pointer (some ⟨g7, 0, none⟩)) (w' := w1) (by simp [execOp, go_sem, p7']) (hK _ _ (Bel.refl _) rfl)
    | 5, _, ho, hdep, hK =>
      simp only [regTa, List.getElem?_toArray, List.getElem?_cons_zero, List.getElem?_cons_succ, Option.some.injEq] at ho
      subst ho
      obtain ⟨fg, dg⟩ := hdep ⟨3, .guard⟩ (by simp) rfl
      have eg : a.tmps.getD 41 undef = .bool false := (dg 41 rfl).trans fg
      refine ⟨fun _ => ?_, fun hw => (yw_f (d := 41) rfl rfl eg hw).elim⟩
      obtain ⟨f4, d4⟩ := hdep ⟨4, .data⟩ (by simp) rfl
      have e4 : a.eval (.tmp 42) = .pointer (some ⟨g7, 0, none⟩) := (d4 42 rfl).trans f4
      have e4' : a.tmps[42]?.getD undef = .pointer (some ⟨g7, 0, none⟩) := by have h := e4; simp only [Act.eval, Array.getD_eq_getD_getElem?] at h; exact h
      exact wp_val (v := .int .i64 pa) (w' := w1) (by simp [execOp, go_sem, e4', s0]) (hK _ _ (Bel.refl _) rfl)
    | 6, _, ho, hdep, hK =>
      simp only [regTa, List.getElem?_toArray, List.getElem?_cons_zero, List.getElem?_cons_succ, Option.some.injEq] at ho
      subst ho
      obtain ⟨fg, dg⟩ := hdep ⟨3, .guard⟩ (by simp) rfl
      have eg : a.tmps.getD 41 undef = .bool false := (dg 41 rfl).trans fg
      refine ⟨fun _ => ?_, fun hw => (yw_f (d := 41) rfl rfl eg hw).elim⟩
      exact wp_val (v := .string s) (w' := w1) (by simp [execOp, go_sem, p0']) (hK _ _ (Bel.refl _) rfl)
    | 7, _, ho, hdep, hK =>
      simp only [regTa, List.getElem?_toArray, List.getElem?_cons_zero, List.getElem?_cons_succ, Option.some.injEq] at ho
      subst ho
      obtain ⟨fg, dg⟩ := hdep ⟨3, .guard⟩ (by simp) rfl
      have eg : a.tmps.getD 41 undef = .bool false := (dg 41 rfl).trans fg
      refine ⟨fun _ => ?_, fun hw => (yw_f (d := 41) rfl rfl eg hw).elim⟩
      obtain ⟨f6, d6⟩ := hdep ⟨6, .data⟩ (by simp) rfl
      have e6 : a.eval (.tmp 44) = .string s := (d6 44 rfl).trans f6
      have e6' : a.tmps[44]?.getD undef = .string s := by have h := e6; simp only [Act.eval, Array.getD_eq_getD_getElem?] at h; exact h
      exact wp_val (v := .int .i64 (s.size : Int)) (w' := w1) (by simp [go_sem, e6']) (hK _ _ (Bel.refl _) rfl)
    | 8, _, ho, hdep, hK =>
      simp only [regTa, List.getElem?_toArray, List.getElem?_cons_zero, List.getElem?_cons_succ, Option.some.injEq] at ho
      subst ho
      obtain ⟨fg, dg⟩ := hdep ⟨3, .guard⟩ (by simp) rfl
      have eg : a.tmps.getD 41 undef = .bool false := (dg 41 rfl).trans fg
      refine ⟨fun _ => ?_, fun hw => (yw_f (d := 41) rfl rfl eg hw).elim⟩
      obtain ⟨f5, d5⟩ := hdep ⟨5, .data⟩ (by simp) rfl
      have e5 : a.eval (.tmp 43) = .int .i64 pa := (d5 43 rfl).trans f5
      have e5' : a.tmps[43]?.getD undef = .int .i64 pa := by have h := e5; simp only [Act.eval, Array.getD_eq_getD_getElem?] at h; exact h
      obtain ⟨f7, d7⟩ := hdep ⟨7, .data⟩ (by simp) rfl
      have e7 : a.eval (.tmp 45) = .int .i64 (s.size : Int) := (d7 45 rfl).trans f7
      have e7' : a.tmps[45]?.getD undef = .int .i64 (s.size : Int) := by have h := e7; simp only [Act.eval, Array.getD_eq_getD_getElem?] at h; exact h
      exact wp_val (v := .bool false) (w' := w1) (by simp [execOp, go_sem, e5', e7', z1]) (hK _ _ (Bel.refl _) rfl)
    | 9, _, ho, hdep, hK =>
      simp only [regTa, List.getElem?_toArray, List.getElem?_cons_zero, List.getElem?_cons_succ, Option.some.injEq] at ho
      subst ho
      refine ⟨fun _ => ?_, fun hw => (yw_n rfl hw).elim⟩
      obtain ⟨f3, d3⟩ := hdep ⟨3, .data⟩ (by simp) rfl
      have e3 : a.eval (.tmp 41) = .bool false := (d3 41 rfl).trans f3
      have e3' : a.tmps[41]?.getD undef = .bool false := by have h := e3; simp only [Act.eval, Array.getD_eq_getD_getElem?] at h; exact h
      obtain ⟨f8, d8⟩ := hdep ⟨8, .data⟩ (by simp) rfl
      have e8 : a.eval (.tmp 46) = .bool false := (d8 46 rfl).trans f8
      have e8' : a.tmps[46]?.getD undef = .bool false := by have h := e8; simp only [Act.eval, Array.getD_eq_getD_getElem?] at h; exact h
      exact wp_val (v := .bool false) (w' := w1) (by simp [execOp, go_sem, e3', e8']) (hK _ _ (Bel.refl _) rfl)
    | 10, _, ho, hdep, hK =>
      simp only [regTa, List.getElem?_toArray, List.getElem?_cons_zero, List.getElem?_cons_succ, Option.some.injEq] at ho
      subst ho
      refine ⟨fun _ => ?_, fun hw => (yw_n rfl hw).elim⟩
      obtain ⟨f9, d9⟩ := hdep ⟨9, .data⟩ (by simp) rfl
      have e9 : a.eval (.tmp 47) = .bool false := (d9 47 rfl).trans f9
      have e9' : a.tmps[47]?.getD undef = .bool false := by have h := e9; simp only [Act.eval, Array.getD_eq_getD_getElem?] at h; exact h
      exact wp_val (v := .bool false) (w' := w1) (by simp [execOp, go_sem, e9']) (hK _ _ (Bel.refl _) rfl)
    | 11, _, ho, hdep, hK =>
      simp only [regTa, List.getElem?_toArray, List.getElem?_cons_zero, List.getElem?_cons_succ, Option.some.injEq] at ho
      subst ho
      obtain ⟨fg, dg⟩ := hdep ⟨10, .guard⟩ (by simp) rfl
      have eg : a.tmps.getD 48 undef = .bool false := (dg 48 rfl).trans fg
      refine ⟨fun _ => ?_, fun hw => (yw_f (d := 48) rfl rfl eg hw).elim⟩
      exact wp_val (v := .int .i64 (k : Int)) (w' := w1) (by simp [execOp, go_sem, p1']) (hK _ _ (Bel.refl _) rfl)
    | 12, _, ho, hdep, hK =>
      simp only [regTa, List.getElem?_toArray, List.getElem?_cons_zero, List.getElem?_cons_succ, Option.some.injEq] at ho
      subst ho
      obtain ⟨fg, dg⟩ := hdep ⟨10, .guard⟩ (by simp) rfl
      have eg : a.tmps.getD 48 undef = .bool false := (dg 48 rfl).trans fg
      refine ⟨fun _ => ?_, fun hw => (yw_f (d := 48) rfl rfl eg hw).elim⟩
      obtain ⟨f11, d11⟩ := hdep ⟨11, .data⟩ (by simp) rfl
      have e11 : a.eval (.tmp 49) = .int .i64 (k : Int) := (d11 49 rfl).trans f11
      have e11' : a.tmps[49]?.getD undef = .int .i64 (k : Int) := by have h := e11; simp only [Act.eval, Array.getD_eq_getD_getElem?] at h; exact h
      exact wp_val (v := .bool false) (w' := w1) (by simp [execOp, go_sem, e11', z2]) (hK _ _ (Bel.refl _) rfl)
    | 13, _, ho, hdep, hK =>
      simp only [regTa, List.getElem?_toArray, List.getElem?_cons_zero, List.getElem?_cons_succ, Option.some.injEq] at ho
      subst ho
      obtain ⟨fg, dg⟩ := hdep ⟨10, .guard⟩ (by simp) rfl
      have eg : a.tmps.getD 48 undef = .bool false := (dg 48 rfl).trans fg
      refine ⟨fun _ => ?_, fun hw => (yw_f (d := 48) rfl rfl eg hw).elim⟩
      obtain ⟨f12, d12⟩ := hdep ⟨12, .data⟩ (by simp) rfl
      have e12 : a.eval (.tmp 50) = .bool false := (d12 50 rfl).trans f12
      have e12' : a.tmps[50]?.getD undef = .bool false := by have h := e12; simp only [Act.eval, Array.getD_eq_getD_getElem?] at h; exact h
      exact wp_val (v := .bool false) (w' := w1) (by simp [execOp, go_sem, e12']) (hK _ _ (Bel.refl _) rfl)
    | 14, _, ho, hdep, hK =>
      simp only [regTa, List.getElem?_toArray, List.getElem?_cons_zero, List.getElem?_cons_succ, Option.some.injEq] at ho
      subst ho
      obtain ⟨fg, dg⟩ := hdep ⟨13, .guard⟩ (by simp) rfl
      have eg : a.tmps.getD 51 undef = .bool false := (dg 51 rfl).trans fg
      exact ⟨fun hw => (nw_t (d := 51) rfl rfl eg hw).elim, fun _ => rfl⟩
    | 15, _, ho, hdep, hK =>
      simp only [regTa, List.getElem?_toArray, List.getElem?_cons_zero, List.getElem?_cons_succ, Option.some.injEq] at ho
      subst ho
      obtain ⟨fg, dg⟩ := hdep ⟨13, .guard⟩ (by simp) rfl
      have eg : a.tmps.getD 51 undef = .bool false := (dg 51 rfl).trans fg
      exact ⟨fun hw => (nw_t (d := 51) rfl rfl eg hw).elim, fun _ => rfl⟩
    | 16, _, ho, hdep, hK =>
      simp only [regTa, List.getElem?_toArray, List.getElem?_cons_zero, List.getElem?_cons_succ, Option.some.injEq] at ho
      subst ho
      obtain ⟨fg, dg⟩ := hdep ⟨13, .guard⟩ (by simp) rfl
      have eg : a.tmps.getD 51 undef = .bool false := (dg 51 rfl).trans fg
      exact ⟨fun hw => (nw_t (d := 51) rfl rfl eg hw).elim, fun _ => rfl⟩
    | 17, _, ho, hdep, hK =>
      simp only [regTa, List.getElem?_toArray, List.getElem?_cons_zero, List.getElem?_cons_succ, Option.some.injEq] at ho
      subst ho
      obtain ⟨fg, dg⟩ := hdep ⟨13, .guard⟩ (by simp) rfl
      have eg : a.tmps.getD 51 undef = .bool false := (dg 51 rfl).trans fg
      exact ⟨fun hw => (nw_t (d := 51) rfl rfl eg hw).elim, fun _ => rfl⟩
    | 18, _, ho, hdep, hK =>
      simp only [regTa, List.getElem?_toArray, List.getElem?_cons_zero, List.getElem?_cons_succ, Option.some.injEq] at ho
      subst ho
      obtain ⟨fg, dg⟩ := hdep ⟨13, .guard⟩ (by simp) rfl
      have eg : a.tmps.getD 51 undef = .bool false := (dg 51 rfl).trans fg
      exact ⟨fun hw => (nw_t (d := 51) rfl rfl eg hw).elim, fun _ => rfl⟩
    | 19, _, ho, hdep, hK =>
      simp only [regTa, List.getElem?_toArray, List.getElem?_cons_zero, List.getElem?_cons_succ, Option.some.injEq] at ho
      subst ho
      obtain ⟨fg, dg⟩ := hdep ⟨13, .guard⟩ (by simp) rfl
      have eg : a.tmps.getD 51 undef = .bool false := (dg 51 rfl).trans fg
      exact ⟨fun hw => (nw_t (d := 51) rfl rfl eg hw).elim, fun _ => rfl⟩
    | 20, _, ho, hdep, hK =>
      simp only [regTa, List.getElem?_toArray, List.getElem?_cons_zero, List.getElem?_cons_succ, Option.some.injEq] at ho
      subst ho
      obtain ⟨fg, dg⟩ := hdep ⟨13, .guard⟩ (by simp) rfl
      have eg : a.tmps.getD 51 undef = .bool false := (dg 51 rfl).trans fg
      exact ⟨fun hw => (nw_t (d := 51) rfl rfl eg hw).elim, fun _ => rfl⟩
    | 21, _, ho, hdep, hK =>
      simp only [regTa, List.getElem?_toArray, List.getElem?_cons_zero, List.getElem?_cons_succ, Option.some.injEq] at ho
      subst ho
      obtain ⟨fg, dg⟩ := hdep ⟨13, .guard⟩ (by simp) rfl
      have eg : a.tmps.getD 51 undef = .bool false := (dg 51 rfl).trans fg
      exact ⟨fun hw => (nw_t (d := 51) rfl rfl eg hw).elim, fun _ => rfl⟩
    | 22, _, ho, hdep, hK =>
      simp only [regTa, List.getElem?_toArray, List.getElem?_cons_zero, List.getElem?_cons_succ, Option.some.injEq] at ho
      subst ho
      obtain ⟨fg, dg⟩ := hdep ⟨13, .guard⟩ (by simp) rfl
      have eg : a.tmps.getD 51 undef = .bool false := (dg 51 rfl).trans fg
      exact ⟨fun hw => (nw_t (d := 51) rfl rfl eg hw).elim, fun _ => rfl⟩
    | 23, _, ho, hdep, hK =>
      simp only [regTa, List.getElem?_toArray, List.getElem?_cons_zero, List.getElem?_cons_succ, Option.some.injEq] at ho
      subst ho
      obtain ⟨fg, dg⟩ := hdep ⟨13, .guard⟩ (by simp) rfl
      have eg : a.tmps.getD 51 undef = .bool false := (dg 51 rfl).trans fg
      exact ⟨fun hw => (nw_t (d := 51) rfl rfl eg hw).elim, fun _ => rfl⟩
    | 24, _, ho, hdep, hK =>
      simp only [regTa, List.getElem?_toArray, List.getElem?_cons_zero, List.getElem?_cons_succ, Option.some.injEq] at ho
      subst ho
      obtain ⟨fg, dg⟩ := hdep ⟨10, .guard⟩ (by simp) rfl
      have eg : a.tmps.getD 48 undef = .bool false := (dg 48 rfl).trans fg
      refine ⟨fun _ => ?_, fun hw => (yw_f (d := 48) rfl rfl eg hw).elim⟩
      obtain ⟨f13, d13⟩ := hdep ⟨13, .data⟩ (by simp) rfl
      have e13 : a.eval (.tmp 51) = .bool false := (d13 51 rfl).trans f13
      have e13' : a.tmps[51]?.getD undef = .bool false := by have h := e13; simp only [Act.eval, Array.getD_eq_getD_getElem?] at h; exact h
      exact wp_val (v := .bool false) (w' := w1) (by simp [execOp, go_sem, e13']) (hK _ _ (Bel.refl _) rfl)
    | q + 25, hi, _, _, _ => exact absurd hi (by omega)
  · intro V w' hb hF
    have e : finA regTa.toArray 25 V (acOTa g7 b1 o1 n1 c1 k k1 s pa za s2 s3 s4 s6 s8 s9 s10 s11 s12 s13 s14 s15 s16 s17 s18 s19 s20 s21 s22 s23 s24 s25 s26 s27 s28 s29 s30 s31 s32 s33 s34 s35 s36 s37 s38 s39 s40 s41 s42 s43 s44 s45 s46 s47 s48 s49 s50 s51 s52 s53 s54 s55 s56 s57 s58 s59 s60 s61 s62 s63 s64 s65 s66 s67 s68 s69 s70 s71 s72 s73 s74 s75 s76 s77 s78 s79 s80 s81 s82 s83 s84 s85 s86 s87 s88 s89 s90 s91 s92 s93 s94 s95 s96 s97 s98 s99 s100 s101 s102 s103 s104 s105 s106 s107 s108 s109 s110 s111 s112 s113 s114 s115 s116 s117 s118 s119 s120 s121 s122 s123 s124 s125 s126 s127 s128 s129 s130 s131 s132 s133 s134 s135 s136 s137 s138 s139 s140 s141 s142 s143 s144 s145 s146 df) = acVTa g7 b1 o1 n1 c1 k k1 s pa za s2 s3 s4 s6 s8 s9 s10 s11 s12 s13 s14 s15 s16 s17 s18 s19 s20 s21 s22 s23 s24 s25 s26 s27 s28 s29 s30 s31 s32 s33 s34 s35 s36 s37 s38 s39 s40 s41 s42 s43 s44 s45 s46 s47 s48 s49 s50 s51 s52 s53 s54 s55 s56 s57 s58 s59 s60 s61 s62 s63 s64 s65 s66 s67 s68 s69 s70 s71 s72 s73 s74 s75 s76 s77 s78 s79 s80 s81 s82 s83 s84 s85 s86 s87 s88 s89 s90 s91 s92 s93 s94 s95 s96 s97 s98 s99 s100 s101 s102 s103 s104 s105 s106 s107 s108 s109 s110 s111 s112 s113 s114 s115 s116 s117 s118 s119 s120 s121 s122 s123 s124 s125 s126 s127 s128 s129 s130 s131 s132 s133 s134 s135 s136 s137 s138 s139 s140 s141 s142 s143 s144 s145 s146 df V := by kernel_rfl
    rw [e]
    exact hend V w' hb (hF 10 (by omega)) (hF 24 (by omega))
def regTb : List Oper := [
  { dst := some 38, op := Op.fieldAddr 32 (Operand.tmp 7) 0, type := 0, pos := "outright.go:85", after := #[], guard := none },
  { dst := some 39, op := Op.load 3 (Operand.tmp 38), type := 3, pos := "outright.go:85", after := #[{ on := 0, ground := Ground.data }], guard := none },
  { dst := some 40, op := Op.binOp BinOp.lss 3 (Operand.tmp 39) (Operand.const (Value.int IntKind.i64 0)) 3, type := 4, pos := "outright.go:85", after := #[{ on := 1, ground := Ground.data }], guard := none },
  { dst := some 41, op := Op.move (Operand.tmp 40), type := 4, pos := "outright.go:85", after := #[{ on := 2, ground := Ground.data }], guard := none },
  { dst := some 42, op := Op.fieldAddr 32 (Operand.tmp 7) 0, type := 0, pos := "outright.go:85", after := #[{ on := 3, ground := Ground.guard }], guard := some (3, false) },
  { dst := some 43, op := Op.load 3 (Operand.tmp 42), type := 3, pos := "outright.go:85", after := #[{ on := 4, ground := Ground.data }, { on := 3, ground := Ground.guard }], guard := some (3, false) },
  { dst := some 44, op := Op.move (Operand.tmp 0), type := 9, pos := "outright.go:85", after := #[{ on := 3, ground := Ground.guard }], guard := some (3, false) },
  { dst := some 45, op := Op.call { callee := Callee.builtin Builtin.len, args := #[Operand.tmp 44], argTypes := #[9] }, type := 3, pos := "outright.go:85", after := #[{ on := 6, ground := Ground.data }, { on := 3, ground := Ground.guard }], guard := some (3, false) },
  { dst := some 46, op := Op.binOp BinOp.geq 3 (Operand.tmp 43) (Operand.tmp 45) 3, type := 4, pos := "outright.go:85", after := #[{ on := 5, ground := Ground.data }, { on := 7, ground := Ground.data }, { on := 3, ground := Ground.guard }], guard := some (3, false) },
  { dst := some 47, op := Op.pick (Operand.tmp 41) (Operand.const (Value.bool true)) (Operand.tmp 46), type := 4, pos := "outright.go:85", after := #[{ on := 3, ground := Ground.data }, { on := 8, ground := Ground.data }], guard := none },
  { dst := some 48, op := Op.move (Operand.tmp 47), type := 4, pos := "outright.go:85", after := #[{ on := 9, ground := Ground.data }, { on := 3, ground := Ground.chain }], guard := none },
  { dst := some 49, op := Op.move (Operand.tmp 1), type := 3, pos := "outright.go:85", after := #[{ on := 10, ground := Ground.guard }], guard := some (10, false) },
  { dst := some 50, op := Op.binOp BinOp.gtr 3 (Operand.tmp 49) (Operand.const (Value.int IntKind.i64 0)) 3, type := 4, pos := "outright.go:85", after := #[{ on := 11, ground := Ground.data }, { on := 10, ground := Ground.guard }], guard := some (10, false) },
  { dst := some 51, op := Op.move (Operand.tmp 50), type := 4, pos := "outright.go:85", after := #[{ on := 12, ground := Ground.data }, { on := 10, ground := Ground.chain }, { on := 10, ground := Ground.guard }], guard := some (10, false) },
  { dst := some 52, op := Op.fieldAddr 32 (Operand.tmp 7) 0, type := 0, pos := "outright.go:85", after := #[{ on := 13, ground := Ground.guard }], guard := some (13, true) },
  { dst := some 53, op := Op.load 3 (Operand.tmp 52), type := 3, pos := "outright.go:85", after := #[{ on := 14, ground := Ground.data }, { on := 13, ground := Ground.guard }], guard := some (13, true) },
  { dst := some 54, op := Op.move (Operand.tmp 5), type := 26, pos := "outright.go:85", after := #[{ on := 13, ground := Ground.guard }], guard := some (13, true) },
  { dst := some 55, op := Op.move (Operand.tmp 1), type := 3, pos := "outright.go:85", after := #[{ on := 13, ground := Ground.guard }], guard := some (13, true) },
  { dst := some 56, op := Op.binOp BinOp.sub 3 (Operand.tmp 55) (Operand.const (Value.int IntKind.i64 1)) 3, type := 3, pos := "outright.go:85", after := #[{ on := 17, ground := Ground.data }, { on := 13, ground := Ground.guard }], guard := some (13, true) },
  { dst := some 57, op := Op.indexAddr 26 (Operand.tmp 54) (Operand.tmp 56), type := 0, pos := "outright.go:85", after := #[{ on := 16, ground := Ground.data }, { on := 18, ground := Ground.data }, { on := 13, ground := Ground.guard }], guard := some (13, true) },
  { dst := some 58, op := Op.fieldAddr 44 (Operand.tmp 57) 3, type := 0, pos := "outright.go:85", after := #[{ on := 19, ground := Ground.data }, { on := 13, ground := Ground.guard }], guard := some (13, true) },
  { dst := some 59, op := Op.fieldAddr 32 (Operand.tmp 58) 0, type := 0, pos := "outright.go:85", after := #[{ on := 20, ground := Ground.data }, { on := 13, ground := Ground.guard }], guard := some (13, true) },
  { dst := some 60, op := Op.load 3 (Operand.tmp 59), type := 3, pos := "outright.go:85", after := #[{ on := 21, ground := Ground.data }, { on := 13, ground := Ground.guard }], guard := some (13, true) },
  { dst := some 61, op := Op.binOp BinOp.leq 3 (Operand.tmp 53) (Operand.tmp 60) 3, type := 4, pos := "outright.go:85", after := #[{ on := 15, ground := Ground.data }, { on := 22, ground := Ground.data }, { on := 13, ground := Ground.guard }], guard := some (13, true) },
  { dst := some 62, op := Op.pick (Operand.tmp 51) (Operand.tmp 61) (Operand.const (Value.bool false)), type := 4, pos := "outright.go:85", after := #[{ on := 13, ground := Ground.data }, { on := 23, ground := Ground.data }, { on := 10, ground := Ground.guard }], guard := some (10, false) },
  { dst := some 63, op := Op.pick (Operand.tmp 48) (Operand.const (Value.bool true)) (Operand.tmp 62), type := 4, pos := "outright.go:85", after := #[{ on := 10, ground := Ground.data }, { on := 24, ground := Ground.data }], guard := none }]
def specTb (g7 b1 o1 n1 c1 k k1 : Nat) (s : ByteArray) (pa za : Int) (i : Nat) (v : Value) (w : World) : Prop :=
  match i with
  | 0 => v = .pointer (some ⟨g7, 0, none⟩)
  | 1 => v = .int .i64 pa
  | 2 => v = .bool false
  | 3 => v = .bool false
  | 4 => v = .pointer (some ⟨g7, 0, none⟩)
  | 5 => v = .int .i64 pa
  | 6 => v = .string s
  | 7 => v = .int .i64 (s.size : Int)
  | 8 => v = .bool false
  | 9 => v = .bool false
  | 10 => v = .bool false
  | 11 => v = .int .i64 (k : Int)
  | 12 => v = .bool true
  | 13 => v = .bool true
  | 14 => v = .pointer (some ⟨g7, 0, none⟩)
  | 15 => v = .int .i64 pa
  | 16 => v = .slice (some ⟨b1, o1, none⟩) n1 c1
  | 17 => v = .int .i64 (k : Int)
  | 18 => v = .int .i64 (k1 : Int)
  | 19 => v = .pointer (some ⟨b1, o1 + k1 * 6, none⟩)
  | 20 => v = .pointer (some ⟨b1, o1 + k1 * 6 + 3, none⟩)
  | 21 => v = .pointer (some ⟨b1, o1 + k1 * 6 + 3, none⟩)
  | 22 => v = .int .i64 za
  | 23 => v = .bool false
  | 24 => v = .bool false
  | _ => True
theorem specTb_mono {g7 b1 o1 n1 c1 k k1 : Nat} {s : ByteArray} {pa za : Int} (i : Nat) (v : Value) (w w' : World) (hi : i < 25) (h : specTb g7 b1 o1 n1 c1 k k1 s pa za i v w) (hb : Bel w w') : specTb g7 b1 o1 n1 c1 k k1 s pa za i v w' := by
  match i, hi, h with
  | 0, _, h => exact h
  | 1, _, h => exact h
  | 2, _, h => exact h
  | 3, _, h => exact h
  | 4, _, h => exact h
  | 5, _, h => exact h
  | 6, _, h => exact h
  | 7, _, h => exact h
  | 8, _, h => exact h
  | 9, _, h => exact h
  | 10, _, h => exact h
  | 11, _, h => exact h
  | 12, _, h => exact h
  | 13, _, h => exact h
  | 14, _, h => exact h
  | 15, _, h => exact h
  | 16, _, h => exact h
  | 17, _, h => exact h
  | 18, _, h => exact h
  | 19, _, h => exact h
  | 20, _, h => exact h
  | 21, _, h => exact h
  | 22, _, h => exact h
  | 23, _, h => exact h
  | 24, _, h => exact h
  | q + 25, hi, _ => exact absurd hi (by omega)
def acOTb (g7 b1 o1 n1 c1 k k1 : Nat) (s : ByteArray) (pa za : Int) (s2 s3 s4 s6 s8 s9 s10 s11 s12 s13 s14 s15 s16 s17 s18 s19 s20 s21 s22 s23 s24 s25 s26 s27 s28 s29 s30 s31 s32 s33 s34 s35 s36 s37 s38 s39 s40 s41 s42 s43 s44 s45 s46 s47 s48 s49 s50 s51 s52 s53 s54 s55 s56 s57 s58 s59 s60 s61 s62 s63 s64 s65 s66 s67 s68 s69 s70 s71 s72 s73 s74 s75 s76 s77 s78 s79 s80 s81 s82 s83 s84 s85 s86 s87 s88 s89 s90 s91 s92 s93 s94 s95 s96 s97 s98 s99 s100 s101 s102 s103 s104 s105 s106 s107 s108 s109 s110 s111 s112 s113 s114 s115 s116 s117 s118 s119 s120 s121 s122 s123 s124 s125 s126 s127 s128 s129 s130 s131 s132 s133 s134 s135 s136 s137 s138 s139 s140 s141 s142 s143 s144 s145 s146 : Value) (df : List Deferred) : Act := { tmps := #[.string s, .int .i64 (k : Int), s2, s3, s4, .slice (some ⟨b1, o1, none⟩) n1 c1, s6, .pointer (some ⟨g7, 0, none⟩), s8, s9, s10, s11, s12, s13, s14, s15, s16, s17, s18, s19, s20, s21, s22, s23, s24, s25, s26, s27, s28, s29, s30, s31, s32, s33, s34, s35, s36, s37, s38, s39, s40, s41, s42, s43, s44, s45, s46, s47, s48, s49, s50, s51, s52, s53, s54, s55, s56, s57, s58, s59, s60, s61, s62, s63, s64, s65, s66, s67, s68, s69, s70, s71, s72, s73, s74, s75, s76, s77, s78, s79, s80, s81, s82, s83, s84, s85, s86, s87, s88, s89, s90, s91, s92, s93, s94, s95, s96, s97, s98, s99, s100, s101, s102, s103, s104, s105, s106, s107, s108, s109, s110, s111, s112, s113, s114, s115, s116, s117, s118, s119, s120, s121, s122, s123, s124, s125, s126, s127, s128, s129, s130, s131, s132, s133, s134, s135, s136, s137, s138, s139, s140, s141, s142, s143, s144, s145, s146], defers := df }
def acVTb (g7 b1 o1 n1 c1 k k1 : Nat) (s : ByteArray) (pa za : Int) (s2 s3 s4 s6 s8 s9 s10 s11 s12 s13 s14 s15 s16 s17 s18 s19 s20 s21 s22 s23 s24 s25 s26 s27 s28 s29 s30 s31 s32 s33 s34 s35 s36 s37 s38 s39 s40 s41 s42 s43 s44 s45 s46 s47 s48 s49 s50 s51 s52 s53 s54 s55 s56 s57 s58 s59 s60 s61 s62 s63 s64 s65 s66 s67 s68 s69 s70 s71 s72 s73 s74 s75 s76 s77 s78 s79 s80 s81 s82 s83 s84 s85 s86 s87 s88 s89 s90 s91 s92 s93 s94 s95 s96 s97 s98 s99 s100 s101 s102 s103 s104 s105 s106 s107 s108 s109 s110 s111 s112 s113 s114 s115 s116 s117 s118 s119 s120 s121 s122 s123 s124 s125 s126 s127 s128 s129 s130 s131 s132 s133 s134 s135 s136 s137 s138 s139 s140 s141 s142 s143 s144 s145 s146 : Value) (df : List Deferred) (V : Nat → Value) : Act := { tmps := #[.string s, .int .i64 (k : Int), s2, s3, s4, .slice (some ⟨b1, o1, none⟩) n1 c1, s6, .pointer (some ⟨g7, 0, none⟩), s8, s9, s10, s11, s12, s13, s14, s15, s16, s17, s18, s19, s20, s21, s22, s23, s24, s25, s26, s27, s28, s29, s30, s31, s32, s33, s34, s35, s36, s37, V 0, V 1, V 2, V 3, V 4, V 5, V 6, V 7, V 8, V 9, V 10, V 11, V 12, V 13, V 14, V 15, V 16, V 17, V 18, V 19, V 20, V 21, V 22, V 23, V 24, s63, s64, s65, s66, s67, s68, s69, s70, s71, s72, s73, s74, s75, s76, s77, s78, s79, s80, s81, s82, s83, s84, s85, s86, s87, s88, s89, s90, s91, s92, s93, s94, s95, s96, s97, s98, s99, s100, s101, s102, s103, s104, s105, s106, s107, s108, s109, s110, s111, s112, s113, s114, s115, s116, s117, s118, s119, s120, s121, s122, s123, s124, s125, s126, s127, s128, s129, s130, s131, s132, s133, s134, s135, s136, s137, s138, s139, s140, s141, s142, s143, s144, s145, s146], defers := df }
theorem regTb_tail : tailB .any regTb.toArray 25 = true := by kernel_rfl
theorem regTb_fwd : fwdB regTb.toArray 25 = true := by kernel_rfl
theorem regTb_slots : slotsB regTb.toArray 147 = true := by kernel_rfl
theorem regTb_seq : Region.seqB .any regTb.toArray (regTb.length - 25) 25 (Array.replicate 25 true ++ Array.replicate (regTb.length - 25) false) = true := by kernel_rfl
set_option maxRecDepth 100000 in
set_option maxHeartbeats 8000000 in
theorem regTb_any {id : Nat} (g7 b1 o1 n1 c1 k k1 : Nat) (s : ByteArray) (pa za : Int) (s2 s3 s4 s6 s8 s9 s10 s11 s12 s13 s14 s15 s16 s17 s18 s19 s20 s21 s22 s23 s24 s25 s26 s27 s28 s29 s30 s31 s32 s33 s34 s35 s36 s37 s38 s39 s40 s41 s42 s43 s44 s45 s46 s47 s48 s49 s50 s51 s52 s53 s54 s55 s56 s57 s58 s59 s60 s61 s62 s63 s64 s65 s66 s67 s68 s69 s70 s71 s72 s73 s74 s75 s76 s77 s78 s79 s80 s81 s82 s83 s84 s85 s86 s87 s88 s89 s90 s91 s92 s93 s94 s95 s96 s97 s98 s99 s100 s101 s102 s103 s104 s105 s106 s107 s108 s109 s110 s111 s112 s113 s114 s115 s116 s117 s118 s119 s120 s121 s122 s123 s124 s125 s126 s127 s128 s129 s130 s131 s132 s133 s134 s135 s136 s137 s138 s139 s140 s141 s142 s143 s144 s145 s146 : Value) (df : List Deferred) (w : World) (h7 : g7 < w.drew.heap.size) (a0 : w.drew.cell? ⟨g7, 0, none⟩ = some (.int .i64 pa)) (z0 : ¬ pa < 0) (z1 : ¬ (s.size : Int) ≤ pa) (z2 : 0 < k) (z3 : IntKind.i64.wrap ((k : Int) - 1) = (k1 : Int)) (i1 : (0 : Int) ≤ (k1 : Int)) (i2 : (k1 : Int) < (n1 : Int)) (h1 : b1 < w.drew.heap.size) (e0 : w.drew.cell? ⟨b1, o1 + k1 * 6 + 3, none⟩ = some (.int .i64 za)) (z4 : ¬ pa ≤ za) (Q : Exit → Act → World → Prop)
    (hend : ∀ (V : Nat → Value) (w' : World), Bel w.drew w' → ((V 10) = .bool false) → ((V 24) = .bool false) → wpList Tryz.prog regTb.toArray Q (regTb.drop 25) (acVTb g7 b1 o1 n1 c1 k k1 s pa za s2 s3 s4 s6 s8 s9 s10 s11 s12 s13 s14 s15 s16 s17 s18 s19 s20 s21 s22 s23 s24 s25 s26 s27 s28 s29 s30 s31 s32 s33 s34 s35 s36 s37 s38 s39 s40 s41 s42 s43 s44 s45 s46 s47 s48 s49 s50 s51 s52 s53 s54 s55 s56 s57 s58 s59 s60 s61 s62 s63 s64 s65 s66 s67 s68 s69 s70 s71 s72 s73 s74 s75 s76 s77 s78 s79 s80 s81 s82 s83 s84 s85 s86 s87 s88 s89 s90 s91 s92 s93 s94 s95 s96 s97 s98 s99 s100 s101 s102 s103 s104 s105 s106 s107 s108 s109 s110 s111 s112 s113 s114 s115 s116 s117 s118 s119 s120 s121 s122 s123 s124 s125 s126 s127 s128 s129 s130 s131 s132 s133 s134 s135 s136 s137 s138 s139 s140 s141 s142 s143 s144 s145 s146 df V) w') :
    (Code.region id regTb.toArray true).wp Tryz.prog Q (acOTb g7 b1 o1 n1 c1 k k1 s pa za s2 s3 s4 s6 s8 s9 s10 s11 s12 s13 s14 s15 s16 s17 s18 s19 s20 s21 s22 s23 s24 s25 s26 s27 s28 s29 s30 s31 s32 s33 s34 s35 s36 s37 s38 s39 s40 s41 s42 s43 s44 s45 s46 s47 s48 s49 s50 s51 s52 s53 s54 s55 s56 s57 s58 s59 s60 s61 s62 s63 s64 s65 s66 s67 s68 s69 s70 s71 s72 s73 s74 s75 s76 s77 s78 s79 s80 s81 s82 s83 s84 s85 s86 s87 s88 s89 s90 s91 s92 s93 s94 s95 s96 s97 s98 s99 s100 s101 s102 s103 s104 s105 s106 s107 s108 s109 s110 s111 s112 s113 s114 s115 s116 s117 s118 s119 s120 s121 s122 s123 s124 s125 s126 s127 s128 s129 s130 s131 s132 s133 s134 s135 s136 s137 s138 s139 s140 s141 s142 s143 s144 s145 s146 df) w := by
  refine wp_region_invG (l := regTb) 25 (acOTb g7 b1 o1 n1 c1 k k1 s pa za s2 s3 s4 s6 s8 s9 s10 s11 s12 s13 s14 s15 s16 s17 s18 s19 s20 s21 s22 s23 s24 s25 s26 s27 s28 s29 s30 s31 s32 s33 s34 s35 s36 s37 s38 s39 s40 s41 s42 s43 s44 s45 s46 s47 s48 s49 s50 s51 s52 s53 s54 s55 s56 s57 s58 s59 s60 s61 s62 s63 s64 s65 s66 s67 s68 s69 s70 s71 s72 s73 s74 s75 s76 s77 s78 s79 s80 s81 s82 s83 s84 s85 s86 s87 s88 s89 s90 s91 s92 s93 s94 s95 s96 s97 s98 s99 s100 s101 s102 s103 s104 s105 s106 s107 s108 s109 s110 s111 s112 s113 s114 s115 s116 s117 s118 s119 s120 s121 s122 s123 s124 s125 s126 s127 s128 s129 s130 s131 s132 s133 s134 s135 s136 s137 s138 s139 s140 s141 s142 s143 s144 s145 s146 df) w (specTb g7 b1 o1 n1 c1 k k1 s pa za) (by kernel_rfl) regTb_tail regTb_fwd regTb_slots regTb_seq (fun i v w w' hi h hb => specTb_mono i v w w' hi h hb) ?_ ?_
  · intro i' o hi' ho a w1 V hbel hdep hpar K hK
    have p0 : a.eval (.tmp 0) = .string s := hpar 0 (by show 0 < 147; decide) (by kernel_rfl)
    have p0' : a.tmps[0]?.getD undef = .string s := by have h := p0; simp only [Act.eval, Array.getD_eq_getD_getElem?] at h; exact h
    have p1 : a.eval (.tmp 1) = .int .i64 (k : Int) := hpar 1 (by show 1 < 147; decide) (by kernel_rfl)
    have p1' : a.tmps[1]?.getD undef = .int .i64 (k : Int) := by have h := p1; simp only [Act.eval, Array.getD_eq_getD_getElem?] at h; exact h
    have p5 : a.eval (.tmp 5) = .slice (some ⟨b1, o1, none⟩) n1 c1 := hpar 5 (by show 5 < 147; decide) (by kernel_rfl)
    have p5' : a.tmps[5]?.getD undef = .slice (some ⟨b1, o1, none⟩) n1 c1 := by have h := p5; simp only [Act.eval, Array.getD_eq_getD_getElem?] at h; exact h
    have p7 : a.eval (.tmp 7) = .pointer (some ⟨g7, 0, none⟩) := hpar 7 (by show 7 < 147; decide) (by kernel_rfl)
    have p7' : a.tmps[7]?.getD undef = .pointer (some ⟨g7, 0, none⟩) := by have h := p7; simp only [Act.eval, Array.getD_eq_getD_getElem?] at h; exact h
    have s0 := (hbel.cell (p := ⟨g7, 0, none⟩) h7).trans a0
    have u0 := (hbel.cell (p := ⟨b1, o1 + k1 * 6 + 3, none⟩) h1).trans e0
    match i', hi', ho, hdep, hK with
    | 0, _, ho, hdep, hK =>
      simp only [regTb, List.getElem?_toArray, List.getElem?_cons_zero, Option.some.injEq] at ho
      subst ho
      refine ⟨fun _ => ?_, fun hw => (yw_n rfl hw).elim⟩
      exact wp_val (v := .pointer (some ⟨g7, 0, none⟩)) (w' := w1) (by simp [execOp, go_sem, p7']) (hK _ _ (Bel.refl _) rfl)
    | 1, _, ho, hdep, hK =>
      simp only [regTb, List.getElem?_toArray, List.getElem?_cons_zero, List.getElem?_cons_succ, Option.some.injEq] at ho
      subst ho
      refine ⟨fun _ => ?_, fun hw => (yw_n rfl hw).elim⟩
      obtain ⟨f0, d0⟩ := hdep ⟨0, .data⟩ (by simp) rfl
      have e0 : a.eval (.tmp 38) = .pointer (some ⟨g7, 0, none⟩) := (d0 38 rfl).trans f0
      have e0' : a.tmps[38]?.getD undef = .pointer (some ⟨g7, 0, none⟩) := by have h := e0; simp only [Act.eval, Array.getD_eq_getD_getElem?] at h; exact h
      exact wp_val (v := .int .i64 pa) (w' := w1) (by simp [execOp, go_sem, e0', s0]) (hK _ _ (Bel.refl _) rfl)
    | 2, _, ho, hdep, hK =>
      simp only [regTb, List.getElem?_toArray, List.getElem?_cons_zero, List.getElem?_cons_succ, Option.some.injEq] at ho
      subst ho
      refine ⟨fun _ => ?_, fun hw => (yw_n rfl hw).elim⟩
      obtain ⟨f1, d1⟩ := hdep ⟨1, .data⟩ (by simp) rfl
      have e1 : a.eval (.tmp 39) = .int .i64 pa := (d1 39 rfl).trans f1
      have e1' : a.tmps[39]?.getD undef = .int .i64 pa := by have h := e1; simp only [Act.eval, Array.getD_eq_getD_getElem?] at h; exact h
      exact wp_val (v := .bool false) (w' := w1) (by simp [execOp, go_sem, e1', z0]) (hK _ _ (Bel.refl _) rfl)
    | 3, _, ho, hdep, hK =>
      simp only [regTb, List.getElem?_toArray, List.getElem?_cons_zero, List.getElem?_cons_succ, Option.some.injEq] at ho
      subst ho
      refine ⟨fun _ => ?_, fun hw => (yw_n rfl hw).elim⟩
      obtain ⟨f2, d2⟩ := hdep ⟨2, .data⟩ (by simp) rfl
      have e2 : a.eval (.tmp 40) = .bool false := (d2 40 rfl).trans f2
      have e2' : a.tmps[40]?.getD undef = .bool false := by have h := e2; simp only [Act.eval, Array.getD_eq_getD_getElem?] at h; exact h
      exact wp_val (v := .bool false) (w' := w1) (by simp [execOp, go_sem, e2']) (hK _ _ (Bel.refl _) rfl)
    | 4, _, ho, hdep, hK =>
      simp only [regTb, List.getElem?_toArray, List.getElem?_cons_zero, List.getElem?_cons_succ, Option.some.injEq] at ho
      subst ho
      obtain ⟨fg, dg⟩ := hdep ⟨3, .guard⟩ (by simp) rfl
      have eg : a.tmps.getD 41 undef = .bool false := (dg 41 rfl).trans fg
      refine ⟨fun _ => ?_, fun hw => (yw_f (d := 41) rfl rfl eg hw).elim⟩
      exact wp_val (v := .pointer (some ⟨g7, 0, none⟩)) (w' := w1) (by simp [execOp, go_sem, p7']) (hK _ _ (Bel.refl _) rfl)
    | 5, _, ho, hdep, hK =>
      simp only [regTb, List.getElem?_toArray, List.getElem?_cons_zero, List.getElem?_cons_succ, Option.some.injEq] at ho
      subst ho
      obtain ⟨fg, dg⟩ := hdep ⟨3, .guard⟩ (by simp) rfl
      have eg : a.tmps.getD 41 undef = .bool false := (dg 41 rfl).trans fg
      refine ⟨fun _ => ?_, fun hw => (yw_f (d := 41) rfl rfl eg hw).elim⟩
      obtain ⟨f4, d4⟩ := hdep ⟨4, .data⟩ (by simp) rfl
      have e4 : a.eval (.tmp 42) = .pointer (some ⟨g7, 0, none⟩) := (d4 42 rfl).trans f4
      have e4' : a.tmps[42]?.getD undef = .pointer (some ⟨g7, 0, none⟩) := by have h := e4; simp only [Act.eval, Array.getD_eq_getD_getElem?] at h; exact h
      exact wp_val (v := .int .i64 pa) (w' := w1) (by simp [execOp, go_sem, e4', s0]) (hK _ _ (Bel.refl _) rfl)
    | 6, _, ho, hdep, hK =>
      simp only [regTb, List.getElem?_toArray, List.getElem?_cons_zero, List.getElem?_cons_succ, Option.some.injEq] at ho
      subst ho
      obtain ⟨fg, dg⟩ := hdep ⟨3, .guard⟩ (by simp) rfl
      have eg : a.tmps.getD 41 undef = .bool false := (dg 41 rfl).trans fg
      refine ⟨fun _ => ?_, fun hw => (yw_f (d := 41) rfl rfl eg hw).elim⟩
      exact wp_val (v := .string s) (w' := w1) (by simp [execOp, go_sem, p0']) (hK _ _ (Bel.refl _) rfl)
    | 7, _, ho, hdep, hK =>
      simp only [regTb, List.getElem?_toArray, List.getElem?_cons_zero, List.getElem?_cons_succ, Option.some.injEq] at ho
      subst ho
      obtain ⟨fg, dg⟩ := hdep ⟨3, .guard⟩ (by simp) rfl
      have eg : a.tmps.getD 41 undef = .bool false := (dg 41 rfl).trans fg
      refine ⟨fun _ => ?_, fun hw => (yw_f (d := 41) rfl rfl eg hw).elim⟩
      obtain ⟨f6, d6⟩ := hdep ⟨6, .data⟩ (by simp) rfl
      have e6 : a.eval (.tmp 44) = .string s := (d6 44 rfl).trans f6
      have e6' : a.tmps[44]?.getD undef = .string s := by have h := e6; simp only [Act.eval, Array.getD_eq_getD_getElem?] at h; exact h
      exact wp_val (v := .int .i64 (s.size : Int)) (w' := w1) (by simp [go_sem, e6']) (hK _ _ (Bel.refl _) rfl)
    | 8, _, ho, hdep, hK =>
      simp only [regTb, List.getElem?_toArray, List.getElem?_cons_zero, List.getElem?_cons_succ, Option.some.injEq] at ho
      subst ho
      obtain ⟨fg, dg⟩ := hdep ⟨3, .guard⟩ (by simp) rfl
      have eg : a.tmps.getD 41 undef = .bool false := (dg 41 rfl).trans fg
      refine ⟨fun _ => ?_, fun hw => (yw_f (d := 41) rfl rfl eg hw).elim⟩
      obtain ⟨f5, d5⟩ := hdep ⟨5, .data⟩ (by simp) rfl
      have e5 : a.eval (.tmp 43) = .int .i64 pa := (d5 43 rfl).trans f5
      have e5' : a.tmps[43]?.getD undef = .int .i64 pa := by have h := e5; simp only [Act.eval, Array.getD_eq_getD_getElem?] at h; exact h
      obtain ⟨f7, d7⟩ := hdep ⟨7, .data⟩ (by simp) rfl
      have e7 : a.eval (.tmp 45) = .int .i64 (s.size : Int) := (d7 45 rfl).trans f7
      have e7' : a.tmps[45]?.getD undef = .int .i64 (s.size : Int) := by have h := e7; simp only [Act.eval, Array.getD_eq_getD_getElem?] at h; exact h
      exact wp_val (v := .bool false) (w' := w1) (by simp [execOp, go_sem, e5', e7', z1]) (hK _ _ (Bel.refl _) rfl)
    | 9, _, ho, hdep, hK =>
      simp only [regTb, List.getElem?_toArray, List.getElem?_cons_zero, List.getElem?_cons_succ, Option.some.injEq] at ho
      subst ho
      refine ⟨fun _ => ?_, fun hw => (yw_n rfl hw).elim⟩
      obtain ⟨f3, d3⟩ := hdep ⟨3, .data⟩ (by simp) rfl
      have e3 : a.eval (.tmp 41) = .bool false := (d3 41 rfl).trans f3
      have e3' : a.tmps[41]?.getD undef = .bool false := by have h := e3; simp only [Act.eval, Array.getD_eq_getD_getElem?] at h; exact h
      obtain ⟨f8, d8⟩ := hdep ⟨8, .data⟩ (by simp) rfl
      have e8 : a.eval (.tmp 46) = .bool false := (d8 46 rfl).trans f8
      have e8' : a.tmps[46]?.getD undef = .bool false := by have h := e8; simp only [Act.eval, Array.getD_eq_getD_getElem?] at h; exact h
      exact wp_val (v := .bool false) (w' := w1) (by simp [execOp, go_sem, e3', e8']) (hK _ _ (Bel.refl _) rfl)
    | 10, _, ho, hdep, hK =>
      simp only [regTb, List.getElem?_toArray, List.getElem?_cons_zero, List.getElem?_cons_succ, Option.some.injEq] at ho
      subst ho
      refine ⟨fun _ => ?_, fun hw => (yw_n rfl hw).elim⟩
      obtain ⟨f9, d9⟩ := hdep ⟨9, .data⟩ (by simp) rfl
      have e9 : a.eval (.tmp 47) = .bool false := (d9 47 rfl).trans f9
      have e9' : a.tmps[47]?.getD undef = .bool false := by have h := e9; simp only [Act.eval, Array.getD_eq_getD_getElem?] at h; exact h
      exact wp_val (v := .bool false) (w' := w1) (by simp [execOp, go_sem, e9']) (hK _ _ (Bel.refl _) rfl)
    | 11, _, ho, hdep, hK =>
      simp only [regTb, List.getElem?_toArray, List.getElem?_cons_zero, List.getElem?_cons_succ, Option.some.injEq] at ho
      subst ho
      obtain ⟨fg, dg⟩ := hdep ⟨10, .guard⟩ (by simp) rfl
      have eg : a.tmps.getD 48 undef = .bool false := (dg 48 rfl).trans fg
      refine ⟨fun _ => ?_, fun hw => (yw_f (d := 48) rfl rfl eg hw).elim⟩
      exact wp_val (v := .int .i64 (k : Int)) (w' := w1) (by simp [execOp, go_sem, p1']) (hK _ _ (Bel.refl _) rfl)
    | 12, _, ho, hdep, hK =>
      simp only [regTb, List.getElem?_toArray, List.getElem?_cons_zero, List.getElem?_cons_succ, Option.some.injEq] at ho
      subst ho
      obtain ⟨fg, dg⟩ := hdep ⟨10, .guard⟩ (by simp) rfl
      have eg : a.tmps.getD 48 undef = .bool false := (dg 48 rfl).trans fg
      refine ⟨fun _ => ?_, fun hw => (yw_f (d := 48) rfl rfl eg hw).elim⟩
      obtain ⟨f11, d11⟩ := hdep ⟨11, .data⟩ (by simp) rfl
      have e11 : a.eval (.tmp 49) = .int .i64 (k : Int) := (d11 49 rfl).trans f11
      have e11' : a.tmps[49]?.getD undef = .int .i64 (k : Int) := by have h := e11; simp only [Act.eval, Array.getD_eq_getD_getElem?] at h; exact h
      exact wp_val (v := .bool true) (w' := w1) (by simp [execOp, go_sem, e11', z2]) (hK _ _ (Bel.refl _) rfl)
    | 13, _, ho, hdep, hK =>
      simp only [regTb, List.getElem?_toArray, List.getElem?_cons_zero, List.getElem?_cons_succ, Option.some.injEq] at ho
      subst ho
      obtain ⟨fg, dg⟩ := hdep ⟨10, .guard⟩ (by simp) rfl
      have eg : a.tmps.getD 48 undef = .bool false := (dg 48 rfl).trans fg
      refine ⟨fun _ => ?_, fun hw => (yw_f (d := 48) rfl rfl eg hw).elim⟩
      obtain ⟨f12, d12⟩ := hdep ⟨12, .data⟩ (by simp) rfl
      have e12 : a.eval (.tmp 50) = .bool true := (d12 50 rfl).trans f12
      have e12' : a.tmps[50]?.getD undef = .bool true := by have h := e12; simp only [Act.eval, Array.getD_eq_getD_getElem?] at h; exact h
      exact wp_val (v := .bool true) (w' := w1) (by simp [execOp, go_sem, e12']) (hK _ _ (Bel.refl _) rfl)
    | 14, _, ho, hdep, hK =>
      simp only [regTb, List.getElem?_toArray, List.getElem?_cons_zero, List.getElem?_cons_succ, Option.some.injEq] at ho
      subst ho
      obtain ⟨fg, dg⟩ := hdep ⟨13, .guard⟩ (by simp) rfl
      have eg : a.tmps.getD 51 undef = .bool true := (dg 51 rfl).trans fg
      refine ⟨fun _ => ?_, fun hw => (yw_t (d := 51) rfl rfl eg hw).elim⟩
      exact wp_val (v := .pointer (some ⟨g7, 0, none⟩)) (w' := w1) (by simp [execOp, go_sem, p7']) (hK _ _ (Bel.refl _) rfl)
    | 15, _, ho, hdep, hK =>
      simp only [regTb, List.getElem?_toArray, List.getElem?_cons_zero, List.getElem?_cons_succ, Option.some.injEq] at ho
      subst ho
      obtain ⟨fg, dg⟩ := hdep ⟨13, .guard⟩ (by simp) rfl
      have eg : a.tmps.getD 51 undef = .bool true := (dg 51 rfl).trans fg
      refine ⟨fun _ => ?_, fun hw => (yw_t (d := 51) rfl rfl eg hw).elim⟩
      obtain ⟨f14, d14⟩ := hdep ⟨14, .data⟩ (by simp) rfl
      have e14 : a.eval (.tmp 52) = .pointer (some ⟨g7, 0, none⟩) := (d14 52 rfl).trans f14
      have e14' : a.tmps[52]?.getD undef = .pointer (some ⟨g7, 0, none⟩) := by have h := e14; simp only [Act.eval, Array.getD_eq_getD_getElem?] at h; exact h
      exact wp_val (v := .int .i64 pa) (w' := w1) (by simp [execOp, go_sem, e14', s0]) (hK _ _ (Bel.refl _) rfl)
    | 16, _, ho, hdep, hK =>
      simp only [regTb, List.getElem?_toArray, List.getElem?_cons_zero, List.getElem?_cons_succ, Option.some.injEq] at ho
      subst ho
      obtain ⟨fg, dg⟩ := hdep ⟨13, .guard⟩ (by simp) rfl
      have eg : a.tmps.getD 51 undef = .bool true := (dg 51 rfl).trans fg
      refine ⟨fun _ => ?_, fun hw => (yw_t (d := 51) rfl rfl eg hw).elim⟩
      exact wp_val (v := .slice (some ⟨b1, o1, none⟩) n1 c1) (w' := w1) (by simp [execOp, go_sem, p5']) (hK _ _ (Bel.refl _) rfl)
    | 17, _, ho, hdep, hK =>
      simp only [regTb, List.getElem?_toArray, List.getElem?_cons_zero, List.getElem?_cons_succ, Option.some.injEq] at ho
      subst ho
      obtain ⟨fg, dg⟩ := hdep ⟨13, .guard⟩ (by simp) rfl
      have eg : a.tmps.getD 51 undef = .bool true := (dg 51 rfl).trans fg
      refine ⟨fun _ => ?_, fun hw => (yw_t (d := 51) rfl rfl eg hw).elim⟩
      exact wp_val (v := .int .i64 (k : Int)) (w' := w1) (by simp [execOp, go_sem, p1']) (hK _ _ (Bel.refl _) rfl)
    | 18, _, ho, hdep, hK =>
      simp only [regTb, List.getElem?_toArray, List.getElem?_cons_zero, List.getElem?_cons_succ, Option.some.injEq] at ho
      subst ho
      obtain ⟨fg, dg⟩ := hdep ⟨13, .guard⟩ (by simp) rfl
      have eg : a.tmps.getD 51 undef = .bool true := (dg 51 rfl).trans fg
      refine ⟨fun _ => ?_, fun hw => (yw_t (d := 51) rfl rfl eg hw).elim⟩
      obtain ⟨f17, d17⟩ := hdep ⟨17, .data⟩ (by simp) rfl
      have e17 : a.eval (.tmp 55) = .int .i64 (k : Int) := (d17 55 rfl).trans f17
      have e17' : a.tmps[55]?.getD undef = .int .i64 (k : Int) := by have h := e17; simp only [Act.eval, Array.getD_eq_getD_getElem?] at h; exact h
      exact wp_val (v := .int .i64 (k1 : Int)) (w' := w1) (by simp [execOp, go_sem, e17', z3]) (hK _ _ (Bel.refl _) rfl)
    | 19, _, ho, hdep, hK =>
      simp only [regTb, List.getElem?_toArray, List.getElem?_cons_zero, List.getElem?_cons_succ, Option.some.injEq] at ho
      subst ho
      obtain ⟨fg, dg⟩ := hdep ⟨13, .guard⟩ (by simp) rfl
      have eg : a.tmps.getD 51 undef = .bool true := (dg 51 rfl).trans fg
      refine ⟨fun _ => ?_, fun hw => (yw_t (d := 51) rfl rfl eg hw).elim⟩
      obtain ⟨f16, d16⟩ := hdep ⟨16, .data⟩ (by simp) rfl
      have e16 : a.eval (.tmp 54) = .slice (some ⟨b1, o1, none⟩) n1 c1 := (d16 54 rfl).trans f16
      have e16' : a.tmps[54]?.getD undef = .slice (some ⟨b1, o1, none⟩) n1 c1 := by have h := e16; simp only [Act.eval, Array.getD_eq_getD_getElem?] at h; exact h
      obtain ⟨f18, d18⟩ := hdep ⟨18, .data⟩ (by simp) rfl
      have e18 : a.eval (.tmp 56) = .int .i64 (k1 : Int) := (d18 56 rfl).trans f18
      have e18' : a.tmps[56]?.getD undef = .int .i64 (k1 : Int) := by have h := e18; simp only [Act.eval, Array.getD_eq_getD_getElem?] at h; exact h
      exact wp_val (v := .pointer (some ⟨b1, o1 + k1 * 6, none⟩)) (w' := w1) (by simp [execOp, go_sem, e16', e18', i1, i2]) (hK _ _ (Bel.refl _) rfl)
    | 20, _, ho, hdep, hK =>
      simp only [regTb, List.getElem?_toArray, List.getElem?_cons_zero, List.getElem?_cons_succ, Option.some.injEq] at ho
      subst ho
      obtain ⟨fg, dg⟩ := hdep ⟨13, .guard⟩ (by simp) rfl
      have eg : a.tmps.getD 51 undef = .bool true := (dg 51 rfl).trans fg
      refine ⟨fun _ => ?_, fun hw => (yw_t (d := 51) rfl rfl eg hw).elim⟩
      obtain ⟨f19, d19⟩ := hdep ⟨19, .data⟩ (by simp) rfl
      have e19 : a.eval (.tmp 57) = .pointer (some ⟨b1, o1 + k1 * 6, none⟩) := (d19 57 rfl).trans f19
      have e19' : a.tmps[57]?.getD undef = .pointer (some ⟨b1, o1 + k1 * 6, none⟩) := by have h := e19; simp only [Act.eval, Array.getD_eq_getD_getElem?] at h; exact h
      exact wp_val (v := .pointer (some ⟨b1, o1 + k1 * 6 + 3, none⟩)) (w' := w1) (by simp [execOp, go_sem, e19']) (hK _ _ (Bel.refl _) rfl)
    | 21, _, ho, hdep, hK =>
      simp only [regTb, List.getElem?_toArray, List.getElem?_cons_zero, List.getElem?_cons_succ, Option.some.injEq] at ho
      subst ho
      obtain ⟨fg, dg⟩ := hdep ⟨13, .guard⟩ (by simp) rfl
      have eg : a.tmps.getD 51 undef = .bool true := (dg 51 rfl).trans fg
      refine ⟨fun _ => ?_, fun hw => (yw_t (d := 51) rfl rfl eg hw).elim⟩
      obtain ⟨f20, d20⟩ := hdep ⟨20, .data⟩ (by simp) rfl
      have e20 : a.eval (.tmp 58) = .pointer (some ⟨b1, o1 + k1 * 6 + 3, none⟩) := (d20 58 rfl).trans f20
      have e20' : a.tmps[58]?.getD undef = .pointer (some ⟨b1, o1 + k1 * 6 + 3, none⟩) := by have h := e20; simp only [Act.eval, Array.getD_eq_getD_getElem?] at h; exact h
      exact wp_val (v := .pointer (some ⟨b1, o1 + k1 * 6 + 3, none⟩)) (w' := w1) (by simp [execOp, go_sem, e20']) (hK _ _ (Bel.refl _) rfl)
    | 22, _, ho, hdep, hK =>
      simp only [regTb, List.getElem?_toArray, List.getElem?_cons_zero, List.getElem?_cons_succ, Option.some.injEq] at ho
      subst ho
      obtain ⟨fg, dg⟩ := hdep ⟨13, .guard⟩ (by simp) rfl
      have eg : a.tmps.getD 51 undef = .bool true := (dg 51 rfl).trans fg
      refine ⟨fun _ => ?_, fun hw => (yw_t (d := 51) rfl rfl eg hw).elim⟩
      obtain ⟨f21, d21⟩ := hdep ⟨21, .data⟩ (by simp) rfl
      have e21 : a.eval (.tmp 59) = .pointer (some ⟨b1, o1 + k1 * 6 + 3, none⟩) := (d21 59 rfl).trans f21
      have e21' : a.tmps[59]?.getD undef = .pointer (some ⟨b1, o1 + k1 * 6 + 3, none⟩) := by have h := e21; simp only [Act.eval, Array.getD_eq_getD_getElem?] at h; exact h
      exact wp_val (v := .int .i64 za) (w' := w1) (by simp [execOp, go_sem, e21', u0]) (hK _ _ (Bel.refl _) rfl)
    | 23, _, ho, hdep, hK =>
      simp only [regTb, List.getElem?_toArray, List.getElem?_cons_zero, List.getElem?_cons_succ, Option.some.injEq] at ho
      subst ho
      obtain ⟨fg, dg⟩ := hdep ⟨13, .guard⟩ (by simp) rfl
      have eg : a.tmps.getD 51 undef = .bool true := (dg 51 rfl).trans fg
      refine ⟨fun _ => ?_, fun hw => (yw_t (d := 51) rfl rfl eg hw).elim⟩
      obtain ⟨f15, d15⟩ := hdep ⟨15, .data⟩ (by simp) rfl
      have e15 : a.eval (.tmp 53) = .int .i64 pa := (d15 53 rfl).trans f15
      have e15' : a.tmps[53]?.getD undef = .int .i64 pa := by have h := e15; simp only [Act.eval, Array.getD_eq_getD_getElem?] at h; exact h
      obtain ⟨f22, d22⟩ := hdep ⟨22, .data⟩ (by simp) rfl
      have e22 : a.eval (.tmp 60) = .int .i64 za := (d22 60 rfl).trans f22
      have e22' : a.tmps[60]?.getD undef = .int .i64 za := by have h := e22; simp only [Act.eval, Array.getD_eq_getD_getElem?] at h; exact h
      exact wp_val (v := .bool false) (w' := w1) (by simp [execOp, go_sem, e15', e22', z4]) (hK _ _ (Bel.refl _) rfl)
    | 24, _, ho, hdep, hK =>
      simp only [regTb, List.getElem?_toArray, List.getElem?_cons_zero, List.getElem?_cons_succ, Option.some.injEq] at ho
      subst ho
      obtain ⟨fg, dg⟩ := hdep ⟨10, .guard⟩ (by simp) rfl
      have eg : a.tmps.getD 48 undef = .bool false := (dg 48 rfl).trans fg
      refine ⟨fun _ => ?_, fun hw => (yw_f (d := 48) rfl rfl eg hw).elim⟩
      obtain ⟨f13, d13⟩ := hdep ⟨13, .data⟩ (by simp) rfl
      have e13 : a.eval (.tmp 51) = .bool true := (d13 51 rfl).trans f13
      have e13' : a.tmps[51]?.getD undef = .bool true := by have h := e13; simp only [Act.eval, Array.getD_eq_getD_getElem?] at h; exact h
      obtain ⟨f23, d23⟩ := hdep ⟨23, .data⟩ (by simp) rfl
      have e23 : a.eval (.tmp 61) = .bool false := (d23 61 rfl).trans f23
      have e23' : a.tmps[61]?.getD undef = .bool false := by have h := e23; simp only [Act.eval, Array.getD_eq_getD_getElem?] at h; exact h
      exact wp_val (v := .bool false) (w' := w1) (by simp [execOp, go_sem, e13', e23']) (hK _ _ (Bel.refl _) rfl)
    | q + 25, hi, _, _, _ => exact absurd hi (by omega)
  · intro V w' hb hF
    have e : finA regTb.toArray 25 V (acOTb g7 b1 o1 n1 c1 k k1 s pa za s2 s3 s4 s6 s8 s9 s10 s11 s12 s13 s14 s15 s16 s17 s18 s19 s20 s21 s22 s23 s24 s25 s26 s27 s28 s29 s30 s31 s32 s33 s34 s35 s36 s37 s38 s39 s40 s41 s42 s43 s44 s45 s46 s47 s48 s49 s50 s51 s52 s53 s54 s55 s56 s57 s58 s59 s60 s61 s62 s63 s64 s65 s66 s67 s68 s69 s70 s71 s72 s73 s74 s75 s76 s77 s78 s79 s80 s81 s82 s83 s84 s85 s86 s87 s88 s89 s90 s91 s92 s93 s94 s95 s96 s97 s98 s99 s100 s101 s102 s103 s104 s105 s106 s107 s108 s109 s110 s111 s112 s113 s114 s115 s116 s117 s118 s119 s120 s121 s122 s123 s124 s125 s126 s127 s128 s129 s130 s131 s132 s133 s134 s135 s136 s137 s138 s139 s140 s141 s142 s143 s144 s145 s146 df) = acVTb g7 b1 o1 n1 c1 k k1 s pa za s2 s3 s4 s6 s8 s9 s10 s11 s12 s13 s14 s15 s16 s17 s18 s19 s20 s21 s22 s23 s24 s25 s26 s27 s28 s29 s30 s31 s32 s33 s34 s35 s36 s37 s38 s39 s40 s41 s42 s43 s44 s45 s46 s47 s48 s49 s50 s51 s52 s53 s54 s55 s56 s57 s58 s59 s60 s61 s62 s63 s64 s65 s66 s67 s68 s69 s70 s71 s72 s73 s74 s75 s76 s77 s78 s79 s80 s81 s82 s83 s84 s85 s86 s87 s88 s89 s90 s91 s92 s93 s94 s95 s96 s97 s98 s99 s100 s101 s102 s103 s104 s105 s106 s107 s108 s109 s110 s111 s112 s113 s114 s115 s116 s117 s118 s119 s120 s121 s122 s123 s124 s125 s126 s127 s128 s129 s130 s131 s132 s133 s134 s135 s136 s137 s138 s139 s140 s141 s142 s143 s144 s145 s146 df V := by kernel_rfl
    rw [e]
    exact hend V w' hb (hF 10 (by omega)) (hF 24 (by omega))
end Go.Proofs.YteockaolmobmeaaGreatDoor.Mu

