/-
  The chapter's rows: the error and its place, compared operation by operation.
-/
import Derived.Test.YteockaolmobmeaaGreatDoorLxSam
import Derived.Test.YteockaolmobmeaaGreatDoorLxUtf
namespace Go.Proofs.YteockaolmobmeaaGreatDoor.Mu
open Go Go.RowKit Go.Shelf

attribute [local go_sem] Oper.semAt_some
set_option linter.unusedVariables false

def regKn : List Oper := [
  { dst := some 83, op := Op.move (Operand.tmp 9), type := 26, pos := "law.go:28", after := #[], guard := none },
  { dst := some 84, op := Op.call { callee := Callee.builtin Builtin.len, args := #[Operand.tmp 83], argTypes := #[26] }, type := 3, pos := "law.go:28", after := #[{ on := 0, ground := Ground.data }], guard := none },
  { dst := some 85, op := Op.binOp BinOp.neq 3 (Operand.tmp 84) (Operand.const (Value.int IntKind.i64 0)) 3, type := 4, pos := "law.go:28", after := #[{ on := 1, ground := Ground.data }], guard := none },
  { dst := some 86, op := Op.move (Operand.tmp 85), type := 4, pos := "law.go:28", after := #[{ on := 2, ground := Ground.data }], guard := none },
  { dst := some 87, op := Op.load 34 (Operand.tmp 10), type := 34, pos := "law.go:28", after := #[{ on := 3, ground := Ground.guard }], guard := some (3, false) },
  { dst := some 88, op := Op.buildSlice 56 6 #[(0, Operand.const (Value.int IntKind.i64 100)), (1, Operand.const (Value.int IntKind.i64 100)), (2, Operand.const (Value.int IntKind.i64 100)), (3, Operand.const (Value.int IntKind.i64 102)), (4, Operand.const (Value.int IntKind.i64 101)), (5, Operand.const (Value.int IntKind.i64 3))], type := 56, pos := "law.go:28", after := #[{ on := 3, ground := Ground.guard }], guard := some (3, false) },
  { dst := some 89, op := Op.move (Operand.tmp 7), type := 3, pos := "law.go:28", after := #[{ on := 3, ground := Ground.guard }], guard := some (3, false) },
  { dst := some 90, op := Op.indexAddr 56 (Operand.tmp 88) (Operand.tmp 89), type := 0, pos := "law.go:28", after := #[{ on := 5, ground := Ground.data }, { on := 6, ground := Ground.data }, { on := 3, ground := Ground.guard }], guard := some (3, false) },
  { dst := some 91, op := Op.load 28 (Operand.tmp 90), type := 28, pos := "law.go:28", after := #[{ on := 7, ground := Ground.data }, { on := 3, ground := Ground.guard }], guard := some (3, false) },
  { dst := some 92, op := Op.buildSlice 57 6 #[(0, Operand.const (Value.int IntKind.i64 0)), (1, Operand.const (Value.int IntKind.i64 2)), (2, Operand.const (Value.int IntKind.i64 1)), (3, Operand.const (Value.int IntKind.i64 0)), (4, Operand.const (Value.int IntKind.i64 0)), (5, Operand.const (Value.int IntKind.i64 0))], type := 57, pos := "law.go:28", after := #[{ on := 3, ground := Ground.guard }], guard := some (3, false) },
  { dst := some 93, op := Op.move (Operand.tmp 7), type := 3, pos := "law.go:28", after := #[{ on := 3, ground := Ground.guard }], guard := some (3, false) },
  { dst := some 94, op := Op.indexAddr 57 (Operand.tmp 92) (Operand.tmp 93), type := 0, pos := "law.go:28", after := #[{ on := 9, ground := Ground.data }, { on := 10, ground := Ground.data }, { on := 3, ground := Ground.guard }], guard := some (3, false) },
  { dst := some 95, op := Op.load 3 (Operand.tmp 94), type := 3, pos := "law.go:28", after := #[{ on := 11, ground := Ground.data }, { on := 3, ground := Ground.guard }], guard := some (3, false) },
  { dst := some 96, op := Op.call { callee := Callee.value (Operand.func 25), args := #[Operand.tmp 95], argTypes := #[3] }, type := 32, pos := "law.go:28", after := #[{ on := 12, ground := Ground.data }, { on := 3, ground := Ground.chain }, { on := 3, ground := Ground.guard }], guard := some (3, false) },
  { dst := some 97, op := Op.build 34 #[(0, Operand.tmp 91), (1, Operand.tmp 96)], type := 34, pos := "law.go:28", after := #[{ on := 8, ground := Ground.data }, { on := 13, ground := Ground.data }, { on := 3, ground := Ground.guard }], guard := some (3, false) },
  { dst := some 98, op := Op.binOp BinOp.neq 34 (Operand.tmp 87) (Operand.tmp 97) 34, type := 4, pos := "law.go:28", after := #[{ on := 4, ground := Ground.data }, { on := 14, ground := Ground.data }, { on := 3, ground := Ground.guard }], guard := some (3, false) },
  { dst := some 99, op := Op.pick (Operand.tmp 86) (Operand.const (Value.bool true)) (Operand.tmp 98), type := 4, pos := "law.go:28", after := #[{ on := 3, ground := Ground.data }, { on := 15, ground := Ground.data }], guard := none }]
def specKn (g0 c13 j : Nat) (A13 : Option Addr) (E P P1 : Int) (i : Nat) (v : Value) (w : World) : Prop :=
  match i with
  | 0 => v = .slice A13 0 c13
  | 1 => v = .int .i64 0
  | 2 => v = .bool false
  | 3 => v = .bool false
  | 4 => v = .agg #[.int .i64 E, .int .i64 P, .int .i64 1, .int .i64 P1]
  | 5 => ∃ g, v = .slice (some ⟨g, 0, none⟩) 6 6 ∧ w.cell? ⟨g, j, none⟩ = some (.int .i64 E) ∧ g < w.heap.size
  | 6 => v = .int .i64 (j : Int)
  | 7 => ∃ g, v = .pointer (some ⟨g, j, none⟩) ∧ w.cell? ⟨g, j, none⟩ = some (.int .i64 E) ∧ g < w.heap.size
  | 8 => v = .int .i64 E
  | 9 => ∃ g, v = .slice (some ⟨g, 0, none⟩) 6 6 ∧ w.cell? ⟨g, j, none⟩ = some (.int .i64 P) ∧ g < w.heap.size
  | 10 => v = .int .i64 (j : Int)
  | 11 => ∃ g, v = .pointer (some ⟨g, j, none⟩) ∧ w.cell? ⟨g, j, none⟩ = some (.int .i64 P) ∧ g < w.heap.size
  | 12 => v = .int .i64 P
  | 13 => v = .agg #[.int .i64 P, .int .i64 1, .int .i64 P1]
  | 14 => v = .agg #[.int .i64 E, .int .i64 P, .int .i64 1, .int .i64 P1]
  | 15 => v = .bool false
  | _ => True
theorem specKn_mono {g0 c13 j : Nat} {A13 : Option Addr} {E P P1 : Int} (i : Nat) (v : Value) (w w' : World) (hi : i < 16) (h : specKn g0 c13 j A13 E P P1 i v w) (hb : Bel w w') : specKn g0 c13 j A13 E P P1 i v w' := by
  match i, hi, h with
  | 0, _, h => exact h
  | 1, _, h => exact h
  | 2, _, h => exact h
  | 3, _, h => exact h
  | 4, _, h => exact h
  | 5, _, h => obtain ⟨g, e, hc, hl⟩ := h; exact ⟨g, e, (hb.cell (p := ⟨g, j, none⟩) hl).trans hc, Nat.lt_of_lt_of_le hl hb.size⟩
  | 6, _, h => exact h
  | 7, _, h => obtain ⟨g, e, hc, hl⟩ := h; exact ⟨g, e, (hb.cell (p := ⟨g, j, none⟩) hl).trans hc, Nat.lt_of_lt_of_le hl hb.size⟩
  | 8, _, h => exact h
  | 9, _, h => obtain ⟨g, e, hc, hl⟩ := h; exact ⟨g, e, (hb.cell (p := ⟨g, j, none⟩) hl).trans hc, Nat.lt_of_lt_of_le hl hb.size⟩
  | 10, _, h => exact h
  | 11, _, h => obtain ⟨g, e, hc, hl⟩ := h; exact ⟨g, e, (hb.cell (p := ⟨g, j, none⟩) hl).trans hc, Nat.lt_of_lt_of_le hl hb.size⟩
  | 12, _, h => exact h
  | 13, _, h => exact h
  | 14, _, h => exact h
  | 15, _, h => exact h
  | q + 16, hi, _ => exact absurd hi (by omega)
def acOKn (g0 c13 j : Nat) (A13 : Option Addr) (E P P1 : Int) (s0 s1 s2 s3 s4 s5 s6 s8 s11 s12 s13 s14 s15 s16 s17 s18 s19 s20 s21 s22 s23 s24 s25 s26 s27 s28 s29 s30 s31 s32 s33 s34 s35 s36 s37 s38 s39 s40 s41 s42 s43 s44 s45 s46 s47 s48 s49 s50 s51 s52 s53 s54 s55 s56 s57 s58 s59 s60 s61 s62 s63 s64 s65 s66 s67 s68 s69 s70 s71 s72 s73 s74 s75 s76 s77 s78 s79 s80 s81 s82 s83 s84 s85 s86 s87 s88 s89 s90 s91 s92 s93 s94 s95 s96 s97 s98 s99 s100 s101 s102 s103 s104 s105 s106 s107 s108 s109 s110 s111 s112 s113 s114 s115 s116 s117 s118 s119 s120 s121 s122 s123 : Value) (df : List Deferred) : Act := { tmps := #[s0, s1, s2, s3, s4, s5, s6, .int .i64 (j : Int), s8, .slice A13 0 c13, .pointer (some ⟨g0, 0, none⟩), s11, s12, s13, s14, s15, s16, s17, s18, s19, s20, s21, s22, s23, s24, s25, s26, s27, s28, s29, s30, s31, s32, s33, s34, s35, s36, s37, s38, s39, s40, s41, s42, s43, s44, s45, s46, s47, s48, s49, s50, s51, s52, s53, s54, s55, s56, s57, s58, s59, s60, s61, s62, s63, s64, s65, s66, s67, s68, s69, s70, s71, s72, s73, s74, s75, s76, s77, s78, s79, s80, s81, s82, s83, s84, s85, s86, s87, s88, s89, s90, s91, s92, s93, s94, s95, s96, s97, s98, s99, s100, s101, s102, s103, s104, s105, s106, s107, s108, s109, s110, s111, s112, s113, s114, s115, s116, s117, s118, s119, s120, s121, s122, s123], defers := df }
def acVKn (g0 c13 j : Nat) (A13 : Option Addr) (E P P1 : Int) (s0 s1 s2 s3 s4 s5 s6 s8 s11 s12 s13 s14 s15 s16 s17 s18 s19 s20 s21 s22 s23 s24 s25 s26 s27 s28 s29 s30 s31 s32 s33 s34 s35 s36 s37 s38 s39 s40 s41 s42 s43 s44 s45 s46 s47 s48 s49 s50 s51 s52 s53 s54 s55 s56 s57 s58 s59 s60 s61 s62 s63 s64 s65 s66 s67 s68 s69 s70 s71 s72 s73 s74 s75 s76 s77 s78 s79 s80 s81 s82 s83 s84 s85 s86 s87 s88 s89 s90 s91 s92 s93 s94 s95 s96 s97 s98 s99 s100 s101 s102 s103 s104 s105 s106 s107 s108 s109 s110 s111 s112 s113 s114 s115 s116 s117 s118 s119 s120 s121 s122 s123 : Value) (df : List Deferred) (V : Nat → Value) : Act := { tmps := #[s0, s1, s2, s3, s4, s5, s6, .int .i64 (j : Int), s8, .slice A13 0 c13, .pointer (some ⟨g0, 0, none⟩), s11, s12, s13, s14, s15, s16, s17, s18, s19, s20, s21, s22, s23, s24, s25, s26, s27, s28, s29, s30, s31, s32, s33, s34, s35, s36, s37, s38, s39, s40, s41, s42, s43, s44, s45, s46, s47, s48, s49, s50, s51, s52, s53, s54, s55, s56, s57, s58, s59, s60, s61, s62, s63, s64, s65, s66, s67, s68, s69, s70, s71, s72, s73, s74, s75, s76, s77, s78, s79, s80, s81, s82, V 0, V 1, V 2, V 3, V 4, V 5, V 6, V 7, V 8, V 9, V 10, V 11, V 12, V 13, V 14, V 15, s99, s100, s101, s102, s103, s104, s105, s106, s107, s108, s109, s110, s111, s112, s113, s114, s115, s116, s117, s118, s119, s120, s121, s122, s123], defers := df }
theorem regKn_tail : tailB .any regKn.toArray 16 = true := by kernel_rfl
theorem regKn_fwd : fwdB regKn.toArray 16 = true := by kernel_rfl
theorem regKn_slots : slotsB regKn.toArray 124 = true := by kernel_rfl
theorem regKn_seq : Region.seqB .any regKn.toArray (regKn.length - 16) 16 (Array.replicate 16 true ++ Array.replicate (regKn.length - 16) false) = true := by kernel_rfl
set_option maxRecDepth 100000 in
set_option maxHeartbeats 8000000 in
theorem regKn_any {id : Nat} (g0 c13 j : Nat) (A13 : Option Addr) (E P P1 : Int) (s0 s1 s2 s3 s4 s5 s6 s8 s11 s12 s13 s14 s15 s16 s17 s18 s19 s20 s21 s22 s23 s24 s25 s26 s27 s28 s29 s30 s31 s32 s33 s34 s35 s36 s37 s38 s39 s40 s41 s42 s43 s44 s45 s46 s47 s48 s49 s50 s51 s52 s53 s54 s55 s56 s57 s58 s59 s60 s61 s62 s63 s64 s65 s66 s67 s68 s69 s70 s71 s72 s73 s74 s75 s76 s77 s78 s79 s80 s81 s82 s83 s84 s85 s86 s87 s88 s89 s90 s91 s92 s93 s94 s95 s96 s97 s98 s99 s100 s101 s102 s103 s104 s105 s106 s107 s108 s109 s110 s111 s112 s113 s114 s115 s116 s117 s118 s119 s120 s121 s122 s123 : Value) (df : List Deferred) (w : World) (i1 : (0 : Int) ≤ (j : Int)) (i2 : (j : Int) < 6) (h0 : g0 < w.drew.heap.size) (t0 : w.drew.cell? ⟨g0, 0, none⟩ = some (.int .i64 E)) (t1 : w.drew.cell? ⟨g0, 1, none⟩ = some (.int .i64 P)) (t2 : w.drew.cell? ⟨g0, 2, none⟩ = some (.int .i64 1)) (t3 : w.drew.cell? ⟨g0, 3, none⟩ = some (.int .i64 P1)) (HC1 : ∀ W : World, (W.alloc (.cells #[.int .i64 100, .int .i64 100, .int .i64 100, .int .i64 102, .int .i64 101, .int .i64 3] 28)).cell? ⟨W.heap.size, j, none⟩ = some (.int .i64 E)) (HC2 : ∀ W : World, (W.alloc (.cells #[.int .i64 0, .int .i64 2, .int .i64 1, .int .i64 0, .int .i64 0, .int .i64 0] 3)).cell? ⟨W.heap.size, j, none⟩ = some (.int .i64 P)) (HAT : ∀ W, Calls Tryz.prog 25 #[.int .i64 P] W fun e w' => e = .returned (.agg #[.int .i64 P, .int .i64 1, .int .i64 P1]) ∧ Bel W w') (hed : ∀ W, (Op.equalIn 10000 34 (.agg #[.int .i64 E, .int .i64 P, .int .i64 1, .int .i64 P1]) (.agg #[.int .i64 E, .int .i64 P, .int .i64 1, .int .i64 P1])).run Tryz.prog W = .ok true W) (Q : Exit → Act → World → Prop)
    (hend : ∀ (V : Nat → Value) (w' : World), Bel w.drew w' → ((V 3) = .bool false) → ((V 15) = .bool false) → wpList Tryz.prog regKn.toArray Q (regKn.drop 16) (acVKn g0 c13 j A13 E P P1 s0 s1 s2 s3 s4 s5 s6 s8 s11 s12 s13 s14 s15 s16 s17 s18 s19 s20 s21 s22 s23 s24 s25 s26 s27 s28 s29 s30 s31 s32 s33 s34 s35 s36 s37 s38 s39 s40 s41 s42 s43 s44 s45 s46 s47 s48 s49 s50 s51 s52 s53 s54 s55 s56 s57 s58 s59 s60 s61 s62 s63 s64 s65 s66 s67 s68 s69 s70 s71 s72 s73 s74 s75 s76 s77 s78 s79 s80 s81 s82 s83 s84 s85 s86 s87 s88 s89 s90 s91 s92 s93 s94 s95 s96 s97 s98 s99 s100 s101 s102 s103 s104 s105 s106 s107 s108 s109 s110 s111 s112 s113 s114 s115 s116 s117 s118 s119 s120 s121 s122 s123 df V) w') :
    (Code.region id regKn.toArray true).wp Tryz.prog Q (acOKn g0 c13 j A13 E P P1 s0 s1 s2 s3 s4 s5 s6 s8 s11 s12 s13 s14 s15 s16 s17 s18 s19 s20 s21 s22 s23 s24 s25 s26 s27 s28 s29 s30 s31 s32 s33 s34 s35 s36 s37 s38 s39 s40 s41 s42 s43 s44 s45 s46 s47 s48 s49 s50 s51 s52 s53 s54 s55 s56 s57 s58 s59 s60 s61 s62 s63 s64 s65 s66 s67 s68 s69 s70 s71 s72 s73 s74 s75 s76 s77 s78 s79 s80 s81 s82 s83 s84 s85 s86 s87 s88 s89 s90 s91 s92 s93 s94 s95 s96 s97 s98 s99 s100 s101 s102 s103 s104 s105 s106 s107 s108 s109 s110 s111 s112 s113 s114 s115 s116 s117 s118 s119 s120 s121 s122 s123 df) w := by
  refine wp_region_invG (l := regKn) 16 (acOKn g0 c13 j A13 E P P1 s0 s1 s2 s3 s4 s5 s6 s8 s11 s12 s13 s14 s15 s16 s17 s18 s19 s20 s21 s22 s23 s24 s25 s26 s27 s28 s29 s30 s31 s32 s33 s34 s35 s36 s37 s38 s39 s40 s41 s42 s43 s44 s45 s46 s47 s48 s49 s50 s51 s52 s53 s54 s55 s56 s57 s58 s59 s60 s61 s62 s63 s64 s65 s66 s67 s68 s69 s70 s71 s72 s73 s74 s75 s76 s77 s78 s79 s80 s81 s82 s83 s84 s85 s86 s87 s88 s89 s90 s91 s92 s93 s94 s95 s96 s97 s98 s99 s100 s101 s102 s103 s104 s105 s106 s107 s108 s109 s110 s111 s112 s113 s114 s115 s116 s117 s118 s119 s120 s121 s122 s123 df) w (specKn g0 c13 j A13 E P P1) (by kernel_rfl) regKn_tail regKn_fwd regKn_slots regKn_seq (fun i v w w' hi h hb => specKn_mono i v w w' hi h hb) ?_ ?_
  · intro i' o hi' ho a w1 V hbel hdep hpar K hK
    have p9 : a.eval (.tmp 9) = .slice A13 0 c13 := hpar 9 (by show 9 < 124; decide) (by kernel_rfl)
    have p9' : a.tmps[9]?.getD undef = .slice A13 0 c13 := by have h := p9; simp only [Act.eval, Array.getD_eq_getD_getElem?] at h; exact h
    have p10 : a.eval (.tmp 10) = .pointer (some ⟨g0, 0, none⟩) := hpar 10 (by show 10 < 124; decide) (by kernel_rfl)
    have p10' : a.tmps[10]?.getD undef = .pointer (some ⟨g0, 0, none⟩) := by have h := p10; simp only [Act.eval, Array.getD_eq_getD_getElem?] at h; exact h
    have p7 : a.eval (.tmp 7) = .int .i64 (j : Int) := hpar 7 (by show 7 < 124; decide) (by kernel_rfl)
    have p7' : a.tmps[7]?.getD undef = .int .i64 (j : Int) := by have h := p7; simp only [Act.eval, Array.getD_eq_getD_getElem?] at h; exact h
    have s0 := (hbel.cell (p := ⟨g0, 0, none⟩) h0).trans t0
    have s1 := (hbel.cell (p := ⟨g0, 1, none⟩) h0).trans t1
    have s2 := (hbel.cell (p := ⟨g0, 2, none⟩) h0).trans t2
    have s3 := (hbel.cell (p := ⟨g0, 3, none⟩) h0).trans t3
    match i', hi', ho, hdep, hK with
    | 0, _, ho, hdep, hK =>
      simp only [regKn, List.getElem?_toArray, List.getElem?_cons_zero, Option.some.injEq] at ho
      subst ho
      refine ⟨fun _ => ?_, fun hw => (yw_n rfl hw).elim⟩
      exact wp_val (v := .slice A13 0 c13) (w' := w1) (by simp [execOp, go_sem, p9']) (hK _ _ (Bel.refl _) rfl)
    | 1, _, ho, hdep, hK =>
      simp only [regKn, List.getElem?_toArray, List.getElem?_cons_zero, List.getElem?_cons_succ, Option.some.injEq] at ho
      subst ho
      refine ⟨fun _ => ?_, fun hw => (yw_n rfl hw).elim⟩
      obtain ⟨f0, d0⟩ := hdep ⟨0, .data⟩ (by simp) rfl
      have e0 : a.eval (.tmp 83) = .slice A13 0 c13 := (d0 83 rfl).trans f0
      have e0' : a.tmps[83]?.getD undef = .slice A13 0 c13 := by have h := e0; simp only [Act.eval, Array.getD_eq_getD_getElem?] at h; exact h
      exact wp_val (v := .int .i64 0) (w' := w1) (by simp [go_sem, e0']) (hK _ _ (Bel.refl _) rfl)
    | 2, _, ho, hdep, hK =>
      simp only [regKn, List.getElem?_toArray, List.getElem?_cons_zero, List.getElem?_cons_succ, Option.some.injEq] at ho
      subst ho
      refine ⟨fun _ => ?_, fun hw => (yw_n rfl hw).elim⟩
      obtain ⟨f1, d1⟩ := hdep ⟨1, .data⟩ (by simp) rfl
      have e1 : a.eval (.tmp 84) = .int .i64 0 := (d1 84 rfl).trans f1
      have e1' : a.tmps[84]?.getD undef = .int .i64 0 := by have h := e1; simp only [Act.eval, Array.getD_eq_getD_getElem?] at h; exact h
      exact wp_val (v := .bool false) (w' := w1) (by simp [execOp, go_sem, e1']) (hK _ _ (Bel.refl _) rfl)
    | 3, _, ho, hdep, hK =>
      simp only [regKn, List.getElem?_toArray, List.getElem?_cons_zero, List.getElem?_cons_succ, Option.some.injEq] at ho
      subst ho
      refine ⟨fun _ => ?_, fun hw => (yw_n rfl hw).elim⟩
      obtain ⟨f2, d2⟩ := hdep ⟨2, .data⟩ (by simp) rfl
      have e2 : a.eval (.tmp 85) = .bool false := (d2 85 rfl).trans f2
      have e2' : a.tmps[85]?.getD undef = .bool false := by have h := e2; simp only [Act.eval, Array.getD_eq_getD_getElem?] at h; exact h
      exact wp_val (v := .bool false) (w' := w1) (by simp [execOp, go_sem, e2']) (hK _ _ (Bel.refl _) rfl)
    | 4, _, ho, hdep, hK =>
      simp only [regKn, List.getElem?_toArray, List.getElem?_cons_zero, List.getElem?_cons_succ, Option.some.injEq] at ho
      subst ho
      obtain ⟨fg, dg⟩ := hdep ⟨3, .guard⟩ (by simp) rfl
      have eg : a.tmps.getD 86 undef = .bool false := (dg 86 rfl).trans fg
      refine ⟨fun _ => ?_, fun hw => (yw_f (d := 86) rfl rfl eg hw).elim⟩
      exact wp_val (v := .agg #[.int .i64 E, .int .i64 P, .int .i64 1, .int .i64 P1]) (w' := w1) (by simp [execOp, go_sem, p10', s0, s1, s2, s3]) (hK _ _ (Bel.refl _) rfl)
    | 5, _, ho, hdep, hK =>
      simp only [regKn, List.getElem?_toArray, List.getElem?_cons_zero, List.getElem?_cons_succ, Option.some.injEq] at ho
      subst ho
      obtain ⟨fg, dg⟩ := hdep ⟨3, .guard⟩ (by simp) rfl
      have eg : a.tmps.getD 86 undef = .bool false := (dg 86 rfl).trans fg
      refine ⟨fun _ => ?_, fun hw => (yw_f (d := 86) rfl rfl eg hw).elim⟩
      exact wp_val (v := .slice (some ⟨w1.heap.size, 0, none⟩) 6 6) (w' := w1.alloc (.cells #[.int .i64 100, .int .i64 100, .int .i64 100, .int .i64 102, .int .i64 101, .int .i64 3] 28)) (by simp [execOp, go_sem]) (hK _ _ ((Bel.refl w1).alloc _) ⟨w1.heap.size, rfl, HC1 w1, by simp⟩)
    | 6, _, ho, hdep, hK =>
      simp only [regKn, List.getElem?_toArray, List.getElem?_cons_zero, List.getElem?_cons_succ, Option.some.injEq] at ho
      subst ho
      obtain ⟨fg, dg⟩ := hdep ⟨3, .guard⟩ (by simp) rfl
      have eg : a.tmps.getD 86 undef = .bool false := (dg 86 rfl).trans fg
      refine ⟨fun _ => ?_, fun hw => (yw_f (d := 86) rfl rfl eg hw).elim⟩
      exact wp_val (v := .int .i64 (j : Int)) (w' := w1) (by simp [execOp, go_sem, p7']) (hK _ _ (Bel.refl _) rfl)
    | 7, _, ho, hdep, hK =>
      simp only [regKn, List.getElem?_toArray, List.getElem?_cons_zero, List.getElem?_cons_succ, Option.some.injEq] at ho
      subst ho
      obtain ⟨fg, dg⟩ := hdep ⟨3, .guard⟩ (by simp) rfl
      have eg : a.tmps.getD 86 undef = .bool false := (dg 86 rfl).trans fg
      refine ⟨fun _ => ?_, fun hw => (yw_f (d := 86) rfl rfl eg hw).elim⟩
      obtain ⟨f5, d5⟩ := hdep ⟨5, .data⟩ (by simp) rfl
      obtain ⟨g5, hv5, hc5, hl5⟩ := f5
      have e5 : a.eval (.tmp 88) = .slice (some ⟨g5, 0, none⟩) 6 6 := (d5 88 rfl).trans hv5
      have e5' : a.tmps[88]?.getD undef = .slice (some ⟨g5, 0, none⟩) 6 6 := by have h := e5; simp only [Act.eval, Array.getD_eq_getD_getElem?] at h; exact h
      obtain ⟨f6, d6⟩ := hdep ⟨6, .data⟩ (by simp) rfl
      have e6 : a.eval (.tmp 89) = .int .i64 (j : Int) := (d6 89 rfl).trans f6
      have e6' : a.tmps[89]?.getD undef = .int .i64 (j : Int) := by have h := e6; simp only [Act.eval, Array.getD_eq_getD_getElem?] at h; exact h
      exact wp_val (v := .pointer (some ⟨g5, j, none⟩)) (w' := w1) (by simp [execOp, go_sem, e5', e6', i1, i2]) (hK _ _ (Bel.refl _) ⟨g5, rfl, hc5, hl5⟩)
    | 8, _, ho, hdep, hK =>
      simp only [regKn, List.getElem?_toArray, List.getElem?_cons_zero, List.getElem?_cons_succ, Option.some.injEq] at ho
      subst ho
      obtain ⟨fg, dg⟩ := hdep ⟨3, .guard⟩ (by simp) rfl
      have eg : a.tmps.getD 86 undef = .bool false := (dg 86 rfl).trans fg
      refine ⟨fun _ => ?_, fun hw => (yw_f (d := 86) rfl rfl eg hw).elim⟩
      obtain ⟨f7, d7⟩ := hdep ⟨7, .data⟩ (by simp) rfl
      obtain ⟨g7, hv7, hc7, hl7⟩ := f7
      have e7 : a.eval (.tmp 90) = .pointer (some ⟨g7, j, none⟩) := (d7 90 rfl).trans hv7
      have e7' : a.tmps[90]?.getD undef = .pointer (some ⟨g7, j, none⟩) := by have h := e7; simp only [Act.eval, Array.getD_eq_getD_getElem?] at h; exact h
      exact wp_val (v := .int .i64 E) (w' := w1) (by simp [execOp, go_sem, e7', hc7]) (hK _ _ (Bel.refl _) rfl)
    | 9, _, ho, hdep, hK =>
      simp only [regKn, List.getElem?_toArray, List.getElem?_cons_zero, List.getElem?_cons_succ, Option.some.injEq] at ho
      subst ho
      obtain ⟨fg, dg⟩ := hdep ⟨3, .guard⟩ (by simp) rfl
      have eg : a.tmps.getD 86 undef = .bool false := (dg 86 rfl).trans fg
      refine ⟨fun _ => ?_, fun hw => (yw_f (d := 86) rfl rfl eg hw).elim⟩
      exact wp_val (v := .slice (some ⟨w1.heap.size, 0, none⟩) 6 6) (w' := w1.alloc (.cells #[.int .i64 0, .int .i64 2, .int .i64 1, .int .i64 0, .int .i64 0, .int .i64 0] 3)) (by simp [execOp, go_sem]) (hK _ _ ((Bel.refl w1).alloc _) ⟨w1.heap.size, rfl, HC2 w1, by simp⟩)
    | 10, _, ho, hdep, hK =>
      simp only [regKn, List.getElem?_toArray, List.getElem?_cons_zero, List.getElem?_cons_succ, Option.some.injEq] at ho
      subst ho
      obtain ⟨fg, dg⟩ := hdep ⟨3, .guard⟩ (by simp) rfl
      have eg : a.tmps.getD 86 undef = .bool false := (dg 86 rfl).trans fg
      refine ⟨fun _ => ?_, fun hw => (yw_f (d := 86) rfl rfl eg hw).elim⟩
      exact wp_val (v := .int .i64 (j : Int)) (w' := w1) (by simp [execOp, go_sem, p7']) (hK _ _ (Bel.refl _) rfl)
    | 11, _, ho, hdep, hK =>
      simp only [regKn, List.getElem?_toArray, List.getElem?_cons_zero, List.getElem?_cons_succ, Option.some.injEq] at ho
      subst ho
      obtain ⟨fg, dg⟩ := hdep ⟨3, .guard⟩ (by simp) rfl
      have eg : a.tmps.getD 86 undef = .bool false := (dg 86 rfl).trans fg
      refine ⟨fun _ => ?_, fun hw => (yw_f (d := 86) rfl rfl eg hw).elim⟩
      obtain ⟨f9, d9⟩ := hdep ⟨9, .data⟩ (by simp) rfl
      obtain ⟨g9, hv9, hc9, hl9⟩ := f9
      have e9 : a.eval (.tmp 92) = .slice (some ⟨g9, 0, none⟩) 6 6 := (d9 92 rfl).trans hv9
      have e9' : a.tmps[92]?.getD undef = .slice (some ⟨g9, 0, none⟩) 6 6 := by have h := e9; simp only [Act.eval, Array.getD_eq_getD_getElem?] at h; exact h
      obtain ⟨f10, d10⟩ := hdep ⟨10, .data⟩ (by simp) rfl
      have e10 : a.eval (.tmp 93) = .int .i64 (j : Int) := (d10 93 rfl).trans f10
      have e10' : a.tmps[93]?.getD undef = .int .i64 (j : Int) := by have h := e10; simp only [Act.eval, Array.getD_eq_getD_getElem?] at h; exact h
      exact wp_val (v := .pointer (some ⟨g9, j, none⟩)) (w' := w1) (by simp [execOp, go_sem, e9', e10', i1, i2]) (hK _ _ (Bel.refl _) ⟨g9, rfl, hc9, hl9⟩)
    | 12, _, ho, hdep, hK =>
      simp only [regKn, List.getElem?_toArray, List.getElem?_cons_zero, List.getElem?_cons_succ, Option.some.injEq] at ho
      subst ho
      obtain ⟨fg, dg⟩ := hdep ⟨3, .guard⟩ (by simp) rfl
      have eg : a.tmps.getD 86 undef = .bool false := (dg 86 rfl).trans fg
      refine ⟨fun _ => ?_, fun hw => (yw_f (d := 86) rfl rfl eg hw).elim⟩
      obtain ⟨f11, d11⟩ := hdep ⟨11, .data⟩ (by simp) rfl
      obtain ⟨g11, hv11, hc11, hl11⟩ := f11
      have e11 : a.eval (.tmp 94) = .pointer (some ⟨g11, j, none⟩) := (d11 94 rfl).trans hv11
      have e11' : a.tmps[94]?.getD undef = .pointer (some ⟨g11, j, none⟩) := by have h := e11; simp only [Act.eval, Array.getD_eq_getD_getElem?] at h; exact h
      exact wp_val (v := .int .i64 P) (w' := w1) (by simp [execOp, go_sem, e11', hc11]) (hK _ _ (Bel.refl _) rfl)
    | 13, _, ho, hdep, hK =>
      simp only [regKn, List.getElem?_toArray, List.getElem?_cons_zero, List.getElem?_cons_succ, Option.some.injEq] at ho
      subst ho
      obtain ⟨fg, dg⟩ := hdep ⟨3, .guard⟩ (by simp) rfl
      have eg : a.tmps.getD 86 undef = .bool false := (dg 86 rfl).trans fg
      refine ⟨fun _ => ?_, fun hw => (yw_f (d := 86) rfl rfl eg hw).elim⟩
      obtain ⟨f12, d12⟩ := hdep ⟨12, .data⟩ (by simp) rfl
      have e12 : a.eval (.tmp 95) = .int .i64 P := (d12 95 rfl).trans f12
      have e12' : a.tmps[95]?.getD undef = .int .i64 P := by have h := e12; simp only [Act.eval, Array.getD_eq_getD_getElem?] at h; exact h
      refine wp_enter (f := 25) (args := #[.int .i64 P]) (by simp [go_sem, e12']) ((HAT w1).mono ?_)
      rintro e w' ⟨rfl, hb⟩
      exact ⟨_, rfl, hK _ _ hb rfl⟩
    | 14, _, ho, hdep, hK =>
      simp only [regKn, List.getElem?_toArray, List.getElem?_cons_zero, List.getElem?_cons_succ, Option.some.injEq] at ho
      subst ho
      obtain ⟨fg, dg⟩ := hdep ⟨3, .guard⟩ (by simp) rfl
      have eg : a.tmps.getD 86 undef = .bool false := (dg 86 rfl).trans fg
      refine ⟨fun _ => ?_, fun hw => (yw_f (d := 86) rfl rfl eg hw).elim⟩
      obtain ⟨f8, d8⟩ := hdep ⟨8, .data⟩ (by simp) rfl
      have e8 : a.eval (.tmp 91) = .int .i64 E := (d8 91 rfl).trans f8
      have e8' : a.tmps[91]?.getD undef = .int .i64 E := by have h := e8; simp only [Act.eval, Array.getD_eq_getD_getElem?] at h; exact h
      obtain ⟨f13, d13⟩ := hdep ⟨13, .data⟩ (by simp) rfl
      have e13 : a.eval (.tmp 96) = .agg #[.int .i64 P, .int .i64 1, .int .i64 P1] := (d13 96 rfl).trans f13
      have e13' : a.tmps[96]?.getD undef = .agg #[.int .i64 P, .int .i64 1, .int .i64 P1] := by have h := e13; simp only [Act.eval, Array.getD_eq_getD_getElem?] at h; exact h
      exact wp_val (v := .agg #[.int .i64 E, .int .i64 P, .int .i64 1, .int .i64 P1]) (w' := w1) (by simp [execOp, go_sem, e8', e13']) (hK _ _ (Bel.refl _) rfl)
    | 15, _, ho, hdep, hK =>
      simp only [regKn, List.getElem?_toArray, List.getElem?_cons_zero, List.getElem?_cons_succ, Option.some.injEq] at ho
      subst ho
      obtain ⟨fg, dg⟩ := hdep ⟨3, .guard⟩ (by simp) rfl
      have eg : a.tmps.getD 86 undef = .bool false := (dg 86 rfl).trans fg
      refine ⟨fun _ => ?_, fun hw => (yw_f (d := 86) rfl rfl eg hw).elim⟩
      obtain ⟨f4, d4⟩ := hdep ⟨4, .data⟩ (by simp) rfl
      have e4 : a.eval (.tmp 87) = .agg #[.int .i64 E, .int .i64 P, .int .i64 1, .int .i64 P1] := (d4 87 rfl).trans f4
      have e4' : a.tmps[87]?.getD undef = .agg #[.int .i64 E, .int .i64 P, .int .i64 1, .int .i64 P1] := by have h := e4; simp only [Act.eval, Array.getD_eq_getD_getElem?] at h; exact h
      obtain ⟨f14, d14⟩ := hdep ⟨14, .data⟩ (by simp) rfl
      have e14 : a.eval (.tmp 97) = .agg #[.int .i64 E, .int .i64 P, .int .i64 1, .int .i64 P1] := (d14 97 rfl).trans f14
      have e14' : a.tmps[97]?.getD undef = .agg #[.int .i64 E, .int .i64 P, .int .i64 1, .int .i64 P1] := by have h := e14; simp only [Act.eval, Array.getD_eq_getD_getElem?] at h; exact h
      exact wp_val (v := .bool false) (w' := w1) (by simp [execOp, go_sem, e4', e14', hed]) (hK _ _ (Bel.refl _) rfl)
    | q + 16, hi, _, _, _ => exact absurd hi (by omega)
  · intro V w' hb hF
    have e : finA regKn.toArray 16 V (acOKn g0 c13 j A13 E P P1 s0 s1 s2 s3 s4 s5 s6 s8 s11 s12 s13 s14 s15 s16 s17 s18 s19 s20 s21 s22 s23 s24 s25 s26 s27 s28 s29 s30 s31 s32 s33 s34 s35 s36 s37 s38 s39 s40 s41 s42 s43 s44 s45 s46 s47 s48 s49 s50 s51 s52 s53 s54 s55 s56 s57 s58 s59 s60 s61 s62 s63 s64 s65 s66 s67 s68 s69 s70 s71 s72 s73 s74 s75 s76 s77 s78 s79 s80 s81 s82 s83 s84 s85 s86 s87 s88 s89 s90 s91 s92 s93 s94 s95 s96 s97 s98 s99 s100 s101 s102 s103 s104 s105 s106 s107 s108 s109 s110 s111 s112 s113 s114 s115 s116 s117 s118 s119 s120 s121 s122 s123 df) = acVKn g0 c13 j A13 E P P1 s0 s1 s2 s3 s4 s5 s6 s8 s11 s12 s13 s14 s15 s16 s17 s18 s19 s20 s21 s22 s23 s24 s25 s26 s27 s28 s29 s30 s31 s32 s33 s34 s35 s36 s37 s38 s39 s40 s41 s42 s43 s44 s45 s46 s47 s48 s49 s50 s51 s52 s53 s54 s55 s56 s57 s58 s59 s60 s61 s62 s63 s64 s65 s66 s67 s68 s69 s70 s71 s72 s73 s74 s75 s76 s77 s78 s79 s80 s81 s82 s83 s84 s85 s86 s87 s88 s89 s90 s91 s92 s93 s94 s95 s96 s97 s98 s99 s100 s101 s102 s103 s104 s105 s106 s107 s108 s109 s110 s111 s112 s113 s114 s115 s116 s117 s118 s119 s120 s121 s122 s123 df V := by kernel_rfl
    rw [e]
    exact hend V w' hb (hF 3 (by omega)) (hF 15 (by omega))
end Go.Proofs.YteockaolmobmeaaGreatDoor.Mu

