/-
  ElimKnown's last region. (Written by gen_known5.py.)
-/
import Derived.Test.YtlbachjhhjjmfaaElimW
namespace Go.Proofs.Ytlbachjhhjjmfaa.Mu
open Go.ChangeShapes Go.WideShapes Go.ChangeAt Go.RowKit Go.Shelf

attribute [local go_sem] Oper.semAt_some

def regK : List Oper := [
  { dst := some 48, op := Op.call { callee := Callee.value (Operand.func 10), args := #[], argTypes := #[] }, type := 4, pos := "law.go:38", after := #[], guard := none },
  { dst := some 49, op := Op.move (Operand.tmp 48), type := 4, pos := "law.go:38", after := #[{ on := 0, ground := Ground.data }, { on := 0, ground := Ground.chain }], guard := none },
  { dst := some 50, op := Op.move (Operand.tmp 3), type := 27, pos := "law.go:38", after := #[{ on := 1, ground := Ground.guard }], guard := some (1, true) },
  { dst := some 51, op := Op.binOp BinOp.eql 27 (Operand.tmp 50) (Operand.const (Value.int IntKind.i64 0)) 27, type := 4, pos := "law.go:38", after := #[{ on := 2, ground := Ground.data }, { on := 1, ground := Ground.guard }], guard := some (1, true) },
  { dst := some 52, op := Op.pick (Operand.tmp 49) (Operand.tmp 51) (Operand.const (Value.bool false)), type := 4, pos := "law.go:38", after := #[{ on := 1, ground := Ground.data }, { on := 3, ground := Ground.data }], guard := none },
  { dst := some 53, op := Op.move (Operand.tmp 52), type := 4, pos := "law.go:38", after := #[{ on := 4, ground := Ground.data }, { on := 1, ground := Ground.chain }], guard := none },
  { dst := some 54, op := Op.move (Operand.tmp 5), type := 27, pos := "law.go:38", after := #[{ on := 5, ground := Ground.guard }], guard := some (5, true) },
  { dst := some 55, op := Op.binOp BinOp.eql 27 (Operand.tmp 54) (Operand.const (Value.int IntKind.i64 0)) 27, type := 4, pos := "law.go:38", after := #[{ on := 6, ground := Ground.data }, { on := 5, ground := Ground.guard }], guard := some (5, true) },
  { dst := some 56, op := Op.pick (Operand.tmp 53) (Operand.tmp 55) (Operand.const (Value.bool false)), type := 4, pos := "law.go:38", after := #[{ on := 5, ground := Ground.data }, { on := 7, ground := Ground.data }], guard := none },
  { dst := some 57, op := Op.move (Operand.tmp 56), type := 4, pos := "law.go:38", after := #[{ on := 8, ground := Ground.data }, { on := 5, ground := Ground.chain }], guard := none },
  { dst := some 58, op := Op.move (Operand.tmp 7), type := 27, pos := "law.go:38", after := #[{ on := 9, ground := Ground.guard }], guard := some (9, true) },
  { dst := some 59, op := Op.binOp BinOp.eql 27 (Operand.tmp 58) (Operand.const (Value.int IntKind.i64 40)) 27, type := 4, pos := "law.go:38", after := #[{ on := 10, ground := Ground.data }, { on := 9, ground := Ground.guard }], guard := some (9, true) },
  { dst := some 60, op := Op.pick (Operand.tmp 57) (Operand.tmp 59) (Operand.const (Value.bool false)), type := 4, pos := "law.go:38", after := #[{ on := 9, ground := Ground.data }, { on := 11, ground := Ground.data }], guard := none },
  { dst := some 61, op := Op.move (Operand.tmp 60), type := 4, pos := "law.go:38", after := #[{ on := 12, ground := Ground.data }, { on := 9, ground := Ground.chain }], guard := none },
  { dst := some 62, op := Op.move (Operand.tmp 9), type := 27, pos := "law.go:38", after := #[{ on := 13, ground := Ground.guard }], guard := some (13, true) },
  { dst := some 63, op := Op.binOp BinOp.eql 27 (Operand.tmp 62) (Operand.const (Value.int IntKind.i64 3)) 27, type := 4, pos := "law.go:38", after := #[{ on := 14, ground := Ground.data }, { on := 13, ground := Ground.guard }], guard := some (13, true) },
  { dst := some 64, op := Op.pick (Operand.tmp 61) (Operand.tmp 63) (Operand.const (Value.bool false)), type := 4, pos := "law.go:38", after := #[{ on := 13, ground := Ground.data }, { on := 15, ground := Ground.data }], guard := none },
  { dst := some 65, op := Op.move (Operand.tmp 64), type := 4, pos := "law.go:38", after := #[{ on := 16, ground := Ground.data }, { on := 13, ground := Ground.chain }], guard := none },
  { dst := some 66, op := Op.move (Operand.tmp 11), type := 27, pos := "law.go:38", after := #[{ on := 17, ground := Ground.guard }], guard := some (17, true) },
  { dst := some 67, op := Op.binOp BinOp.eql 27 (Operand.tmp 66) (Operand.const (Value.int IntKind.i64 2)) 27, type := 4, pos := "law.go:38", after := #[{ on := 18, ground := Ground.data }, { on := 17, ground := Ground.guard }], guard := some (17, true) },
  { dst := some 68, op := Op.pick (Operand.tmp 65) (Operand.tmp 67) (Operand.const (Value.bool false)), type := 4, pos := "law.go:38", after := #[{ on := 17, ground := Ground.data }, { on := 19, ground := Ground.data }], guard := none },
  { dst := some 69, op := Op.move (Operand.tmp 68), type := 4, pos := "law.go:38", after := #[{ on := 20, ground := Ground.data }, { on := 17, ground := Ground.chain }], guard := none },
  { dst := some 70, op := Op.load 26 (Operand.tmp 2), type := 26, pos := "law.go:38", after := #[{ on := 21, ground := Ground.guard }], guard := some (21, true) },
  { dst := some 71, op := Op.build 41 #[(0, Operand.const (Value.int IntKind.u8 2)), (1, Operand.const (Value.int IntKind.u8 2))], type := 41, pos := "law.go:38", after := #[{ on := 21, ground := Ground.guard }], guard := some (21, true) },
  { dst := some 72, op := Op.build 41 #[(0, Operand.const (Value.int IntKind.u8 3)), (1, Operand.const (Value.int IntKind.u8 3))], type := 41, pos := "law.go:38", after := #[{ on := 21, ground := Ground.guard }], guard := some (21, true) },
  { dst := some 73, op := Op.call { callee := Callee.value (Operand.func 12), args := #[Operand.tmp 71, Operand.tmp 72, Operand.const (Value.int IntKind.u8 1), Operand.const (Value.int IntKind.u8 3)], argTypes := #[41, 41, 30, 30] }, type := 26, pos := "law.go:38", after := #[{ on := 23, ground := Ground.data }, { on := 24, ground := Ground.data }, { on := 21, ground := Ground.chain }, { on := 21, ground := Ground.guard }], guard := some (21, true) },
  { dst := some 74, op := Op.call { callee := Callee.value (Operand.func 11), args := #[Operand.tmp 70, Operand.tmp 73], argTypes := #[26, 26] }, type := 4, pos := "law.go:38", after := #[{ on := 22, ground := Ground.data }, { on := 25, ground := Ground.data }, { on := 25, ground := Ground.chain }, { on := 21, ground := Ground.guard }], guard := some (21, true) },
  { dst := some 75, op := Op.pick (Operand.tmp 69) (Operand.tmp 74) (Operand.const (Value.bool false)), type := 4, pos := "law.go:38", after := #[{ on := 21, ground := Ground.data }, { on := 26, ground := Ground.data }], guard := none },
  { dst := some 76, op := Op.move (Operand.tmp 75), type := 4, pos := "law.go:38", after := #[{ on := 27, ground := Ground.data }, { on := 26, ground := Ground.chain }], guard := none },
  { dst := some 77, op := Op.load 26 (Operand.tmp 4), type := 26, pos := "law.go:38", after := #[{ on := 28, ground := Ground.guard }], guard := some (28, true) },
  { dst := some 78, op := Op.build 41 #[(0, Operand.const (Value.int IntKind.u8 1)), (1, Operand.const (Value.int IntKind.u8 1))], type := 41, pos := "law.go:38", after := #[{ on := 28, ground := Ground.guard }], guard := some (28, true) },
  { dst := some 79, op := Op.build 41 #[(0, Operand.const (Value.int IntKind.u8 3)), (1, Operand.const (Value.int IntKind.u8 2))], type := 41, pos := "law.go:38", after := #[{ on := 28, ground := Ground.guard }], guard := some (28, true) },
  { dst := some 80, op := Op.call { callee := Callee.value (Operand.func 12), args := #[Operand.tmp 78, Operand.tmp 79, Operand.const (Value.int IntKind.u8 3), Operand.const (Value.int IntKind.u8 1)], argTypes := #[41, 41, 30, 30] }, type := 26, pos := "law.go:38", after := #[{ on := 30, ground := Ground.data }, { on := 31, ground := Ground.data }, { on := 28, ground := Ground.chain }, { on := 28, ground := Ground.guard }], guard := some (28, true) },
  { dst := some 81, op := Op.call { callee := Callee.value (Operand.func 11), args := #[Operand.tmp 77, Operand.tmp 80], argTypes := #[26, 26] }, type := 4, pos := "law.go:38", after := #[{ on := 29, ground := Ground.data }, { on := 32, ground := Ground.data }, { on := 32, ground := Ground.chain }, { on := 28, ground := Ground.guard }], guard := some (28, true) },
  { dst := some 82, op := Op.pick (Operand.tmp 76) (Operand.tmp 81) (Operand.const (Value.bool false)), type := 4, pos := "law.go:38", after := #[{ on := 28, ground := Ground.data }, { on := 33, ground := Ground.data }], guard := none },
  { dst := some 0, op := Op.assign (Operand.tmp 82), type := 4, pos := "law.go:38", after := #[{ on := 34, ground := Ground.data }, { on := 33, ground := Ground.chain }, { on := 0, ground := Ground.phase }, { on := 1, ground := Ground.phase }, { on := 2, ground := Ground.phase }, { on := 3, ground := Ground.phase }, { on := 4, ground := Ground.phase }, { on := 5, ground := Ground.phase }, { on := 6, ground := Ground.phase }, { on := 7, ground := Ground.phase }, { on := 8, ground := Ground.phase }, { on := 9, ground := Ground.phase }, { on := 10, ground := Ground.phase }, { on := 11, ground := Ground.phase }, { on := 12, ground := Ground.phase }, { on := 13, ground := Ground.phase }, { on := 14, ground := Ground.phase }, { on := 15, ground := Ground.phase }, { on := 16, ground := Ground.phase }, { on := 17, ground := Ground.phase }, { on := 18, ground := Ground.phase }, { on := 19, ground := Ground.phase }, { on := 20, ground := Ground.phase }, { on := 21, ground := Ground.phase }, { on := 22, ground := Ground.phase }, { on := 23, ground := Ground.phase }, { on := 24, ground := Ground.phase }, { on := 25, ground := Ground.phase }, { on := 26, ground := Ground.phase }, { on := 27, ground := Ground.phase }, { on := 28, ground := Ground.phase }, { on := 29, ground := Ground.phase }, { on := 30, ground := Ground.phase }, { on := 31, ground := Ground.phase }, { on := 32, ground := Ground.phase }, { on := 33, ground := Ground.phase }, { on := 34, ground := Ground.phase }], guard := none }]
def specK (LA UA PA LB UB PB : Option Addr) (lc uc pc lcb ucb pcb : Nat) (a : Nat) (v : Value) (w : World) : Prop :=
  match a with
  | 0 => v = .bool true
  | 1 => v = .bool true
  | 2 => v = .int .i64 0
  | 3 => v = .bool true
  | 4 => v = .bool true
  | 5 => v = .bool true
  | 6 => v = .int .i64 0
  | 7 => v = .bool true
  | 8 => v = .bool true
  | 9 => v = .bool true
  | 10 => v = .int .i64 40
  | 11 => v = .bool true
  | 12 => v = .bool true
  | 13 => v = .bool true
  | 14 => v = .int .i64 3
  | 15 => v = .bool true
  | 16 => v = .bool true
  | 17 => v = .bool true
  | 18 => v = .int .i64 2
  | 19 => v = .bool true
  | 20 => v = .bool true
  | 21 => v = .bool true
  | 22 => v = .agg #[.slice LA 2 lc, .slice UA 2 uc, .slice PA 2 pc]
  | 23 => v = .agg #[.int .u8 2, .int .u8 2]
  | 24 => v = .agg #[.int .u8 3, .int .u8 3]
  | 25 => ToldIs 2 2 3 3 1 3 w v
  | 26 => v = .bool true
  | 27 => v = .bool true
  | 28 => v = .bool true
  | 29 => v = .agg #[.slice LB 2 lcb, .slice UB 2 ucb, .slice PB 2 pcb]
  | 30 => v = .agg #[.int .u8 1, .int .u8 1]
  | 31 => v = .agg #[.int .u8 3, .int .u8 2]
  | 32 => ToldIs 1 1 3 2 3 1 w v
  | 33 => v = .bool true
  | 34 => v = .bool true
  | _ => True
theorem specK_mono {LA UA PA LB UB PB : Option Addr} {lc uc pc lcb ucb pcb : Nat} (a : Nat) (v : Value) (w w' : World) (hi : a < 35) (h : specK LA UA PA LB UB PB lc uc pc lcb ucb pcb a v w) (hb : Bel w w') : specK LA UA PA LB UB PB lc uc pc lcb ucb pcb a v w' := by
  match a, hi, h with
  | 0, _, h => exact h
  | 1, _, h => exact h
  | 2, _, h => exact h
  | 3, _, h => exact h
  | 4, _, h => exact h
  | 5, _, h => exact h
  | 6, _, h => exact h
  | 7, _, h => exact h
  | 8, _, h => exact h
  | 9, _, h => exact h
  | 10, _, h => exact h
  | 11, _, h => exact h
  | 12, _, h => exact h
  | 13, _, h => exact h
  | 14, _, h => exact h
  | 15, _, h => exact h
  | 16, _, h => exact h
  | 17, _, h => exact h
  | 18, _, h => exact h
  | 19, _, h => exact h
  | 20, _, h => exact h
  | 21, _, h => exact h
  | 22, _, h => exact h
  | 23, _, h => exact h
  | 24, _, h => exact h
  | 25, _, h => exact h.bel hb
  | 26, _, h => exact h
  | 27, _, h => exact h
  | 28, _, h => exact h
  | 29, _, h => exact h
  | 30, _, h => exact h
  | 31, _, h => exact h
  | 32, _, h => exact h.bel hb
  | 33, _, h => exact h
  | 34, _, h => exact h
  | q + 35, hi, _ => exact absurd hi (by omega)
theorem regK_tail : tailB .any regK.toArray 35 = true := by kernel_rfl
theorem regK_fwd : fwdB regK.toArray 35 = true := by kernel_rfl
theorem regK_slots : slotsB regK.toArray 83 = true := by kernel_rfl
theorem regK_seq : Region.seqB .any regK.toArray (regK.length - 35) 35 (Array.replicate 35 true ++ Array.replicate (regK.length - 35) false) = true := by kernel_rfl
def actK (ta tb : Nat) (u1 u6 u8 u10 u12 u13 u14 u15 u16 u17 u18 u19 u20 u21 u22 u23 u24 u25 u26 u27 u28 u29 u30 u31 u32 u33 u34 u35 u36 u37 u38 u39 u40 u41 u42 u43 u44 u45 u46 u47 : Value) (V : Nat → Value) : Act :=
  { tmps := #[.bool false, u1, .pointer (some ⟨ta, 0, none⟩), .int .i64 0, .pointer (some ⟨tb, 0, none⟩), .int .i64 0, u6, .int .i64 40, u8, .int .i64 3, u10, .int .i64 2, u12, u13, u14, u15, u16, u17, u18, u19, u20, u21, u22, u23, u24, u25, u26, u27, u28, u29, u30, u31, u32, u33, u34, u35, u36, u37, u38, u39, u40, u41, u42, u43, u44, u45, u46, u47, V 0, V 1, V 2, V 3, V 4, V 5, V 6, V 7, V 8, V 9, V 10, V 11, V 12, V 13, V 14, V 15, V 16, V 17, V 18, V 19, V 20, V 21, V 22, V 23, V 24, V 25, V 26, V 27, V 28, V 29, V 30, V 31, V 32, V 33, V 34], defers := [] }
set_option maxRecDepth 100000 in
set_option maxHeartbeats 4000000 in
theorem regK_any {id : Nat} (LA UA PA LB UB PB : Option Addr) (lc uc pc lcb ucb pcb : Nat) (rows rowsB : List (Option Addr × Nat × Nat × List Int)) (ta tb : Nat) {u1 u6 u8 u10 u12 u13 u14 u15 u16 u17 u18 u19 u20 u21 u22 u23 u24 u25 u26 u27 u28 u29 u30 u31 u32 u33 u34 u35 u36 u37 u38 u39 u40 u41 u42 u43 u44 u45 u46 u47 : Value} (w : World) (hVA : TabV LA lc UA uc PA pc 2 [2, 2] [3, 3] rows w) (hVB : TabV LB lcb UB ucb PB pcb 2 [1, 1] [3, 2] rowsB w) (hrA : rows.map (fun r => r.2.2.2) = [[1, 1], [3, 1]]) (hrB : rowsB.map (fun r => r.2.2.2) = [[1, 3], [1, 1]])
    (a0 : w.cell? ⟨ta, 0, none⟩ = some (.slice LA 2 lc)) (a1 : w.cell? ⟨ta, 1, none⟩ = some (.slice UA 2 uc)) (a2 : w.cell? ⟨ta, 2, none⟩ = some (.slice PA 2 pc)) (b0 : w.cell? ⟨tb, 0, none⟩ = some (.slice LB 2 lcb)) (b1 : w.cell? ⟨tb, 1, none⟩ = some (.slice UB 2 ucb)) (b2 : w.cell? ⟨tb, 2, none⟩ = some (.slice PB 2 pcb)) (hla : ta < w.drew.heap.size) (hlb : tb < w.drew.heap.size) (Q : Exit → Act → World → Prop)
    (hend : ∀ (V : Nat → Value) (w' : World), Bel w.drew w' → V 34 = .bool true → wpList Try.prog regK.toArray Q (regK.drop 35) (actK ta tb u1 u6 u8 u10 u12 u13 u14 u15 u16 u17 u18 u19 u20 u21 u22 u23 u24 u25 u26 u27 u28 u29 u30 u31 u32 u33 u34 u35 u36 u37 u38 u39 u40 u41 u42 u43 u44 u45 u46 u47 V) w') :
    (Code.region id regK.toArray true).wp Try.prog Q (actK ta tb u1 u6 u8 u10 u12 u13 u14 u15 u16 u17 u18 u19 u20 u21 u22 u23 u24 u25 u26 u27 u28 u29 u30 u31 u32 u33 u34 u35 u36 u37 u38 u39 u40 u41 u42 u43 u44 u45 u46 u47 fun _ => undef) w := by
  have hsA : (decide (([2, 2] : List Int) = [2, 2]) && decide (([3, 3] : List Int) = [3, 3]) && decide (listsOf rows = [[1, 1], [3, 1]])) = true := by unfold listsOf; rw [hrA]; rfl
  have hsB : (decide (([1, 1] : List Int) = [1, 1]) && decide (([3, 2] : List Int) = [3, 2]) && decide (listsOf rowsB = [[1, 3], [1, 1]])) = true := by unfold listsOf; rw [hrB]; rfl
  refine wp_region_invG (l := regK) 35 (actK ta tb u1 u6 u8 u10 u12 u13 u14 u15 u16 u17 u18 u19 u20 u21 u22 u23 u24 u25 u26 u27 u28 u29 u30 u31 u32 u33 u34 u35 u36 u37 u38 u39 u40 u41 u42 u43 u44 u45 u46 u47 fun _ => undef) w (specK LA UA PA LB UB PB lc uc pc lcb ucb pcb) (by kernel_rfl) regK_tail regK_fwd regK_slots regK_seq (fun a v w w' hi h hb => specK_mono a v w w' hi h hb) ?_ ?_
  · intro i' o hi' ho a w1 V hbel hdep hpar K hK
    have p2 : a.eval (.tmp 2) = .pointer (some ⟨ta, 0, none⟩) := hpar 2 (by show 2 < 83; decide) (by kernel_rfl)
    have p3 : a.eval (.tmp 3) = .int .i64 0 := hpar 3 (by show 3 < 83; decide) (by kernel_rfl)
    have p4 : a.eval (.tmp 4) = .pointer (some ⟨tb, 0, none⟩) := hpar 4 (by show 4 < 83; decide) (by kernel_rfl)
    have p5 : a.eval (.tmp 5) = .int .i64 0 := hpar 5 (by show 5 < 83; decide) (by kernel_rfl)
    have p7 : a.eval (.tmp 7) = .int .i64 40 := hpar 7 (by show 7 < 83; decide) (by kernel_rfl)
    have p9 : a.eval (.tmp 9) = .int .i64 3 := hpar 9 (by show 9 < 83; decide) (by kernel_rfl)
    have p11 : a.eval (.tmp 11) = .int .i64 2 := hpar 11 (by show 11 < 83; decide) (by kernel_rfl)
    have p2' : a.tmps[2]?.getD undef = .pointer (some ⟨ta, 0, none⟩) := by have h := p2; simp only [Act.eval, Array.getD_eq_getD_getElem?] at h; exact h
    have p4' : a.tmps[4]?.getD undef = .pointer (some ⟨tb, 0, none⟩) := by have h := p4; simp only [Act.eval, Array.getD_eq_getD_getElem?] at h; exact h
    match i', hi', ho, hdep, hK with
    | 0, _, ho, hdep, hK =>
      simp only [regK, List.getElem?_toArray, List.getElem?_cons_zero, Option.some.injEq] at ho
      subst ho
      refine ⟨fun _ => ?_, fun hw => (by cases hw)⟩
      · skip
        have hrun : ∀ o : Oper, o.op = .call { callee := .value (.func 10), args := #[], argTypes := #[] } → (execOp a.eval o).run Try.prog w1 = .ok (.enter 10 #[]) w1 := fun o ho => by simp [execOp, ho, resolve, invoke, go_sem]
        unfold Oper.wp
        rw [hrun _ rfl]
        refine (works5_any w1).mono ?_
        rintro e w' ⟨rfl, hb⟩
        exact hK _ _ hb rfl
    | 1, _, ho, hdep, hK =>
      simp only [regK, List.getElem?_toArray, List.getElem?_cons_zero, List.getElem?_cons_succ, Option.some.injEq] at ho
      subst ho
      refine ⟨fun _ => ?_, fun hw => (by cases hw)⟩
      · skip
        obtain ⟨f0, d0⟩ := hdep ⟨0, .data⟩ (by simp) rfl
        have e0 : a.eval (.tmp 48) = .bool true := (d0 48 rfl).trans f0
        have e0' : a.tmps[48]?.getD undef = .bool true := by have h := e0; simp only [Act.eval, Array.getD_eq_getD_getElem?] at h; exact h
        exact wp_val (v := .bool true) (w' := w1) (by simp [execOp, go_sem, e0']) (hK _ _ (Bel.refl _) rfl)
    | 2, _, ho, hdep, hK =>
      simp only [regK, List.getElem?_toArray, List.getElem?_cons_zero, List.getElem?_cons_succ, Option.some.injEq] at ho
      subst ho
      obtain ⟨fg, dg⟩ := hdep ⟨1, .guard⟩ (by simp) rfl
      have eg : a.tmps.getD 49 undef = .bool true := (dg 49 rfl).trans fg
      refine ⟨fun _ => ?_, fun hw => (by rw [wanted_no (d := 49) rfl rfl eg] at hw; cases hw)⟩
      · skip
        exact wp_val (v := .int .i64 0) (w' := w1) (by rw [← p3]; rfl) (hK _ _ (Bel.refl _) rfl)
    | 3, _, ho, hdep, hK =>
      simp only [regK, List.getElem?_toArray, List.getElem?_cons_zero, List.getElem?_cons_succ, Option.some.injEq] at ho
      subst ho
      obtain ⟨fg, dg⟩ := hdep ⟨1, .guard⟩ (by simp) rfl
      have eg : a.tmps.getD 49 undef = .bool true := (dg 49 rfl).trans fg
      refine ⟨fun _ => ?_, fun hw => (by rw [wanted_no (d := 49) rfl rfl eg] at hw; cases hw)⟩
      · skip
        obtain ⟨f2, d2⟩ := hdep ⟨2, .data⟩ (by simp) rfl
        have e2 : a.eval (.tmp 50) = .int .i64 0 := (d2 50 rfl).trans f2
        have e2' : a.tmps[50]?.getD undef = .int .i64 0 := by have h := e2; simp only [Act.eval, Array.getD_eq_getD_getElem?] at h; exact h
        exact wp_val (v := .bool true) (w' := w1) (by simp [execOp, go_sem, e2']) (hK _ _ (Bel.refl _) rfl)
    | 4, _, ho, hdep, hK =>
      simp only [regK, List.getElem?_toArray, List.getElem?_cons_zero, List.getElem?_cons_succ, Option.some.injEq] at ho
      subst ho
      refine ⟨fun _ => ?_, fun hw => (by cases hw)⟩
      · skip
        obtain ⟨f1, d1⟩ := hdep ⟨1, .data⟩ (by simp) rfl
        have e1 : a.eval (.tmp 49) = .bool true := (d1 49 rfl).trans f1
        have e1' : a.tmps[49]?.getD undef = .bool true := by have h := e1; simp only [Act.eval, Array.getD_eq_getD_getElem?] at h; exact h
        obtain ⟨f3, d3⟩ := hdep ⟨3, .data⟩ (by simp) rfl
        have e3 : a.eval (.tmp 51) = .bool true := (d3 51 rfl).trans f3
        have e3' : a.tmps[51]?.getD undef = .bool true := by have h := e3; simp only [Act.eval, Array.getD_eq_getD_getElem?] at h; exact h
        exact wp_val (v := .bool true) (w' := w1) (by simp [execOp, go_sem, e1', e3']) (hK _ _ (Bel.refl _) rfl)
    | 5, _, ho, hdep, hK =>
      simp only [regK, List.getElem?_toArray, List.getElem?_cons_zero, List.getElem?_cons_succ, Option.some.injEq] at ho
      subst ho
      refine ⟨fun _ => ?_, fun hw => (by cases hw)⟩
      · skip
        obtain ⟨f4, d4⟩ := hdep ⟨4, .data⟩ (by simp) rfl
        have e4 : a.eval (.tmp 52) = .bool true := (d4 52 rfl).trans f4
        have e4' : a.tmps[52]?.getD undef = .bool true := by have h := e4; simp only [Act.eval, Array.getD_eq_getD_getElem?] at h; exact h
        exact wp_val (v := .bool true) (w' := w1) (by simp [execOp, go_sem, e4']) (hK _ _ (Bel.refl _) rfl)
    | 6, _, ho, hdep, hK =>
      simp only [regK, List.getElem?_toArray, List.getElem?_cons_zero, List.getElem?_cons_succ, Option.some.injEq] at ho
      subst ho
      obtain ⟨fg, dg⟩ := hdep ⟨5, .guard⟩ (by simp) rfl
      have eg : a.tmps.getD 53 undef = .bool true := (dg 53 rfl).trans fg
      refine ⟨fun _ => ?_, fun hw => (by rw [wanted_no (d := 53) rfl rfl eg] at hw; cases hw)⟩
      · skip
        exact wp_val (v := .int .i64 0) (w' := w1) (by rw [← p5]; rfl) (hK _ _ (Bel.refl _) rfl)
    | 7, _, ho, hdep, hK =>
      simp only [regK, List.getElem?_toArray, List.getElem?_cons_zero, List.getElem?_cons_succ, Option.some.injEq] at ho
      subst ho
      obtain ⟨fg, dg⟩ := hdep ⟨5, .guard⟩ (by simp) rfl
      have eg : a.tmps.getD 53 undef = .bool true := (dg 53 rfl).trans fg
      refine ⟨fun _ => ?_, fun hw => (by rw [wanted_no (d := 53) rfl rfl eg] at hw; cases hw)⟩
      · skip
        obtain ⟨f6, d6⟩ := hdep ⟨6, .data⟩ (by simp) rfl
        have e6 : a.eval (.tmp 54) = .int .i64 0 := (d6 54 rfl).trans f6
        have e6' : a.tmps[54]?.getD undef = .int .i64 0 := by have h := e6; simp only [Act.eval, Array.getD_eq_getD_getElem?] at h; exact h
        exact wp_val (v := .bool true) (w' := w1) (by simp [execOp, go_sem, e6']) (hK _ _ (Bel.refl _) rfl)
    | 8, _, ho, hdep, hK =>
      simp only [regK, List.getElem?_toArray, List.getElem?_cons_zero, List.getElem?_cons_succ, Option.some.injEq] at ho
      subst ho
      refine ⟨fun _ => ?_, fun hw => (by cases hw)⟩
      · skip
        obtain ⟨f5, d5⟩ := hdep ⟨5, .data⟩ (by simp) rfl
        have e5 : a.eval (.tmp 53) = .bool true := (d5 53 rfl).trans f5
        have e5' : a.tmps[53]?.getD undef = .bool true := by have h := e5; simp only [Act.eval, Array.getD_eq_getD_getElem?] at h; exact h
        obtain ⟨f7, d7⟩ := hdep ⟨7, .data⟩ (by simp) rfl
        have e7 : a.eval (.tmp 55) = .bool true := (d7 55 rfl).trans f7
        have e7' : a.tmps[55]?.getD undef = .bool true := by have h := e7; simp only [Act.eval, Array.getD_eq_getD_getElem?] at h; exact h
        exact wp_val (v := .bool true) (w' := w1) (by simp [execOp, go_sem, e5', e7']) (hK _ _ (Bel.refl _) rfl)
    | 9, _, ho, hdep, hK =>
      simp only [regK, List.getElem?_toArray, List.getElem?_cons_zero, List.getElem?_cons_succ, Option.some.injEq] at ho
      subst ho
      refine ⟨fun _ => ?_, fun hw => (by cases hw)⟩
      · skip
        obtain ⟨f8, d8⟩ := hdep ⟨8, .data⟩ (by simp) rfl
        have e8 : a.eval (.tmp 56) = .bool true := (d8 56 rfl).trans f8
        have e8' : a.tmps[56]?.getD undef = .bool true := by have h := e8; simp only [Act.eval, Array.getD_eq_getD_getElem?] at h; exact h
        exact wp_val (v := .bool true) (w' := w1) (by simp [execOp, go_sem, e8']) (hK _ _ (Bel.refl _) rfl)
    | 10, _, ho, hdep, hK =>
      simp only [regK, List.getElem?_toArray, List.getElem?_cons_zero, List.getElem?_cons_succ, Option.some.injEq] at ho
      subst ho
      obtain ⟨fg, dg⟩ := hdep ⟨9, .guard⟩ (by simp) rfl
      have eg : a.tmps.getD 57 undef = .bool true := (dg 57 rfl).trans fg
      refine ⟨fun _ => ?_, fun hw => (by rw [wanted_no (d := 57) rfl rfl eg] at hw; cases hw)⟩
      · skip
        exact wp_val (v := .int .i64 40) (w' := w1) (by rw [← p7]; rfl) (hK _ _ (Bel.refl _) rfl)
    | 11, _, ho, hdep, hK =>
      simp only [regK, List.getElem?_toArray, List.getElem?_cons_zero, List.getElem?_cons_succ, Option.some.injEq] at ho
      subst ho
      obtain ⟨fg, dg⟩ := hdep ⟨9, .guard⟩ (by simp) rfl
      have eg : a.tmps.getD 57 undef = .bool true := (dg 57 rfl).trans fg
      refine ⟨fun _ => ?_, fun hw => (by rw [wanted_no (d := 57) rfl rfl eg] at hw; cases hw)⟩
      · skip
        obtain ⟨f10, d10⟩ := hdep ⟨10, .data⟩ (by simp) rfl
        have e10 : a.eval (.tmp 58) = .int .i64 40 := (d10 58 rfl).trans f10
        have e10' : a.tmps[58]?.getD undef = .int .i64 40 := by have h := e10; simp only [Act.eval, Array.getD_eq_getD_getElem?] at h; exact h
        exact wp_val (v := .bool true) (w' := w1) (by simp [execOp, go_sem, e10']) (hK _ _ (Bel.refl _) rfl)
    | 12, _, ho, hdep, hK =>
      simp only [regK, List.getElem?_toArray, List.getElem?_cons_zero, List.getElem?_cons_succ, Option.some.injEq] at ho
      subst ho
      refine ⟨fun _ => ?_, fun hw => (by cases hw)⟩
      · skip
        obtain ⟨f9, d9⟩ := hdep ⟨9, .data⟩ (by simp) rfl
        have e9 : a.eval (.tmp 57) = .bool true := (d9 57 rfl).trans f9
        have e9' : a.tmps[57]?.getD undef = .bool true := by have h := e9; simp only [Act.eval, Array.getD_eq_getD_getElem?] at h; exact h
        obtain ⟨f11, d11⟩ := hdep ⟨11, .data⟩ (by simp) rfl
        have e11 : a.eval (.tmp 59) = .bool true := (d11 59 rfl).trans f11
        have e11' : a.tmps[59]?.getD undef = .bool true := by have h := e11; simp only [Act.eval, Array.getD_eq_getD_getElem?] at h; exact h
        exact wp_val (v := .bool true) (w' := w1) (by simp [execOp, go_sem, e9', e11']) (hK _ _ (Bel.refl _) rfl)
    | 13, _, ho, hdep, hK =>
      simp only [regK, List.getElem?_toArray, List.getElem?_cons_zero, List.getElem?_cons_succ, Option.some.injEq] at ho
      subst ho
      refine ⟨fun _ => ?_, fun hw => (by cases hw)⟩
      · skip
        obtain ⟨f12, d12⟩ := hdep ⟨12, .data⟩ (by simp) rfl
        have e12 : a.eval (.tmp 60) = .bool true := (d12 60 rfl).trans f12
        have e12' : a.tmps[60]?.getD undef = .bool true := by have h := e12; simp only [Act.eval, Array.getD_eq_getD_getElem?] at h; exact h
        exact wp_val (v := .bool true) (w' := w1) (by simp [execOp, go_sem, e12']) (hK _ _ (Bel.refl _) rfl)
    | 14, _, ho, hdep, hK =>
      simp only [regK, List.getElem?_toArray, List.getElem?_cons_zero, List.getElem?_cons_succ, Option.some.injEq] at ho
      subst ho
      obtain ⟨fg, dg⟩ := hdep ⟨13, .guard⟩ (by simp) rfl
      have eg : a.tmps.getD 61 undef = .bool true := (dg 61 rfl).trans fg
      refine ⟨fun _ => ?_, fun hw => (by rw [wanted_no (d := 61) rfl rfl eg] at hw; cases hw)⟩
      · skip
        exact wp_val (v := .int .i64 3) (w' := w1) (by rw [← p9]; rfl) (hK _ _ (Bel.refl _) rfl)
    | 15, _, ho, hdep, hK =>
      simp only [regK, List.getElem?_toArray, List.getElem?_cons_zero, List.getElem?_cons_succ, Option.some.injEq] at ho
      subst ho
      obtain ⟨fg, dg⟩ := hdep ⟨13, .guard⟩ (by simp) rfl
      have eg : a.tmps.getD 61 undef = .bool true := (dg 61 rfl).trans fg
      refine ⟨fun _ => ?_, fun hw => (by rw [wanted_no (d := 61) rfl rfl eg] at hw; cases hw)⟩
      · skip
        obtain ⟨f14, d14⟩ := hdep ⟨14, .data⟩ (by simp) rfl
        have e14 : a.eval (.tmp 62) = .int .i64 3 := (d14 62 rfl).trans f14
        have e14' : a.tmps[62]?.getD undef = .int .i64 3 := by have h := e14; simp only [Act.eval, Array.getD_eq_getD_getElem?] at h; exact h
        exact wp_val (v := .bool true) (w' := w1) (by simp [execOp, go_sem, e14']) (hK _ _ (Bel.refl _) rfl)
    | 16, _, ho, hdep, hK =>
      simp only [regK, List.getElem?_toArray, List.getElem?_cons_zero, List.getElem?_cons_succ, Option.some.injEq] at ho
      subst ho
      refine ⟨fun _ => ?_, fun hw => (by cases hw)⟩
      · skip
        obtain ⟨f13, d13⟩ := hdep ⟨13, .data⟩ (by simp) rfl
        have e13 : a.eval (.tmp 61) = .bool true := (d13 61 rfl).trans f13
        have e13' : a.tmps[61]?.getD undef = .bool true := by have h := e13; simp only [Act.eval, Array.getD_eq_getD_getElem?] at h; exact h
        obtain ⟨f15, d15⟩ := hdep ⟨15, .data⟩ (by simp) rfl
        have e15 : a.eval (.tmp 63) = .bool true := (d15 63 rfl).trans f15
        have e15' : a.tmps[63]?.getD undef = .bool true := by have h := e15; simp only [Act.eval, Array.getD_eq_getD_getElem?] at h; exact h
        exact wp_val (v := .bool true) (w' := w1) (by simp [execOp, go_sem, e13', e15']) (hK _ _ (Bel.refl _) rfl)
    | 17, _, ho, hdep, hK =>
      simp only [regK, List.getElem?_toArray, List.getElem?_cons_zero, List.getElem?_cons_succ, Option.some.injEq] at ho
      subst ho
      refine ⟨fun _ => ?_, fun hw => (by cases hw)⟩
      · skip
        obtain ⟨f16, d16⟩ := hdep ⟨16, .data⟩ (by simp) rfl
        have e16 : a.eval (.tmp 64) = .bool true := (d16 64 rfl).trans f16
        have e16' : a.tmps[64]?.getD undef = .bool true := by have h := e16; simp only [Act.eval, Array.getD_eq_getD_getElem?] at h; exact h
        exact wp_val (v := .bool true) (w' := w1) (by simp [execOp, go_sem, e16']) (hK _ _ (Bel.refl _) rfl)
    | 18, _, ho, hdep, hK =>
      simp only [regK, List.getElem?_toArray, List.getElem?_cons_zero, List.getElem?_cons_succ, Option.some.injEq] at ho
      subst ho
      obtain ⟨fg, dg⟩ := hdep ⟨17, .guard⟩ (by simp) rfl
      have eg : a.tmps.getD 65 undef = .bool true := (dg 65 rfl).trans fg
      refine ⟨fun _ => ?_, fun hw => (by rw [wanted_no (d := 65) rfl rfl eg] at hw; cases hw)⟩
      · skip
        exact wp_val (v := .int .i64 2) (w' := w1) (by rw [← p11]; rfl) (hK _ _ (Bel.refl _) rfl)
    | 19, _, ho, hdep, hK =>
      simp only [regK, List.getElem?_toArray, List.getElem?_cons_zero, List.getElem?_cons_succ, Option.some.injEq] at ho
      subst ho
      obtain ⟨fg, dg⟩ := hdep ⟨17, .guard⟩ (by simp) rfl
      have eg : a.tmps.getD 65 undef = .bool true := (dg 65 rfl).trans fg
      refine ⟨fun _ => ?_, fun hw => (by rw [wanted_no (d := 65) rfl rfl eg] at hw; cases hw)⟩
      · skip
        obtain ⟨f18, d18⟩ := hdep ⟨18, .data⟩ (by simp) rfl
        have e18 : a.eval (.tmp 66) = .int .i64 2 := (d18 66 rfl).trans f18
        have e18' : a.tmps[66]?.getD undef = .int .i64 2 := by have h := e18; simp only [Act.eval, Array.getD_eq_getD_getElem?] at h; exact h
        exact wp_val (v := .bool true) (w' := w1) (by simp [execOp, go_sem, e18']) (hK _ _ (Bel.refl _) rfl)
    | 20, _, ho, hdep, hK =>
      simp only [regK, List.getElem?_toArray, List.getElem?_cons_zero, List.getElem?_cons_succ, Option.some.injEq] at ho
      subst ho
      refine ⟨fun _ => ?_, fun hw => (by cases hw)⟩
      · skip
        obtain ⟨f17, d17⟩ := hdep ⟨17, .data⟩ (by simp) rfl
        have e17 : a.eval (.tmp 65) = .bool true := (d17 65 rfl).trans f17
        have e17' : a.tmps[65]?.getD undef = .bool true := by have h := e17; simp only [Act.eval, Array.getD_eq_getD_getElem?] at h; exact h
        obtain ⟨f19, d19⟩ := hdep ⟨19, .data⟩ (by simp) rfl
        have e19 : a.eval (.tmp 67) = .bool true := (d19 67 rfl).trans f19
        have e19' : a.tmps[67]?.getD undef = .bool true := by have h := e19; simp only [Act.eval, Array.getD_eq_getD_getElem?] at h; exact h
        exact wp_val (v := .bool true) (w' := w1) (by simp [execOp, go_sem, e17', e19']) (hK _ _ (Bel.refl _) rfl)
    | 21, _, ho, hdep, hK =>
      simp only [regK, List.getElem?_toArray, List.getElem?_cons_zero, List.getElem?_cons_succ, Option.some.injEq] at ho
      subst ho
      refine ⟨fun _ => ?_, fun hw => (by cases hw)⟩
      · skip
        obtain ⟨f20, d20⟩ := hdep ⟨20, .data⟩ (by simp) rfl
        have e20 : a.eval (.tmp 68) = .bool true := (d20 68 rfl).trans f20
        have e20' : a.tmps[68]?.getD undef = .bool true := by have h := e20; simp only [Act.eval, Array.getD_eq_getD_getElem?] at h; exact h
        exact wp_val (v := .bool true) (w' := w1) (by simp [execOp, go_sem, e20']) (hK _ _ (Bel.refl _) rfl)
    | 22, _, ho, hdep, hK =>
      simp only [regK, List.getElem?_toArray, List.getElem?_cons_zero, List.getElem?_cons_succ, Option.some.injEq] at ho
      subst ho
      obtain ⟨fg, dg⟩ := hdep ⟨21, .guard⟩ (by simp) rfl
      have eg : a.tmps.getD 69 undef = .bool true := (dg 69 rfl).trans fg
      refine ⟨fun _ => ?_, fun hw => (by rw [wanted_no (d := 69) rfl rfl eg] at hw; cases hw)⟩
      · skip
        exact wp_val (v := .agg #[.slice LA 2 lc, .slice UA 2 uc, .slice PA 2 pc]) (w' := w1) (by simp [execOp, go_sem, p2', (hbel.cell (p := ⟨ta, 0, none⟩) hla).trans a0, (hbel.cell (p := ⟨ta, 1, none⟩) hla).trans a1, (hbel.cell (p := ⟨ta, 2, none⟩) hla).trans a2]) (hK _ _ (Bel.refl _) rfl)
    | 23, _, ho, hdep, hK =>
      simp only [regK, List.getElem?_toArray, List.getElem?_cons_zero, List.getElem?_cons_succ, Option.some.injEq] at ho
      subst ho
      obtain ⟨fg, dg⟩ := hdep ⟨21, .guard⟩ (by simp) rfl
      have eg : a.tmps.getD 69 undef = .bool true := (dg 69 rfl).trans fg
      refine ⟨fun _ => ?_, fun hw => (by rw [wanted_no (d := 69) rfl rfl eg] at hw; cases hw)⟩
      · skip
        exact wp_val (v := .agg #[.int .u8 2, .int .u8 2]) (w' := w1) (by simp [execOp, go_sem, Act.eval]) (hK _ _ (Bel.refl _) rfl)
    | 24, _, ho, hdep, hK =>
      simp only [regK, List.getElem?_toArray, List.getElem?_cons_zero, List.getElem?_cons_succ, Option.some.injEq] at ho
      subst ho
      obtain ⟨fg, dg⟩ := hdep ⟨21, .guard⟩ (by simp) rfl
      have eg : a.tmps.getD 69 undef = .bool true := (dg 69 rfl).trans fg
      refine ⟨fun _ => ?_, fun hw => (by rw [wanted_no (d := 69) rfl rfl eg] at hw; cases hw)⟩
      · skip
        exact wp_val (v := .agg #[.int .u8 3, .int .u8 3]) (w' := w1) (by simp [execOp, go_sem, Act.eval]) (hK _ _ (Bel.refl _) rfl)
    | 25, _, ho, hdep, hK =>
      simp only [regK, List.getElem?_toArray, List.getElem?_cons_zero, List.getElem?_cons_succ, Option.some.injEq] at ho
      subst ho
      obtain ⟨fg, dg⟩ := hdep ⟨21, .guard⟩ (by simp) rfl
      have eg : a.tmps.getD 69 undef = .bool true := (dg 69 rfl).trans fg
      refine ⟨fun _ => ?_, fun hw => (by rw [wanted_no (d := 69) rfl rfl eg] at hw; cases hw)⟩
      · skip
        obtain ⟨f23, d23⟩ := hdep ⟨23, .data⟩ (by simp) rfl
        have e23 : a.eval (.tmp 71) = .agg #[.int .u8 2, .int .u8 2] := (d23 71 rfl).trans f23
        have e23' : a.tmps[71]?.getD undef = .agg #[.int .u8 2, .int .u8 2] := by have h := e23; simp only [Act.eval, Array.getD_eq_getD_getElem?] at h; exact h
        obtain ⟨f24, d24⟩ := hdep ⟨24, .data⟩ (by simp) rfl
        have e24 : a.eval (.tmp 72) = .agg #[.int .u8 3, .int .u8 3] := (d24 72 rfl).trans f24
        have e24' : a.tmps[72]?.getD undef = .agg #[.int .u8 3, .int .u8 3] := by have h := e24; simp only [Act.eval, Array.getD_eq_getD_getElem?] at h; exact h
        have hrun : ∀ o : Oper, o.op = .call { callee := .value (.func 12), args := #[.tmp 71, .tmp 72, .const (.int .u8 1), .const (.int .u8 3)], argTypes := #[41, 41, 30, 30] } → (execOp a.eval o).run Try.prog w1 = .ok (.enter 12 #[.agg #[.int .u8 2, .int .u8 2], .agg #[.int .u8 3, .int .u8 3], .int .u8 1, .int .u8 3]) w1 := fun o ho => by simp [execOp, ho, resolve, invoke, go_sem, e23', e24', Act.eval]
        unfold Oper.wp
        rw [hrun _ rfl]
        refine (told_any 2 2 3 3 1 3 w1).mono ?_
        rintro e w' ⟨x, rfl, ht, hb⟩
        exact hK _ _ hb ht
    | 26, _, ho, hdep, hK =>
      simp only [regK, List.getElem?_toArray, List.getElem?_cons_zero, List.getElem?_cons_succ, Option.some.injEq] at ho
      subst ho
      obtain ⟨fg, dg⟩ := hdep ⟨21, .guard⟩ (by simp) rfl
      have eg : a.tmps.getD 69 undef = .bool true := (dg 69 rfl).trans fg
      refine ⟨fun _ => ?_, fun hw => (by rw [wanted_no (d := 69) rfl rfl eg] at hw; cases hw)⟩
      · skip
        obtain ⟨f22, d22⟩ := hdep ⟨22, .data⟩ (by simp) rfl
        have e22 : a.eval (.tmp 70) = .agg #[.slice LA 2 lc, .slice UA 2 uc, .slice PA 2 pc] := (d22 70 rfl).trans f22
        have e22' : a.tmps[70]?.getD undef = .agg #[.slice LA 2 lc, .slice UA 2 uc, .slice PA 2 pc] := by have h := e22; simp only [Act.eval, Array.getD_eq_getD_getElem?] at h; exact h
        obtain ⟨f25, d25⟩ := hdep ⟨25, .data⟩ (by simp) rfl
        have e25 := d25 73 rfl
        have e25' : a.tmps[73]?.getD undef = V 25 := by have h := e25; simp only [Act.eval, Array.getD_eq_getD_getElem?] at h; exact h
        have hrun : ∀ o : Oper, o.op = .call { callee := .value (.func 11), args := #[.tmp 70, .tmp 73], argTypes := #[26, 26] } → (execOp a.eval o).run Try.prog w1 = .ok (.enter 11 #[.agg #[.slice LA 2 lc, .slice UA 2 uc, .slice PA 2 pc], V 25]) w1 := fun o ho => by simp [execOp, ho, resolve, invoke, go_sem, e22', e25']
        unfold Oper.wp
        rw [hrun _ rfl]
        refine (same_told LA UA PA lc uc pc [2, 2] [3, 3] rows w1 ((hVA).bel ((Bel.refl w).drew.on hbel)) _ f25).mono ?_
        rintro e w' ⟨rfl, hb⟩
        exact hK _ _ hb (by rw [hsA]; rfl)
    | 27, _, ho, hdep, hK =>
      simp only [regK, List.getElem?_toArray, List.getElem?_cons_zero, List.getElem?_cons_succ, Option.some.injEq] at ho
      subst ho
      refine ⟨fun _ => ?_, fun hw => (by cases hw)⟩
      · skip
        obtain ⟨f21, d21⟩ := hdep ⟨21, .data⟩ (by simp) rfl
        have e21 : a.eval (.tmp 69) = .bool true := (d21 69 rfl).trans f21
        have e21' : a.tmps[69]?.getD undef = .bool true := by have h := e21; simp only [Act.eval, Array.getD_eq_getD_getElem?] at h; exact h
        obtain ⟨f26, d26⟩ := hdep ⟨26, .data⟩ (by simp) rfl
        have e26 : a.eval (.tmp 74) = .bool true := (d26 74 rfl).trans f26
        have e26' : a.tmps[74]?.getD undef = .bool true := by have h := e26; simp only [Act.eval, Array.getD_eq_getD_getElem?] at h; exact h
        exact wp_val (v := .bool true) (w' := w1) (by simp [execOp, go_sem, e21', e26']) (hK _ _ (Bel.refl _) rfl)
    | 28, _, ho, hdep, hK =>
      simp only [regK, List.getElem?_toArray, List.getElem?_cons_zero, List.getElem?_cons_succ, Option.some.injEq] at ho
      subst ho
      refine ⟨fun _ => ?_, fun hw => (by cases hw)⟩
      · skip
        obtain ⟨f27, d27⟩ := hdep ⟨27, .data⟩ (by simp) rfl
        have e27 : a.eval (.tmp 75) = .bool true := (d27 75 rfl).trans f27
        have e27' : a.tmps[75]?.getD undef = .bool true := by have h := e27; simp only [Act.eval, Array.getD_eq_getD_getElem?] at h; exact h
        exact wp_val (v := .bool true) (w' := w1) (by simp [execOp, go_sem, e27']) (hK _ _ (Bel.refl _) rfl)
    | 29, _, ho, hdep, hK =>
      simp only [regK, List.getElem?_toArray, List.getElem?_cons_zero, List.getElem?_cons_succ, Option.some.injEq] at ho
      subst ho
      obtain ⟨fg, dg⟩ := hdep ⟨28, .guard⟩ (by simp) rfl
      have eg : a.tmps.getD 76 undef = .bool true := (dg 76 rfl).trans fg
      refine ⟨fun _ => ?_, fun hw => (by rw [wanted_no (d := 76) rfl rfl eg] at hw; cases hw)⟩
      · skip
        exact wp_val (v := .agg #[.slice LB 2 lcb, .slice UB 2 ucb, .slice PB 2 pcb]) (w' := w1) (by simp [execOp, go_sem, p4', (hbel.cell (p := ⟨tb, 0, none⟩) hlb).trans b0, (hbel.cell (p := ⟨tb, 1, none⟩) hlb).trans b1, (hbel.cell (p := ⟨tb, 2, none⟩) hlb).trans b2]) (hK _ _ (Bel.refl _) rfl)
    | 30, _, ho, hdep, hK =>
      simp only [regK, List.getElem?_toArray, List.getElem?_cons_zero, List.getElem?_cons_succ, Option.some.injEq] at ho
      subst ho
      obtain ⟨fg, dg⟩ := hdep ⟨28, .guard⟩ (by simp) rfl
      have eg : a.tmps.getD 76 undef = .bool true := (dg 76 rfl).trans fg
      refine ⟨fun _ => ?_, fun hw => (by rw [wanted_no (d := 76) rfl rfl eg] at hw; cases hw)⟩
      · skip
        exact wp_val (v := .agg #[.int .u8 1, .int .u8 1]) (w' := w1) (by simp [execOp, go_sem, Act.eval]) (hK _ _ (Bel.refl _) rfl)
    | 31, _, ho, hdep, hK =>
      simp only [regK, List.getElem?_toArray, List.getElem?_cons_zero, List.getElem?_cons_succ, Option.some.injEq] at ho
      subst ho
      obtain ⟨fg, dg⟩ := hdep ⟨28, .guard⟩ (by simp) rfl
      have eg : a.tmps.getD 76 undef = .bool true := (dg 76 rfl).trans fg
      refine ⟨fun _ => ?_, fun hw => (by rw [wanted_no (d := 76) rfl rfl eg] at hw; cases hw)⟩
      · skip
        exact wp_val (v := .agg #[.int .u8 3, .int .u8 2]) (w' := w1) (by simp [execOp, go_sem, Act.eval]) (hK _ _ (Bel.refl _) rfl)
    | 32, _, ho, hdep, hK =>
      simp only [regK, List.getElem?_toArray, List.getElem?_cons_zero, List.getElem?_cons_succ, Option.some.injEq] at ho
      subst ho
      obtain ⟨fg, dg⟩ := hdep ⟨28, .guard⟩ (by simp) rfl
      have eg : a.tmps.getD 76 undef = .bool true := (dg 76 rfl).trans fg
      refine ⟨fun _ => ?_, fun hw => (by rw [wanted_no (d := 76) rfl rfl eg] at hw; cases hw)⟩
      · skip
        obtain ⟨f30, d30⟩ := hdep ⟨30, .data⟩ (by simp) rfl
        have e30 : a.eval (.tmp 78) = .agg #[.int .u8 1, .int .u8 1] := (d30 78 rfl).trans f30
        have e30' : a.tmps[78]?.getD undef = .agg #[.int .u8 1, .int .u8 1] := by have h := e30; simp only [Act.eval, Array.getD_eq_getD_getElem?] at h; exact h
        obtain ⟨f31, d31⟩ := hdep ⟨31, .data⟩ (by simp) rfl
        have e31 : a.eval (.tmp 79) = .agg #[.int .u8 3, .int .u8 2] := (d31 79 rfl).trans f31
        have e31' : a.tmps[79]?.getD undef = .agg #[.int .u8 3, .int .u8 2] := by have h := e31; simp only [Act.eval, Array.getD_eq_getD_getElem?] at h; exact h
        have hrun : ∀ o : Oper, o.op = .call { callee := .value (.func 12), args := #[.tmp 78, .tmp 79, .const (.int .u8 3), .const (.int .u8 1)], argTypes := #[41, 41, 30, 30] } → (execOp a.eval o).run Try.prog w1 = .ok (.enter 12 #[.agg #[.int .u8 1, .int .u8 1], .agg #[.int .u8 3, .int .u8 2], .int .u8 3, .int .u8 1]) w1 := fun o ho => by simp [execOp, ho, resolve, invoke, go_sem, e30', e31', Act.eval]
        unfold Oper.wp
        rw [hrun _ rfl]
        refine (told_any 1 1 3 2 3 1 w1).mono ?_
        rintro e w' ⟨x, rfl, ht, hb⟩
        exact hK _ _ hb ht
    | 33, _, ho, hdep, hK =>
      simp only [regK, List.getElem?_toArray, List.getElem?_cons_zero, List.getElem?_cons_succ, Option.some.injEq] at ho
      subst ho
      obtain ⟨fg, dg⟩ := hdep ⟨28, .guard⟩ (by simp) rfl
      have eg : a.tmps.getD 76 undef = .bool true := (dg 76 rfl).trans fg
      refine ⟨fun _ => ?_, fun hw => (by rw [wanted_no (d := 76) rfl rfl eg] at hw; cases hw)⟩
      · skip
        obtain ⟨f29, d29⟩ := hdep ⟨29, .data⟩ (by simp) rfl
        have e29 : a.eval (.tmp 77) = .agg #[.slice LB 2 lcb, .slice UB 2 ucb, .slice PB 2 pcb] := (d29 77 rfl).trans f29
        have e29' : a.tmps[77]?.getD undef = .agg #[.slice LB 2 lcb, .slice UB 2 ucb, .slice PB 2 pcb] := by have h := e29; simp only [Act.eval, Array.getD_eq_getD_getElem?] at h; exact h
        obtain ⟨f32, d32⟩ := hdep ⟨32, .data⟩ (by simp) rfl
        have e32 := d32 80 rfl
        have e32' : a.tmps[80]?.getD undef = V 32 := by have h := e32; simp only [Act.eval, Array.getD_eq_getD_getElem?] at h; exact h
        have hrun : ∀ o : Oper, o.op = .call { callee := .value (.func 11), args := #[.tmp 77, .tmp 80], argTypes := #[26, 26] } → (execOp a.eval o).run Try.prog w1 = .ok (.enter 11 #[.agg #[.slice LB 2 lcb, .slice UB 2 ucb, .slice PB 2 pcb], V 32]) w1 := fun o ho => by simp [execOp, ho, resolve, invoke, go_sem, e29', e32']
        unfold Oper.wp
        rw [hrun _ rfl]
        refine (same_told LB UB PB lcb ucb pcb [1, 1] [3, 2] rowsB w1 ((hVB).bel ((Bel.refl w).drew.on hbel)) _ f32).mono ?_
        rintro e w' ⟨rfl, hb⟩
        exact hK _ _ hb (by rw [hsB]; rfl)
    | 34, _, ho, hdep, hK =>
      simp only [regK, List.getElem?_toArray, List.getElem?_cons_zero, List.getElem?_cons_succ, Option.some.injEq] at ho
      subst ho
      refine ⟨fun _ => ?_, fun hw => (by cases hw)⟩
      · skip
        obtain ⟨f28, d28⟩ := hdep ⟨28, .data⟩ (by simp) rfl
        have e28 : a.eval (.tmp 76) = .bool true := (d28 76 rfl).trans f28
        have e28' : a.tmps[76]?.getD undef = .bool true := by have h := e28; simp only [Act.eval, Array.getD_eq_getD_getElem?] at h; exact h
        obtain ⟨f33, d33⟩ := hdep ⟨33, .data⟩ (by simp) rfl
        have e33 : a.eval (.tmp 81) = .bool true := (d33 81 rfl).trans f33
        have e33' : a.tmps[81]?.getD undef = .bool true := by have h := e33; simp only [Act.eval, Array.getD_eq_getD_getElem?] at h; exact h
        exact wp_val (v := .bool true) (w' := w1) (by simp [execOp, go_sem, e28', e33']) (hK _ _ (Bel.refl _) rfl)
    | q + 35, hi, _, _, _ => exact absurd hi (by omega)
  · intro V w' hb hF
    have e : finA regK.toArray 35 V (actK ta tb u1 u6 u8 u10 u12 u13 u14 u15 u16 u17 u18 u19 u20 u21 u22 u23 u24 u25 u26 u27 u28 u29 u30 u31 u32 u33 u34 u35 u36 u37 u38 u39 u40 u41 u42 u43 u44 u45 u46 u47 fun _ => undef) = actK ta tb u1 u6 u8 u10 u12 u13 u14 u15 u16 u17 u18 u19 u20 u21 u22 u23 u24 u25 u26 u27 u28 u29 u30 u31 u32 u33 u34 u35 u36 u37 u38 u39 u40 u41 u42 u43 u44 u45 u46 u47 V := by kernel_rfl
    rw [e]
    exact hend V w' hb (hF 34 (by omega))
end Go.Proofs.Ytlbachjhhjjmfaa.Mu

