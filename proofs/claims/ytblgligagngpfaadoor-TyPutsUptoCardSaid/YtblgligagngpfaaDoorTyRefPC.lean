/-
  The reference's Put and canon: what they do for each of the types within.
  The reference's Put and canon, walked.
  The reference's at and canon, walked.
-/
import Derived.Test.YtblgligagngpfaaDoorTyPpM
import Derived.Test.YtblgligagngpfaaDoorSolversG
import Derived.Test.YtblgligagngpfaaDoorTyEqs
namespace Go.Proofs.YtblgligagngpfaaDoor.Mu
open Go.ChangeShapes Go.WideShapes Go.ChangeAt Go.RowKit Go.Shelf

attribute [local go_sem] Oper.semAt_some
set_option linter.unusedVariables false

/-- Blocks below lo, and those from hi on. -/
def Fresh2 (lo hi : Nat) (w : World) (i : Nat) : Prop := (i < lo ∧ i < w.heap.size) ∨ (hi ≤ i ∧ i < w.heap.size)
theorem KidsAt.bel2 {lo hi : Nat} {w w' : World} {A : Option Addr} {len cap : Nat} {kids : Fo} (h : KidsAt w (Fresh2 lo hi w) A len cap kids) (hb : Bel w w') : KidsAt w' (Fresh2 lo hi w') A len cap kids :=
  (h.keep fun j hj => hb.block j (hj.elim (fun h => h.2) fun h => h.2)).wide fun j hj => hj.elim (fun h => .inl ⟨h.1, Nat.lt_of_lt_of_le h.2 hb.size⟩) fun h => .inr ⟨h.1, Nat.lt_of_lt_of_le h.2 hb.size⟩
/-- A type by value, what is within it lies below lo or is new. -/
def RtQ (lo : Nat) (kx nx vx cx : Int) (kidsx : Fo) (W : World) (e : Ending) (w' : World) : Prop :=
  ∃ A c, e = .returned (.agg #[.int .u8 kx, .int .i64 nx, .int .i64 vx, .int .u8 cx, .slice A kidsx.len c]) ∧ KidsAt w' (Fresh2 lo W.heap.size w') A kidsx.len c kidsx ∧ Bel W w'
def regRp : List Oper := [
  { dst := some 62, op := Op.fieldAddr 27 (Operand.tmp 7) 3, type := 0, pos := "ref.go:110", after := #[], guard := none },
  { dst := some 63, op := Op.load 25 (Operand.tmp 62), type := 25, pos := "ref.go:110", after := #[{ on := 0, ground := Ground.data }], guard := none },
  { dst := some 64, op := Op.fieldAddr 27 (Operand.tmp 3) 3, type := 0, pos := "ref.go:110", after := #[], guard := none },
  { dst := some 65, op := Op.load 25 (Operand.tmp 64), type := 25, pos := "ref.go:110", after := #[{ on := 2, ground := Ground.data }], guard := none },
  { dst := some 66, op := Op.move (Operand.tmp 8), type := 3, pos := "ref.go:110", after := #[], guard := none },
  { dst := some 67, op := Op.indexAddr 25 (Operand.tmp 65) (Operand.tmp 66), type := 0, pos := "ref.go:110", after := #[{ on := 3, ground := Ground.data }, { on := 4, ground := Ground.data }], guard := none },
  { dst := some 68, op := Op.load 27 (Operand.tmp 67), type := 27, pos := "ref.go:110", after := #[{ on := 5, ground := Ground.data }], guard := none },
  { dst := some 69, op := Op.move (Operand.tmp 1), type := 25, pos := "ref.go:110", after := #[], guard := none },
  { dst := some 70, op := Op.move (Operand.tmp 2), type := 28, pos := "ref.go:110", after := #[], guard := none },
  { dst := some 71, op := Op.call { callee := Callee.value (Operand.func 10), args := #[Operand.tmp 68, Operand.tmp 69, Operand.tmp 70], argTypes := #[27, 25, 28] }, type := 27, pos := "ref.go:110", after := #[{ on := 6, ground := Ground.data }, { on := 7, ground := Ground.data }, { on := 8, ground := Ground.data }], guard := none },
  { dst := some 72, op := Op.buildSlice 25 1 #[(0, Operand.tmp 71)], type := 25, pos := "ref.go:110", after := #[{ on := 9, ground := Ground.data }], guard := none },
  { dst := some 73, op := Op.call { callee := Callee.builtin Builtin.append, args := #[Operand.tmp 63, Operand.tmp 72], argTypes := #[25, 25] }, type := 25, pos := "ref.go:110", after := #[{ on := 1, ground := Ground.data }, { on := 10, ground := Ground.data }, { on := 9, ground := Ground.chain }], guard := none },
  { dst := some 74, op := Op.fieldAddr 27 (Operand.tmp 7) 3, type := 0, pos := "ref.go:110", after := #[{ on := 0, ground := Ground.phase }, { on := 1, ground := Ground.phase }, { on := 2, ground := Ground.phase }, { on := 3, ground := Ground.phase }, { on := 4, ground := Ground.phase }, { on := 5, ground := Ground.phase }, { on := 6, ground := Ground.phase }, { on := 7, ground := Ground.phase }, { on := 8, ground := Ground.phase }, { on := 9, ground := Ground.phase }, { on := 10, ground := Ground.phase }, { on := 11, ground := Ground.phase }], guard := none },
  { dst := none, op := Op.store 25 (Operand.tmp 74) (Operand.tmp 73), type := 0, pos := "ref.go:110", after := #[{ on := 12, ground := Ground.data }, { on := 11, ground := Ground.data }, { on := 11, ground := Ground.chain }, { on := 0, ground := Ground.phase }, { on := 1, ground := Ground.phase }, { on := 2, ground := Ground.phase }, { on := 3, ground := Ground.phase }, { on := 4, ground := Ground.phase }, { on := 5, ground := Ground.phase }, { on := 6, ground := Ground.phase }, { on := 7, ground := Ground.phase }, { on := 8, ground := Ground.phase }, { on := 9, ground := Ground.phase }, { on := 10, ground := Ground.phase }, { on := 11, ground := Ground.phase }], guard := none }]
def specRp (qb tb bb ob j len cap c5 ql qh : Nat) (kt nt vt ct k0 n0 v0 c0 k1 n1 v1 c1 kx nx vx cx : Int) (A5 A1 : Option Addr) (len1 cap1 : Nat) (kidsx : Fo) (T U : Option Addr) (tn tc un uc : Nat) (i : Nat) (v : Value) (w : World) : Prop :=
  match i with
  | 0 => v = .pointer (some ⟨qb, 4, none⟩)
  | 1 => v = .slice A5 j c5
  | 2 => v = .pointer (some ⟨tb, 4, none⟩)
  | 3 => v = .slice (some ⟨bb, ob, none⟩) len cap
  | 4 => v = .int .i64 (j : Int)
  | 5 => v = .pointer (some ⟨bb, ob + j * 5, none⟩)
  | 6 => v = .agg #[.int .u8 k1, .int .i64 n1, .int .i64 v1, .int .u8 c1, .slice A1 len1 cap1]
  | 7 => v = .slice T tn tc
  | 8 => v = .slice U un uc
  | 9 => ∃ A cA, v = .agg #[.int .u8 kx, .int .i64 nx, .int .i64 vx, .int .u8 cx, .slice A kidsx.len cA] ∧ KidsAt w (Fresh2 ql qh w) A kidsx.len cA kidsx
  | 10 => ∃ g A cA, v = .slice (some ⟨g, 0, none⟩) 1 1 ∧ qh ≤ g ∧ w.heap[g]? = some (.cells #[.int .u8 kx, .int .i64 nx, .int .i64 vx, .int .u8 cx, .slice A kidsx.len cA] 27 (0, 0)) ∧ KidsAt w (Fresh2 ql qh w) A kidsx.len cA kidsx
  | _ => True
theorem specRp_mono {qb tb bb ob j len cap c5 ql qh : Nat} {kt nt vt ct k0 n0 v0 c0 k1 n1 v1 c1 kx nx vx cx : Int} {A5 A1 : Option Addr} {len1 cap1 : Nat} {kidsx : Fo} {T U : Option Addr} {tn tc un uc : Nat} (i : Nat) (v : Value) (w w' : World) (hi : i < 11) (h : specRp qb tb bb ob j len cap c5 ql qh kt nt vt ct k0 n0 v0 c0 k1 n1 v1 c1 kx nx vx cx A5 A1 len1 cap1 kidsx T U tn tc un uc i v w) (hb : Bel w w') : specRp qb tb bb ob j len cap c5 ql qh kt nt vt ct k0 n0 v0 c0 k1 n1 v1 c1 kx nx vx cx A5 A1 len1 cap1 kidsx T U tn tc un uc i v w' := by
  match i, hi, h with
  | 0, _, h => exact h
  | 1, _, h => exact h
  | 2, _, h => exact h
  | 3, _, h => exact h
  | 4, _, h => exact h
  | 5, _, h => exact h
  | 6, _, h => exact h
  | 7, _, h => exact h
  | 8, _, h => exact h
  | 9, _, h => obtain ⟨A, cA, e, hk⟩ := h; exact ⟨A, cA, e, hk.bel2 hb⟩
  | 10, _, h => obtain ⟨g, A, cA, e, hl, hh, hk⟩ := h; exact ⟨g, A, cA, e, hl, hb.blk hh, hk.bel2 hb⟩
  | q + 11, hi, _ => exact absurd hi (by omega)
def acORp (qb tb bb ob j len cap c5 ql qh : Nat) (kt nt vt ct k0 n0 v0 c0 k1 n1 v1 c1 kx nx vx cx : Int) (A5 A1 : Option Addr) (len1 cap1 : Nat) (kidsx : Fo) (T U : Option Addr) (tn tc un uc : Nat) (s0 s4 s5 s6 s9 s10 s11 s12 s13 s14 s15 s16 s17 s18 s19 s20 s21 s22 s23 s24 s25 s26 s27 s28 s29 s30 s31 s32 s33 s34 s35 s36 s37 s38 s39 s40 s41 s42 s43 s44 s45 s46 s47 s48 s49 s50 s51 s52 s53 s54 s55 s56 s57 s58 s59 s60 s61 s62 s63 s64 s65 s66 s67 s68 s69 s70 s71 s72 s73 s74 s75 : Value) (df : List Deferred) : Act := { tmps := #[s0, .slice T tn tc, .slice U un uc, .pointer (some ⟨tb, 0, none⟩), s4, s5, s6, .pointer (some ⟨qb, 0, none⟩), .int .i64 (j : Int), s9, s10, s11, s12, s13, s14, s15, s16, s17, s18, s19, s20, s21, s22, s23, s24, s25, s26, s27, s28, s29, s30, s31, s32, s33, s34, s35, s36, s37, s38, s39, s40, s41, s42, s43, s44, s45, s46, s47, s48, s49, s50, s51, s52, s53, s54, s55, s56, s57, s58, s59, s60, s61, s62, s63, s64, s65, s66, s67, s68, s69, s70, s71, s72, s73, s74, s75], defers := df }
def acVRp (qb tb bb ob j len cap c5 ql qh : Nat) (kt nt vt ct k0 n0 v0 c0 k1 n1 v1 c1 kx nx vx cx : Int) (A5 A1 : Option Addr) (len1 cap1 : Nat) (kidsx : Fo) (T U : Option Addr) (tn tc un uc : Nat) (s0 s4 s5 s6 s9 s10 s11 s12 s13 s14 s15 s16 s17 s18 s19 s20 s21 s22 s23 s24 s25 s26 s27 s28 s29 s30 s31 s32 s33 s34 s35 s36 s37 s38 s39 s40 s41 s42 s43 s44 s45 s46 s47 s48 s49 s50 s51 s52 s53 s54 s55 s56 s57 s58 s59 s60 s61 s62 s63 s64 s65 s66 s67 s68 s69 s70 s71 s72 s73 s74 s75 : Value) (df : List Deferred) (V : Nat → Value) : Act := { tmps := #[s0, .slice T tn tc, .slice U un uc, .pointer (some ⟨tb, 0, none⟩), s4, s5, s6, .pointer (some ⟨qb, 0, none⟩), .int .i64 (j : Int), s9, s10, s11, s12, s13, s14, s15, s16, s17, s18, s19, s20, s21, s22, s23, s24, s25, s26, s27, s28, s29, s30, s31, s32, s33, s34, s35, s36, s37, s38, s39, s40, s41, s42, s43, s44, s45, s46, s47, s48, s49, s50, s51, s52, s53, s54, s55, s56, s57, s58, s59, s60, s61, V 0, V 1, V 2, V 3, V 4, V 5, V 6, V 7, V 8, V 9, V 10, s73, s74, s75], defers := df }
theorem regRp_tail : tailB .any regRp.toArray 11 = true := by kernel_rfl
theorem regRp_fwd : fwdB regRp.toArray 11 = true := by kernel_rfl
theorem regRp_slots : slotsB regRp.toArray 76 = true := by kernel_rfl
theorem regRp_seq : Region.seqB .any regRp.toArray (regRp.length - 11) 11 (Array.replicate 11 true ++ Array.replicate (regRp.length - 11) false) = true := by kernel_rfl
set_option maxRecDepth 100000 in
set_option maxHeartbeats 8000000 in
theorem regRp_any {id : Nat} (qb tb bb ob j len cap c5 ql qh : Nat) (kt nt vt ct k0 n0 v0 c0 k1 n1 v1 c1 kx nx vx cx : Int) (A5 A1 : Option Addr) (len1 cap1 : Nat) (kidsx : Fo) (T U : Option Addr) (tn tc un uc : Nat) (s0 s4 s5 s6 s9 s10 s11 s12 s13 s14 s15 s16 s17 s18 s19 s20 s21 s22 s23 s24 s25 s26 s27 s28 s29 s30 s31 s32 s33 s34 s35 s36 s37 s38 s39 s40 s41 s42 s43 s44 s45 s46 s47 s48 s49 s50 s51 s52 s53 s54 s55 s56 s57 s58 s59 s60 s61 s62 s63 s64 s65 s66 s67 s68 s69 s70 s71 s72 s73 s74 s75 : Value) (df : List Deferred) (w : World) (hhi : qh = w.drew.heap.size) (hq : w.drew.heap[qb]? = some (.cells #[.int .u8 k0, .int .i64 n0, .int .i64 v0, .int .u8 c0, .slice A5 j c5] 27 (0, 0))) (htb : w.drew.heap[tb]? = some (.cells #[.int .u8 kt, .int .i64 nt, .int .i64 vt, .int .u8 ct, .slice (some ⟨bb, ob, none⟩) len cap] 27 (0, 0))) (i1 : (0 : Int) ≤ (j : Int)) (i2 : (j : Int) < (len : Int)) (hbl : bb < w.drew.heap.size) (t0 : w.drew.cell? ⟨bb, ob + j * 5, none⟩ = some (.int .u8 k1)) (t1 : w.drew.cell? ⟨bb, ob + j * 5 + 1, none⟩ = some (.int .i64 n1)) (t2 : w.drew.cell? ⟨bb, ob + j * 5 + 2, none⟩ = some (.int .i64 v1)) (t3 : w.drew.cell? ⟨bb, ob + j * 5 + 3, none⟩ = some (.int .u8 c1)) (t4 : w.drew.cell? ⟨bb, ob + j * 5 + 4, none⟩ = some (.slice A1 len1 cap1)) (HC : ∀ W, Bel w.drew W → Calls Tryd.prog 10 #[.agg #[.int .u8 k1, .int .i64 n1, .int .i64 v1, .int .u8 c1, .slice A1 len1 cap1], .slice T tn tc, .slice U un uc] W (RtQ ql kx nx vx cx kidsx W)) (Q : Exit → Act → World → Prop)
    (hend : ∀ (V : Nat → Value) (w' : World), Bel w.drew w' → ((V 1) = .slice A5 j c5) → (∃ g A cA, (V 10) = .slice (some ⟨g, 0, none⟩) 1 1 ∧ qh ≤ g ∧ w'.heap[g]? = some (.cells #[.int .u8 kx, .int .i64 nx, .int .i64 vx, .int .u8 cx, .slice A kidsx.len cA] 27 (0, 0)) ∧ KidsAt w' (Fresh2 ql qh w') A kidsx.len cA kidsx) → wpList Tryd.prog regRp.toArray Q (regRp.drop 11) (acVRp qb tb bb ob j len cap c5 ql qh kt nt vt ct k0 n0 v0 c0 k1 n1 v1 c1 kx nx vx cx A5 A1 len1 cap1 kidsx T U tn tc un uc s0 s4 s5 s6 s9 s10 s11 s12 s13 s14 s15 s16 s17 s18 s19 s20 s21 s22 s23 s24 s25 s26 s27 s28 s29 s30 s31 s32 s33 s34 s35 s36 s37 s38 s39 s40 s41 s42 s43 s44 s45 s46 s47 s48 s49 s50 s51 s52 s53 s54 s55 s56 s57 s58 s59 s60 s61 s62 s63 s64 s65 s66 s67 s68 s69 s70 s71 s72 s73 s74 s75 df V) w') :
    (Code.region id regRp.toArray true).wp Tryd.prog Q (acORp qb tb bb ob j len cap c5 ql qh kt nt vt ct k0 n0 v0 c0 k1 n1 v1 c1 kx nx vx cx A5 A1 len1 cap1 kidsx T U tn tc un uc s0 s4 s5 s6 s9 s10 s11 s12 s13 s14 s15 s16 s17 s18 s19 s20 s21 s22 s23 s24 s25 s26 s27 s28 s29 s30 s31 s32 s33 s34 s35 s36 s37 s38 s39 s40 s41 s42 s43 s44 s45 s46 s47 s48 s49 s50 s51 s52 s53 s54 s55 s56 s57 s58 s59 s60 s61 s62 s63 s64 s65 s66 s67 s68 s69 s70 s71 s72 s73 s74 s75 df) w := by
  refine wp_region_invG (l := regRp) 11 (acORp qb tb bb ob j len cap c5 ql qh kt nt vt ct k0 n0 v0 c0 k1 n1 v1 c1 kx nx vx cx A5 A1 len1 cap1 kidsx T U tn tc un uc s0 s4 s5 s6 s9 s10 s11 s12 s13 s14 s15 s16 s17 s18 s19 s20 s21 s22 s23 s24 s25 s26 s27 s28 s29 s30 s31 s32 s33 s34 s35 s36 s37 s38 s39 s40 s41 s42 s43 s44 s45 s46 s47 s48 s49 s50 s51 s52 s53 s54 s55 s56 s57 s58 s59 s60 s61 s62 s63 s64 s65 s66 s67 s68 s69 s70 s71 s72 s73 s74 s75 df) w (specRp qb tb bb ob j len cap c5 ql qh kt nt vt ct k0 n0 v0 c0 k1 n1 v1 c1 kx nx vx cx A5 A1 len1 cap1 kidsx T U tn tc un uc) (by kernel_rfl) regRp_tail regRp_fwd regRp_slots regRp_seq (fun i v w w' hi h hb => specRp_mono i v w w' hi h hb) ?_ ?_
  · intro i' o hi' ho a w1 V hbel hdep hpar K hK
    have p7 : a.eval (.tmp 7) = .pointer (some ⟨qb, 0, none⟩) := hpar 7 (by show 7 < 76; decide) (by kernel_rfl)
    have p7' : a.tmps[7]?.getD undef = .pointer (some ⟨qb, 0, none⟩) := by have h := p7; simp only [Act.eval, Array.getD_eq_getD_getElem?] at h; exact h
    have p3 : a.eval (.tmp 3) = .pointer (some ⟨tb, 0, none⟩) := hpar 3 (by show 3 < 76; decide) (by kernel_rfl)
    have p3' : a.tmps[3]?.getD undef = .pointer (some ⟨tb, 0, none⟩) := by have h := p3; simp only [Act.eval, Array.getD_eq_getD_getElem?] at h; exact h
    have p8 : a.eval (.tmp 8) = .int .i64 (j : Int) := hpar 8 (by show 8 < 76; decide) (by kernel_rfl)
    have p8' : a.tmps[8]?.getD undef = .int .i64 (j : Int) := by have h := p8; simp only [Act.eval, Array.getD_eq_getD_getElem?] at h; exact h
    have p1 : a.eval (.tmp 1) = .slice T tn tc := hpar 1 (by show 1 < 76; decide) (by kernel_rfl)
    have p1' : a.tmps[1]?.getD undef = .slice T tn tc := by have h := p1; simp only [Act.eval, Array.getD_eq_getD_getElem?] at h; exact h
    have p2 : a.eval (.tmp 2) = .slice U un uc := hpar 2 (by show 2 < 76; decide) (by kernel_rfl)
    have p2' : a.tmps[2]?.getD undef = .slice U un uc := by have h := p2; simp only [Act.eval, Array.getD_eq_getD_getElem?] at h; exact h
    obtain ⟨⟨m0, m1, m2, m3, m4⟩, _⟩ := cells5 (hbel.blk hq)
    obtain ⟨⟨u0, u1, u2, u3, u4⟩, _⟩ := cells5 (hbel.blk htb)
    have s0 := (hbel.cell (p := ⟨bb, ob + j * 5, none⟩) hbl).trans t0
    have s1 := (hbel.cell (p := ⟨bb, ob + j * 5 + 1, none⟩) hbl).trans t1
    have s2 := (hbel.cell (p := ⟨bb, ob + j * 5 + 2, none⟩) hbl).trans t2
    have s3 := (hbel.cell (p := ⟨bb, ob + j * 5 + 3, none⟩) hbl).trans t3
    have s4 := (hbel.cell (p := ⟨bb, ob + j * 5 + 4, none⟩) hbl).trans t4
    match i', hi', ho, hdep, hK with
    | 0, _, ho, hdep, hK =>
      simp only [regRp, List.getElem?_toArray, List.getElem?_cons_zero, Option.some.injEq] at ho
      subst ho
      refine ⟨fun _ => ?_, fun hw => (yw_n rfl hw).elim⟩
      exact wp_val (v := .pointer (some ⟨qb, 4, none⟩)) (w' := w1) (by simp [execOp, go_sem, p7']) (hK _ _ (Bel.refl _) rfl)
    | 1, _, ho, hdep, hK =>
      simp only [regRp, List.getElem?_toArray, List.getElem?_cons_zero, List.getElem?_cons_succ, Option.some.injEq] at ho
      subst ho
      refine ⟨fun _ => ?_, fun hw => (yw_n rfl hw).elim⟩
      obtain ⟨f0, d0⟩ := hdep ⟨0, .data⟩ (by simp) rfl
      have e0 : a.eval (.tmp 62) = .pointer (some ⟨qb, 4, none⟩) := (d0 62 rfl).trans f0
      have e0' : a.tmps[62]?.getD undef = .pointer (some ⟨qb, 4, none⟩) := by have h := e0; simp only [Act.eval, Array.getD_eq_getD_getElem?] at h; exact h
      exact wp_val (v := .slice A5 j c5) (w' := w1) (by simp [execOp, go_sem, e0', m4]) (hK _ _ (Bel.refl _) rfl)
    | 2, _, ho, hdep, hK =>
      simp only [regRp, List.getElem?_toArray, List.getElem?_cons_zero, List.getElem?_cons_succ, Option.some.injEq] at ho
      subst ho
      refine ⟨fun _ => ?_, fun hw => (yw_n rfl hw).elim⟩
      exact wp_val (v := .pointer (some ⟨tb, 4, none⟩)) (w' := w1) (by simp [execOp, go_sem, p3']) (hK _ _ (Bel.refl _) rfl)
    | 3, _, ho, hdep, hK =>
      simp only [regRp, List.getElem?_toArray, List.getElem?_cons_zero, List.getElem?_cons_succ, Option.some.injEq] at ho
      subst ho
      refine ⟨fun _ => ?_, fun hw => (yw_n rfl hw).elim⟩
      obtain ⟨f2, d2⟩ := hdep ⟨2, .data⟩ (by simp) rfl
      have e2 : a.eval (.tmp 64) = .pointer (some ⟨tb, 4, none⟩) := (d2 64 rfl).trans f2
      have e2' : a.tmps[64]?.getD undef = .pointer (some ⟨tb, 4, none⟩) := by have h := e2; simp only [Act.eval, Array.getD_eq_getD_getElem?] at h; exact h
      exact wp_val (v := .slice (some ⟨bb, ob, none⟩) len cap) (w' := w1) (by simp [execOp, go_sem, e2', u4]) (hK _ _ (Bel.refl _) rfl)
    | 4, _, ho, hdep, hK =>
      simp only [regRp, List.getElem?_toArray, List.getElem?_cons_zero, List.getElem?_cons_succ, Option.some.injEq] at ho
      subst ho
      refine ⟨fun _ => ?_, fun hw => (yw_n rfl hw).elim⟩
      exact wp_val (v := .int .i64 (j : Int)) (w' := w1) (by simp [execOp, go_sem, p8']) (hK _ _ (Bel.refl _) rfl)
    | 5, _, ho, hdep, hK =>
      simp only [regRp, List.getElem?_toArray, List.getElem?_cons_zero, List.getElem?_cons_succ, Option.some.injEq] at ho
      subst ho
      refine ⟨fun _ => ?_, fun hw => (yw_n rfl hw).elim⟩
      obtain ⟨f3, d3⟩ := hdep ⟨3, .data⟩ (by simp) rfl
      have e3 : a.eval (.tmp 65) = .slice (some ⟨bb, ob, none⟩) len cap := (d3 65 rfl).trans f3
      have e3' : a.tmps[65]?.getD undef = .slice (some ⟨bb, ob, none⟩) len cap := by have h := e3; simp only [Act.eval, Array.getD_eq_getD_getElem?] at h; exact h
      obtain ⟨f4, d4⟩ := hdep ⟨4, .data⟩ (by simp) rfl
      have e4 : a.eval (.tmp 66) = .int .i64 (j : Int) := (d4 66 rfl).trans f4
      have e4' : a.tmps[66]?.getD undef = .int .i64 (j : Int) := by have h := e4; simp only [Act.eval, Array.getD_eq_getD_getElem?] at h; exact h
      exact wp_val (v := .pointer (some ⟨bb, ob + j * 5, none⟩)) (w' := w1) (by simp [execOp, go_sem, e3', e4', i1, i2]) (hK _ _ (Bel.refl _) rfl)
    | 6, _, ho, hdep, hK =>
      simp only [regRp, List.getElem?_toArray, List.getElem?_cons_zero, List.getElem?_cons_succ, Option.some.injEq] at ho
      subst ho
      refine ⟨fun _ => ?_, fun hw => (yw_n rfl hw).elim⟩
      obtain ⟨f5, d5⟩ := hdep ⟨5, .data⟩ (by simp) rfl
      have e5 : a.eval (.tmp 67) = .pointer (some ⟨bb, ob + j * 5, none⟩) := (d5 67 rfl).trans f5
      have e5' : a.tmps[67]?.getD undef = .pointer (some ⟨bb, ob + j * 5, none⟩) := by have h := e5; simp only [Act.eval, Array.getD_eq_getD_getElem?] at h; exact h
      exact wp_val (v := .agg #[.int .u8 k1, .int .i64 n1, .int .i64 v1, .int .u8 c1, .slice A1 len1 cap1]) (w' := w1) (by simp [execOp, go_sem, e5', s0, s1, s2, s3, s4]) (hK _ _ (Bel.refl _) rfl)
    | 7, _, ho, hdep, hK =>
      simp only [regRp, List.getElem?_toArray, List.getElem?_cons_zero, List.getElem?_cons_succ, Option.some.injEq] at ho
      subst ho
      refine ⟨fun _ => ?_, fun hw => (yw_n rfl hw).elim⟩
      exact wp_val (v := .slice T tn tc) (w' := w1) (by simp [execOp, go_sem, p1']) (hK _ _ (Bel.refl _) rfl)
    | 8, _, ho, hdep, hK =>
      simp only [regRp, List.getElem?_toArray, List.getElem?_cons_zero, List.getElem?_cons_succ, Option.some.injEq] at ho
      subst ho
      refine ⟨fun _ => ?_, fun hw => (yw_n rfl hw).elim⟩
      exact wp_val (v := .slice U un uc) (w' := w1) (by simp [execOp, go_sem, p2']) (hK _ _ (Bel.refl _) rfl)
    | 9, _, ho, hdep, hK =>
      simp only [regRp, List.getElem?_toArray, List.getElem?_cons_zero, List.getElem?_cons_succ, Option.some.injEq] at ho
      subst ho
      refine ⟨fun _ => ?_, fun hw => (yw_n rfl hw).elim⟩
      obtain ⟨f6, d6⟩ := hdep ⟨6, .data⟩ (by simp) rfl
      have e6 : a.eval (.tmp 68) = .agg #[.int .u8 k1, .int .i64 n1, .int .i64 v1, .int .u8 c1, .slice A1 len1 cap1] := (d6 68 rfl).trans f6
      have e6' : a.tmps[68]?.getD undef = .agg #[.int .u8 k1, .int .i64 n1, .int .i64 v1, .int .u8 c1, .slice A1 len1 cap1] := by have h := e6; simp only [Act.eval, Array.getD_eq_getD_getElem?] at h; exact h
      obtain ⟨f7, d7⟩ := hdep ⟨7, .data⟩ (by simp) rfl
      have e7 : a.eval (.tmp 69) = .slice T tn tc := (d7 69 rfl).trans f7
      have e7' : a.tmps[69]?.getD undef = .slice T tn tc := by have h := e7; simp only [Act.eval, Array.getD_eq_getD_getElem?] at h; exact h
      obtain ⟨f8, d8⟩ := hdep ⟨8, .data⟩ (by simp) rfl
      have e8 : a.eval (.tmp 70) = .slice U un uc := (d8 70 rfl).trans f8
      have e8' : a.tmps[70]?.getD undef = .slice U un uc := by have h := e8; simp only [Act.eval, Array.getD_eq_getD_getElem?] at h; exact h
      refine wp_enter (f := 10) (args := #[.agg #[.int .u8 k1, .int .i64 n1, .int .i64 v1, .int .u8 c1, .slice A1 len1 cap1], .slice T tn tc, .slice U un uc]) (by simp [go_sem, e6', e7', e8']) ((HC w1 hbel).mono ?_)
      rintro e w' ⟨A, cA, rfl, hk, hb⟩
      exact ⟨_, rfl, hK _ _ hb ⟨A, cA, rfl, hk.wide fun i hi' => hi'.elim .inl fun h => .inr ⟨by rw [hhi]; exact Nat.le_trans hbel.size h.1, h.2⟩⟩⟩
    | 10, _, ho, hdep, hK =>
      simp only [regRp, List.getElem?_toArray, List.getElem?_cons_zero, List.getElem?_cons_succ, Option.some.injEq] at ho
      subst ho
      refine ⟨fun _ => ?_, fun hw => (yw_n rfl hw).elim⟩
      obtain ⟨f9, d9⟩ := hdep ⟨9, .data⟩ (by simp) rfl
      obtain ⟨A9, c9, hv9, hk9⟩ := f9
      have e9 : a.eval (.tmp 71) = .agg #[.int .u8 kx, .int .i64 nx, .int .i64 vx, .int .u8 cx, .slice A9 kidsx.len c9] := (d9 71 rfl).trans hv9
      have e9' : a.tmps[71]?.getD undef = .agg #[.int .u8 kx, .int .i64 nx, .int .i64 vx, .int .u8 cx, .slice A9 kidsx.len c9] := by have h := e9; simp only [Act.eval, Array.getD_eq_getD_getElem?] at h; exact h
      exact wp_val (v := .slice (some ⟨w1.heap.size, 0, none⟩) 1 1) (w' := w1.alloc (.cells #[.int .u8 kx, .int .i64 nx, .int .i64 vx, .int .u8 cx, .slice A9 kidsx.len c9] 27)) (by simp [execOp, go_sem, e9']) (hK _ _ ((Bel.refl w1).alloc _) ⟨_, A9, c9, rfl, hhi ▸ hbel.size, blk1 w1 _, hk9.bel2 ((Bel.refl w1).alloc _)⟩)
    | q + 11, hi, _, _, _ => exact absurd hi (by omega)
  · intro V w' hb hF
    have e : finA regRp.toArray 11 V (acORp qb tb bb ob j len cap c5 ql qh kt nt vt ct k0 n0 v0 c0 k1 n1 v1 c1 kx nx vx cx A5 A1 len1 cap1 kidsx T U tn tc un uc s0 s4 s5 s6 s9 s10 s11 s12 s13 s14 s15 s16 s17 s18 s19 s20 s21 s22 s23 s24 s25 s26 s27 s28 s29 s30 s31 s32 s33 s34 s35 s36 s37 s38 s39 s40 s41 s42 s43 s44 s45 s46 s47 s48 s49 s50 s51 s52 s53 s54 s55 s56 s57 s58 s59 s60 s61 s62 s63 s64 s65 s66 s67 s68 s69 s70 s71 s72 s73 s74 s75 df) = acVRp qb tb bb ob j len cap c5 ql qh kt nt vt ct k0 n0 v0 c0 k1 n1 v1 c1 kx nx vx cx A5 A1 len1 cap1 kidsx T U tn tc un uc s0 s4 s5 s6 s9 s10 s11 s12 s13 s14 s15 s16 s17 s18 s19 s20 s21 s22 s23 s24 s25 s26 s27 s28 s29 s30 s31 s32 s33 s34 s35 s36 s37 s38 s39 s40 s41 s42 s43 s44 s45 s46 s47 s48 s49 s50 s51 s52 s53 s54 s55 s56 s57 s58 s59 s60 s61 s62 s63 s64 s65 s66 s67 s68 s69 s70 s71 s72 s73 s74 s75 df V := by kernel_rfl
    rw [e]
    exact hend V w' hb (hF 1 (by omega)) (hF 10 (by omega))
def regRc : List Oper := [
  { dst := some 51, op := Op.fieldAddr 27 (Operand.tmp 5) 3, type := 0, pos := "ref.go:130", after := #[], guard := none },
  { dst := some 52, op := Op.load 25 (Operand.tmp 51), type := 25, pos := "ref.go:130", after := #[{ on := 0, ground := Ground.data }], guard := none },
  { dst := some 53, op := Op.move (Operand.tmp 0), type := 103, pos := "ref.go:130", after := #[], guard := none },
  { dst := some 54, op := Op.fieldAddr 27 (Operand.tmp 3) 3, type := 0, pos := "ref.go:130", after := #[], guard := none },
  { dst := some 55, op := Op.load 25 (Operand.tmp 54), type := 25, pos := "ref.go:130", after := #[{ on := 3, ground := Ground.data }], guard := none },
  { dst := some 56, op := Op.move (Operand.tmp 6), type := 3, pos := "ref.go:130", after := #[], guard := none },
  { dst := some 57, op := Op.indexAddr 25 (Operand.tmp 55) (Operand.tmp 56), type := 0, pos := "ref.go:130", after := #[{ on := 4, ground := Ground.data }, { on := 5, ground := Ground.data }], guard := none },
  { dst := some 58, op := Op.load 27 (Operand.tmp 57), type := 27, pos := "ref.go:130", after := #[{ on := 6, ground := Ground.data }], guard := none },
  { dst := some 59, op := Op.call { callee := Callee.value (Operand.func 40), args := #[Operand.tmp 53, Operand.tmp 58], argTypes := #[103, 27] }, type := 27, pos := "ref.go:130", after := #[{ on := 2, ground := Ground.data }, { on := 7, ground := Ground.data }], guard := none },
  { dst := some 60, op := Op.buildSlice 25 1 #[(0, Operand.tmp 59)], type := 25, pos := "ref.go:130", after := #[{ on := 8, ground := Ground.data }], guard := none },
  { dst := some 61, op := Op.call { callee := Callee.builtin Builtin.append, args := #[Operand.tmp 52, Operand.tmp 60], argTypes := #[25, 25] }, type := 25, pos := "ref.go:130", after := #[{ on := 1, ground := Ground.data }, { on := 9, ground := Ground.data }, { on := 8, ground := Ground.chain }], guard := none },
  { dst := some 62, op := Op.fieldAddr 27 (Operand.tmp 5) 3, type := 0, pos := "ref.go:130", after := #[{ on := 0, ground := Ground.phase }, { on := 1, ground := Ground.phase }, { on := 2, ground := Ground.phase }, { on := 3, ground := Ground.phase }, { on := 4, ground := Ground.phase }, { on := 5, ground := Ground.phase }, { on := 6, ground := Ground.phase }, { on := 7, ground := Ground.phase }, { on := 8, ground := Ground.phase }, { on := 9, ground := Ground.phase }, { on := 10, ground := Ground.phase }], guard := none },
  { dst := none, op := Op.store 25 (Operand.tmp 62) (Operand.tmp 61), type := 0, pos := "ref.go:130", after := #[{ on := 11, ground := Ground.data }, { on := 10, ground := Ground.data }, { on := 10, ground := Ground.chain }, { on := 0, ground := Ground.phase }, { on := 1, ground := Ground.phase }, { on := 2, ground := Ground.phase }, { on := 3, ground := Ground.phase }, { on := 4, ground := Ground.phase }, { on := 5, ground := Ground.phase }, { on := 6, ground := Ground.phase }, { on := 7, ground := Ground.phase }, { on := 8, ground := Ground.phase }, { on := 9, ground := Ground.phase }, { on := 10, ground := Ground.phase }], guard := none }]
def specRc (qb tb bb ob j len cap c5 ql qh : Nat) (kt nt vt ct k0 n0 v0 c0 k1 n1 v1 c1 kx nx vx cx : Int) (A5 A1 : Option Addr) (len1 cap1 : Nat) (kidsx : Fo) (sb : Nat) (i : Nat) (v : Value) (w : World) : Prop :=
  match i with
  | 0 => v = .pointer (some ⟨qb, 4, none⟩)
  | 1 => v = .slice A5 j c5
  | 2 => v = .pointer (some ⟨sb, 0, none⟩)
  | 3 => v = .pointer (some ⟨tb, 4, none⟩)
  | 4 => v = .slice (some ⟨bb, ob, none⟩) len cap
  | 5 => v = .int .i64 (j : Int)
  | 6 => v = .pointer (some ⟨bb, ob + j * 5, none⟩)
  | 7 => v = .agg #[.int .u8 k1, .int .i64 n1, .int .i64 v1, .int .u8 c1, .slice A1 len1 cap1]
  | 8 => ∃ A cA, v = .agg #[.int .u8 kx, .int .i64 nx, .int .i64 vx, .int .u8 cx, .slice A kidsx.len cA] ∧ KidsAt w (Fresh2 ql qh w) A kidsx.len cA kidsx
  | 9 => ∃ g A cA, v = .slice (some ⟨g, 0, none⟩) 1 1 ∧ qh ≤ g ∧ w.heap[g]? = some (.cells #[.int .u8 kx, .int .i64 nx, .int .i64 vx, .int .u8 cx, .slice A kidsx.len cA] 27 (0, 0)) ∧ KidsAt w (Fresh2 ql qh w) A kidsx.len cA kidsx
  | _ => True
theorem specRc_mono {qb tb bb ob j len cap c5 ql qh : Nat} {kt nt vt ct k0 n0 v0 c0 k1 n1 v1 c1 kx nx vx cx : Int} {A5 A1 : Option Addr} {len1 cap1 : Nat} {kidsx : Fo} {sb : Nat} (i : Nat) (v : Value) (w w' : World) (hi : i < 10) (h : specRc qb tb bb ob j len cap c5 ql qh kt nt vt ct k0 n0 v0 c0 k1 n1 v1 c1 kx nx vx cx A5 A1 len1 cap1 kidsx sb i v w) (hb : Bel w w') : specRc qb tb bb ob j len cap c5 ql qh kt nt vt ct k0 n0 v0 c0 k1 n1 v1 c1 kx nx vx cx A5 A1 len1 cap1 kidsx sb i v w' := by
  match i, hi, h with
  | 0, _, h => exact h
  | 1, _, h => exact h
  | 2, _, h => exact h
  | 3, _, h => exact h
  | 4, _, h => exact h
  | 5, _, h => exact h
  | 6, _, h => exact h
  | 7, _, h => exact h
  | 8, _, h => obtain ⟨A, cA, e, hk⟩ := h; exact ⟨A, cA, e, hk.bel2 hb⟩
  | 9, _, h => obtain ⟨g, A, cA, e, hl, hh, hk⟩ := h; exact ⟨g, A, cA, e, hl, hb.blk hh, hk.bel2 hb⟩
  | q + 10, hi, _ => exact absurd hi (by omega)
def acORc (qb tb bb ob j len cap c5 ql qh : Nat) (kt nt vt ct k0 n0 v0 c0 k1 n1 v1 c1 kx nx vx cx : Int) (A5 A1 : Option Addr) (len1 cap1 : Nat) (kidsx : Fo) (sb : Nat) (s1 s2 s4 s7 s8 s9 s10 s11 s12 s13 s14 s15 s16 s17 s18 s19 s20 s21 s22 s23 s24 s25 s26 s27 s28 s29 s30 s31 s32 s33 s34 s35 s36 s37 s38 s39 s40 s41 s42 s43 s44 s45 s46 s47 s48 s49 s50 s51 s52 s53 s54 s55 s56 s57 s58 s59 s60 s61 s62 s63 : Value) (df : List Deferred) : Act := { tmps := #[.pointer (some ⟨sb, 0, none⟩), s1, s2, .pointer (some ⟨tb, 0, none⟩), s4, .pointer (some ⟨qb, 0, none⟩), .int .i64 (j : Int), s7, s8, s9, s10, s11, s12, s13, s14, s15, s16, s17, s18, s19, s20, s21, s22, s23, s24, s25, s26, s27, s28, s29, s30, s31, s32, s33, s34, s35, s36, s37, s38, s39, s40, s41, s42, s43, s44, s45, s46, s47, s48, s49, s50, s51, s52, s53, s54, s55, s56, s57, s58, s59, s60, s61, s62, s63], defers := df }
def acVRc (qb tb bb ob j len cap c5 ql qh : Nat) (kt nt vt ct k0 n0 v0 c0 k1 n1 v1 c1 kx nx vx cx : Int) (A5 A1 : Option Addr) (len1 cap1 : Nat) (kidsx : Fo) (sb : Nat) (s1 s2 s4 s7 s8 s9 s10 s11 s12 s13 s14 s15 s16 s17 s18 s19 s20 s21 s22 s23 s24 s25 s26 s27 s28 s29 s30 s31 s32 s33 s34 s35 s36 s37 s38 s39 s40 s41 s42 s43 s44 s45 s46 s47 s48 s49 s50 s51 s52 s53 s54 s55 s56 s57 s58 s59 s60 s61 s62 s63 : Value) (df : List Deferred) (V : Nat → Value) : Act := { tmps := #[.pointer (some ⟨sb, 0, none⟩), s1, s2, .pointer (some ⟨tb, 0, none⟩), s4, .pointer (some ⟨qb, 0, none⟩), .int .i64 (j : Int), s7, s8, s9, s10, s11, s12, s13, s14, s15, s16, s17, s18, s19, s20, s21, s22, s23, s24, s25, s26, s27, s28, s29, s30, s31, s32, s33, s34, s35, s36, s37, s38, s39, s40, s41, s42, s43, s44, s45, s46, s47, s48, s49, s50, V 0, V 1, V 2, V 3, V 4, V 5, V 6, V 7, V 8, V 9, s61, s62, s63], defers := df }
theorem regRc_tail : tailB .any regRc.toArray 10 = true := by kernel_rfl
theorem regRc_fwd : fwdB regRc.toArray 10 = true := by kernel_rfl
theorem regRc_slots : slotsB regRc.toArray 64 = true := by kernel_rfl
theorem regRc_seq : Region.seqB .any regRc.toArray (regRc.length - 10) 10 (Array.replicate 10 true ++ Array.replicate (regRc.length - 10) false) = true := by kernel_rfl
set_option maxRecDepth 100000 in
set_option maxHeartbeats 8000000 in
theorem regRc_any {id : Nat} (qb tb bb ob j len cap c5 ql qh : Nat) (kt nt vt ct k0 n0 v0 c0 k1 n1 v1 c1 kx nx vx cx : Int) (A5 A1 : Option Addr) (len1 cap1 : Nat) (kidsx : Fo) (sb : Nat) (s1 s2 s4 s7 s8 s9 s10 s11 s12 s13 s14 s15 s16 s17 s18 s19 s20 s21 s22 s23 s24 s25 s26 s27 s28 s29 s30 s31 s32 s33 s34 s35 s36 s37 s38 s39 s40 s41 s42 s43 s44 s45 s46 s47 s48 s49 s50 s51 s52 s53 s54 s55 s56 s57 s58 s59 s60 s61 s62 s63 : Value) (df : List Deferred) (w : World) (hhi : qh = w.drew.heap.size) (hq : w.drew.heap[qb]? = some (.cells #[.int .u8 k0, .int .i64 n0, .int .i64 v0, .int .u8 c0, .slice A5 j c5] 27 (0, 0))) (htb : w.drew.heap[tb]? = some (.cells #[.int .u8 kt, .int .i64 nt, .int .i64 vt, .int .u8 ct, .slice (some ⟨bb, ob, none⟩) len cap] 27 (0, 0))) (i1 : (0 : Int) ≤ (j : Int)) (i2 : (j : Int) < (len : Int)) (hbl : bb < w.drew.heap.size) (t0 : w.drew.cell? ⟨bb, ob + j * 5, none⟩ = some (.int .u8 k1)) (t1 : w.drew.cell? ⟨bb, ob + j * 5 + 1, none⟩ = some (.int .i64 n1)) (t2 : w.drew.cell? ⟨bb, ob + j * 5 + 2, none⟩ = some (.int .i64 v1)) (t3 : w.drew.cell? ⟨bb, ob + j * 5 + 3, none⟩ = some (.int .u8 c1)) (t4 : w.drew.cell? ⟨bb, ob + j * 5 + 4, none⟩ = some (.slice A1 len1 cap1)) (HC : ∀ W, Bel w.drew W → Calls Tryd.prog 40 #[.pointer (some ⟨sb, 0, none⟩), .agg #[.int .u8 k1, .int .i64 n1, .int .i64 v1, .int .u8 c1, .slice A1 len1 cap1]] W (RtQ ql kx nx vx cx kidsx W)) (Q : Exit → Act → World → Prop)
    (hend : ∀ (V : Nat → Value) (w' : World), Bel w.drew w' → ((V 1) = .slice A5 j c5) → (∃ g A cA, (V 9) = .slice (some ⟨g, 0, none⟩) 1 1 ∧ qh ≤ g ∧ w'.heap[g]? = some (.cells #[.int .u8 kx, .int .i64 nx, .int .i64 vx, .int .u8 cx, .slice A kidsx.len cA] 27 (0, 0)) ∧ KidsAt w' (Fresh2 ql qh w') A kidsx.len cA kidsx) → wpList Tryd.prog regRc.toArray Q (regRc.drop 10) (acVRc qb tb bb ob j len cap c5 ql qh kt nt vt ct k0 n0 v0 c0 k1 n1 v1 c1 kx nx vx cx A5 A1 len1 cap1 kidsx sb s1 s2 s4 s7 s8 s9 s10 s11 s12 s13 s14 s15 s16 s17 s18 s19 s20 s21 s22 s23 s24 s25 s26 s27 s28 s29 s30 s31 s32 s33 s34 s35 s36 s37 s38 s39 s40 s41 s42 s43 s44 s45 s46 s47 s48 s49 s50 s51 s52 s53 s54 s55 s56 s57 s58 s59 s60 s61 s62 s63 df V) w') :
    (Code.region id regRc.toArray true).wp Tryd.prog Q (acORc qb tb bb ob j len cap c5 ql qh kt nt vt ct k0 n0 v0 c0 k1 n1 v1 c1 kx nx vx cx A5 A1 len1 cap1 kidsx sb s1 s2 s4 s7 s8 s9 s10 s11 s12 s13 s14 s15 s16 s17 s18 s19 s20 s21 s22 s23 s24 s25 s26 s27 s28 s29 s30 s31 s32 s33 s34 s35 s36 s37 s38 s39 s40 s41 s42 s43 s44 s45 s46 s47 s48 s49 s50 s51 s52 s53 s54 s55 s56 s57 s58 s59 s60 s61 s62 s63 df) w := by
  refine wp_region_invG (l := regRc) 10 (acORc qb tb bb ob j len cap c5 ql qh kt nt vt ct k0 n0 v0 c0 k1 n1 v1 c1 kx nx vx cx A5 A1 len1 cap1 kidsx sb s1 s2 s4 s7 s8 s9 s10 s11 s12 s13 s14 s15 s16 s17 s18 s19 s20 s21 s22 s23 s24 s25 s26 s27 s28 s29 s30 s31 s32 s33 s34 s35 s36 s37 s38 s39 s40 s41 s42 s43 s44 s45 s46 s47 s48 s49 s50 s51 s52 s53 s54 s55 s56 s57 s58 s59 s60 s61 s62 s63 df) w (specRc qb tb bb ob j len cap c5 ql qh kt nt vt ct k0 n0 v0 c0 k1 n1 v1 c1 kx nx vx cx A5 A1 len1 cap1 kidsx sb) (by kernel_rfl) regRc_tail regRc_fwd regRc_slots regRc_seq (fun i v w w' hi h hb => specRc_mono i v w w' hi h hb) ?_ ?_
  · intro i' o hi' ho a w1 V hbel hdep hpar K hK
    have p5 : a.eval (.tmp 5) = .pointer (some ⟨qb, 0, none⟩) := hpar 5 (by show 5 < 64; decide) (by kernel_rfl)
    have p5' : a.tmps[5]?.getD undef = .pointer (some ⟨qb, 0, none⟩) := by have h := p5; simp only [Act.eval, Array.getD_eq_getD_getElem?] at h; exact h
    have p3 : a.eval (.tmp 3) = .pointer (some ⟨tb, 0, none⟩) := hpar 3 (by show 3 < 64; decide) (by kernel_rfl)
    have p3' : a.tmps[3]?.getD undef = .pointer (some ⟨tb, 0, none⟩) := by have h := p3; simp only [Act.eval, Array.getD_eq_getD_getElem?] at h; exact h
    have p6 : a.eval (.tmp 6) = .int .i64 (j : Int) := hpar 6 (by show 6 < 64; decide) (by kernel_rfl)
    have p6' : a.tmps[6]?.getD undef = .int .i64 (j : Int) := by have h := p6; simp only [Act.eval, Array.getD_eq_getD_getElem?] at h; exact h
    have p0 : a.eval (.tmp 0) = .pointer (some ⟨sb, 0, none⟩) := hpar 0 (by show 0 < 64; decide) (by kernel_rfl)
    have p0' : a.tmps[0]?.getD undef = .pointer (some ⟨sb, 0, none⟩) := by have h := p0; simp only [Act.eval, Array.getD_eq_getD_getElem?] at h; exact h
    obtain ⟨⟨m0, m1, m2, m3, m4⟩, _⟩ := cells5 (hbel.blk hq)
    obtain ⟨⟨u0, u1, u2, u3, u4⟩, _⟩ := cells5 (hbel.blk htb)
    have s0 := (hbel.cell (p := ⟨bb, ob + j * 5, none⟩) hbl).trans t0
    have s1 := (hbel.cell (p := ⟨bb, ob + j * 5 + 1, none⟩) hbl).trans t1
    have s2 := (hbel.cell (p := ⟨bb, ob + j * 5 + 2, none⟩) hbl).trans t2
    have s3 := (hbel.cell (p := ⟨bb, ob + j * 5 + 3, none⟩) hbl).trans t3
    have s4 := (hbel.cell (p := ⟨bb, ob + j * 5 + 4, none⟩) hbl).trans t4
    match i', hi', ho, hdep, hK with
    | 0, _, ho, hdep, hK =>
      simp only [regRc, List.getElem?_toArray, List.getElem?_cons_zero, Option.some.injEq] at ho
      subst ho
      refine ⟨fun _ => ?_, fun hw => (yw_n rfl hw).elim⟩
      exact wp_val (v := .pointer (some ⟨qb, 4, none⟩)) (w' := w1) (by simp [execOp, go_sem, p5']) (hK _ _ (Bel.refl _) rfl)
    | 1, _, ho, hdep, hK =>
      simp only [regRc, List.getElem?_toArray, List.getElem?_cons_zero, List.getElem?_cons_succ, Option.some.injEq] at ho
      subst ho
      refine ⟨fun _ => ?_, fun hw => (yw_n rfl hw).elim⟩
      obtain ⟨f0, d0⟩ := hdep ⟨0, .data⟩ (by simp) rfl
      have e0 : a.eval (.tmp 51) = .pointer (some ⟨qb, 4, none⟩) := (d0 51 rfl).trans f0
      have e0' : a.tmps[51]?.getD undef = .pointer (some ⟨qb, 4, none⟩) := by have h := e0; simp only [Act.eval, Array.getD_eq_getD_getElem?] at h; exact h
      exact wp_val (v := .slice A5 j c5) (w' := w1) (by simp [execOp, go_sem, e0', m4]) (hK _ _ (Bel.refl _) rfl)
    | 2, _, ho, hdep, hK =>
      simp only [regRc, List.getElem?_toArray, List.getElem?_cons_zero, List.getElem?_cons_succ, Option.some.injEq] at ho
      subst ho
      refine ⟨fun _ => ?_, fun hw => (yw_n rfl hw).elim⟩
      exact wp_val (v := .pointer (some ⟨sb, 0, none⟩)) (w' := w1) (by simp [execOp, go_sem, p0']) (hK _ _ (Bel.refl _) rfl)
    | 3, _, ho, hdep, hK =>
      simp only [regRc, List.getElem?_toArray, List.getElem?_cons_zero, List.getElem?_cons_succ, Option.some.injEq] at ho
      subst ho
      refine ⟨fun _ => ?_, fun hw => (yw_n rfl hw).elim⟩
      exact wp_val (v := .pointer (some ⟨tb, 4, none⟩)) (w' := w1) (by simp [execOp, go_sem, p3']) (hK _ _ (Bel.refl _) rfl)
    | 4, _, ho, hdep, hK =>
      simp only [regRc, List.getElem?_toArray, List.getElem?_cons_zero, List.getElem?_cons_succ, Option.some.injEq] at ho
      subst ho
      refine ⟨fun _ => ?_, fun hw => (yw_n rfl hw).elim⟩
      obtain ⟨f3, d3⟩ := hdep ⟨3, .data⟩ (by simp) rfl
      have e3 : a.eval (.tmp 54) = .pointer (some ⟨tb, 4, none⟩) := (d3 54 rfl).trans f3
      have e3' : a.tmps[54]?.getD undef = .pointer (some ⟨tb, 4, none⟩) := by have h := e3; simp only [Act.eval, Array.getD_eq_getD_getElem?] at h; exact h
      exact wp_val (v := .slice (some ⟨bb, ob, none⟩) len cap) (w' := w1) (by simp [execOp, go_sem, e3', u4]) (hK _ _ (Bel.refl _) rfl)
    | 5, _, ho, hdep, hK =>
      simp only [regRc, List.getElem?_toArray, List.getElem?_cons_zero, List.getElem?_cons_succ, Option.some.injEq] at ho
      subst ho
      refine ⟨fun _ => ?_, fun hw => (yw_n rfl hw).elim⟩
      exact wp_val (v := .int .i64 (j : Int)) (w' := w1) (by simp [execOp, go_sem, p6']) (hK _ _ (Bel.refl _) rfl)
    | 6, _, ho, hdep, hK =>
      simp only [regRc, List.getElem?_toArray, List.getElem?_cons_zero, List.getElem?_cons_succ, Option.some.injEq] at ho
      subst ho
      refine ⟨fun _ => ?_, fun hw => (yw_n rfl hw).elim⟩
      obtain ⟨f4, d4⟩ := hdep ⟨4, .data⟩ (by simp) rfl
      have e4 : a.eval (.tmp 55) = .slice (some ⟨bb, ob, none⟩) len cap := (d4 55 rfl).trans f4
      have e4' : a.tmps[55]?.getD undef = .slice (some ⟨bb, ob, none⟩) len cap := by have h := e4; simp only [Act.eval, Array.getD_eq_getD_getElem?] at h; exact h
      obtain ⟨f5, d5⟩ := hdep ⟨5, .data⟩ (by simp) rfl
      have e5 : a.eval (.tmp 56) = .int .i64 (j : Int) := (d5 56 rfl).trans f5
      have e5' : a.tmps[56]?.getD undef = .int .i64 (j : Int) := by have h := e5; simp only [Act.eval, Array.getD_eq_getD_getElem?] at h; exact h
      exact wp_val (v := .pointer (some ⟨bb, ob + j * 5, none⟩)) (w' := w1) (by simp [execOp, go_sem, e4', e5', i1, i2]) (hK _ _ (Bel.refl _) rfl)
    | 7, _, ho, hdep, hK =>
      simp only [regRc, List.getElem?_toArray, List.getElem?_cons_zero, List.getElem?_cons_succ, Option.some.injEq] at ho
      subst ho
      refine ⟨fun _ => ?_, fun hw => (yw_n rfl hw).elim⟩
      obtain ⟨f6, d6⟩ := hdep ⟨6, .data⟩ (by simp) rfl
      have e6 : a.eval (.tmp 57) = .pointer (some ⟨bb, ob + j * 5, none⟩) := (d6 57 rfl).trans f6
      have e6' : a.tmps[57]?.getD undef = .pointer (some ⟨bb, ob + j * 5, none⟩) := by have h := e6; simp only [Act.eval, Array.getD_eq_getD_getElem?] at h; exact h
      exact wp_val (v := .agg #[.int .u8 k1, .int .i64 n1, .int .i64 v1, .int .u8 c1, .slice A1 len1 cap1]) (w' := w1) (by simp [execOp, go_sem, e6', s0, s1, s2, s3, s4]) (hK _ _ (Bel.refl _) rfl)
    | 8, _, ho, hdep, hK =>
      simp only [regRc, List.getElem?_toArray, List.getElem?_cons_zero, List.getElem?_cons_succ, Option.some.injEq] at ho
      subst ho
      refine ⟨fun _ => ?_, fun hw => (yw_n rfl hw).elim⟩
      obtain ⟨f2, d2⟩ := hdep ⟨2, .data⟩ (by simp) rfl
      have e2 : a.eval (.tmp 53) = .pointer (some ⟨sb, 0, none⟩) := (d2 53 rfl).trans f2
      have e2' : a.tmps[53]?.getD undef = .pointer (some ⟨sb, 0, none⟩) := by have h := e2; simp only [Act.eval, Array.getD_eq_getD_getElem?] at h; exact h
      obtain ⟨f7, d7⟩ := hdep ⟨7, .data⟩ (by simp) rfl
      have e7 : a.eval (.tmp 58) = .agg #[.int .u8 k1, .int .i64 n1, .int .i64 v1, .int .u8 c1, .slice A1 len1 cap1] := (d7 58 rfl).trans f7
      have e7' : a.tmps[58]?.getD undef = .agg #[.int .u8 k1, .int .i64 n1, .int .i64 v1, .int .u8 c1, .slice A1 len1 cap1] := by have h := e7; simp only [Act.eval, Array.getD_eq_getD_getElem?] at h; exact h
      refine wp_enter (f := 40) (args := #[.pointer (some ⟨sb, 0, none⟩), .agg #[.int .u8 k1, .int .i64 n1, .int .i64 v1, .int .u8 c1, .slice A1 len1 cap1]]) (by simp [go_sem, e2', e7']) ((HC w1 hbel).mono ?_)
      rintro e w' ⟨A, cA, rfl, hk, hb⟩
      exact ⟨_, rfl, hK _ _ hb ⟨A, cA, rfl, hk.wide fun i hi' => hi'.elim .inl fun h => .inr ⟨by rw [hhi]; exact Nat.le_trans hbel.size h.1, h.2⟩⟩⟩
    | 9, _, ho, hdep, hK =>
      simp only [regRc, List.getElem?_toArray, List.getElem?_cons_zero, List.getElem?_cons_succ, Option.some.injEq] at ho
      subst ho
      refine ⟨fun _ => ?_, fun hw => (yw_n rfl hw).elim⟩
      obtain ⟨f8, d8⟩ := hdep ⟨8, .data⟩ (by simp) rfl
      obtain ⟨A8, c8, hv8, hk8⟩ := f8
      have e8 : a.eval (.tmp 59) = .agg #[.int .u8 kx, .int .i64 nx, .int .i64 vx, .int .u8 cx, .slice A8 kidsx.len c8] := (d8 59 rfl).trans hv8
      have e8' : a.tmps[59]?.getD undef = .agg #[.int .u8 kx, .int .i64 nx, .int .i64 vx, .int .u8 cx, .slice A8 kidsx.len c8] := by have h := e8; simp only [Act.eval, Array.getD_eq_getD_getElem?] at h; exact h
      exact wp_val (v := .slice (some ⟨w1.heap.size, 0, none⟩) 1 1) (w' := w1.alloc (.cells #[.int .u8 kx, .int .i64 nx, .int .i64 vx, .int .u8 cx, .slice A8 kidsx.len c8] 27)) (by simp [execOp, go_sem, e8']) (hK _ _ ((Bel.refl w1).alloc _) ⟨_, A8, c8, rfl, hhi ▸ hbel.size, blk1 w1 _, hk8.bel2 ((Bel.refl w1).alloc _)⟩)
    | q + 10, hi, _, _, _ => exact absurd hi (by omega)
  · intro V w' hb hF
    have e : finA regRc.toArray 10 V (acORc qb tb bb ob j len cap c5 ql qh kt nt vt ct k0 n0 v0 c0 k1 n1 v1 c1 kx nx vx cx A5 A1 len1 cap1 kidsx sb s1 s2 s4 s7 s8 s9 s10 s11 s12 s13 s14 s15 s16 s17 s18 s19 s20 s21 s22 s23 s24 s25 s26 s27 s28 s29 s30 s31 s32 s33 s34 s35 s36 s37 s38 s39 s40 s41 s42 s43 s44 s45 s46 s47 s48 s49 s50 s51 s52 s53 s54 s55 s56 s57 s58 s59 s60 s61 s62 s63 df) = acVRc qb tb bb ob j len cap c5 ql qh kt nt vt ct k0 n0 v0 c0 k1 n1 v1 c1 kx nx vx cx A5 A1 len1 cap1 kidsx sb s1 s2 s4 s7 s8 s9 s10 s11 s12 s13 s14 s15 s16 s17 s18 s19 s20 s21 s22 s23 s24 s25 s26 s27 s28 s29 s30 s31 s32 s33 s34 s35 s36 s37 s38 s39 s40 s41 s42 s43 s44 s45 s46 s47 s48 s49 s50 s51 s52 s53 s54 s55 s56 s57 s58 s59 s60 s61 s62 s63 df V := by kernel_rfl
    rw [e]
    exact hend V w' hb (hF 1 (by omega)) (hF 9 (by omega))
end Go.Proofs.YtblgligagngpfaaDoor.Mu
namespace Go.Proofs.YtblgligagngpfaaDoor.Mu
open Go.ChangeShapes Go.WideShapes Go.ChangeAt Go.RowKit Go.Shelf

attribute [local go_sem] Oper.semAt_some
set_option linter.unusedVariables false

theorem RowF.step0 {X : Nat → Prop} {w2 wr w3 : World} {A : Option Addr} {cp n : Nat} {g : Fo} {xs : List Value} {v' : Value} {k m u c : Int} {A' : Option Addr} {len cap : Nat} {kids : Fo} (hO : wr.ownsRow w2.heap.size 27 5 (.slice A n cp) n xs) (hb : Bel w2 wr) (hl : g.len = n)
    (hc : CellsOf wr (fun j => j < wr.heap.size ∧ (Value.slice A n cp).ownBlock ≠ some j ∧ X j) g xs) (hk : KidsAt wr (fun j => j < wr.heap.size ∧ (Value.slice A n cp).ownBlock ≠ some j ∧ X j) A' len cap kids)
    (hown : w3.ownsRow w2.heap.size 27 5 v' (n + 1) (xs ++ [.int .u8 k, .int .i64 m, .int .i64 u, .int .u8 c, .slice A' len cap])) (hg : wr.grownBy w3 (Value.slice A n cp).ownBlock) (hv : v'.ownBlock = (Value.slice A n cp).ownBlock ∨ v'.ownBlock = some wr.heap.size) :
    RowF X w2 w3 v' (n + 1) (g.snoc (.cons k m u c kids .nil)) := by
  have hbb : Bel w2 w3 := Below.grown hb hg hb.size fun x hx => (hO.lt x hx).1
  obtain ⟨g3, c3, rfl⟩ := ownsRow_succ hown
  refine ⟨_, ⟨_, _, rfl, hown, hbb⟩, by rw [Fo.snoc_len, hl]; rfl, CellsOf.to (fun j hj => hg.block j hj.1 fun e => hj.2.1 e.symm) (fun j hj => ⟨Nat.lt_of_lt_of_le hj.1 hg.size, ?_, hj.2.2⟩) _ _ (CellsOf.snoc hk g xs hc)⟩
  rcases hv with h | h
  · rw [h]; exact hj.2.1
  · rw [h]
    intro e
    have := hj.1
    simp at e
    omega
/-- Where the types in memory lie. -/
theorem RowF.kidsX {X : Nat → Prop} {w2 wr : World} {A : Option Addr} {cp n : Nat} {g : Fo} (h : RowF X w2 wr (.slice A n cp) n g) : KidsAt wr (fun j => j < wr.heap.size ∧ (X j ∨ (Value.slice A n cp).ownBlock = some j)) A n cp g := by
  obtain ⟨xs, ⟨A2, c2, e, hO, hb⟩, h2, h3⟩ := h
  cases e
  rcases hO with ⟨hl, ⟨e, h0⟩ | ⟨b, cap, cur, e, hbb, hh, h4, h5, h6, h7⟩⟩
  · cases e
    exact ⟨h2.symm, Nat.le_refl _, fun h => absurd h (by omega)⟩
  · cases e
    refine ⟨h2.symm, h4, fun _ => ⟨b, 0, rfl, ⟨(Array.getElem?_eq_some_iff.1 hh).1, .inr rfl⟩, FoAt.wide (fun j hj => ⟨hj.1, .inl hj.2.2⟩) g b 0 (CellsOf.foAt g xs 0 h3 fun j u hu => ?_)⟩⟩
    rw [Nat.zero_add]
    subst h7
    have hu' : cur.toList[j]? = some u := by
      have := List.getElem?_take (l := cur.toList) (i := n * 5) (j := j)
      rw [hu] at this
      by_cases hj : j < n * 5
      · rw [if_pos hj] at this; exact this.symm
      · rw [if_neg hj] at this; cases this
    simp only [Array.getElem?_toList] at hu'
    simp [World.cell?, hh, hu']
/-- A cell of another block is written. -/
theorem RowF.setq {X : Nat → Prop} {w2 w : World} {v : Value} {n qb x : Nat} {g : Fo} {u : Value} (h : RowF X w2 w v n g) (hq : w2.heap.size ≤ qb) (hX : ¬ X qb) (hn : v.ownBlock ≠ some qb) : RowF X w2 (w.setCell ⟨qb, x, none⟩ u) v n g := by
  obtain ⟨xs, ⟨A, c, e, hO, hb⟩, h2, h3⟩ := h
  refine ⟨xs, ⟨A, c, e, setW_row hO (e ▸ hn), hb.set_ hq u⟩, h2, CellsOf.to (fun j hj => ?_) (fun j hj => ⟨by simpa [World.setCell] using hj.1, hj.2⟩) g xs h3⟩
  exact heap_setCell_other _ _ _ _ (fun e => hX (by have := hj.2.2; rw [e] at this; exact this))
theorem five_of {w : World} {g : Nat} {a b c d e : Value} {t : TypeId} (h : w.heap[g]? = some (.cells #[a, b, c, d, e] t (0, 0))) : ∀ j u, [a, b, c, d, e][j]? = some u → w.cell? (Addr.add ⟨g, 0, none⟩ j) = some u := by
  intro j u hu
  obtain ⟨⟨a0, a1, a2, a3, a4⟩, _⟩ := cells5 h
  rw [Addr.add_lit, Nat.zero_add]
  match j, hu with
  | 0, hu => cases hu; exact a0
  | 1, hu => cases hu; exact a1
  | 2, hu => cases hu; exact a2
  | 3, hu => cases hu; exact a3
  | 4, hu => cases hu; exact a4
theorem set5_other {w : World} {g j : Nat} {a b c d e : Value} (h : j ≠ g) : (((((w.setCell ⟨g, 0, none⟩ a).setCell ⟨g, 1, none⟩ b).setCell ⟨g, 2, none⟩ c).setCell ⟨g, 3, none⟩ d).setCell ⟨g, 4, none⟩ e).heap[j]? = w.heap[j]? := by
  rw [heap_setCell_other _ _ _ _ h, heap_setCell_other _ _ _ _ h, heap_setCell_other _ _ _ _ h, heap_setCell_other _ _ _ _ h, heap_setCell_other _ _ _ _ h]
theorem set5_size {w : World} {g : Nat} {a b c d e : Value} : (((((w.setCell ⟨g, 0, none⟩ a).setCell ⟨g, 1, none⟩ b).setCell ⟨g, 2, none⟩ c).setCell ⟨g, 3, none⟩ d).setCell ⟨g, 4, none⟩ e).heap.size = w.heap.size := by simp [World.setCell]
theorem bel_set5 {w0 w : World} {g : Nat} {a b c d e : Value} (h : Bel w0 w) (hg : w0.heap.size ≤ g) : Bel w0 (((((w.setCell ⟨g, 0, none⟩ a).setCell ⟨g, 1, none⟩ b).setCell ⟨g, 2, none⟩ c).setCell ⟨g, 3, none⟩ d).setCell ⟨g, 4, none⟩ e) :=
  ((((h.set_ hg _).set_ hg _).set_ hg _).set_ hg _).set_ hg _
theorem RowF.low {X : Nat → Prop} {w2 wr : World} {v : Value} {n : Nat} {g : Fo} (h : RowF X w2 wr v n g) : ∀ i, v.ownBlock = some i → w2.heap.size ≤ i := by
  obtain ⟨xs, ⟨A, c, e, hO, hb⟩, _⟩ := h
  subst e
  exact fun i hi => (hO.lt i hi).1
theorem subst_nth (us : Fo) (un : Nat) (ns : List (Int × Int)) : ∀ (f : Fo) (i : Nat), i < f.len → (Fo.subst us un ns f).nth i = Fo.subst us un ns (f.nth i)
  | .nil, i, h => absurd h (by simp [Fo.len])
  | .cons k n v c kids rest, i, hi => by
    obtain ⟨k', n', v', c', kids', h⟩ := subst_head us un ns k n v c kids
    cases i with
    | zero =>
      rw [h rest]
      show Fo.cons k' n' v' c' kids' .nil = Fo.subst us un ns (.cons k n v c kids .nil)
      rw [h .nil]
      rfl
    | succ i =>
      rw [h rest]
      exact subst_nth us un ns rest i (by simp only [Fo.len] at hi; omega)
theorem subst_len (us : Fo) (un : Nat) (ns : List (Int × Int)) : ∀ f : Fo, (Fo.subst us un ns f).len = f.len
  | .nil => rfl
  | .cons k n v c kids rest => by
    obtain ⟨k', n', v', c', kids', h⟩ := subst_head us un ns k n v c kids
    rw [h rest]
    simp only [Fo.len, subst_len us un ns rest]
def Fo.takeF : Fo → Nat → Fo
  | .nil, _ => .nil
  | .cons _ _ _ _ _ _, 0 => .nil
  | .cons k n v c kids rest, j + 1 => .cons k n v c kids (rest.takeF j)
theorem Fo.takeF_zero (f : Fo) : f.takeF 0 = .nil := by cases f <;> rfl
theorem Fo.takeF_all : ∀ f : Fo, f.takeF f.len = f
  | .nil => rfl
  | .cons k n v c kids rest => by simp only [Fo.len, Fo.takeF, Fo.takeF_all rest]
theorem Fo.takeF_succ : ∀ (f : Fo) (j : Nat), j < f.len → f.takeF (j + 1) = (f.takeF j).snoc (f.nth j)
  | .nil, j, h => absurd h (by simp [Fo.len])
  | .cons k n v c kids rest, 0, _ => by simp [Fo.takeF, Fo.snoc, Fo.nth, Fo.takeF_zero]
  | .cons k n v c kids rest, j + 1, h => by
    have := Fo.takeF_succ rest j (by simp only [Fo.len] at h; omega)
    simp only [Fo.takeF, Fo.snoc, Fo.nth] at this ⊢
    rw [this]
theorem well_nth : ∀ (f : Fo) (i : Nat), f.well = true → (f.nth i).well = true
  | .nil, i, _ => rfl
  | .cons k n v c kids rest, 0, h => by simp only [Fo.well, Bool.and_eq_true] at h; simp [Fo.nth, Fo.well, h.1, h.2.1]
  | .cons k n v c kids rest, i + 1, h => by simp only [Fo.well, Bool.and_eq_true] at h; exact well_nth rest i h.2.2
set_option maxRecDepth 100000 in
set_option maxHeartbeats 4000000 in
theorem rput_any (w0 : World) (T : Option Addr) (tn tc : Nat) (ts : Fo) (U : Option Addr) (un uc : Nat) (ms : List (Int × Int)) (hT : KidsAt w0 (Old w0) T tn tc ts) (hU : RMu w0 U un ms) (N : Nat) : ∀ (k n v c : Int) (A : Option Addr) (len cap : Nat) (kids : Fo) (w : World), kids.size = N → Bel w0 w → KidsAt w (Old w) A len cap kids → (Fo.cons k n v c kids .nil).well = true → kids.size ≤ 1400000 →
    ∀ (kx nx vx cx : Int) (kidsx : Fo), Fo.subst ts tn ms (.cons k n v c kids .nil) = .cons kx nx vx cx kidsx .nil →
    Calls Tryd.prog 10 #[.agg #[.int .u8 k, .int .i64 n, .int .i64 v, .int .u8 c, .slice A len cap], .slice T tn tc, .slice U un uc] w (RtQ w0.heap.size kx nx vx cx kidsx w) := by
  induction N using Nat.strongRecOn with
  | _ N ih =>
    intro k n v c A len cap kids w hN hb0 h hw hsz kx nx vx cx kidsx hsub
    have hw' := hw
    simp only [Fo.well, Bool.and_eq_true] at hw'
    have H := Lib.hid h
    have IH := Lib.hid ih
    have HL : Hid (len = kids.len) := Lib.hid h.1
    have HN := Lib.hid hN
    have HB0 := Lib.hid hb0
    have HW := Lib.hid hw'.2.1
    have hlen : len ≤ 1400000 := by have := h.1; have := kids.len_le; omega
    by_cases hv : putB k n tn = true
    · obtain ⟨rfl, hlt⟩ : k = 1 ∧ n < (tn : Int) := by simpa [putB] using hv
      have hn0 := (nodeB_at hw'.1).1 rfl
      obtain ⟨i, rfl⟩ : ∃ i : Nat, n = i := ⟨n.toNat, by omega⟩
      have htl := hT.1
      obtain ⟨b, o, rfl, hbo, hfo⟩ := (hT.keep fun j hj => hb0.block j hj).2.2 (by omega)
      obtain ⟨k', n', v', c', kids', A', cap', en, e1, e2, e3, e4, e5, hk'⟩ := FoAt.nth ts i b o hfo (by omega)
      have hs : Fo.subst ts tn ms (.cons 1 (i : Int) v c kids .nil) = .cons k' n' v' c' kids' .nil := by
        simp only [Fo.subst, hv, if_true, Int.toNat_natCast, en]
      rw [hs] at hsub
      injection hsub with q1 q2 q3 q4 q5 q6
      subst q1 q2 q3 q4 q5
      have HK := Lib.hid hk'
      have d1 : decide ((i : Int) < (tn : Int)) = true := by rw [decide_eq_true_eq]; exact hlt
      have i1 : (0 : Int) ≤ (i : Int) := by omega
      have hbl : b < w.heap.size := Nat.lt_of_lt_of_le hbo hb0.size
      clear h hb0 hw hw' ih hN hT hU hfo en hk' hs hv q6
      go_enter Tryd.func10, Tryd.ntmps10
      go_wp2_with fail
      refine bodyPost_ret (v := .agg #[.int .u8 k', .int .i64 n', .int .i64 v', .int .u8 c', .slice A' kids'.len cap']) (by simp [results, Tryd.results10, go_sem]) rfl ?_
      have hb2 := ((Bel.refl w).alloc (.cells #[.int .u8 1, .int .i64 i, .int .i64 v, .int .u8 c, .slice A len cap] 27)).alloc (.cells #[.int .u8 k', .int .i64 n', .int .i64 v', .int .u8 c', .slice A' kids'.len cap'] 27)
      exact ⟨A', cap', rfl, (HK.out.keep fun j hj => hb2.block j (Nat.lt_of_lt_of_le hj HB0.out.size)).wide fun j hj => .inl ⟨hj, Nat.lt_of_lt_of_le hj (Nat.le_trans HB0.out.size hb2.size)⟩, hb2⟩
    · obtain ⟨v1, c1, h1⟩ : ∃ v1 c1, (if k = 7 then putU ms v c else (v, c)) = (v1, c1) := ⟨_, _, rfl⟩
      have hs : Fo.subst ts tn ms (.cons k n v c kids .nil) = .cons k n v1 c1 (Fo.subst ts tn ms kids) .nil := by
        by_cases h7 : k = 7
        · subst h7
          rw [if_pos rfl] at h1
          simp only [Fo.subst, hv, Bool.false_eq_true, if_false, if_true, h1]
        · rw [if_neg h7] at h1
          injection h1 with q1 q2
          subst q1 q2
          simp only [Fo.subst, hv, Bool.false_eq_true, if_false, h7]
      rw [hs] at hsub
      injection hsub with q1 q2 q3 q4 q5 q6
      subst q1 q2 q3 q4 q5
      have hvb : k = 1 → ¬ n < (tn : Int) := fun h1 h2 => hv (by simp [putB, h1, h2])
      have hmb := hw'.1
      have hcase : (k = 7 ∧ c = 0 ∧ v < (un : Int)) ∨ (k = 7 ∧ c = 0 ∧ ¬ v < (un : Int)) ∨ (k = 7 ∧ c ≠ 0) ∨ (k = 1) ∨ (k ≠ 1 ∧ k ≠ 7) := by
        by_cases h7 : k = 7
        · by_cases h0 : c = 0
          · by_cases h2 : v < (un : Int)
            · exact .inl ⟨h7, h0, h2⟩
            · exact .inr (.inl ⟨h7, h0, h2⟩)
          · exact .inr (.inr (.inl ⟨h7, h0⟩))
        · by_cases h1 : k = 1
          · exact .inr (.inr (.inr (.inl h1)))
          · exact .inr (.inr (.inr (.inr ⟨h1, h7⟩)))
      have hul := hU.1
      obtain ⟨w1, hw1⟩ : ∃ W, W = (w.alloc (.cells #[.int .u8 k, .int .i64 n, .int .i64 v, .int .u8 c, .slice A len cap] 27)).alloc (.cells #[.int .u8 0, .int .i64 0, .int .i64 0, .int .u8 0, .slice none 0 0] 27) := ⟨_, rfl⟩
      have HQ1 : Hid (w1.heap[w.heap.size]? = some (.cells #[.int .u8 k, .int .i64 n, .int .i64 v, .int .u8 c, .slice A len cap] 27 (0, 0)) ∧ w1.heap[w.heap.size + 1]? = some (.cells #[.int .u8 0, .int .i64 0, .int .i64 0, .int .u8 0, .slice none 0 0] 27 (0, 0))) := Lib.hid (by rw [hw1]; exact blk2 w _ _)
      have HB1 : Hid (Bel w w1) := Lib.hid (by rw [hw1]; exact ((Bel.refl w).alloc _).alloc _)
      have HS1 : Hid (w1.heap.size = w.heap.size + 2) := Lib.hid (by rw [hw1]; simp)
      obtain ⟨k1, hkk⟩ : ∃ k1, Hid (k1 = k) := ⟨_, Lib.hid rfl⟩
      rcases hcase with ⟨rfl, rfl, hvu⟩ | ⟨rfl, rfl, hvu⟩ | ⟨rfl, hc⟩ | rfl | ⟨hk1, hk7⟩
      case' inl =>
        have hv0 := (nodeB_at hmb).2 rfl rfl
        obtain ⟨i, rfl⟩ : ∃ i : Nat, v = i := ⟨v.toNat, by omega⟩
        obtain ⟨ub, uo, rfl, hulb, hcs⟩ := (hU.bel hb0).2 (by omega)
        obtain ⟨x, hx⟩ : ∃ x, ms[i]? = some x := ⟨_, List.getElem?_eq_getElem (by omega)⟩
        rw [if_pos rfl, putU_yes (by omega) (by rw [Int.toNat_natCast]; exact hx)] at h1
        subst h1
        obtain ⟨y0, y1⟩ := hcs i _ hx
        have d1 : decide ((i : Int) < (un : Int)) = true := by rw [decide_eq_true_eq]; exact hvu
        have i1 : (0 : Int) ≤ (i : Int) := by omega
        have dl2 : decide (i < un) = true := by simp; omega
        have hu1 : ub < w.heap.size + 1 := by omega
        have hu2 : ub < w.heap.size + 1 + 1 := by omega
        clear hcs hx
      case' inr.inl =>
        rw [if_pos rfl, putU_no (fun h => hvu (by omega))] at h1
        injection h1 with q1 q2
        have hv1 := Lib.hid q1.symm
        have hc1 := Lib.hid q2.symm
        clear q1 q2
        have d1 : decide (v < (un : Int)) = false := by rw [decide_eq_false_iff_not]; exact hvu
      case' inr.inr.inl =>
        rw [if_pos rfl, putU_no (fun h => hc h.1)] at h1
        injection h1 with q1 q2
        have hv1 := Lib.hid q1.symm
        have hc1 := Lib.hid q2.symm
        clear q1 q2
        have d1 : (c == 0) = false := by simp [hc]
      case' inr.inr.inr.inl =>
        rw [if_neg (by decide)] at h1
        injection h1 with q1 q2
        have hv1 := Lib.hid q1.symm
        have hc1 := Lib.hid q2.symm
        clear q1 q2
        have d1 : decide (n < (tn : Int)) = false := by rw [decide_eq_false_iff_not]; exact hvb rfl
      case' inr.inr.inr.inr =>
        rw [if_neg hk7] at h1
        injection h1 with q1 q2
        have hv1 := Lib.hid q1.symm
        have hc1 := Lib.hid q2.symm
        clear q1 q2
        have d1 : (k == 1) = false := by simp [hk1]
        have d2 : (k == 7) = false := by simp [hk7]
      all_goals
        clear h hb0 hw hw' ih hN hT hU hs hv q6 hvb hmb hul
        go_enter Tryd.func10, Tryd.ntmps10
        go_wp2_with fail
        rw [← hw1]
        clear hw1
        go_loopw [8] (fun iv wr => ∃ (j c5 : Nat) (A5 : Option Addr), j ≤ len ∧ iv = .int .i64 (j : Int) ∧ Hid (wr.heap[w.heap.size + 1 + 1]? = some (.cells #[.int .u8 k1, .int .i64 n, .int .i64 v1, .int .u8 c1, .slice A5 j c5] 27 (0, 0))) ∧ Hid ((Value.slice A5 j c5).ownBlock ≠ some (w.heap.size + 1 + 1)) ∧ Hid (RowF (fun i => i < w0.heap.size ∨ w1.heap.size < i) w1 wr (.slice A5 j c5) j ((Fo.subst ts tn ms kids).takeF j))) (fun iv _ => len - (intOf iv).toNat)
        case atStart => exact ⟨0, 0, none, Nat.zero_le _, rfl, Lib.hid (by first | (rw [hkk.out]; exact blk_at (by have := HS1.out; omega)) | (rw [hkk.out, hv1.out, hc1.out]; exact blk_at (by have := HS1.out; omega))), Lib.hid (by simp [Value.ownBlock]), Lib.hid (by rw [Fo.takeF_zero]; exact (RowF.start _ w1).bel ((Bel.refl w1).alloc _))⟩
        case round =>
          obtain ⟨j, c5, A5, hj, rfl, HBQ, HNQ, HR⟩ := hrel
          have HBr : Hid (Bel w1 wr) := Lib.hid (by obtain ⟨xs, ⟨_, _, _, _, h⟩, _⟩ := HR.out; exact h)
          have hsr := HBr.out.size
          have hs1 := HS1.out
          obtain ⟨⟨x0, x1, x2, x3, x4⟩, _⟩ := cells5 (HBr.out.blk HQ1.out.1)
          have hl3 : w.heap.size < wr.heap.size := by omega
          have hlq := (Array.getElem?_eq_some_iff.1 HBQ.out).1
          by_cases hlt : j < len
          · have d9 : decide ((j : Int) < (len : Int)) = true := by rw [decide_eq_true_eq]; omega
            obtain ⟨b, o, eA, hbo, hfo⟩ := (H.out.keep fun i hi => (HB1.out.on HBr.out).block i hi).2.2 (by omega)
            subst eA
            obtain ⟨k', n', v', c', kids', A', cap', en, e1, e2, e3, e4, e5, hk'⟩ := FoAt.nth kids j b o hfo (by rw [← HL.out]; exact hlt)
            have hwk : (Fo.cons k' n' v' c' kids' .nil).well = true := by rw [← en]; exact well_nth kids j HW.out
            have hsn := Fo.nth_size kids j
            rw [en] at hsn
            simp only [Fo.size] at hsn
            obtain ⟨kx, nx, vx, cx, kidsx, hsh⟩ := subst_head ts tn ms k' n' v' c' kids'
            have hsx : Fo.subst ts tn ms (.cons k' n' v' c' kids' .nil) = .cons kx nx vx cx kidsx .nil := hsh .nil
            have HTK : Hid ((Fo.subst ts tn ms kids).takeF (j + 1) = ((Fo.subst ts tn ms kids).takeF j).snoc (.cons kx nx vx cx kidsx .nil)) := Lib.hid (by
              rw [Fo.takeF_succ _ j (by rw [subst_len, ← HL.out]; exact hlt), subst_nth ts tn ms kids j (by rw [← HL.out]; exact hlt), en, hsx])
            have HCC := Lib.hid (fun (W : World) (hW : Bel wr W) => IH.out kids'.size (by have := HN.out; omega) k' n' v' c' A' kids'.len cap' kids' W rfl ((HB0.out.on (HB1.out.on HBr.out)).on hW) (((hk'.wide fun i hi => Nat.lt_of_lt_of_le hi (HB1.out.on HBr.out).size).bel hW)) hwk (by omega) kx nx vx cx kidsx hsx)
            have i1 : (0 : Int) ≤ (j : Int) := by omega
            have i2 : (j : Int) < (len : Int) := by omega
            have hbl : b < wr.heap.size := Nat.lt_of_lt_of_le hbo (HB1.out.on HBr.out).size
            clear hfo hk' hwk hsn hsh hsx en
            go_wp2_with fail
            refine regRp_any (id := 9) (w.heap.size + 1 + 1) w.heap.size b o j len cap c5 w0.heap.size wr.drew.heap.size _ n _ _ k1 n v1 c1 k' n' v' c' kx nx vx cx A5 A' kids'.len cap' kidsx T _ tn tc un uc _ _ _ _ _ _ _ _ _ _ _ _ _ _ _ _ _ _ _ _ _ _ _ _ _ _ _ _ _ _ _ _ _ _ _ _ _ _ _ _ _ _ _ _ _ _ _ _ _ _ _ _ _ _ _ _ _ _ _ _ _ _ _ _ _ _ _ _ _ _ _ _ wr rfl HBQ.out (HBr.out.blk HQ1.out.1) i1 i2 hbl e1 e2 e3 e4 e5 (fun W hW => HCC.out W (((Bel.refl wr).drew).on hW)) _ ?_
            intro V w2 hb2 hv1' ⟨gb, Az, cz, hv10, hgl, hgh, hkz⟩
            have hb2' : Bel wr w2 := ((Bel.refl wr).drew).on hb2
            have HB2 := Lib.hid hb2'
            have HGH := Lib.hid hgh
            have HKZ := Lib.hid hkz
            simp only [regRp, List.drop_succ_cons, List.drop_zero, acVRp, hv1', hv10]
            clear hb2 hb2' hv1' hv10 hkz e1 e2 e3 e4 e5 x0 x1 x2 x3 x4 d9
            obtain ⟨xs, ⟨A5', c5', eA5, hO5, hb5⟩, hl5, hc5⟩ := HR.out
            cases eA5
            have HO5 := Lib.hid (owns_bel hO5 HB2.out)
            have HC5 := Lib.hid (hc5.bel HB2.out)
            have HL5 := Lib.hid hl5
            have hOL := hO5.lt
            clear hO5 hb5 hl5 hc5
            obtain ⟨i0, hi0, hz0', hz1', hz2'⟩ := info_parts info_tyB
            have hs2 := HB2.out.size
            go_wp2_with (at_builtin; refine stopW ?_)
            unfold StopW
            refine wpList_append_own_at _ rfl _ _ 25 rfl w1.heap.size 27 i0 _ 5 56 Tryd.underlying25 hi0 hz0' hz1' hz2' rfl (by decide) (.slice A5 j c5) j _ rfl HO5.out ⟨gb, 0, none⟩ 1 1 [.int .u8 kx, .int .i64 nx, .int .i64 vx, .int .u8 cx, .slice Az kidsx.len cz] rfl rfl (five_of HGH.out) (by simp [Value.oneCell']) (by unfold maxLen; omega) (by omega) (by omega) ?_
            intro vN w3 hown3 hg3 _ hat3
            have hw0 := (HB0.out.on HB1.out).size
            have HKX : ∀ i, Fresh2 w0.heap.size wr.drew.heap.size w2 i → i < w2.heap.size ∧ (Value.slice A5 j c5).ownBlock ≠ some i ∧ (i < w0.heap.size ∨ w1.heap.size < i) := fun i hi => by
              have hi2 : i < w2.heap.size := hi.elim (fun h => h.2) fun h => h.2
              refine ⟨hi2, fun e => ?_, ?_⟩
              · have h1 := hOL i e
                rcases hi with h | h
                · have h2 := h.1
                  omega
                · have h2 : wr.heap.size ≤ i := h.1
                  omega
              · rcases hi with h | h
                · exact .inl h.1
                · exact .inr (by have h2 : wr.heap.size ≤ i := h.1; omega)
            have H3 := Lib.hid (RowF.step0 (X := fun i => i < w0.heap.size ∨ w1.heap.size < i) HO5.out (HBr.out.on HB2.out) HL5.out HC5.out (HKZ.out.wide HKX) hown3 hg3 hat3)
            have HBQ3 : Hid (w3.heap[w.heap.size + 1 + 1]? = some (.cells #[.int .u8 k1, .int .i64 n, .int .i64 v1, .int .u8 c1, .slice A5 j c5] 27 (0, 0))) := Lib.hid ((hg3.block _ (by omega) (fun e => HNQ.out e.symm)).trans (HB2.out.blk HBQ.out))
            have HNQ3 : Hid (vN.ownBlock ≠ some (w.heap.size + 1 + 1)) := Lib.hid (by
              rcases hat3 with h | h
              · rw [h]; exact HNQ.out
              · rw [h]; intro e; simp at e; omega)
            obtain ⟨A6, c6, rfl⟩ := own_form_n hown3
            obtain ⟨⟨x0, x1, x2, x3, x4⟩, xf⟩ := cells5 HBQ3.out
            have hlq3 := (Array.getElem?_eq_some_iff.1 HBQ3.out).1
            clear hown3 hg3 hat3 hgl hgh hOL
            go_wp2_with fail
            go_roundw
            case rel => exact ⟨j + 1, c6, A6, by omega, by go_num, Lib.hid (by rw [heap_setCell_same w3 _ 4 _ _ _ HBQ3.out]; simp), HNQ3, Lib.hid (by rw [HTK.out]; exact H3.out.setq (by omega) (by omega) HNQ3.out)⟩
            case measure => simp [intOf]; omega
          · obtain rfl : len = j := by omega
            obtain ⟨⟨y0, y1, y2, y3, y4⟩, _⟩ := cells5 HBQ.out
            obtain ⟨⟨z0, z1, z2, z3, z4⟩, zf⟩ := cells5 (HBr.out.blk HQ1.out.2)
            have hl6 : w.heap.size + 1 < wr.heap.size := by omega
            go_wp2_with fail
            have HKF := Lib.hid HR.out.kidsX
            refine bodyPost_ret (v := .agg #[.int .u8 k1, .int .i64 n, .int .i64 v1, .int .u8 c1, .slice A5 len c5]) (by simp [results, Tryd.results10, go_sem, z0, z1, z2, z3, z4]) rfl ?_
            have hlow := HR.out.low
            have hw0 := (HB0.out.on HB1.out).size
            have hwz := HB0.out.size
            have hkf := HKF.out
            rw [show (Fo.subst ts tn ms kids).takeF len = Fo.subst ts tn ms kids by rw [HL.out, ← subst_len ts tn ms kids]; exact Fo.takeF_all _] at hkf
            refine ⟨A5, c5, by rw [hkk.out, subst_len, ← HL.out], ?_, bel_set5 (HB1.out.on HBr.out) (Nat.le_succ _)⟩
            rw [subst_len, ← HL.out]
            refine (hkf.keep fun i hi => set5_other fun e => ?_).wide fun i hi => ?_
            · rcases hi.2 with (h | h) | h
              · omega
              · omega
              · have := hlow i h
                omega
            · have hi1 := hi.1
              refine hi.2.elim (fun h => h.elim (fun h => .inl ⟨h, by rw [set5_size]; exact hi1⟩) fun h => .inr ⟨by omega, by rw [set5_size]; exact hi1⟩) fun h => .inr ⟨by have := hlow i h; omega, by rw [set5_size]; exact hi1⟩
end Go.Proofs.YtblgligagngpfaaDoor.Mu
namespace Go.Proofs.YtblgligagngpfaaDoor.Mu
open Go.ChangeShapes Go.WideShapes Go.ChangeAt Go.RowKit Go.Shelf

attribute [local go_sem] Oper.semAt_some
set_option linter.unusedVariables false

theorem idxOf_of : ∀ (l : List Int) (j : Nat) (x : Int), l[j]? = some x → x ∉ l.take j → l.idxOf x = j
  | [], j, x, h, _ => by simp at h
  | y :: l, 0, x, h, _ => by simp at h; subst h; simp
  | y :: l, j + 1, x, h, hn => by
    simp only [List.take_succ_cons, List.mem_cons, not_or] at hn
    rw [List.idxOf_cons, show (y == x) = false by simpa using fun e : y = x => hn.1 e.symm, cond_false, idxOf_of l j x (by simpa using h) hn.2]
/-- Where a number stands in a list. -/
def atF (l : List Int) (x : Int) : Int := if x ∈ l then (l.idxOf x : Int) else -1
set_option maxHeartbeats 1000000 in
theorem rat_any (A : Option Addr) (n cap : Nat) (x : Int) (l : List Int) (w : World) (hr : RI .i64 w w.heap.size A n l) (hmax : n ≤ 9000000000000000000) :
    Calls Tryd.prog 58 #[.slice A n cap, .int .i64 x] w fun e w' => e = .returned (.int .i64 (atF l x)) ∧ Bel w w' := by
  have HR := Lib.hid hr
  have HL := Lib.hid hr.len
  clear hr
  go_enter Tryd.func58, Tryd.ntmps58
  go_wp2
  go_loopw [5] (fun i wr => ∃ j : Nat, j ≤ n ∧ i = .int .i64 (j : Int) ∧ Hid (x ∉ l.take j) ∧ Hid (Bel w wr)) (fun i _ => n - (intOf i).toNat)
  case atStart => exact ⟨0, Nat.zero_le _, rfl, Lib.hid (by simp), Lib.hid (Bel.refl _)⟩
  case round =>
    obtain ⟨j, hj, rfl, HT, HB⟩ := hrel
    by_cases hlt : j < n
    · obtain ⟨b, off, eA, hb, hc⟩ := (HR.out.bel HB.out).at_ (by omega)
      subst eA
      have c0 := hc j hlt
      have i1 : (0 : Int) ≤ (j : Int) := by omega
      have i2 : (j : Int) < (n : Int) := by omega
      obtain ⟨y, hy⟩ : ∃ y, l[j]? = some y := ⟨_, List.getElem?_eq_getElem (by rw [← HL.out]; exact hlt)⟩
      rw [hy, Option.getD_some] at c0
      have HY := Lib.hid hy
      clear hc hy
      by_cases he : y = x
      · subst he
        go_wp2
        go_ret
        exact ⟨by unfold atF; rw [if_pos (List.mem_of_getElem? HY.out), idxOf_of l j _ HY.out HT.out]; rfl, HB.out⟩
      · have he' : (y == x) = false := by simp [he]
        have HE := Lib.hid he
        go_wp2
        go_roundw
        case rel => exact ⟨j + 1, by omega, by go_num, Lib.hid (by rw [take_snoc_ HY.out, List.mem_append, List.mem_singleton]; exact fun h => h.elim HT.out (fun e => HE.out e.symm)), HB⟩
        case measure => simp [intOf]; omega
    · obtain rfl : j = n := by omega
      go_wp2
      go_ret
      refine ⟨?_, HB.out⟩
      have h := HT.out
      rw [HL.out, List.take_length] at h
      unfold atF
      rw [if_neg h]
      rfl
-- regions
def regRa : List Oper := [
  { dst := some 17, op := Op.move (Operand.tmp 0), type := 103, pos := "ref.go:124", after := #[], guard := none },
  { dst := some 18, op := Op.nilCheck (Operand.tmp 17), type := 0, pos := "ref.go:124", after := #[{ on := 0, ground := Ground.data }], guard := none },
  { dst := some 19, op := Op.fieldAddr 46 (Operand.tmp 18) 0, type := 0, pos := "ref.go:124", after := #[{ on := 1, ground := Ground.data }], guard := none },
  { dst := some 20, op := Op.load 40 (Operand.tmp 19), type := 40, pos := "ref.go:124", after := #[{ on := 2, ground := Ground.data }], guard := none },
  { dst := some 21, op := Op.fieldAddr 27 (Operand.tmp 3) 1, type := 0, pos := "ref.go:124", after := #[], guard := none },
  { dst := some 22, op := Op.load 3 (Operand.tmp 21), type := 3, pos := "ref.go:124", after := #[{ on := 4, ground := Ground.data }], guard := none },
  { dst := some 23, op := Op.call { callee := Callee.value (Operand.func 58), args := #[Operand.tmp 20, Operand.tmp 22], argTypes := #[40, 3] }, type := 3, pos := "ref.go:124", after := #[{ on := 3, ground := Ground.data }, { on := 5, ground := Ground.data }], guard := none },
  { dst := some 24, op := Op.fieldAddr 27 (Operand.tmp 5) 1, type := 0, pos := "ref.go:124", after := #[{ on := 0, ground := Ground.phase }, { on := 1, ground := Ground.phase }, { on := 2, ground := Ground.phase }, { on := 3, ground := Ground.phase }, { on := 4, ground := Ground.phase }, { on := 5, ground := Ground.phase }, { on := 6, ground := Ground.phase }], guard := none },
  { dst := none, op := Op.store 3 (Operand.tmp 24) (Operand.tmp 23), type := 0, pos := "ref.go:124", after := #[{ on := 7, ground := Ground.data }, { on := 6, ground := Ground.data }, { on := 6, ground := Ground.chain }, { on := 0, ground := Ground.phase }, { on := 1, ground := Ground.phase }, { on := 2, ground := Ground.phase }, { on := 3, ground := Ground.phase }, { on := 4, ground := Ground.phase }, { on := 5, ground := Ground.phase }, { on := 6, ground := Ground.phase }], guard := none }]
def specRa (qb tb sb n1 q1 n2 q2 : Nat) (kt nt vt ct : Int) (At : Option Addr) (len cap : Nat) (B1 B2 : Option Addr) (x : Int) (T : List Int) (i : Nat) (v : Value) (w : World) : Prop :=
  match i with
  | 0 => v = .pointer (some ⟨sb, 0, none⟩)
  | 1 => v = .pointer (some ⟨sb, 0, none⟩)
  | 2 => v = .pointer (some ⟨sb, 0, none⟩)
  | 3 => v = .slice B1 n1 q1
  | 4 => v = .pointer (some ⟨tb, 1, none⟩)
  | 5 => v = .int .i64 nt
  | 6 => v = .int .i64 (atF T nt)
  | _ => True
theorem specRa_mono {qb tb sb n1 q1 n2 q2 : Nat} {kt nt vt ct : Int} {At : Option Addr} {len cap : Nat} {B1 B2 : Option Addr} {x : Int} {T : List Int} (i : Nat) (v : Value) (w w' : World) (hi : i < 7) (h : specRa qb tb sb n1 q1 n2 q2 kt nt vt ct At len cap B1 B2 x T i v w) (hb : Bel w w') : specRa qb tb sb n1 q1 n2 q2 kt nt vt ct At len cap B1 B2 x T i v w' := by
  match i, hi, h with
  | 0, _, h => exact h
  | 1, _, h => exact h
  | 2, _, h => exact h
  | 3, _, h => exact h
  | 4, _, h => exact h
  | 5, _, h => exact h
  | 6, _, h => exact h
  | q + 7, hi, _ => exact absurd hi (by omega)
def acORa (qb tb sb n1 q1 n2 q2 : Nat) (kt nt vt ct : Int) (At : Option Addr) (len cap : Nat) (B1 B2 : Option Addr) (x : Int) (T : List Int) (s1 s2 s4 s6 s7 s8 s9 s10 s11 s12 s13 s14 s15 s16 s17 s18 s19 s20 s21 s22 s23 s24 s25 s26 s27 s28 s29 s30 s31 s32 s33 s34 s35 s36 s37 s38 s39 s40 s41 s42 s43 s44 s45 s46 s47 s48 s49 s50 s51 s52 s53 s54 s55 s56 s57 s58 s59 s60 s61 s62 s63 : Value) (df : List Deferred) : Act := { tmps := #[.pointer (some ⟨sb, 0, none⟩), s1, s2, .pointer (some ⟨tb, 0, none⟩), s4, .pointer (some ⟨qb, 0, none⟩), s6, s7, s8, s9, s10, s11, s12, s13, s14, s15, s16, s17, s18, s19, s20, s21, s22, s23, s24, s25, s26, s27, s28, s29, s30, s31, s32, s33, s34, s35, s36, s37, s38, s39, s40, s41, s42, s43, s44, s45, s46, s47, s48, s49, s50, s51, s52, s53, s54, s55, s56, s57, s58, s59, s60, s61, s62, s63], defers := df }
def acVRa (qb tb sb n1 q1 n2 q2 : Nat) (kt nt vt ct : Int) (At : Option Addr) (len cap : Nat) (B1 B2 : Option Addr) (x : Int) (T : List Int) (s1 s2 s4 s6 s7 s8 s9 s10 s11 s12 s13 s14 s15 s16 s17 s18 s19 s20 s21 s22 s23 s24 s25 s26 s27 s28 s29 s30 s31 s32 s33 s34 s35 s36 s37 s38 s39 s40 s41 s42 s43 s44 s45 s46 s47 s48 s49 s50 s51 s52 s53 s54 s55 s56 s57 s58 s59 s60 s61 s62 s63 : Value) (df : List Deferred) (V : Nat → Value) : Act := { tmps := #[.pointer (some ⟨sb, 0, none⟩), s1, s2, .pointer (some ⟨tb, 0, none⟩), s4, .pointer (some ⟨qb, 0, none⟩), s6, s7, s8, s9, s10, s11, s12, s13, s14, s15, s16, V 0, V 1, V 2, V 3, V 4, V 5, V 6, s24, s25, s26, s27, s28, s29, s30, s31, s32, s33, s34, s35, s36, s37, s38, s39, s40, s41, s42, s43, s44, s45, s46, s47, s48, s49, s50, s51, s52, s53, s54, s55, s56, s57, s58, s59, s60, s61, s62, s63], defers := df }
theorem regRa_tail : tailB .any regRa.toArray 7 = true := by kernel_rfl
theorem regRa_fwd : fwdB regRa.toArray 7 = true := by kernel_rfl
theorem regRa_slots : slotsB regRa.toArray 64 = true := by kernel_rfl
theorem regRa_seq : Region.seqB .any regRa.toArray (regRa.length - 7) 7 (Array.replicate 7 true ++ Array.replicate (regRa.length - 7) false) = true := by kernel_rfl
set_option maxRecDepth 100000 in
set_option maxHeartbeats 8000000 in
theorem regRa_any {id : Nat} (qb tb sb n1 q1 n2 q2 : Nat) (kt nt vt ct : Int) (At : Option Addr) (len cap : Nat) (B1 B2 : Option Addr) (x : Int) (T : List Int) (s1 s2 s4 s6 s7 s8 s9 s10 s11 s12 s13 s14 s15 s16 s17 s18 s19 s20 s21 s22 s23 s24 s25 s26 s27 s28 s29 s30 s31 s32 s33 s34 s35 s36 s37 s38 s39 s40 s41 s42 s43 s44 s45 s46 s47 s48 s49 s50 s51 s52 s53 s54 s55 s56 s57 s58 s59 s60 s61 s62 s63 : Value) (df : List Deferred) (w : World) (hs : w.drew.heap[sb]? = some (.cells #[.slice B1 n1 q1, .slice B2 n2 q2] 46 (0, 0))) (htb : w.drew.heap[tb]? = some (.cells #[.int .u8 kt, .int .i64 nt, .int .i64 vt, .int .u8 ct, .slice At len cap] 27 (0, 0))) (HC : ∀ W, Bel w.drew W → Calls Tryd.prog 58 #[.slice B1 n1 q1, .int .i64 nt] W fun e w' => e = .returned (.int .i64 (atF T nt)) ∧ Bel W w') (Q : Exit → Act → World → Prop)
    (hend : ∀ (V : Nat → Value) (w' : World), Bel w.drew w' → (V 6) = .int .i64 (atF T nt) → wpList Tryd.prog regRa.toArray Q (regRa.drop 7) (acVRa qb tb sb n1 q1 n2 q2 kt nt vt ct At len cap B1 B2 x T s1 s2 s4 s6 s7 s8 s9 s10 s11 s12 s13 s14 s15 s16 s17 s18 s19 s20 s21 s22 s23 s24 s25 s26 s27 s28 s29 s30 s31 s32 s33 s34 s35 s36 s37 s38 s39 s40 s41 s42 s43 s44 s45 s46 s47 s48 s49 s50 s51 s52 s53 s54 s55 s56 s57 s58 s59 s60 s61 s62 s63 df V) w') :
    (Code.region id regRa.toArray true).wp Tryd.prog Q (acORa qb tb sb n1 q1 n2 q2 kt nt vt ct At len cap B1 B2 x T s1 s2 s4 s6 s7 s8 s9 s10 s11 s12 s13 s14 s15 s16 s17 s18 s19 s20 s21 s22 s23 s24 s25 s26 s27 s28 s29 s30 s31 s32 s33 s34 s35 s36 s37 s38 s39 s40 s41 s42 s43 s44 s45 s46 s47 s48 s49 s50 s51 s52 s53 s54 s55 s56 s57 s58 s59 s60 s61 s62 s63 df) w := by
  refine wp_region_invG (l := regRa) 7 (acORa qb tb sb n1 q1 n2 q2 kt nt vt ct At len cap B1 B2 x T s1 s2 s4 s6 s7 s8 s9 s10 s11 s12 s13 s14 s15 s16 s17 s18 s19 s20 s21 s22 s23 s24 s25 s26 s27 s28 s29 s30 s31 s32 s33 s34 s35 s36 s37 s38 s39 s40 s41 s42 s43 s44 s45 s46 s47 s48 s49 s50 s51 s52 s53 s54 s55 s56 s57 s58 s59 s60 s61 s62 s63 df) w (specRa qb tb sb n1 q1 n2 q2 kt nt vt ct At len cap B1 B2 x T) (by kernel_rfl) regRa_tail regRa_fwd regRa_slots regRa_seq (fun i v w w' hi h hb => specRa_mono i v w w' hi h hb) ?_ ?_
  · intro i' o hi' ho a w1 V hbel hdep hpar K hK
    have p0 : a.eval (.tmp 0) = .pointer (some ⟨sb, 0, none⟩) := hpar 0 (by show 0 < 64; decide) (by kernel_rfl)
    have p0' : a.tmps[0]?.getD undef = .pointer (some ⟨sb, 0, none⟩) := by have h := p0; simp only [Act.eval, Array.getD_eq_getD_getElem?] at h; exact h
    have p3 : a.eval (.tmp 3) = .pointer (some ⟨tb, 0, none⟩) := hpar 3 (by show 3 < 64; decide) (by kernel_rfl)
    have p3' : a.tmps[3]?.getD undef = .pointer (some ⟨tb, 0, none⟩) := by have h := p3; simp only [Act.eval, Array.getD_eq_getD_getElem?] at h; exact h
    have p5 : a.eval (.tmp 5) = .pointer (some ⟨qb, 0, none⟩) := hpar 5 (by show 5 < 64; decide) (by kernel_rfl)
    have p5' : a.tmps[5]?.getD undef = .pointer (some ⟨qb, 0, none⟩) := by have h := p5; simp only [Act.eval, Array.getD_eq_getD_getElem?] at h; exact h
    obtain ⟨s0, s1⟩ := cells2 (hbel.blk hs)
    obtain ⟨⟨u0, u1, u2, u3, u4⟩, _⟩ := cells5 (hbel.blk htb)
    match i', hi', ho, hdep, hK with
    | 0, _, ho, hdep, hK =>
      simp only [regRa, List.getElem?_toArray, List.getElem?_cons_zero, Option.some.injEq] at ho
      subst ho
      refine ⟨fun _ => ?_, fun hw => (yw_n rfl hw).elim⟩
      exact wp_val (v := .pointer (some ⟨sb, 0, none⟩)) (w' := w1) (by simp [execOp, go_sem, p0']) (hK _ _ (Bel.refl _) rfl)
    | 1, _, ho, hdep, hK =>
      simp only [regRa, List.getElem?_toArray, List.getElem?_cons_zero, List.getElem?_cons_succ, Option.some.injEq] at ho
      subst ho
      refine ⟨fun _ => ?_, fun hw => (yw_n rfl hw).elim⟩
      obtain ⟨f0, d0⟩ := hdep ⟨0, .data⟩ (by simp) rfl
      have e0 : a.eval (.tmp 17) = .pointer (some ⟨sb, 0, none⟩) := (d0 17 rfl).trans f0
      have e0' : a.tmps[17]?.getD undef = .pointer (some ⟨sb, 0, none⟩) := by have h := e0; simp only [Act.eval, Array.getD_eq_getD_getElem?] at h; exact h
      exact wp_val (v := .pointer (some ⟨sb, 0, none⟩)) (w' := w1) (by simp [execOp, go_sem, e0']) (hK _ _ (Bel.refl _) rfl)
    | 2, _, ho, hdep, hK =>
      simp only [regRa, List.getElem?_toArray, List.getElem?_cons_zero, List.getElem?_cons_succ, Option.some.injEq] at ho
      subst ho
      refine ⟨fun _ => ?_, fun hw => (yw_n rfl hw).elim⟩
      obtain ⟨f1, d1⟩ := hdep ⟨1, .data⟩ (by simp) rfl
      have e1 : a.eval (.tmp 18) = .pointer (some ⟨sb, 0, none⟩) := (d1 18 rfl).trans f1
      have e1' : a.tmps[18]?.getD undef = .pointer (some ⟨sb, 0, none⟩) := by have h := e1; simp only [Act.eval, Array.getD_eq_getD_getElem?] at h; exact h
      exact wp_val (v := .pointer (some ⟨sb, 0, none⟩)) (w' := w1) (by simp [execOp, go_sem, e1']) (hK _ _ (Bel.refl _) rfl)
    | 3, _, ho, hdep, hK =>
      simp only [regRa, List.getElem?_toArray, List.getElem?_cons_zero, List.getElem?_cons_succ, Option.some.injEq] at ho
      subst ho
      refine ⟨fun _ => ?_, fun hw => (yw_n rfl hw).elim⟩
      obtain ⟨f2, d2⟩ := hdep ⟨2, .data⟩ (by simp) rfl
      have e2 : a.eval (.tmp 19) = .pointer (some ⟨sb, 0, none⟩) := (d2 19 rfl).trans f2
      have e2' : a.tmps[19]?.getD undef = .pointer (some ⟨sb, 0, none⟩) := by have h := e2; simp only [Act.eval, Array.getD_eq_getD_getElem?] at h; exact h
      exact wp_val (v := .slice B1 n1 q1) (w' := w1) (by simp [execOp, go_sem, e2', s0]) (hK _ _ (Bel.refl _) rfl)
    | 4, _, ho, hdep, hK =>
      simp only [regRa, List.getElem?_toArray, List.getElem?_cons_zero, List.getElem?_cons_succ, Option.some.injEq] at ho
      subst ho
      refine ⟨fun _ => ?_, fun hw => (yw_n rfl hw).elim⟩
      exact wp_val (v := .pointer (some ⟨tb, 1, none⟩)) (w' := w1) (by simp [execOp, go_sem, p3']) (hK _ _ (Bel.refl _) rfl)
    | 5, _, ho, hdep, hK =>
      simp only [regRa, List.getElem?_toArray, List.getElem?_cons_zero, List.getElem?_cons_succ, Option.some.injEq] at ho
      subst ho
      refine ⟨fun _ => ?_, fun hw => (yw_n rfl hw).elim⟩
      obtain ⟨f4, d4⟩ := hdep ⟨4, .data⟩ (by simp) rfl
      have e4 : a.eval (.tmp 21) = .pointer (some ⟨tb, 1, none⟩) := (d4 21 rfl).trans f4
      have e4' : a.tmps[21]?.getD undef = .pointer (some ⟨tb, 1, none⟩) := by have h := e4; simp only [Act.eval, Array.getD_eq_getD_getElem?] at h; exact h
      exact wp_val (v := .int .i64 nt) (w' := w1) (by simp [execOp, go_sem, e4', u1]) (hK _ _ (Bel.refl _) rfl)
    | 6, _, ho, hdep, hK =>
      simp only [regRa, List.getElem?_toArray, List.getElem?_cons_zero, List.getElem?_cons_succ, Option.some.injEq] at ho
      subst ho
      refine ⟨fun _ => ?_, fun hw => (yw_n rfl hw).elim⟩
      obtain ⟨f3, d3⟩ := hdep ⟨3, .data⟩ (by simp) rfl
      have e3 : a.eval (.tmp 20) = .slice B1 n1 q1 := (d3 20 rfl).trans f3
      have e3' : a.tmps[20]?.getD undef = .slice B1 n1 q1 := by have h := e3; simp only [Act.eval, Array.getD_eq_getD_getElem?] at h; exact h
      obtain ⟨f5, d5⟩ := hdep ⟨5, .data⟩ (by simp) rfl
      have e5 : a.eval (.tmp 22) = .int .i64 nt := (d5 22 rfl).trans f5
      have e5' : a.tmps[22]?.getD undef = .int .i64 nt := by have h := e5; simp only [Act.eval, Array.getD_eq_getD_getElem?] at h; exact h
      refine wp_enter (f := 58) (args := #[.slice B1 n1 q1, .int .i64 nt]) (by simp [go_sem, e3', e5']) ((HC w1 hbel).mono ?_)
      rintro e w' ⟨rfl, hb⟩
      exact ⟨_, rfl, hK _ _ hb rfl⟩
    | q + 7, hi, _, _, _ => exact absurd hi (by omega)
  · intro V w' hb hF
    have e : finA regRa.toArray 7 V (acORa qb tb sb n1 q1 n2 q2 kt nt vt ct At len cap B1 B2 x T s1 s2 s4 s6 s7 s8 s9 s10 s11 s12 s13 s14 s15 s16 s17 s18 s19 s20 s21 s22 s23 s24 s25 s26 s27 s28 s29 s30 s31 s32 s33 s34 s35 s36 s37 s38 s39 s40 s41 s42 s43 s44 s45 s46 s47 s48 s49 s50 s51 s52 s53 s54 s55 s56 s57 s58 s59 s60 s61 s62 s63 df) = acVRa qb tb sb n1 q1 n2 q2 kt nt vt ct At len cap B1 B2 x T s1 s2 s4 s6 s7 s8 s9 s10 s11 s12 s13 s14 s15 s16 s17 s18 s19 s20 s21 s22 s23 s24 s25 s26 s27 s28 s29 s30 s31 s32 s33 s34 s35 s36 s37 s38 s39 s40 s41 s42 s43 s44 s45 s46 s47 s48 s49 s50 s51 s52 s53 s54 s55 s56 s57 s58 s59 s60 s61 s62 s63 df V := by kernel_rfl
    rw [e]
    exact hend V w' hb (hF 6 (by omega))
def regRb : List Oper := [
  { dst := some 34, op := Op.move (Operand.tmp 0), type := 103, pos := "ref.go:127", after := #[], guard := none },
  { dst := some 35, op := Op.nilCheck (Operand.tmp 34), type := 0, pos := "ref.go:127", after := #[{ on := 0, ground := Ground.data }], guard := none },
  { dst := some 36, op := Op.fieldAddr 46 (Operand.tmp 35) 1, type := 0, pos := "ref.go:127", after := #[{ on := 1, ground := Ground.data }], guard := none },
  { dst := some 37, op := Op.load 40 (Operand.tmp 36), type := 40, pos := "ref.go:127", after := #[{ on := 2, ground := Ground.data }], guard := none },
  { dst := some 38, op := Op.fieldAddr 27 (Operand.tmp 3) 2, type := 0, pos := "ref.go:127", after := #[], guard := none },
  { dst := some 39, op := Op.fieldAddr 24 (Operand.tmp 38) 0, type := 0, pos := "ref.go:127", after := #[{ on := 4, ground := Ground.data }], guard := none },
  { dst := some 40, op := Op.load 3 (Operand.tmp 39), type := 3, pos := "ref.go:127", after := #[{ on := 5, ground := Ground.data }], guard := none },
  { dst := some 41, op := Op.call { callee := Callee.value (Operand.func 58), args := #[Operand.tmp 37, Operand.tmp 40], argTypes := #[40, 3] }, type := 3, pos := "ref.go:127", after := #[{ on := 3, ground := Ground.data }, { on := 6, ground := Ground.data }], guard := none },
  { dst := some 42, op := Op.fieldAddr 27 (Operand.tmp 5) 2, type := 0, pos := "ref.go:127", after := #[{ on := 0, ground := Ground.phase }, { on := 1, ground := Ground.phase }, { on := 2, ground := Ground.phase }, { on := 3, ground := Ground.phase }, { on := 4, ground := Ground.phase }, { on := 5, ground := Ground.phase }, { on := 6, ground := Ground.phase }, { on := 7, ground := Ground.phase }], guard := none },
  { dst := some 43, op := Op.fieldAddr 24 (Operand.tmp 42) 0, type := 0, pos := "ref.go:127", after := #[{ on := 8, ground := Ground.data }, { on := 0, ground := Ground.phase }, { on := 1, ground := Ground.phase }, { on := 2, ground := Ground.phase }, { on := 3, ground := Ground.phase }, { on := 4, ground := Ground.phase }, { on := 5, ground := Ground.phase }, { on := 6, ground := Ground.phase }, { on := 7, ground := Ground.phase }], guard := none },
  { dst := none, op := Op.store 3 (Operand.tmp 43) (Operand.tmp 41), type := 0, pos := "ref.go:127", after := #[{ on := 9, ground := Ground.data }, { on := 7, ground := Ground.data }, { on := 7, ground := Ground.chain }, { on := 0, ground := Ground.phase }, { on := 1, ground := Ground.phase }, { on := 2, ground := Ground.phase }, { on := 3, ground := Ground.phase }, { on := 4, ground := Ground.phase }, { on := 5, ground := Ground.phase }, { on := 6, ground := Ground.phase }, { on := 7, ground := Ground.phase }], guard := none }]
def specRb (qb tb sb n1 q1 n2 q2 : Nat) (kt nt vt ct : Int) (At : Option Addr) (len cap : Nat) (B1 B2 : Option Addr) (x : Int) (T : List Int) (i : Nat) (v : Value) (w : World) : Prop :=
  match i with
  | 0 => v = .pointer (some ⟨sb, 0, none⟩)
  | 1 => v = .pointer (some ⟨sb, 0, none⟩)
  | 2 => v = .pointer (some ⟨sb, 1, none⟩)
  | 3 => v = .slice B2 n2 q2
  | 4 => v = .pointer (some ⟨tb, 2, none⟩)
  | 5 => v = .pointer (some ⟨tb, 2, none⟩)
  | 6 => v = .int .i64 vt
  | 7 => v = .int .i64 (atF T vt)
  | _ => True
theorem specRb_mono {qb tb sb n1 q1 n2 q2 : Nat} {kt nt vt ct : Int} {At : Option Addr} {len cap : Nat} {B1 B2 : Option Addr} {x : Int} {T : List Int} (i : Nat) (v : Value) (w w' : World) (hi : i < 8) (h : specRb qb tb sb n1 q1 n2 q2 kt nt vt ct At len cap B1 B2 x T i v w) (hb : Bel w w') : specRb qb tb sb n1 q1 n2 q2 kt nt vt ct At len cap B1 B2 x T i v w' := by
  match i, hi, h with
  | 0, _, h => exact h
  | 1, _, h => exact h
  | 2, _, h => exact h
  | 3, _, h => exact h
  | 4, _, h => exact h
  | 5, _, h => exact h
  | 6, _, h => exact h
  | 7, _, h => exact h
  | q + 8, hi, _ => exact absurd hi (by omega)
def acORb (qb tb sb n1 q1 n2 q2 : Nat) (kt nt vt ct : Int) (At : Option Addr) (len cap : Nat) (B1 B2 : Option Addr) (x : Int) (T : List Int) (s1 s2 s4 s6 s7 s8 s9 s10 s11 s12 s13 s14 s15 s16 s17 s18 s19 s20 s21 s22 s23 s24 s25 s26 s27 s28 s29 s30 s31 s32 s33 s34 s35 s36 s37 s38 s39 s40 s41 s42 s43 s44 s45 s46 s47 s48 s49 s50 s51 s52 s53 s54 s55 s56 s57 s58 s59 s60 s61 s62 s63 : Value) (df : List Deferred) : Act := { tmps := #[.pointer (some ⟨sb, 0, none⟩), s1, s2, .pointer (some ⟨tb, 0, none⟩), s4, .pointer (some ⟨qb, 0, none⟩), s6, s7, s8, s9, s10, s11, s12, s13, s14, s15, s16, s17, s18, s19, s20, s21, s22, s23, s24, s25, s26, s27, s28, s29, s30, s31, s32, s33, s34, s35, s36, s37, s38, s39, s40, s41, s42, s43, s44, s45, s46, s47, s48, s49, s50, s51, s52, s53, s54, s55, s56, s57, s58, s59, s60, s61, s62, s63], defers := df }
def acVRb (qb tb sb n1 q1 n2 q2 : Nat) (kt nt vt ct : Int) (At : Option Addr) (len cap : Nat) (B1 B2 : Option Addr) (x : Int) (T : List Int) (s1 s2 s4 s6 s7 s8 s9 s10 s11 s12 s13 s14 s15 s16 s17 s18 s19 s20 s21 s22 s23 s24 s25 s26 s27 s28 s29 s30 s31 s32 s33 s34 s35 s36 s37 s38 s39 s40 s41 s42 s43 s44 s45 s46 s47 s48 s49 s50 s51 s52 s53 s54 s55 s56 s57 s58 s59 s60 s61 s62 s63 : Value) (df : List Deferred) (V : Nat → Value) : Act := { tmps := #[.pointer (some ⟨sb, 0, none⟩), s1, s2, .pointer (some ⟨tb, 0, none⟩), s4, .pointer (some ⟨qb, 0, none⟩), s6, s7, s8, s9, s10, s11, s12, s13, s14, s15, s16, s17, s18, s19, s20, s21, s22, s23, s24, s25, s26, s27, s28, s29, s30, s31, s32, s33, V 0, V 1, V 2, V 3, V 4, V 5, V 6, V 7, s42, s43, s44, s45, s46, s47, s48, s49, s50, s51, s52, s53, s54, s55, s56, s57, s58, s59, s60, s61, s62, s63], defers := df }
theorem regRb_tail : tailB .any regRb.toArray 8 = true := by kernel_rfl
theorem regRb_fwd : fwdB regRb.toArray 8 = true := by kernel_rfl
theorem regRb_slots : slotsB regRb.toArray 64 = true := by kernel_rfl
theorem regRb_seq : Region.seqB .any regRb.toArray (regRb.length - 8) 8 (Array.replicate 8 true ++ Array.replicate (regRb.length - 8) false) = true := by kernel_rfl
set_option maxRecDepth 100000 in
set_option maxHeartbeats 8000000 in
theorem regRb_any {id : Nat} (qb tb sb n1 q1 n2 q2 : Nat) (kt nt vt ct : Int) (At : Option Addr) (len cap : Nat) (B1 B2 : Option Addr) (x : Int) (T : List Int) (s1 s2 s4 s6 s7 s8 s9 s10 s11 s12 s13 s14 s15 s16 s17 s18 s19 s20 s21 s22 s23 s24 s25 s26 s27 s28 s29 s30 s31 s32 s33 s34 s35 s36 s37 s38 s39 s40 s41 s42 s43 s44 s45 s46 s47 s48 s49 s50 s51 s52 s53 s54 s55 s56 s57 s58 s59 s60 s61 s62 s63 : Value) (df : List Deferred) (w : World) (hs : w.drew.heap[sb]? = some (.cells #[.slice B1 n1 q1, .slice B2 n2 q2] 46 (0, 0))) (htb : w.drew.heap[tb]? = some (.cells #[.int .u8 kt, .int .i64 nt, .int .i64 vt, .int .u8 ct, .slice At len cap] 27 (0, 0))) (HC : ∀ W, Bel w.drew W → Calls Tryd.prog 58 #[.slice B2 n2 q2, .int .i64 vt] W fun e w' => e = .returned (.int .i64 (atF T vt)) ∧ Bel W w') (Q : Exit → Act → World → Prop)
    (hend : ∀ (V : Nat → Value) (w' : World), Bel w.drew w' → (V 7) = .int .i64 (atF T vt) → wpList Tryd.prog regRb.toArray Q (regRb.drop 8) (acVRb qb tb sb n1 q1 n2 q2 kt nt vt ct At len cap B1 B2 x T s1 s2 s4 s6 s7 s8 s9 s10 s11 s12 s13 s14 s15 s16 s17 s18 s19 s20 s21 s22 s23 s24 s25 s26 s27 s28 s29 s30 s31 s32 s33 s34 s35 s36 s37 s38 s39 s40 s41 s42 s43 s44 s45 s46 s47 s48 s49 s50 s51 s52 s53 s54 s55 s56 s57 s58 s59 s60 s61 s62 s63 df V) w') :
    (Code.region id regRb.toArray true).wp Tryd.prog Q (acORb qb tb sb n1 q1 n2 q2 kt nt vt ct At len cap B1 B2 x T s1 s2 s4 s6 s7 s8 s9 s10 s11 s12 s13 s14 s15 s16 s17 s18 s19 s20 s21 s22 s23 s24 s25 s26 s27 s28 s29 s30 s31 s32 s33 s34 s35 s36 s37 s38 s39 s40 s41 s42 s43 s44 s45 s46 s47 s48 s49 s50 s51 s52 s53 s54 s55 s56 s57 s58 s59 s60 s61 s62 s63 df) w := by
  refine wp_region_invG (l := regRb) 8 (acORb qb tb sb n1 q1 n2 q2 kt nt vt ct At len cap B1 B2 x T s1 s2 s4 s6 s7 s8 s9 s10 s11 s12 s13 s14 s15 s16 s17 s18 s19 s20 s21 s22 s23 s24 s25 s26 s27 s28 s29 s30 s31 s32 s33 s34 s35 s36 s37 s38 s39 s40 s41 s42 s43 s44 s45 s46 s47 s48 s49 s50 s51 s52 s53 s54 s55 s56 s57 s58 s59 s60 s61 s62 s63 df) w (specRb qb tb sb n1 q1 n2 q2 kt nt vt ct At len cap B1 B2 x T) (by kernel_rfl) regRb_tail regRb_fwd regRb_slots regRb_seq (fun i v w w' hi h hb => specRb_mono i v w w' hi h hb) ?_ ?_
  · intro i' o hi' ho a w1 V hbel hdep hpar K hK
    have p0 : a.eval (.tmp 0) = .pointer (some ⟨sb, 0, none⟩) := hpar 0 (by show 0 < 64; decide) (by kernel_rfl)
    have p0' : a.tmps[0]?.getD undef = .pointer (some ⟨sb, 0, none⟩) := by have h := p0; simp only [Act.eval, Array.getD_eq_getD_getElem?] at h; exact h
    have p3 : a.eval (.tmp 3) = .pointer (some ⟨tb, 0, none⟩) := hpar 3 (by show 3 < 64; decide) (by kernel_rfl)
    have p3' : a.tmps[3]?.getD undef = .pointer (some ⟨tb, 0, none⟩) := by have h := p3; simp only [Act.eval, Array.getD_eq_getD_getElem?] at h; exact h
    have p5 : a.eval (.tmp 5) = .pointer (some ⟨qb, 0, none⟩) := hpar 5 (by show 5 < 64; decide) (by kernel_rfl)
    have p5' : a.tmps[5]?.getD undef = .pointer (some ⟨qb, 0, none⟩) := by have h := p5; simp only [Act.eval, Array.getD_eq_getD_getElem?] at h; exact h
    obtain ⟨s0, s1⟩ := cells2 (hbel.blk hs)
    obtain ⟨⟨u0, u1, u2, u3, u4⟩, _⟩ := cells5 (hbel.blk htb)
    match i', hi', ho, hdep, hK with
    | 0, _, ho, hdep, hK =>
      simp only [regRb, List.getElem?_toArray, List.getElem?_cons_zero, Option.some.injEq] at ho
      subst ho
      refine ⟨fun _ => ?_, fun hw => (yw_n rfl hw).elim⟩
      exact wp_val (v := .pointer (some ⟨sb, 0, none⟩)) (w' := w1) (by simp [execOp, go_sem, p0']) (hK _ _ (Bel.refl _) rfl)
    | 1, _, ho, hdep, hK =>
      simp only [regRb, List.getElem?_toArray, List.getElem?_cons_zero, List.getElem?_cons_succ, Option.some.injEq] at ho
      subst ho
      refine ⟨fun _ => ?_, fun hw => (yw_n rfl hw).elim⟩
      obtain ⟨f0, d0⟩ := hdep ⟨0, .data⟩ (by simp) rfl
      have e0 : a.eval (.tmp 34) = .pointer (some ⟨sb, 0, none⟩) := (d0 34 rfl).trans f0
      have e0' : a.tmps[34]?.getD undef = .pointer (some ⟨sb, 0, none⟩) := by have h := e0; simp only [Act.eval, Array.getD_eq_getD_getElem?] at h; exact h
      exact wp_val (v := .pointer (some ⟨sb, 0, none⟩)) (w' := w1) (by simp [execOp, go_sem, e0']) (hK _ _ (Bel.refl _) rfl)
    | 2, _, ho, hdep, hK =>
      simp only [regRb, List.getElem?_toArray, List.getElem?_cons_zero, List.getElem?_cons_succ, Option.some.injEq] at ho
      subst ho
      refine ⟨fun _ => ?_, fun hw => (yw_n rfl hw).elim⟩
      obtain ⟨f1, d1⟩ := hdep ⟨1, .data⟩ (by simp) rfl
      have e1 : a.eval (.tmp 35) = .pointer (some ⟨sb, 0, none⟩) := (d1 35 rfl).trans f1
      have e1' : a.tmps[35]?.getD undef = .pointer (some ⟨sb, 0, none⟩) := by have h := e1; simp only [Act.eval, Array.getD_eq_getD_getElem?] at h; exact h
      exact wp_val (v := .pointer (some ⟨sb, 1, none⟩)) (w' := w1) (by simp [execOp, go_sem, e1']) (hK _ _ (Bel.refl _) rfl)
    | 3, _, ho, hdep, hK =>
      simp only [regRb, List.getElem?_toArray, List.getElem?_cons_zero, List.getElem?_cons_succ, Option.some.injEq] at ho
      subst ho
      refine ⟨fun _ => ?_, fun hw => (yw_n rfl hw).elim⟩
      obtain ⟨f2, d2⟩ := hdep ⟨2, .data⟩ (by simp) rfl
      have e2 : a.eval (.tmp 36) = .pointer (some ⟨sb, 1, none⟩) := (d2 36 rfl).trans f2
      have e2' : a.tmps[36]?.getD undef = .pointer (some ⟨sb, 1, none⟩) := by have h := e2; simp only [Act.eval, Array.getD_eq_getD_getElem?] at h; exact h
      exact wp_val (v := .slice B2 n2 q2) (w' := w1) (by simp [execOp, go_sem, e2', s1]) (hK _ _ (Bel.refl _) rfl)
    | 4, _, ho, hdep, hK =>
      simp only [regRb, List.getElem?_toArray, List.getElem?_cons_zero, List.getElem?_cons_succ, Option.some.injEq] at ho
      subst ho
      refine ⟨fun _ => ?_, fun hw => (yw_n rfl hw).elim⟩
      exact wp_val (v := .pointer (some ⟨tb, 2, none⟩)) (w' := w1) (by simp [execOp, go_sem, p3']) (hK _ _ (Bel.refl _) rfl)
    | 5, _, ho, hdep, hK =>
      simp only [regRb, List.getElem?_toArray, List.getElem?_cons_zero, List.getElem?_cons_succ, Option.some.injEq] at ho
      subst ho
      refine ⟨fun _ => ?_, fun hw => (yw_n rfl hw).elim⟩
      obtain ⟨f4, d4⟩ := hdep ⟨4, .data⟩ (by simp) rfl
      have e4 : a.eval (.tmp 38) = .pointer (some ⟨tb, 2, none⟩) := (d4 38 rfl).trans f4
      have e4' : a.tmps[38]?.getD undef = .pointer (some ⟨tb, 2, none⟩) := by have h := e4; simp only [Act.eval, Array.getD_eq_getD_getElem?] at h; exact h
      exact wp_val (v := .pointer (some ⟨tb, 2, none⟩)) (w' := w1) (by simp [execOp, go_sem, e4']) (hK _ _ (Bel.refl _) rfl)
    | 6, _, ho, hdep, hK =>
      simp only [regRb, List.getElem?_toArray, List.getElem?_cons_zero, List.getElem?_cons_succ, Option.some.injEq] at ho
      subst ho
      refine ⟨fun _ => ?_, fun hw => (yw_n rfl hw).elim⟩
      obtain ⟨f5, d5⟩ := hdep ⟨5, .data⟩ (by simp) rfl
      have e5 : a.eval (.tmp 39) = .pointer (some ⟨tb, 2, none⟩) := (d5 39 rfl).trans f5
      have e5' : a.tmps[39]?.getD undef = .pointer (some ⟨tb, 2, none⟩) := by have h := e5; simp only [Act.eval, Array.getD_eq_getD_getElem?] at h; exact h
      exact wp_val (v := .int .i64 vt) (w' := w1) (by simp [execOp, go_sem, e5', u2]) (hK _ _ (Bel.refl _) rfl)
    | 7, _, ho, hdep, hK =>
      simp only [regRb, List.getElem?_toArray, List.getElem?_cons_zero, List.getElem?_cons_succ, Option.some.injEq] at ho
      subst ho
      refine ⟨fun _ => ?_, fun hw => (yw_n rfl hw).elim⟩
      obtain ⟨f3, d3⟩ := hdep ⟨3, .data⟩ (by simp) rfl
      have e3 : a.eval (.tmp 37) = .slice B2 n2 q2 := (d3 37 rfl).trans f3
      have e3' : a.tmps[37]?.getD undef = .slice B2 n2 q2 := by have h := e3; simp only [Act.eval, Array.getD_eq_getD_getElem?] at h; exact h
      obtain ⟨f6, d6⟩ := hdep ⟨6, .data⟩ (by simp) rfl
      have e6 : a.eval (.tmp 40) = .int .i64 vt := (d6 40 rfl).trans f6
      have e6' : a.tmps[40]?.getD undef = .int .i64 vt := by have h := e6; simp only [Act.eval, Array.getD_eq_getD_getElem?] at h; exact h
      refine wp_enter (f := 58) (args := #[.slice B2 n2 q2, .int .i64 vt]) (by simp [go_sem, e3', e6']) ((HC w1 hbel).mono ?_)
      rintro e w' ⟨rfl, hb⟩
      exact ⟨_, rfl, hK _ _ hb rfl⟩
    | q + 8, hi, _, _, _ => exact absurd hi (by omega)
  · intro V w' hb hF
    have e : finA regRb.toArray 8 V (acORb qb tb sb n1 q1 n2 q2 kt nt vt ct At len cap B1 B2 x T s1 s2 s4 s6 s7 s8 s9 s10 s11 s12 s13 s14 s15 s16 s17 s18 s19 s20 s21 s22 s23 s24 s25 s26 s27 s28 s29 s30 s31 s32 s33 s34 s35 s36 s37 s38 s39 s40 s41 s42 s43 s44 s45 s46 s47 s48 s49 s50 s51 s52 s53 s54 s55 s56 s57 s58 s59 s60 s61 s62 s63 df) = acVRb qb tb sb n1 q1 n2 q2 kt nt vt ct At len cap B1 B2 x T s1 s2 s4 s6 s7 s8 s9 s10 s11 s12 s13 s14 s15 s16 s17 s18 s19 s20 s21 s22 s23 s24 s25 s26 s27 s28 s29 s30 s31 s32 s33 s34 s35 s36 s37 s38 s39 s40 s41 s42 s43 s44 s45 s46 s47 s48 s49 s50 s51 s52 s53 s54 s55 s56 s57 s58 s59 s60 s61 s62 s63 df V := by kernel_rfl
    rw [e]
    exact hend V w' hb (hF 7 (by omega))
theorem ren_nth (ρ μ : Int → Int) : ∀ (f : Fo) (i : Nat), (f.ren ρ μ).nth i = (f.nth i).ren ρ μ
  | .nil, _ => rfl
  | .cons k n v c kids rest, 0 => rfl
  | .cons k n v c kids rest, i + 1 => ren_nth ρ μ rest i
set_option maxRecDepth 100000 in
set_option maxHeartbeats 4000000 in
theorem rcanon_any (w0 : World) (sb : Nat) (B1 : Option Addr) (m1 q1 : Nat) (T : List Int) (B2 : Option Addr) (m2 q2 : Nat) (M : List Int) (hS : w0.heap[sb]? = some (.cells #[.slice B1 m1 q1, .slice B2 m2 q2] 46 (0, 0))) (hT : RI .i64 w0 w0.heap.size B1 m1 T) (hM : RI .i64 w0 w0.heap.size B2 m2 M) (hm1 : m1 ≤ 9000000000000000000) (hm2 : m2 ≤ 9000000000000000000) (N : Nat) : ∀ (k n v c : Int) (A : Option Addr) (len cap : Nat) (kids : Fo) (w : World), kids.size = N → Bel w0 w → KidsAt w (Old w) A len cap kids → kids.size ≤ 1400000 →
    Calls Tryd.prog 40 #[.pointer (some ⟨sb, 0, none⟩), .agg #[.int .u8 k, .int .i64 n, .int .i64 v, .int .u8 c, .slice A len cap]] w (RtQ 0 k (if k = 1 then atF T n else n) (if k = 7 ∧ c = 0 then atF M v else v) c (kids.ren (atF T) (atF M)) w) := by
  have HS := Lib.hid hS
  have HC1 : Hid (∀ (x : Int) (W : World), Bel w0 W → Calls Tryd.prog 58 #[.slice B1 m1 q1, .int .i64 x] W fun e w' => e = .returned (.int .i64 (atF T x)) ∧ Bel W w') := Lib.hid fun x W hW => rat_any B1 m1 q1 x T W (hT.bel hW) hm1
  have HC2 : Hid (∀ (x : Int) (W : World), Bel w0 W → Calls Tryd.prog 58 #[.slice B2 m2 q2, .int .i64 x] W fun e w' => e = .returned (.int .i64 (atF M x)) ∧ Bel W w') := Lib.hid fun x W hW => rat_any B2 m2 q2 x M W (hM.bel hW) hm2
  clear hS hT hM
  induction N using Nat.strongRecOn with
  | _ N ih =>
    intro k n v c A len cap kids w hN hb0 h hsz
    have H := Lib.hid h
    have IH := Lib.hid ih
    have HL : Hid (len = kids.len) := Lib.hid h.1
    have HN := Lib.hid hN
    have HB0 := Lib.hid hb0
    have hlen : len ≤ 1400000 := by have := h.1; have := kids.len_le; omega
    obtain ⟨w1, hw1⟩ : ∃ W, W = (w.alloc (.cells #[.int .u8 k, .int .i64 n, .int .i64 v, .int .u8 c, .slice A len cap] 27)).alloc (.cells #[.int .u8 0, .int .i64 0, .int .i64 0, .int .u8 0, .slice none 0 0] 27) := ⟨_, rfl⟩
    have HQ1 : Hid (w1.heap[w.heap.size]? = some (.cells #[.int .u8 k, .int .i64 n, .int .i64 v, .int .u8 c, .slice A len cap] 27 (0, 0)) ∧ w1.heap[w.heap.size + 1]? = some (.cells #[.int .u8 0, .int .i64 0, .int .i64 0, .int .u8 0, .slice none 0 0] 27 (0, 0))) := Lib.hid (by rw [hw1]; exact blk2 w _ _)
    have HB1 : Hid (Bel w w1) := Lib.hid (by rw [hw1]; exact ((Bel.refl w).alloc _).alloc _)
    have HS1 : Hid (w1.heap.size = w.heap.size + 2) := Lib.hid (by rw [hw1]; simp)
    obtain ⟨w2, hw2⟩ : ∃ W, W = w1.alloc (.cells #[.int .u8 k, .int .i64 n, .int .i64 v, .int .u8 c, .slice none 0 0] 27) := ⟨_, rfl⟩
    have HQ2 : Hid (w2.heap[w.heap.size + 1 + 1]? = some (.cells #[.int .u8 k, .int .i64 n, .int .i64 v, .int .u8 c, .slice none 0 0] 27 (0, 0))) := Lib.hid (by rw [hw2]; exact blk_at (by have := HS1.out; omega))
    have HB2 : Hid (Bel w1 w2) := Lib.hid (by rw [hw2]; exact (Bel.refl w1).alloc _)
    obtain ⟨k1, hkk⟩ : ∃ k1, Hid (k1 = k) := ⟨_, Lib.hid rfl⟩
    obtain ⟨c1, hcc⟩ : ∃ c1, Hid (c1 = c) := ⟨_, Lib.hid rfl⟩
    obtain ⟨n1, hn1⟩ : ∃ z, z = (if k = 1 then atF T n else n) := ⟨_, rfl⟩
    obtain ⟨v1, hv1⟩ : ∃ z, z = (if k = 7 ∧ c = 0 then atF M v else v) := ⟨_, rfl⟩
    rw [← hn1, ← hv1]
    have hcase : (k = 1) ∨ (k = 7 ∧ c = 0) ∨ (k = 7 ∧ c ≠ 0) ∨ (k ≠ 1 ∧ k ≠ 7) := by
      by_cases h1 : k = 1
      · exact .inl h1
      · by_cases h7 : k = 7
        · by_cases h0 : c = 0
          · exact .inr (.inl ⟨h7, h0⟩)
          · exact .inr (.inr (.inl ⟨h7, h0⟩))
        · exact .inr (.inr (.inr ⟨h1, h7⟩))
    have hlw2 : w.heap.size < w2.heap.size := by have h1 := HB2.out.size; have h2 := HS1.out; omega
    clear h hb0 ih hN
    rcases hcase with rfl | ⟨rfl, rfl⟩ | ⟨rfl, hc⟩ | ⟨hk1, hk7⟩
    case' inl =>
      rw [if_pos rfl] at hn1
      rw [if_neg (fun h => absurd h.1 (by decide))] at hv1
      have HV1 := Lib.hid hn1
      subst hv1
      clear hn1
      go_enter Tryd.func40, Tryd.ntmps40
      go_wp2_with fail
      rw [← hw1, ← hw2]
      clear hw1 hw2
      refine regRa_any (id := 3) (w.heap.size + 1 + 1) w.heap.size sb m1 q1 m2 q2 1 n _ c A len cap B1 B2 0 T _ _ _ _ _ _ _ _ _ _ _ _ _ _ _ _ _ _ _ _ _ _ _ _ _ _ _ _ _ _ _ _ _ _ _ _ _ _ _ _ _ _ _ _ _ _ _ _ _ _ _ _ _ _ _ _ _ _ _ _ _ _ w2 (((HB0.out.on HB1.out).on HB2.out).blk HS.out) (HB2.out.blk HQ1.out.1) (fun W hW => HC1.out n W (((HB0.out.on HB1.out).on HB2.out).on (((Bel.refl w2).drew).on hW))) _ ?_
      intro V w3 hb3 hv3
      have HB3 := Lib.hid (((Bel.refl w2).drew).on hb3)
      simp only [regRa, List.drop_succ_cons, List.drop_zero, acVRa, hv3]
      clear hb3 hv3
      obtain ⟨⟨x0, x1, x2, x3, x4⟩, xf⟩ := cells5 (HB3.out.blk HQ2.out)
      obtain ⟨⟨z0, z1, z2, z3, z4⟩, _⟩ := cells5 ((HB2.out.on HB3.out).blk HQ1.out.1)
      have hl3 := (Array.getElem?_eq_some_iff.1 (HB3.out.blk HQ2.out)).1
      have hl4 := (Array.getElem?_eq_some_iff.1 ((HB2.out.on HB3.out).blk HQ1.out.1)).1
      go_wp2_with fail
      obtain ⟨wL, hwL⟩ : ∃ W, W = w3.setCell ⟨w.heap.size + 1 + 1, 1, none⟩ (.int .i64 (atF T n)) := ⟨_, rfl⟩
      rw [← hwL]
      have HLQ : Hid (wL.heap[w.heap.size + 1 + 1]? = some (.cells #[.int .u8 1, .int .i64 n1, .int .i64 v1, .int .u8 c, .slice none 0 0] 27 (0, 0))) := Lib.hid (by rw [hwL, heap_setCell_same w3 _ 1 _ _ _ (HB3.out.blk HQ2.out), HV1.out]; simp)
      have HLB : Hid (Bel w1 wL) := Lib.hid (by rw [hwL]; exact (HB2.out.on HB3.out).set_ (by show w1.heap.size ≤ w.heap.size + 1 + 1; have := HS1.out; omega) _)
      have HLR : Hid (RowF (fun i => w1.heap.size < i) w1 wL (.slice none 0 0) 0 .nil) := Lib.hid ((RowF.start _ w1).bel HLB.out)
      clear hwL
      clear x0 x1 x2 x3 x4 xf z0 z1 z2 z3 z4 hl3 hl4
    case' inr.inl =>
      rw [if_neg (by decide)] at hn1
      rw [if_pos ⟨rfl, rfl⟩] at hv1
      have HV1 := Lib.hid hv1
      subst hn1
      clear hv1
      go_enter Tryd.func40, Tryd.ntmps40
      go_wp2_with fail
      rw [← hw1, ← hw2]
      clear hw1 hw2
      refine regRb_any (id := 5) (w.heap.size + 1 + 1) w.heap.size sb m1 q1 m2 q2 7 _ v 0 A len cap B1 B2 0 M _ _ _ _ _ _ _ _ _ _ _ _ _ _ _ _ _ _ _ _ _ _ _ _ _ _ _ _ _ _ _ _ _ _ _ _ _ _ _ _ _ _ _ _ _ _ _ _ _ _ _ _ _ _ _ _ _ _ _ _ _ _ w2 (((HB0.out.on HB1.out).on HB2.out).blk HS.out) (HB2.out.blk HQ1.out.1) (fun W hW => HC2.out v W (((HB0.out.on HB1.out).on HB2.out).on (((Bel.refl w2).drew).on hW))) _ ?_
      intro V w3 hb3 hv3
      have HB3 := Lib.hid (((Bel.refl w2).drew).on hb3)
      simp only [regRb, List.drop_succ_cons, List.drop_zero, acVRb, hv3]
      clear hb3 hv3
      obtain ⟨⟨x0, x1, x2, x3, x4⟩, xf⟩ := cells5 (HB3.out.blk HQ2.out)
      obtain ⟨⟨z0, z1, z2, z3, z4⟩, _⟩ := cells5 ((HB2.out.on HB3.out).blk HQ1.out.1)
      have hl3 := (Array.getElem?_eq_some_iff.1 (HB3.out.blk HQ2.out)).1
      have hl4 := (Array.getElem?_eq_some_iff.1 ((HB2.out.on HB3.out).blk HQ1.out.1)).1
      go_wp2_with fail
      obtain ⟨wL, hwL⟩ : ∃ W, W = w3.setCell ⟨w.heap.size + 1 + 1, 2, none⟩ (.int .i64 (atF M v)) := ⟨_, rfl⟩
      rw [← hwL]
      have HLQ : Hid (wL.heap[w.heap.size + 1 + 1]? = some (.cells #[.int .u8 7, .int .i64 n1, .int .i64 v1, .int .u8 0, .slice none 0 0] 27 (0, 0))) := Lib.hid (by rw [hwL, heap_setCell_same w3 _ 2 _ _ _ (HB3.out.blk HQ2.out), HV1.out]; simp)
      have HLB : Hid (Bel w1 wL) := Lib.hid (by rw [hwL]; exact (HB2.out.on HB3.out).set_ (by show w1.heap.size ≤ w.heap.size + 1 + 1; have := HS1.out; omega) _)
      have HLR : Hid (RowF (fun i => w1.heap.size < i) w1 wL (.slice none 0 0) 0 .nil) := Lib.hid ((RowF.start _ w1).bel HLB.out)
      clear hwL
      clear x0 x1 x2 x3 x4 xf z0 z1 z2 z3 z4 hl3 hl4
    case' inr.inr.inl =>
      rw [if_neg (by decide)] at hn1
      rw [if_neg (fun h => hc h.2)] at hv1
      have d1 : (c == 0) = false := by simp [hc]
      subst hn1 hv1
      go_enter Tryd.func40, Tryd.ntmps40
      go_wp2_with fail
      rw [← hw1, ← hw2]
      obtain ⟨wL, hwL⟩ : ∃ W, W = w2 := ⟨_, rfl⟩
      rw [← hwL]
      have HLQ : Hid (wL.heap[w.heap.size + 1 + 1]? = some (.cells #[.int .u8 7, .int .i64 n1, .int .i64 v1, .int .u8 c, .slice none 0 0] 27 (0, 0))) := Lib.hid (by rw [hwL]; exact HQ2.out)
      have HLB : Hid (Bel w1 wL) := Lib.hid (by rw [hwL]; exact HB2.out)
      have HLR : Hid (RowF (fun i => w1.heap.size < i) w1 wL (.slice none 0 0) 0 .nil) := Lib.hid ((RowF.start _ w1).bel HLB.out)
      clear hwL
      clear hw1 hw2
    case' inr.inr.inr =>
      rw [if_neg hk1] at hn1
      rw [if_neg (fun h => hk7 h.1)] at hv1
      have d1 : (k == 1) = false := by simp [hk1]
      have d2 : (k == 7) = false := by simp [hk7]
      subst hn1 hv1
      go_enter Tryd.func40, Tryd.ntmps40
      go_wp2_with fail
      rw [← hw1, ← hw2]
      obtain ⟨wL, hwL⟩ : ∃ W, W = w2 := ⟨_, rfl⟩
      rw [← hwL]
      have HLQ : Hid (wL.heap[w.heap.size + 1 + 1]? = some (.cells #[.int .u8 k, .int .i64 n1, .int .i64 v1, .int .u8 c, .slice none 0 0] 27 (0, 0))) := Lib.hid (by rw [hwL]; exact HQ2.out)
      have HLB : Hid (Bel w1 wL) := Lib.hid (by rw [hwL]; exact HB2.out)
      have HLR : Hid (RowF (fun i => w1.heap.size < i) w1 wL (.slice none 0 0) 0 .nil) := Lib.hid ((RowF.start _ w1).bel HLB.out)
      clear hwL
      clear hw1 hw2
    all_goals
      go_loopw [6] (fun iv wr => ∃ (j c5 : Nat) (A5 : Option Addr), j ≤ len ∧ iv = .int .i64 (j : Int) ∧ Hid (wr.heap[w.heap.size + 1 + 1]? = some (.cells #[.int .u8 k1, .int .i64 n1, .int .i64 v1, .int .u8 c1, .slice A5 j c5] 27 (0, 0))) ∧ Hid ((Value.slice A5 j c5).ownBlock ≠ some (w.heap.size + 1 + 1)) ∧ Hid (RowF (fun i => w1.heap.size < i) w1 wr (.slice A5 j c5) j ((kids.ren (atF T) (atF M)).takeF j))) (fun iv _ => len - (intOf iv).toNat)
      case atStart => exact ⟨0, 0, none, Nat.zero_le _, rfl, Lib.hid (by rw [hkk.out, hcc.out]; exact HLQ.out), Lib.hid (by simp [Value.ownBlock]), Lib.hid (by rw [Fo.takeF_zero]; exact HLR.out)⟩
      case round =>
        obtain ⟨j, c5, A5, hj, rfl, HBQ, HNQ, HR⟩ := hrel
        have HBr : Hid (Bel w1 wr) := Lib.hid (by obtain ⟨xs, ⟨_, _, _, _, h⟩, _⟩ := HR.out; exact h)
        have hsr := HBr.out.size
        have hs1 := HS1.out
        obtain ⟨⟨x0, x1, x2, x3, x4⟩, _⟩ := cells5 (HBr.out.blk HQ1.out.1)
        have hl3 : w.heap.size < wr.heap.size := by omega
        have hlq := (Array.getElem?_eq_some_iff.1 HBQ.out).1
        by_cases hlt : j < len
        · have d9 : decide ((j : Int) < (len : Int)) = true := by rw [decide_eq_true_eq]; omega
          obtain ⟨b, o, eA, hbo, hfo⟩ := (H.out.keep fun i hi => (HB1.out.on HBr.out).block i hi).2.2 (by omega)
          subst eA
          obtain ⟨k', n', v', c', kids', A', cap', en, e1, e2, e3, e4, e5, hk'⟩ := FoAt.nth kids j b o hfo (by rw [← HL.out]; exact hlt)
          have hsn := Fo.nth_size kids j
          rw [en] at hsn
          simp only [Fo.size] at hsn
          obtain ⟨nx, hnx⟩ : ∃ z, z = (if k' = 1 then atF T n' else n') := ⟨_, rfl⟩
          obtain ⟨vx, hvx⟩ : ∃ z, z = (if k' = 7 ∧ c' = 0 then atF M v' else v') := ⟨_, rfl⟩
          have HTK : Hid ((kids.ren (atF T) (atF M)).takeF (j + 1) = ((kids.ren (atF T) (atF M)).takeF j).snoc (.cons k' nx vx c' (kids'.ren (atF T) (atF M)) .nil)) := Lib.hid (by
            rw [Fo.takeF_succ _ j (by rw [ren_len, ← HL.out]; exact hlt), ren_nth (atF T) (atF M) kids j, en, hnx, hvx]
            rfl)
          have HCC := Lib.hid (fun (W : World) (hW : Bel wr W) => IH.out kids'.size (by have := HN.out; omega) k' n' v' c' A' kids'.len cap' kids' W rfl ((HB0.out.on (HB1.out.on HBr.out)).on hW) (((hk'.wide fun i hi => Nat.lt_of_lt_of_le hi (HB1.out.on HBr.out).size).bel hW)) (by omega))
          rw [← hnx, ← hvx] at HCC
          obtain ⟨kidsx, hkx⟩ : ∃ z, z = kids'.ren (atF T) (atF M) := ⟨_, rfl⟩
          rw [← hkx] at HCC HTK
          have i1 : (0 : Int) ≤ (j : Int) := by omega
          have i2 : (j : Int) < (len : Int) := by omega
          have hbl : b < wr.heap.size := Nat.lt_of_lt_of_le hbo (HB1.out.on HBr.out).size
          clear hfo hk' hsn hnx hvx hkx en
          go_wp2_with fail
          refine regRc_any (id := 9) (w.heap.size + 1 + 1) w.heap.size b o j len cap c5 0 wr.drew.heap.size _ _ _ _ k1 n1 v1 c1 k' n' v' c' k' nx vx c' A5 A' kids'.len cap' kidsx sb _ _ _ _ _ _ _ _ _ _ _ _ _ _ _ _ _ _ _ _ _ _ _ _ _ _ _ _ _ _ _ _ _ _ _ _ _ _ _ _ _ _ _ _ _ _ _ _ _ _ _ _ _ _ _ _ _ _ _ _ _ wr rfl HBQ.out (HBr.out.blk HQ1.out.1) i1 i2 hbl e1 e2 e3 e4 e5 (fun W hW => HCC.out W (((Bel.refl wr).drew).on hW)) _ ?_
          intro V w2 hb2 hv1' ⟨gb, Az, cz, hv10, hgl, hgh, hkz⟩
          have hb2' : Bel wr w2 := ((Bel.refl wr).drew).on hb2
          have HB2 := Lib.hid hb2'
          have HGH := Lib.hid hgh
          have HKZ := Lib.hid hkz
          simp only [regRc, List.drop_succ_cons, List.drop_zero, acVRc, hv1', hv10]
          clear hb2 hb2' hv1' hv10 hkz e1 e2 e3 e4 e5 x0 x1 x2 x3 x4 d9
          obtain ⟨xs, ⟨A5', c5', eA5, hO5, hb5⟩, hl5, hc5⟩ := HR.out
          cases eA5
          have HO5 := Lib.hid (owns_bel hO5 HB2.out)
          have HC5 := Lib.hid (hc5.bel HB2.out)
          have HL5 := Lib.hid hl5
          have hOL := hO5.lt
          clear hO5 hb5 hl5 hc5
          obtain ⟨i0, hi0, hz0', hz1', hz2'⟩ := info_parts info_tyB
          have hs2 := HB2.out.size
          go_wp2_with (at_builtin; refine stopW ?_)
          unfold StopW
          refine wpList_append_own_at _ rfl _ _ 25 rfl w1.heap.size 27 i0 _ 5 56 Tryd.underlying25 hi0 hz0' hz1' hz2' rfl (by decide) (.slice A5 j c5) j _ rfl HO5.out ⟨gb, 0, none⟩ 1 1 [.int .u8 k', .int .i64 nx, .int .i64 vx, .int .u8 c', .slice Az kidsx.len cz] rfl rfl (five_of HGH.out) (by simp [Value.oneCell']) (by unfold maxLen; omega) (by omega) (by omega) ?_
          intro vN w3 hown3 hg3 _ hat3
          have HKX : ∀ i, Fresh2 0 wr.drew.heap.size w2 i → i < w2.heap.size ∧ (Value.slice A5 j c5).ownBlock ≠ some i ∧ (w1.heap.size < i) := fun i hi => by
            have hi2 : i < w2.heap.size := hi.elim (fun h => h.2) fun h => h.2
            have h2 : wr.heap.size ≤ i := hi.elim (fun h => absurd h.1 (by omega)) fun h => h.1
            exact ⟨hi2, fun e => by have h1 := hOL i e; omega, by omega⟩
          have H3 := Lib.hid (RowF.step0 (X := fun i => w1.heap.size < i) HO5.out (HBr.out.on HB2.out) HL5.out HC5.out (HKZ.out.wide HKX) hown3 hg3 hat3)
          have HBQ3 : Hid (w3.heap[w.heap.size + 1 + 1]? = some (.cells #[.int .u8 k1, .int .i64 n1, .int .i64 v1, .int .u8 c1, .slice A5 j c5] 27 (0, 0))) := Lib.hid ((hg3.block _ (by omega) (fun e => HNQ.out e.symm)).trans (HB2.out.blk HBQ.out))
          have HNQ3 : Hid (vN.ownBlock ≠ some (w.heap.size + 1 + 1)) := Lib.hid (by
            rcases hat3 with h | h
            · rw [h]; exact HNQ.out
            · rw [h]; intro e; simp at e; omega)
          obtain ⟨A6, c6, rfl⟩ := own_form_n hown3
          obtain ⟨⟨x0, x1, x2, x3, x4⟩, xf⟩ := cells5 HBQ3.out
          have hlq3 := (Array.getElem?_eq_some_iff.1 HBQ3.out).1
          clear hown3 hg3 hat3 hgl hgh hOL
          go_wp2_with fail
          go_roundw
          case rel => exact ⟨j + 1, c6, A6, by omega, by go_num, Lib.hid (by rw [heap_setCell_same w3 _ 4 _ _ _ HBQ3.out]; simp), HNQ3, Lib.hid (by rw [HTK.out]; exact H3.out.setq (by omega) (by omega) HNQ3.out)⟩
          case measure => simp [intOf]; omega
        · obtain rfl : len = j := by omega
          obtain ⟨⟨y0, y1, y2, y3, y4⟩, _⟩ := cells5 HBQ.out
          obtain ⟨⟨z0, z1, z2, z3, z4⟩, zf⟩ := cells5 (HBr.out.blk HQ1.out.2)
          have hl6 : w.heap.size + 1 < wr.heap.size := by omega
          go_wp2_with fail
          have HKF := Lib.hid HR.out.kidsX
          refine bodyPost_ret (v := .agg #[.int .u8 k1, .int .i64 n1, .int .i64 v1, .int .u8 c1, .slice A5 len c5]) (by simp [results, Tryd.results40, go_sem, z0, z1, z2, z3, z4]) rfl ?_
          have hlow := HR.out.low
          have hw0 := (HB0.out.on HB1.out).size
          have hwz := HB0.out.size
          have hkf := HKF.out
          rw [show (kids.ren (atF T) (atF M)).takeF len = kids.ren (atF T) (atF M) by rw [HL.out, ← ren_len (atF T) (atF M) kids]; exact Fo.takeF_all _] at hkf
          refine ⟨A5, c5, by rw [hkk.out, hcc.out, ren_len, ← HL.out], ?_, bel_set5 (HB1.out.on HBr.out) (Nat.le_succ _)⟩
          rw [ren_len, ← HL.out]
          refine (hkf.keep fun i hi => set5_other fun e => ?_).wide fun i hi => ?_
          · rcases hi.2 with h | h
            · omega
            · have := hlow i h
              omega
          · have hi1 := hi.1
            exact .inr ⟨hi.2.elim (fun h => by omega) fun h => by have := hlow i h; omega, by rw [set5_size]; exact hi1⟩

end Go.Proofs.YtblgligagngpfaaDoor.Mu

