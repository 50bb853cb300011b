/-
  What TyCanons puts back: variables as types and as multiplicities, moved on.
  What TyCanons asks of Canon and Put, in plain words.
  A region that draws its order, whose last operation but the tail is a store that one of the others need not wait for.
  TyCanons' two drawn regions: what is put back.
-/
import Derived.Test.YtomojelaookacaaDoorTyCanM
import Derived.Test.YtomojelaookacaaDoorTyMkW
import Derived.Test.YtomojelaookacaaDoorSolversG
import Derived.Deep.MidRow
import Derived.Deep.Upon
namespace Go.Proofs.YtomojelaookacaaDoor.Mu
open Go.ChangeShapes Go.WideShapes Go.ChangeAt Go.RowKit Go.Shelf

attribute [local go_sem] Oper.semAt_some
set_option linter.unusedVariables false

theorem info_tyB : (Tryd.prog.info? 27).map (fun i => (i.zero, i.size, i.bytes)) = some (some (.agg #[.int .u8 0, .int .i64 0, .int .i64 0, .int .u8 0, .slice none 0 0]), 5, 56) := by kernel_rfl
theorem info_muB : (Tryd.prog.info? 24).map (fun i => (i.zero, i.size, i.bytes)) = some (some (.agg #[.int .i64 0, .int .u8 0]), 2, 16) := by kernel_rfl
/-- The cells of variables. -/
def vcell (n : Int) : List Value := [.int .u8 1, .int .i64 n, .int .i64 0, .int .u8 0, .slice none 0 0]
def flatV (l : List Int) : List Value := l.flatMap vcell
def ucell (n : Int) : List Value := [.int .i64 n, .int .u8 0]
def flatU (l : List Int) : List Value := l.flatMap ucell
theorem flatV_len : ∀ l : List Int, (flatV l).length = l.length * 5
  | [] => rfl
  | n :: l => by
    have := flatV_len l
    simp only [flatV, List.flatMap_cons, List.length_append, List.length_cons] at *
    simp only [vcell, List.length_cons, List.length_nil]
    omega
theorem five_at (w : World) (a b c d e : Value) (t : TypeId) : ∀ j u, [a, b, c, d, e][j]? = some u → (w.alloc (.cells #[a, b, c, d, e] t)).cell? ⟨w.heap.size, j, none⟩ = some u := by
  intro j u hu
  match j, hu with
  | 0, hu => simp at hu; subst hu; simp
  | 1, hu => simp at hu; subst hu; simp
  | 2, hu => simp at hu; subst hu; simp
  | 3, hu => simp at hu; subst hu; simp
  | 4, hu => simp at hu; subst hu; simp
theorem pair_at (w : World) (a b : Value) (t : TypeId) : ∀ j u, [a, b][j]? = some u → (w.alloc (.cells #[a, b] t)).cell? ⟨w.heap.size, j, none⟩ = some u := by
  intro j u hu
  match j, hu with
  | 0, hu => simp at hu; subst hu; simp
  | 1, hu => simp at hu; subst hu; simp
theorem foAt_vlist {w : World} {Ok : Nat → Prop} {b : Nat} : ∀ (l : List Int) (o : Nat), (∀ j u, (flatV l)[j]? = some u → w.cell? ⟨b, o + j, none⟩ = some u) → FoAt w Ok (vlist l) b o
  | [], _, _ => trivial
  | n :: l, o, h => by
    have e : flatV (n :: l) = vcell n ++ flatV l := by simp [flatV]
    rw [e] at h
    refine ⟨none, 0, h 0 _ rfl, h 1 _ rfl, h 2 _ rfl, h 3 _ rfl, h 4 _ rfl, Nat.le_refl _, fun h0 => absurd h0 (by simp [Fo.len]), foAt_vlist l (o + 5) fun j u hu => ?_⟩
    have := h (5 + j) u (by rw [List.getElem?_append_right (by simp [vcell])]; simpa [vcell] using hu)
    rw [show o + 5 + j = o + (5 + j) by omega]
    exact this
theorem rmu_mlist {w : World} {b : Nat} : ∀ (l : List Int) (o : Nat), (∀ j u, (flatU l)[j]? = some u → w.cell? ⟨b, o + j, none⟩ = some u) → ∀ (i : Nat) (x : Int × Int), (mlist l)[i]? = some x → w.cell? ⟨b, o + i * 2, none⟩ = some (.int .i64 x.1) ∧ w.cell? ⟨b, o + i * 2 + 1, none⟩ = some (.int .u8 x.2)
  | [], _, _, i, x, h => by simp [mlist] at h
  | n :: l, o, h, i, x, hx => by
    have e : flatU (n :: l) = ucell n ++ flatU l := by simp [flatU]
    rw [e] at h
    cases i with
    | zero =>
      simp [mlist] at hx
      subst hx
      exact ⟨h 0 _ rfl, h 1 _ rfl⟩
    | succ i =>
      have := rmu_mlist l (o + 2) (fun j u hu => by
        have := h (2 + j) u (by rw [List.getElem?_append_right (by simp [ucell])]; simpa [ucell] using hu)
        rw [show o + 2 + j = o + (2 + j) by omega]
        exact this) i x (by simpa [mlist] using hx)
      rw [show o + (i + 1) * 2 = o + 2 + i * 2 by omega]
      exact this
/-- A row of cells of the call's own, and what was there is kept. -/
def OwnR (t : TypeId) (s : Nat) (w2 wr : World) (v : Value) (n : Nat) (xs : List Value) : Prop :=
  ∃ A c, v = .slice A n c ∧ wr.ownsRow w2.heap.size t s (.slice A n c) n xs ∧ Bel w2 wr
theorem OwnR.start (t : TypeId) (s : Nat) (w : World) : OwnR t s w w (.slice none 0 0) 0 [] := ⟨none, 0, rfl, World.ownsRow_nil _ _ _ _, Bel.refl _⟩
theorem OwnR.step {t : TypeId} {s : Nat} {w2 wr w3 : World} {A : Option Addr} {c n : Nat} {xs news : List Value} {v' : Value} (o : Obj) (hO : wr.ownsRow w2.heap.size t s (.slice A n c) n xs) (hb : Bel w2 wr)
    (hown : w3.ownsRow w2.heap.size t s v' (n + 1) (xs ++ news)) (hg : (wr.alloc o).grownBy w3 (Value.slice A n c).ownBlock) : OwnR t s w2 w3 v' (n + 1) (xs ++ news) := by
  obtain ⟨g3, c3, rfl⟩ := ownsRow_succ hown
  refine ⟨some ⟨g3, 0, none⟩, c3, rfl, hown, ?_⟩
  refine ⟨hg.os.trans hb.os, hg.tape.trans hb.tape, hg.output.trans hb.output, by have := hg.size; have := hb.size; simp at *; omega, fun j hj => (hg.block j (by have := hb.size; simp; omega) (fun e => ?_)).trans ((Below.heap_alloc _ _ _ (by have := hb.size; omega)).trans (hb.block j hj))⟩
  have := (hO.lt j e.symm).1
  omega
theorem OwnR.bel {t : TypeId} {s : Nat} {w2 wr w' : World} {v : Value} {n : Nat} {xs : List Value} (h : OwnR t s w2 wr v n xs) (hb : Bel wr w') : OwnR t s w2 w' v n xs := by
  obtain ⟨A, c, e, h1, h2⟩ := h
  exact ⟨A, c, e, owns_bel h1 hb, h2.on hb⟩
set_option maxRecDepth 100000 in
theorem first_any (A : Option Addr) (n c : Nat) (A' : Option Addr) (n' c' : Nat) (w : World) : Calls Tryd.prog 40 #[.slice A n c, .slice A' n' c'] w fun e w' => e = .returned (.slice A n c) ∧ Bel w w' := by
  go_enter Tryd.func40, Tryd.ntmps40
  go_wp2_with fail
  go_ret
  refine ⟨rfl, ?_⟩
  repeat (first | exact Bel.refl _ | apply Bel.alloc | apply Bel.drew)
set_option maxRecDepth 100000 in
theorem second_any (A : Option Addr) (n c : Nat) (A' : Option Addr) (n' c' : Nat) (w : World) : Calls Tryd.prog 41 #[.slice A n c, .slice A' n' c'] w fun e w' => e = .returned (.slice A' n' c') ∧ Bel w w' := by
  go_enter Tryd.func41, Tryd.ntmps41
  go_wp2_with fail
  go_ret
  refine ⟨rfl, ?_⟩
  repeat (first | exact Bel.refl _ | apply Bel.alloc | apply Bel.drew)
def shiftB (s n : Int) : Int := (n + s) % 1048576
/-- What back answers. -/
def BackP (T M : List Int) (s : Int) (w : World) (e : Ending) (w' : World) : Prop :=
  ∃ A c A' c', e = .returned (.tuple #[.slice A T.length c, .slice A' M.length c']) ∧ KidsAt w' (fun j => w.heap.size ≤ j ∧ j < w'.heap.size) A T.length c (vlist (T.map (shiftB s))) ∧ RMu w' A' M.length (mlist (M.map (shiftB s))) ∧ Bel w w'
set_option maxRecDepth 100000 in
set_option maxHeartbeats 2000000 in
theorem back_any (T M : List Int) (s : Int) (A1 : Option Addr) (c1 : Nat) (A2 : Option Addr) (c2 : Nat) (b1 b2 : Nat) (w : World) (k1 : w.cell? ⟨b1, 0, none⟩ = some (.slice A1 T.length c1)) (k2 : w.cell? ⟨b2, 0, none⟩ = some (.slice A2 M.length c2)) (h1 : RI .i64 w w.heap.size A1 T.length T) (h2 : RI .i64 w w.heap.size A2 M.length M)
    (hb1 : b1 < w.heap.size) (hb2 : b2 < w.heap.size) (hs0 : 0 ≤ s) (hs1 : s ≤ 5) (hT : ∀ n ∈ T, 0 ≤ n ∧ n < 1048576) (hM : ∀ n ∈ M, 0 ≤ n ∧ n < 1048576) (hlT : T.length ≤ 10000000) (hlM : M.length ≤ 10000000) :
    Calls Tryd.prog 39 #[.int .i64 s, .pointer (some ⟨b1, 0, none⟩), .pointer (some ⟨b2, 0, none⟩)] w (BackP T M s w) := by
  have H1 := Lib.hid h1
  have H2 := Lib.hid h2
  have HT := Lib.hid hT
  have HM := Lib.hid hM
  have HK2 := Lib.hid k2
  obtain ⟨tn, htn⟩ : ∃ n, n = T.length := ⟨_, rfl⟩
  obtain ⟨mn, hmn⟩ : ∃ n, n = M.length := ⟨_, rfl⟩
  rw [← htn] at H1 k1 hlT
  rw [← hmn] at H2 HK2 hlM k2
  have HTN := Lib.hid htn
  have HMN := Lib.hid hmn
  have HV := Lib.hid mkV_any
  clear h1 h2 hT hM htn hmn
  go_enter Tryd.func39, Tryd.ntmps39
  go_wp2_with fail
  go_loopw [6, 14] (fun qv iv wr => ∃ j : Nat, j ≤ tn ∧ iv = .int .i64 (j : Int) ∧ Hid (OwnR 27 5 w wr qv j (flatV ((T.map (shiftB s)).take j)))) (fun _ i _ => tn - (intOf i).toNat)
  case atStart => exact ⟨0, Nat.zero_le _, rfl, Lib.hid (OwnR.start _ _ _)⟩
  case round =>
    obtain ⟨j, hj, rfl, HO⟩ := hrel
    by_cases hlt : j < tn
    · obtain ⟨A5, c5, rfl, hO5, hb5⟩ := HO.out
      have HO5 := Lib.hid hO5
      have HB5 := Lib.hid hb5
      clear hO5 hb5 HO
      obtain ⟨y, hy⟩ : ∃ y, T[j]? = some y := ⟨_, List.getElem?_eq_getElem (by rw [← HTN.out]; exact hlt)⟩
      obtain ⟨b, off, eA, hb, hc⟩ := (H1.out.bel HB5.out).at_ (by omega)
      subst eA
      have c0 := hc j hlt
      rw [hy, Option.getD_some] at c0
      obtain ⟨y0, y1⟩ := HT.out y (List.mem_of_getElem? hy)
      have HY := Lib.hid hy
      have i1 : (0 : Int) ≤ (j : Int) := by omega
      have i2 : (j : Int) < (tn : Int) := by omega
      clear hc hy k1
      go_wp2_with fail
      refine (HV.out _ _).mono ?_
      rintro e w1 ⟨rfl, hb1'⟩
      have HO1 := Lib.hid (owns_bel HO5.out hb1')
      have HB1 := Lib.hid (HB5.out.on hb1')
      have hsz1 := HB1.out.size
      obtain ⟨z, hz⟩ : ∃ z, z = shiftB s y := ⟨_, rfl⟩
      have hz' := hz
      unfold shiftB at hz'
      rw [← hz']
      have HZ := Lib.hid hz
      clear hb1' HO5 HB5 hz hz' c0
      obtain ⟨i0, hi0, hz0, hz1, hz2⟩ := info_parts info_tyB
      go_wp2_with (at_builtin; refine stopW ?_)
      unfold StopW
      refine wpList_append_own_at _ rfl _ _ 25 rfl w.heap.size 27 i0 _ 5 56 Tryd.underlying25 hi0 hz0 hz1 hz2 rfl (by decide) (.slice A5 j c5) j _ rfl (HO1.out.alloc _) ⟨w1.heap.size, 0, none⟩ 1 1 (vcell z) rfl rfl (fun j u hu => by rw [Addr.add_lit, Nat.zero_add]; exact five_at _ _ _ _ _ _ _ j u hu) (by simp [Value.oneCell', vcell]) (by unfold maxLen; omega) (by omega) (by simp; omega) ?_
      intro v' w3 hown3 hg3 _ hat3
      have H3 := Lib.hid (OwnR.step _ HO1.out HB1.out hown3 hg3)
      clear hown3 hg3 hat3
      go_wp2_with fail
      go_roundw
      case rel =>
        refine ⟨j + 1, by omega, by go_num, Lib.hid ?_⟩
        have e : (T.map (shiftB s)).take (j + 1) = (T.map (shiftB s)).take j ++ [z] := by
          rw [take_snoc_ (by rw [List.getElem?_map, HY.out]; rfl), ← HZ.out]
        rw [e]
        unfold flatV
        rw [List.flatMap_append]
        simpa [flatV] using H3.out
      case measure => simp [intOf]; omega
    · obtain rfl : tn = j := by omega
      obtain ⟨A5, c5, rfl, hO5, hb5⟩ := HO.out
      rw [List.take_of_length_le (by rw [List.length_map, ← HTN.out]; exact Nat.le_refl _)] at hO5
      have HO5 := Lib.hid hO5
      have HB5 := Lib.hid hb5
      have k2' := (hb5.cell (p := ⟨b2, 0, none⟩) hb2).trans HK2.out
      clear hO5 hb5 HO k2 k1
      rename World => w2
      go_wp2_with fail
      go_loopw [7, 29] (fun qv iv wr => ∃ j : Nat, j ≤ mn ∧ iv = .int .i64 (j : Int) ∧ Hid (OwnR 24 2 w2 wr qv j (flatU ((M.map (shiftB s)).take j)))) (fun _ i _ => mn - (intOf i).toNat)
      case atStart => exact ⟨0, Nat.zero_le _, rfl, Lib.hid (OwnR.start _ _ _)⟩
      case round =>
        obtain ⟨j, hj, rfl, HO⟩ := hrel
        by_cases hlt : j < mn
        · obtain ⟨A6, c6, rfl, hO6, hb6⟩ := HO.out
          have HO6 := Lib.hid hO6
          have HB6 := Lib.hid hb6
          clear hO6 hb6 HO
          obtain ⟨y, hy⟩ : ∃ y, M[j]? = some y := ⟨_, List.getElem?_eq_getElem (by rw [← HMN.out]; exact hlt)⟩
          obtain ⟨b, off, eA, hb, hc⟩ := (H2.out.bel (HB5.out.on HB6.out)).at_ (by omega)
          subst eA
          have c0 := hc j hlt
          rw [hy, Option.getD_some] at c0
          obtain ⟨y0, y1⟩ := HM.out y (List.mem_of_getElem? hy)
          have HY := Lib.hid hy
          have i1 : (0 : Int) ≤ (j : Int) := by omega
          have i2 : (j : Int) < (mn : Int) := by omega
          have hsz6 := HB6.out.size
          obtain ⟨i0, hi0, hz0, hz1, hz2⟩ := info_parts info_muB
          clear hc hy k2'
          go_wp2_with (at_builtin; refine stopW ?_)
          unfold StopW
          refine wpList_append_own_at _ rfl _ _ 41 rfl w2.heap.size 24 i0 _ 2 16 Tryd.underlying41 hi0 hz0 hz1 hz2 rfl (by decide) (.slice A6 j c6) j _ rfl (HO6.out.alloc _) ⟨wr.heap.size, 0, none⟩ 1 1 (ucell (shiftB s y)) rfl rfl (fun j u hu => by rw [Addr.add_lit, Nat.zero_add]; exact pair_at _ _ _ _ j u hu) (by simp [Value.oneCell', ucell]) (by unfold maxLen; omega) (by omega) (by simp; omega) ?_
          intro v' w3 hown3 hg3 _ hat3
          have H3 := Lib.hid (OwnR.step _ HO6.out HB6.out hown3 hg3)
          clear hown3 hg3 hat3 c0
          go_wp2_with fail
          go_roundw
          case rel =>
            refine ⟨j + 1, by omega, by go_num, Lib.hid ?_⟩
            have e : (M.map (shiftB s)).take (j + 1) = (M.map (shiftB s)).take j ++ [shiftB s y] := by
              rw [take_snoc_ (by rw [List.getElem?_map, HY.out]; rfl)]
            rw [e]
            unfold flatU
            rw [List.flatMap_append]
            simpa [flatU] using H3.out
          case measure => simp [intOf]; omega
        · obtain rfl : mn = j := by omega
          obtain ⟨A6, c6, rfl, hO6, hb6⟩ := HO.out
          rw [List.take_of_length_le (by rw [List.length_map, ← HMN.out]; exact Nat.le_refl _)] at hO6
          have HO6 := Lib.hid hO6
          have HB6 := Lib.hid hb6
          clear hO6 hb6 HO k2'
          go_wp2_with fail
          refine bodyPost_ret (v := .tuple #[.slice A5 tn c5, .slice A6 mn c6]) (by simp [results, Tryd.results39, go_sem]) rfl ?_
          have e1 := HTN.out
          have e2 := HMN.out
          rename World => w3
          have hO5 := owns_bel HO5.out HB6.out
          have hO6 := HO6.out
          have hb5 := HB5.out
          have hb6 := HB6.out
          clear HO5 HO6 HB5 HB6 HTN HMN
          refine ⟨A5, c5, A6, c6, by rw [e1, e2], ⟨by rw [vlist_len, List.length_map], by rw [← e1]; exact own_cap0 hO5, fun h0 => ?_⟩, ⟨by simp [mlist], fun h0 => ?_⟩, hb5.on hb6⟩
          · obtain ⟨g, cap, hv, hg1, hg2⟩ := hO5.form (by omega)
            injection hv with hv _ _
            refine ⟨g, 0, hv, ⟨hg1, hg2⟩, foAt_vlist _ 0 fun j u hu => ?_⟩
            have := hO5.cells (g := g) (by rw [hv]; rfl) j u hu
            rw [Addr.add_lit] at this
            exact this
          · obtain ⟨g, cap, hv, hg1, hg2⟩ := hO6.form (by omega)
            injection hv with hv _ _
            refine ⟨g, 0, hv, hg2, rmu_mlist _ 0 fun j u hu => ?_⟩
            have := hO6.cells (g := g) (by rw [hv]; rfl) j u hu
            rw [Addr.add_lit] at this
            exact this
end Go.Proofs.YtomojelaookacaaDoor.Mu
namespace Go.Proofs.YtomojelaookacaaDoor.Mu
open Go.RowKit Go

set_option linter.unusedVariables false

/-- All numbers in a type. -/
def Fo.nv : Fo → List Int
  | .nil => []
  | .cons k n v c kids rest => n :: v :: (kids.nv ++ rest.nv)
theorem Fo.nv_len : ∀ f : Fo, f.nv.length = 2 * f.size
  | .nil => rfl
  | .cons k n v c kids rest => by
    simp only [Fo.nv, Fo.size, List.length_cons, List.length_append, Fo.nv_len kids, Fo.nv_len rest]
    omega
theorem wf_small {n : Int} (h0 : 0 ≤ n) (h1 : n < 1048576) : (Lit.int .i64 n).wf = true := by
  simp [Lit.wf, IntKind.min, IntKind.max, IntKind.signed, IntKind.bits]
  omega
theorem nodeB_small {k n v c : Int} {len : Nat} (h : nodeB k n v c len = true) : (0 ≤ n ∧ n < 1048576) ∧ 0 ≤ v ∧ v < 1048576 := by
  unfold nodeB isB isVarB at h
  simp only [Bool.and_eq_true, Bool.or_eq_true, decide_eq_true_eq] at h
  by_cases k1 : k = 1 <;> by_cases k2 : k = 2 ∨ k = 3 ∨ k = 4 ∨ k = 5 <;> by_cases k6 : k = 6 <;> by_cases k7 : k = 7 <;> by_cases k8 : k = 8 <;> simp [k1, k2, k6, k7, k8] at h <;> omega
theorem well_in : ∀ (f : Fo) (VS : List Int), f.well = true → (∀ x ∈ f.nv, x ∈ VS) → f.All (inVS VS)
  | .nil, _, _, _ => trivial
  | .cons k n v c kids rest, VS, hw, hs => by
    simp only [Fo.well, Bool.and_eq_true] at hw
    obtain ⟨⟨a, b⟩, d, e⟩ := nodeB_small hw.1
    refine ⟨⟨⟨hs n (by simp [Fo.nv]), hs v (by simp [Fo.nv])⟩, wf_small a b, wf_small d e⟩, well_in kids VS hw.2.1 fun x hx => hs x (by simp [Fo.nv, hx]), well_in rest VS hw.2.2 fun x hx => hs x (by simp [Fo.nv, hx])⟩
def pmAll (P R : Int → Prop) : Option (Int × Int) → Prop
  | none => True
  | some p => p.2 = 0 → R p.1
theorem addL_all {P : Int → Prop} {l : List Int} {x : Int} (h : ∀ y ∈ l, P y) (hx : P x) : ∀ y ∈ addL l x, P y := by
  intro y hy
  unfold addL at hy
  split at hy
  · exact h y hy
  · rcases List.mem_append.1 hy with hy | hy
    · exact h y hy
    · rw [List.mem_singleton] at hy; subst hy; exact hx
theorem pmD_only {P R : Int → Prop} (pm : Option (Int × Int)) (s : List Int × List Int) (hp : pmAll P R pm) (h1 : ∀ y ∈ s.1, P y) (h2 : ∀ y ∈ s.2, R y) : (∀ y ∈ (pmD pm s).1, P y) ∧ ∀ y ∈ (pmD pm s).2, R y := by
  cases pm with
  | none => exact ⟨h1, h2⟩
  | some p =>
    show (∀ y ∈ (varU s p.1 p.2).1, P y) ∧ ∀ y ∈ (varU s p.1 p.2).2, R y
    unfold varU
    split
    · rename_i h0
      exact ⟨h1, addL_all h2 (hp h0)⟩
    · exact ⟨h1, h2⟩
/-- The lists hold none but the type's variables. -/
theorem vrun_only {P R : Int → Prop} : ∀ (f : Fo) (pm : Option (Int × Int)) (s : List Int × List Int), f.Vall P R → pmAll P R pm → (∀ y ∈ s.1, P y) → (∀ y ∈ s.2, R y) → (∀ y ∈ (vrun f pm s).1, P y) ∧ ∀ y ∈ (vrun f pm s).2, R y
  | .nil, pm, s, _, hp, h1, h2 => by rw [vrun_nil]; exact pmD_only pm s hp h1 h2
  | .cons k n v c kids rest, pm, s, hv, hp, h1, h2 => by
    rw [vrun_cons]
    have a : (∀ y ∈ (varN s k n v c kids.len).1.1, P y) ∧ ∀ y ∈ (varN s k n v c kids.len).1.2, R y := by
      unfold varN
      refine ⟨?_, h2⟩
      simp only
      split
      · rename_i hk
        exact addL_all h1 (hv.1 hk)
      · exact h1
    have b := vrun_only kids (if k = 7 then some (v, c) else none) _ hv.2.2.1 (by
      by_cases h7 : k = 7
      · rw [if_pos h7]
        exact fun h0 => hv.2.1 h7 h0
      · rw [if_neg h7]
        trivial) a.1 a.2
    have d := pmD_only pm _ hp b.1 b.2
    exact vrun_only rest none _ hv.2.2.2 trivial d.1 d.2
theorem well_vall : ∀ f : Fo, f.well = true → f.Vall (fun x => 0 ≤ x ∧ x < 1048576) (fun x => 0 ≤ x ∧ x < 1048576)
  | .nil, _ => trivial
  | .cons k n v c kids rest, hw => by
    simp only [Fo.well, Bool.and_eq_true] at hw
    obtain ⟨a, b⟩ := nodeB_small hw.1
    exact ⟨fun _ => a, fun _ _ => b, well_vall kids hw.2.1, well_vall rest hw.2.2⟩
theorem vall_nv : ∀ f : Fo, f.Vall (· ∈ f.nv) (· ∈ f.nv)
  | .nil => trivial
  | .cons k n v c kids rest => ⟨fun _ => by simp [Fo.nv], fun _ _ => by simp [Fo.nv], Fo.Vall.mono (fun x hx => by simp [Fo.nv, hx]) (fun x hx => by simp [Fo.nv, hx]) kids (vall_nv kids), Fo.Vall.mono (fun x hx => by simp [Fo.nv, hx]) (fun x hx => by simp [Fo.nv, hx]) rest (vall_nv rest)⟩
theorem varsF_in {f : Fo} (hw : f.well = true) : (∀ x ∈ f.varsF.1, 0 ≤ x ∧ x < 1048576) ∧ ∀ x ∈ f.varsF.2, 0 ≤ x ∧ x < 1048576 :=
  vrun_only f none ([], []) (well_vall f hw) trivial (by simp) (by simp)
theorem varsF_len (f : Fo) : f.varsF.1.length ≤ 2 * f.size ∧ f.varsF.2.length ≤ 2 * f.size := by
  have h := vrun_only f none ([], []) (vall_nv f) trivial (by simp) (by simp)
  rw [← Fo.nv_len]
  exact ⟨nodup_le _ _ (varsF_ndp f).1 h.1, nodup_le _ _ (varsF_ndp f).2 h.2⟩
theorem shiftB_in (s x : Int) : 0 ≤ shiftB s x ∧ shiftB s x < 1048576 := by
  unfold shiftB
  omega
theorem shiftB_zero {x : Int} (h : 0 ≤ x ∧ x < 1048576) : shiftB 0 x = x := by
  unfold shiftB
  omega
theorem shiftB_inj {s : Int} {l : List Int} (h : ∀ x ∈ l, 0 ≤ x ∧ x < 1048576) : InjOn (shiftB s) l := by
  intro x hx y hy e
  have h1 := h x hx
  have h2 := h y hy
  unfold shiftB at e
  omega
section
variable {f : Fo}
theorem err_parts (h : tyErr f = 0) : f.size ≤ 300 ∧ f.well = true := by
  unfold tyErr at h
  split at h
  · cases h
  · split at h
    · exact ⟨by omega, by assumption⟩
    · cases h
theorem err_of (h1 : f.size ≤ 300) (h2 : f.well = true) : tyErr f = 0 := by
  unfold tyErr
  rw [if_neg (by omega), if_pos h2]
/-- The canonical type: it is well, and as long. -/
theorem can_size : f.canW.1.size = f.size := by rw [canW_eq]; exact ren_size _ _ _
theorem can_well (hs : f.size ≤ 300) (hw : f.well = true) : f.canW.1.well = true := by
  rw [canW_eq]
  refine ren_well (fun x hx => ?_) (fun x hx => ?_) f hw (varsF_all f)
  · have := List.idxOf_lt_length_iff.2 hx
    have := (varsF_len f).1
    omega
  · have := List.idxOf_lt_length_iff.2 hx
    have := (varsF_len f).2
    omega
/-- What back is put in the canonical type: it may be, it is not too long, and what comes. -/
theorem back_ok (he : tyErr f = 0) (s : Int) : okPut f.canW.1 (vlist (f.varsF.1.map (shiftB s))) (mlist (f.varsF.2.map (shiftB s))) = true ∧ ¬ 300 < Fo.putSize (vlist (f.varsF.1.map (shiftB s))) f.varsF.1.length f.canW.1 ∧ Fo.puts (vlist (f.varsF.1.map (shiftB s))) f.varsF.1.length (mlist (f.varsF.2.map (shiftB s))) f.canW.1 = f.ren (shiftB s) (shiftB s) := by
  obtain ⟨hs, hw⟩ := err_parts he
  have hc := can_size (f := f)
  have hcw := can_well hs hw
  refine ⟨?_, ?_, ?_⟩
  · unfold okPut
    rw [err_of (by omega) hcw, vlist_bad _ (fun n hn => ?_), mlist_bad _ (fun n hn => ?_)]
    · rfl
    · obtain ⟨x, _, rfl⟩ := List.mem_map.1 hn
      exact shiftB_in _ _
    · obtain ⟨x, _, rfl⟩ := List.mem_map.1 hn
      exact shiftB_in _ _
  · have := putSize_ren (σ := shiftB s) (μ := fun x => (f.varsF.2.idxOf x : Int)) f (varsF_all f)
    rw [canW_eq]
    simp only
    rw [this]
    omega
  · rw [puts_eq, canW_eq]
    exact subst_ren f hw (varsF_all f)
theorem back_zero (he : tyErr f = 0) : f.ren (shiftB 0) (shiftB 0) = f := by
  obtain ⟨hs, hw⟩ := err_parts he
  have h := ren_congr f (Fo.Vall.mono (P' := fun x => shiftB 0 x = (fun y => y) x) (R' := fun x => shiftB 0 x = (fun y => y) x) (fun x hx => shiftB_zero hx) (fun x hx => shiftB_zero hx) f (well_vall f hw))
  rw [h, ren_id]
theorem back_can (he : tyErr f = 0) (s : Int) : (f.ren (shiftB s) (shiftB s)).canW.1 = f.canW.1 := by
  obtain ⟨hs, hw⟩ := err_parts he
  rw [canW_ren f (shiftB_inj (varsF_in hw).1) (shiftB_inj (varsF_in hw).2)]
theorem back_well (he : tyErr f = 0) (s : Int) : (f.ren (shiftB s) (shiftB s)).well = true :=
  ren_well (fun x _ => shiftB_in _ _) (fun x _ => shiftB_in _ _) f (err_parts he).2 (varsF_all f)
theorem can_lens : f.canW.1.canW.1 = f.canW.1 ∧ f.canW.1.canW.2.2.1.length = f.varsF.1.length ∧ f.canW.1.canW.2.2.2.length = f.varsF.2.length := by
  rw [canW_canW]
  exact ⟨rfl, by simp, by simp⟩
theorem can_vars : f.canW.2.2 = f.varsF := by rw [canW_eq]
end
end Go.Proofs.YtomojelaookacaaDoor.Mu
namespace Go.Proofs.YtomojelaookacaaDoor.Mu
open Go

section
variable {P : Program} {Q : Exit → Act → World → Prop}
theorem wp_region_invS {id : Nat} {l : List Oper} (st late : Nat) (a0 : Act) (w0 : World) (F : Nat → Value → World → Prop) (Z : (Nat → Value) → World → Prop) (L : Value → Prop) (hm : P.follows .mixedOrders = true) (hB : tailB .any l.toArray (st + 1) = true) (hf : fwdB l.toArray (st + 1) = true) (hsl : slotsB l.toArray a0.tmps.size = true)
    (hq : Region.seqB .any l.toArray (l.length - (st + 1)) (st + 1) (Array.replicate (st + 1) true ++ Array.replicate (l.length - (st + 1)) false) = true)
    (hcov : ((List.range st).all fun i => decide (i = late) || ((l.toArray[st]?).map fun o => o.after.any fun e => decide (e.on = i) && Region.binds .any e).getD false) = true) (hlt : late < st)
    (hmono : ∀ i v w w', i < st → F i v w → Bel w w' → F i v w')
    (hstep : ∀ i o, i < st → l.toArray[i]? = some o → ∀ (a : Act) (w : World) (V : Nat → Value), Bel w0.drew w →
      (∀ e ∈ o.after, Region.binds .any e = true → F e.on (V e.on) w ∧ ∀ d, (l.toArray[e.on]?).bind (·.dst) = some d → a.eval (.tmp d) = V e.on) → (∀ s, s < a0.tmps.size → slotAt l.toArray s = none → a.eval (.tmp s) = a0.eval (.tmp s)) →
      ∀ K : Act → World → Prop, (∀ v w', Bel w w' → F i v w' → K (a.put o.dst v) w') → (Region.wanted o (yielded l.toArray a.tmps) = true → Oper.wp P o a w K Q) ∧ (Region.wanted o (yielded l.toArray a.tmps) = false → F i undef w))
    (hstore : ∀ o, l.toArray[st]? = some o → ∀ (a : Act) (w : World) (V : Nat → Value), Bel w0.drew w → (∀ i, i < st → i ≠ late → F i (V i) w ∧ ∀ d, (l.toArray[i]?).bind (·.dst) = some d → a.eval (.tmp d) = V i) →
      Region.wanted o (yielded l.toArray a.tmps) = true ∧ ∀ K : Act → World → Prop, (∀ v w', Z V w' → K (a.put o.dst v) w') → Oper.wp P o a w K Q)
    (hlate : ∀ o, l.toArray[late]? = some o → ∀ (a : Act) (w : World) (V : Nat → Value), Z V w → (∀ i, i < st → i ≠ late → ∀ d, (l.toArray[i]?).bind (·.dst) = some d → a.eval (.tmp d) = V i) →
      Region.wanted o (yielded l.toArray a.tmps) = true ∧ ∀ K : Act → World → Prop, (∀ v, L v → K (a.put o.dst v) w) → Oper.wp P o a w K Q)
    (hZ : ∀ V j v w, j = late ∨ j = st → Z V w → Z (fun i => if i = j then v else V i) w)
    (hL : ∀ v w, F late v w → L v)
    (hend : ∀ (V : Nat → Value) (w : World), Z V w → L (V late) → wpList P l.toArray Q (l.drop (st + 1)) (finA l.toArray (st + 1) V a0) w) :
    (Code.region id l.toArray true).wp P Q a0 w0 := by
  have hn' : st + 1 < l.length := by
    simp only [tailB, Bool.and_eq_true, decide_eq_true_eq] at hB
    simpa using hB.1.1.2
  refine wp_region_any hm ?_
  have inv0 : HeadInv .any l.toArray (st + 1) (Array.replicate l.length false) :=
    ⟨by simp, fun j oj _ hl => (by rw [getD_replicate_false] at hl; cases hl), fun t _ ht => getD_in (by simpa using ht) (getD_replicate_false _ _)⟩
  have key := wpAny_invT (P := P) (Q := Q) (l := l) (n := st + 1) (fun listed a w => listed.size = l.length ∧ (∀ t, st + 1 ≤ t → listed.getD t false = false) ∧ ∃ (V : Nat → Value), Filled l.toArray listed V a0 a ∧
    ((listed.getD st false = false ∧ Bel w0.drew w ∧ ∀ i, i < st → listed.getD i false = true → F i (V i) w) ∨ (listed.getD st false = true ∧ Z V w ∧ (∀ i, i < st → i ≠ late → listed.getD i false = true) ∧ (listed.getD late false = true → L (V late))))) hB hf hq ?_ ?_ (st + 1) (Array.replicate l.length false) a0 w0.drew (cnt_new (by omega)) inv0 ⟨by simp, fun t _ => getD_replicate_false _ _, fun _ => undef, ⟨rfl, rfl, fun s hs => by cases slotAt l.toArray s <;> simp only [getD_replicate_false, Bool.false_eq_true, if_false]⟩, .inl ⟨getD_replicate_false _ _, Bel.refl _, fun i _ hi => by rw [getD_replicate_false] at hi; cases hi⟩⟩
  · have e : st + 1 + (l.length - (st + 1)) = l.length := by omega
    rw [e] at key
    simpa using key
  · rintro listed a w i inv ⟨hsz, htl, V, hfill, hI⟩ hin hun hr
    obtain ⟨_, o, ho, hall⟩ := mem_ready.1 hr
    have hset : ∀ j, (listed.setIfInBounds i true).getD j false = if j = i then true else listed.getD j false := fun j => by
      by_cases e : j = i
      · subst e; simp [show j < listed.size by omega]
      · rw [if_neg e]; exact getD_set_ne false (fun e' => e e'.symm)
    have hs' : (listed.setIfInBounds i true).size = l.length := by simpa using hsz
    have ht' : ∀ t, st + 1 ≤ t → (listed.setIfInBounds i true).getD t false = false := fun t ht => by rw [getD_set_ne false (by omega)]; exact htl t ht
    have huf : listed.getD i false = false := by
      have h1 : i < listed.size := by omega
      simp [h1] at hun ⊢
      exact hun
    unfold wpOp
    simp only [ho]
    rcases hI with ⟨hst, hbel, hF⟩ | ⟨hst, hz, hothers, hlt'⟩
    · rcases Nat.lt_or_ge i st with hi | hi
      · have hKK : ∀ v w', Bel w w' → F i v w' → (listed.setIfInBounds i true).size = l.length ∧ (∀ t, st + 1 ≤ t → (listed.setIfInBounds i true).getD t false = false) ∧ ∃ (V : Nat → Value), Filled l.toArray (listed.setIfInBounds i true) V a0 (a.put o.dst v) ∧ (((listed.setIfInBounds i true).getD st false = false ∧ Bel w0.drew w' ∧ ∀ j, j < st → (listed.setIfInBounds i true).getD j false = true → F j (V j) w') ∨ ((listed.setIfInBounds i true).getD st false = true ∧ Z V w' ∧ (∀ i_1, i_1 < st → i_1 ≠ late → (listed.setIfInBounds i true).getD i_1 false = true) ∧ ((listed.setIfInBounds i true).getD late false = true → L (V late)))) :=
          fun v w' hb hFi => ⟨hs', ht', fun j => if j = i then v else V j, hfill.put hsl ho (by omega) v, .inl ⟨by rw [hset, if_neg (by omega)]; exact hst, hbel.on hb, fun j hj hl => by
            by_cases e : j = i
            · subst e; simp only [if_true]; exact hFi
            · simp only [if_neg e]
              rw [hset, if_neg e] at hl
              exact hmono j _ w w' hj (hF j hj hl) hb⟩⟩
        have hK := hstep i o hi ho a w V hbel (fun e he hb => by
          have hl := hall e he hb
          have hen : e.on < st := by
            rcases Nat.lt_trichotomy e.on st with h | h | h
            · exact h
            · rw [h, hst] at hl; cases hl
            · rw [htl _ h] at hl; cases hl
          exact ⟨hF _ hen hl, fun d hd => hfill.eval hsl hl hd⟩) (fun s hs hn => hfill.par hn hs) (fun a' w' => (listed.setIfInBounds i true).size = l.length ∧ (∀ t, st + 1 ≤ t → (listed.setIfInBounds i true).getD t false = false) ∧ ∃ (V : Nat → Value), Filled l.toArray (listed.setIfInBounds i true) V a0 a' ∧ (((listed.setIfInBounds i true).getD st false = false ∧ Bel w0.drew w' ∧ ∀ j, j < st → (listed.setIfInBounds i true).getD j false = true → F j (V j) w') ∨ ((listed.setIfInBounds i true).getD st false = true ∧ Z V w' ∧ (∀ i_1, i_1 < st → i_1 ≠ late → (listed.setIfInBounds i true).getD i_1 false = true) ∧ ((listed.setIfInBounds i true).getD late false = true → L (V late))))) hKK
        by_cases hw : Region.wanted o (yielded l.toArray a.tmps) = true
        · rw [if_pos hw]
          exact .inl (hK.1 hw)
        · rw [if_neg hw]
          exact hKK undef w (Bel.refl _) (hK.2 (by simpa using hw))
      · obtain rfl : i = st := by omega
        have hlis : ∀ j, j < i → j ≠ late → listed.getD j false = true := fun j hj hne => by
          have h := List.all_eq_true.1 hcov j (List.mem_range.2 hj)
          rw [ho] at h
          simp only [Option.map_some, Option.getD_some, Bool.or_eq_true, decide_eq_true_eq, hne, false_or] at h
          obtain ⟨e, he, h2⟩ := Array.any_eq_true'.1 h
          simp only [Bool.and_eq_true, decide_eq_true_eq] at h2
          rw [← h2.1]
          exact hall e he h2.2
        obtain ⟨hw, hK⟩ := hstore o ho a w V hbel (fun j hj hne => ⟨hF j hj (hlis j hj hne), fun d hd => hfill.eval hsl (hlis j hj hne) hd⟩)
        rw [if_pos hw]
        refine .inl (hK _ fun v w' hz => ⟨hs', ht', fun j => if j = i then v else V j, hfill.put hsl ho (by omega) v, .inr ⟨by rw [hset, if_pos rfl], hZ V i v w' (.inr rfl) hz, fun j hj hne => by rw [hset, if_neg (by omega)]; exact hlis j hj hne, fun hl => ?_⟩⟩)
        rw [hset, if_neg (by omega)] at hl
        simp only [if_neg (show ¬ late = i by omega)]
        exact hL _ _ (hF late hlt hl)
    · have hil : i = late := by
        rcases Nat.lt_trichotomy i st with h | h | h
        · rcases Nat.decEq i late with h' | h'
          · rw [hothers i h h'] at huf; cases huf
          · exact h'
        · rw [h, hst] at huf; cases huf
        · omega
      subst hil
      obtain ⟨hw, hK⟩ := hlate o ho a w V hz (fun j hj hne d hd => hfill.eval hsl (hothers j hj hne) hd)
      rw [if_pos hw]
      refine .inl (hK _ fun v hl => ⟨hs', ht', fun j => if j = i then v else V j, hfill.put hsl ho (by omega) v, .inr ⟨by rw [hset, if_neg (by omega)]; exact hst, hZ V i v w (.inl rfl) hz, fun j hj hne => by rw [hset, if_neg hne]; exact hothers j hj hne, fun _ => ?_⟩⟩)
      simp only [if_true]
      exact hl
  · rintro listed a w ⟨hsz, htl, V, hfill, hI⟩ hall
    rw [hfill.fin hall htl]
    rcases hI with ⟨hst, _⟩ | ⟨_, hz, _, hl⟩
    · rw [hall st (by omega)] at hst; cases hst
    · exact hend V w hz (hl (hall late (by omega)))
end
end Go.Proofs.YtomojelaookacaaDoor.Mu
namespace Go.Proofs.YtomojelaookacaaDoor.Mu
open Go.ChangeShapes Go.WideShapes Go.ChangeAt Go.RowKit Go.Shelf

attribute [local go_sem] Oper.semAt_some
set_option linter.unusedVariables false

theorem FoAt.apart {w : World} {b : Nat} {t : TypeId} (hz : w.heap[b]? = some (.cells #[.int .u8 0, .int .i64 0, .int .i64 0, .int .u8 0, .slice none 0 0] t (0, 0))) : ∀ (f : Fo) (b' o' : Nat), f.well = true → FoAt w (Old w) f b' o' → (0 < f.len → b' ≠ b) ∧ FoAt w (fun j => Old w j ∧ j ≠ b) f b' o'
  | .nil, _, _, _, _ => ⟨fun h => absurd h (by simp [Fo.len]), trivial⟩
  | .cons k n v c kids rest, b', o', hw, hf => by
    obtain ⟨A, cap, a1, a2, a3, a4, a5, a6, a7, a8⟩ := hf
    simp only [Fo.well, Bool.and_eq_true] at hw
    refine ⟨fun _ e => ?_, A, cap, a1, a2, a3, a4, a5, a6, fun h0 => ?_, (FoAt.apart hz rest b' (o' + 5) hw.2.2 a8).2⟩
    · subst e
      have hk : k = 0 := by
        simp only [World.cell?, hz] at a1
        match o', a1 with
        | 0, a1 => simp at a1; exact a1.symm
        | 1, a1 => simp at a1
        | 2, a1 => simp at a1
        | 3, a1 => simp at a1; exact a1.symm
        | 4, a1 => simp at a1
        | q + 5, a1 => simp at a1
      subst hk
      have h := hw.1
      simp [nodeB] at h
    · obtain ⟨b2, o2, e, h1, h2⟩ := a7 h0
      have h3 := FoAt.apart hz kids b2 o2 hw.2.1 h2
      exact ⟨b2, o2, e, ⟨h1, h3.1 h0⟩, h3.2⟩
theorem KidsAt.apart {w : World} {b : Nat} {t : TypeId} {A : Option Addr} {len cap : Nat} {kids : Fo} (h : KidsAt w (Old w) A len cap kids) (hw : kids.well = true) (hz : w.heap[b]? = some (.cells #[.int .u8 0, .int .i64 0, .int .i64 0, .int .u8 0, .slice none 0 0] t (0, 0))) : KidsAt w (fun j => Old w j ∧ j ≠ b) A len cap kids :=
  ⟨h.1, h.2.1, fun h0 => by
    obtain ⟨b2, o2, e, h1, h2⟩ := h.2.2 h0
    have h3 := FoAt.apart hz kids b2 o2 hw h2
    exact ⟨b2, o2, e, ⟨h1, h3.1 (by have := h.1; omega)⟩, h3.2⟩⟩
theorem there_zero {w : World} {b : Nat} {t : TypeId} {x0 x1 x2 x3 x4 : Value} (hz : w.heap[b]? = some (.cells #[x0, x1, x2, x3, x4] t (0, 0))) : w.there b 0 5 := by
  intro j hj
  obtain ⟨⟨m0, m1, m2, m3, m4⟩, hf⟩ := cells5 hz
  rw [Nat.zero_add]
  refine ⟨?_, hf _⟩
  match j, hj with
  | 0, _ => rw [m0]; rfl
  | 1, _ => rw [m1]; rfl
  | 2, _ => rw [m2]; rfl
  | 3, _ => rw [m3]; rfl
  | 4, _ => rw [m4]; rfl
theorem setCells_all (g : Nat) : ∀ (vs : List Value) (o : Nat) (w : World), (w.setCells g o vs).heap.size = w.heap.size ∧ (w.setCells g o vs).tape = w.tape
  | [], _, _ => ⟨rfl, rfl⟩
  | v :: r, o, w => by
    rw [World.setCells]
    have h := setCells_all g r (o + 1) (w.setCell ⟨g, o, none⟩ v)
    exact ⟨h.1.trans (by simp [World.setCell]), h.2.trans rfl⟩
theorem setCells_size {g o : Nat} {vs : List Value} {w : World} : (w.setCells g o vs).heap.size = w.heap.size := (setCells_all g vs o w).1
theorem bel_setCells {w0 w : World} {g o : Nat} {vs : List Value} (hb : Bel w0 w) (hg : w0.heap.size ≤ g) : Bel w0 (w.setCells g o vs) :=
  ⟨(World.os_setCells _ _ _ _).trans hb.os, (setCells_all g vs o w).2.trans hb.tape, (World.output_setCells _ _ _ _).trans hb.output, by rw [setCells_size]; exact hb.size, fun j hj => (World.heap_setCells_other _ _ _ _ (Nat.lt_of_lt_of_le hj hb.size) (by omega)).trans (hb.block j hj)⟩
/-- What back answers, by its parts. -/
def BackQ (tn mn : Nat) (vl : Fo) (ml : List (Int × Int)) (w : World) (e : Ending) (w' : World) : Prop :=
  ∃ A c A' c', e = .returned (.tuple #[.slice A tn c, .slice A' mn c']) ∧ KidsAt w' (Old w') A tn c vl ∧ RMu w' A' mn ml ∧ Bel w w'
/-- What Put answers where it may. -/
def PutQ (kx nx vx cx : Int) (xn : Nat) (kidsx : Fo) (w : World) (e : Ending) (w' : World) : Prop :=
  ∃ A c, e = .returned (.tuple #[.agg #[.int .u8 kx, .int .i64 nx, .int .i64 vx, .int .u8 cx, .slice A xn c], .int .i64 0]) ∧ KidsAt w' (Old w') A xn c kidsx ∧ Bel w w'
def regC8 : List Oper := [
  { dst := some 68, op := Op.load 27 (Operand.tmp 5), type := 27, pos := "outright.go:66", after := #[], guard := none },
  { dst := some 69, op := Op.move (Operand.tmp 11), type := 63, pos := "outright.go:66", after := #[], guard := none },
  { dst := some 70, op := Op.call { callee := Callee.value (Operand.tmp 69), args := #[Operand.const (Value.int IntKind.i64 0)], argTypes := #[3] }, type := 65, pos := "outright.go:66", after := #[{ on := 1, ground := Ground.data }], guard := none },
  { dst := some 71, op := Op.extract (Operand.tmp 70) 0, type := 25, pos := "outright.go:66", after := #[{ on := 2, ground := Ground.data }], guard := none },
  { dst := some 72, op := Op.extract (Operand.tmp 70) 1, type := 41, pos := "outright.go:66", after := #[{ on := 2, ground := Ground.data }], guard := none },
  { dst := some 73, op := Op.call { callee := Callee.value (Operand.func 40), args := #[Operand.tmp 71, Operand.tmp 72], argTypes := #[25, 41] }, type := 25, pos := "outright.go:66", after := #[{ on := 3, ground := Ground.data }, { on := 4, ground := Ground.data }, { on := 2, ground := Ground.chain }], guard := none },
  { dst := some 74, op := Op.move (Operand.tmp 11), type := 63, pos := "outright.go:66", after := #[], guard := none },
  { dst := some 75, op := Op.call { callee := Callee.value (Operand.tmp 74), args := #[Operand.const (Value.int IntKind.i64 0)], argTypes := #[3] }, type := 65, pos := "outright.go:66", after := #[{ on := 6, ground := Ground.data }, { on := 5, ground := Ground.chain }], guard := none },
  { dst := some 76, op := Op.extract (Operand.tmp 75) 0, type := 25, pos := "outright.go:66", after := #[{ on := 7, ground := Ground.data }], guard := none },
  { dst := some 77, op := Op.extract (Operand.tmp 75) 1, type := 41, pos := "outright.go:66", after := #[{ on := 7, ground := Ground.data }], guard := none },
  { dst := some 78, op := Op.call { callee := Callee.value (Operand.func 41), args := #[Operand.tmp 76, Operand.tmp 77], argTypes := #[25, 41] }, type := 41, pos := "outright.go:66", after := #[{ on := 8, ground := Ground.data }, { on := 9, ground := Ground.data }, { on := 7, ground := Ground.chain }], guard := none },
  { dst := some 79, op := Op.call { callee := Callee.value (Operand.func 24), args := #[Operand.tmp 68, Operand.tmp 73, Operand.tmp 78], argTypes := #[27, 25, 41] }, type := 42, pos := "outright.go:66", after := #[{ on := 0, ground := Ground.data }, { on := 5, ground := Ground.data }, { on := 10, ground := Ground.data }, { on := 10, ground := Ground.chain }], guard := none },
  { dst := some 67, op := Op.move (Operand.tmp 79), type := 42, pos := "outright.go:66", after := #[{ on := 11, ground := Ground.data }], guard := none },
  { dst := some 80, op := Op.extract (Operand.tmp 67) 0, type := 27, pos := "outright.go:66", after := #[{ on := 12, ground := Ground.data }], guard := none },
  { dst := some 81, op := Op.extract (Operand.tmp 67) 1, type := 38, pos := "outright.go:66", after := #[{ on := 12, ground := Ground.data }, { on := 16, ground := Ground.gcOnly Departure.lateStores }], guard := none },
  { dst := some 12, op := Op.alloc 27, type := 0, pos := "outright.go:66", after := #[], guard := none },
  { dst := none, op := Op.store 27 (Operand.tmp 12) (Operand.tmp 80), type := 0, pos := "outright.go:66", after := #[{ on := 15, ground := Ground.data }, { on := 13, ground := Ground.data }, { on := 11, ground := Ground.chain }, { on := 0, ground := Ground.phase }, { on := 1, ground := Ground.phase }, { on := 2, ground := Ground.phase }, { on := 3, ground := Ground.phase }, { on := 4, ground := Ground.phase }, { on := 5, ground := Ground.phase }, { on := 6, ground := Ground.phase }, { on := 7, ground := Ground.phase }, { on := 8, ground := Ground.phase }, { on := 9, ground := Ground.phase }, { on := 10, ground := Ground.phase }, { on := 11, ground := Ground.phase }, { on := 12, ground := Ground.phase }, { on := 13, ground := Ground.phase }, { on := 14, ground := Ground.textOnly Departure.lateStores }, { on := 15, ground := Ground.phase }], guard := none },
  { dst := some 13, op := Op.assign (Operand.tmp 81), type := 38, pos := "outright.go:66", after := #[{ on := 14, ground := Ground.data }, { on := 16, ground := Ground.chain }, { on := 0, ground := Ground.phase }, { on := 1, ground := Ground.phase }, { on := 2, ground := Ground.phase }, { on := 3, ground := Ground.phase }, { on := 4, ground := Ground.phase }, { on := 5, ground := Ground.phase }, { on := 6, ground := Ground.phase }, { on := 7, ground := Ground.phase }, { on := 8, ground := Ground.phase }, { on := 9, ground := Ground.phase }, { on := 10, ground := Ground.phase }, { on := 11, ground := Ground.phase }, { on := 12, ground := Ground.phase }, { on := 13, ground := Ground.phase }, { on := 14, ground := Ground.phase }, { on := 15, ground := Ground.phase }, { on := 16, ground := Ground.phase }], guard := none }]
def specC8 (b5 : Nat) (kg ng vg cg : Int) (Ag : Option Addr) (gn capg tn mn : Nat) (vl : Fo) (ml : List (Int × Int)) (kx nx vx cx : Int) (xn : Nat) (kidsx : Fo) (sp : Int) (lo : Nat) (i : Nat) (v : Value) (w : World) : Prop :=
  match i with
  | 0 => v = .agg #[.int .u8 kg, .int .i64 ng, .int .i64 vg, .int .u8 cg, .slice Ag gn capg]
  | 1 => v = .func (.func 39) #[] #[.pointer (some ⟨b5 + 1, 0, none⟩), .pointer (some ⟨b5 + 1 + 1, 0, none⟩)]
  | 2 => ∃ A c A' c', v = .tuple #[.slice A tn c, .slice A' mn c'] ∧ KidsAt w (Old w) A tn c vl ∧ RMu w A' mn ml
  | 3 => ∃ A c, v = .slice A tn c ∧ KidsAt w (Old w) A tn c vl
  | 4 => ∃ A c, v = .slice A mn c ∧ RMu w A mn ml
  | 5 => ∃ A c, v = .slice A tn c ∧ KidsAt w (Old w) A tn c vl
  | 6 => v = .func (.func 39) #[] #[.pointer (some ⟨b5 + 1, 0, none⟩), .pointer (some ⟨b5 + 1 + 1, 0, none⟩)]
  | 7 => ∃ A c A' c', v = .tuple #[.slice A tn c, .slice A' mn c'] ∧ KidsAt w (Old w) A tn c vl ∧ RMu w A' mn ml
  | 8 => ∃ A c, v = .slice A tn c ∧ KidsAt w (Old w) A tn c vl
  | 9 => ∃ A c, v = .slice A mn c ∧ RMu w A mn ml
  | 10 => ∃ A c, v = .slice A mn c ∧ RMu w A mn ml
  | 11 => ∃ A c, v = .tuple #[.agg #[.int .u8 kx, .int .i64 nx, .int .i64 vx, .int .u8 cx, .slice A xn c], .int .i64 0] ∧ KidsAt w (Old w) A xn c kidsx
  | 12 => ∃ A c, v = .tuple #[.agg #[.int .u8 kx, .int .i64 nx, .int .i64 vx, .int .u8 cx, .slice A xn c], .int .i64 0] ∧ KidsAt w (Old w) A xn c kidsx
  | 13 => ∃ A c, v = .agg #[.int .u8 kx, .int .i64 nx, .int .i64 vx, .int .u8 cx, .slice A xn c] ∧ KidsAt w (Old w) A xn c kidsx
  | 14 => v = .int .i64 0
  | 15 => ∃ b, v = .pointer (some ⟨b, 0, none⟩) ∧ lo ≤ b ∧ w.heap[b]? = some (.cells #[.int .u8 0, .int .i64 0, .int .i64 0, .int .u8 0, .slice none 0 0] 27 (0, 0))
  | _ => True
theorem specC8_mono {b5 : Nat} {kg ng vg cg : Int} {Ag : Option Addr} {gn capg tn mn : Nat} {vl : Fo} {ml : List (Int × Int)} {kx nx vx cx : Int} {xn : Nat} {kidsx : Fo} {sp : Int} {lo : Nat} (i : Nat) (v : Value) (w w' : World) (hi : i < 16) (h : specC8 b5 kg ng vg cg Ag gn capg tn mn vl ml kx nx vx cx xn kidsx sp lo i v w) (hb : Bel w w') : specC8 b5 kg ng vg cg Ag gn capg tn mn vl ml kx nx vx cx xn kidsx sp lo i v w' := by
  match i, hi, h with
  | 0, _, h => exact h
  | 1, _, h => exact h
  | 2, _, h => obtain ⟨A, c, A2, c2, e, hk, hu⟩ := h; exact ⟨A, c, A2, c2, e, hk.bel hb, hu.bel hb⟩
  | 3, _, h => obtain ⟨A, c, e, hk⟩ := h; exact ⟨A, c, e, hk.bel hb⟩
  | 4, _, h => obtain ⟨A, c, e, hk⟩ := h; exact ⟨A, c, e, hk.bel hb⟩
  | 5, _, h => obtain ⟨A, c, e, hk⟩ := h; exact ⟨A, c, e, hk.bel hb⟩
  | 6, _, h => exact h
  | 7, _, h => obtain ⟨A, c, A2, c2, e, hk, hu⟩ := h; exact ⟨A, c, A2, c2, e, hk.bel hb, hu.bel hb⟩
  | 8, _, h => obtain ⟨A, c, e, hk⟩ := h; exact ⟨A, c, e, hk.bel hb⟩
  | 9, _, h => obtain ⟨A, c, e, hk⟩ := h; exact ⟨A, c, e, hk.bel hb⟩
  | 10, _, h => obtain ⟨A, c, e, hk⟩ := h; exact ⟨A, c, e, hk.bel hb⟩
  | 11, _, h => obtain ⟨A, c, e, hk⟩ := h; exact ⟨A, c, e, hk.bel hb⟩
  | 12, _, h => obtain ⟨A, c, e, hk⟩ := h; exact ⟨A, c, e, hk.bel hb⟩
  | 13, _, h => obtain ⟨A, c, e, hk⟩ := h; exact ⟨A, c, e, hk.bel hb⟩
  | 14, _, h => exact h
  | 15, _, h => obtain ⟨b, e, hl, hk⟩ := h; exact ⟨b, e, hl, hb.blk hk⟩
  | q + 16, hi, _ => exact absurd hi (by omega)
def acOC8 (b5 : Nat) (kg ng vg cg : Int) (Ag : Option Addr) (gn capg tn mn : Nat) (vl : Fo) (ml : List (Int × Int)) (kx nx vx cx : Int) (xn : Nat) (kidsx : Fo) (sp : Int) (lo : Nat) (s0 s2 s3 s4 s6 s7 s8 s9 s10 s12 s13 s14 s15 s16 s17 s18 s19 s20 s21 s22 s23 s24 s25 s26 s27 s28 s29 s30 s31 s32 s33 s34 s35 s36 s37 s38 s39 s40 s41 s42 s43 s44 s45 s46 s47 s48 s49 s50 s51 s52 s53 s54 s55 s56 s57 s58 s59 s60 s61 s62 s63 s64 s65 s66 s67 s68 s69 s70 s71 s72 s73 s74 s75 s76 s77 s78 s79 s80 s81 s82 s83 s84 s85 s86 s87 s88 s89 s90 s91 s92 s93 s94 s95 s96 s97 s98 s99 s100 s101 s102 s103 s104 s105 s106 s107 s108 s109 s110 s111 s112 s113 s114 s115 s116 s117 s118 s119 s120 s121 s122 s123 : Value) (df : List Deferred) : Act := { tmps := #[s0, .int .i64 sp, s2, s3, s4, .pointer (some ⟨b5, 0, none⟩), s6, s7, s8, s9, s10, .func (.func 39) #[] #[.pointer (some ⟨b5 + 1, 0, none⟩), .pointer (some ⟨b5 + 1 + 1, 0, none⟩)], s12, s13, s14, s15, s16, s17, s18, s19, s20, s21, s22, s23, s24, s25, s26, s27, s28, s29, s30, s31, s32, s33, s34, s35, s36, s37, s38, s39, s40, s41, s42, s43, s44, s45, s46, s47, s48, s49, s50, s51, s52, s53, s54, s55, s56, s57, s58, s59, s60, s61, s62, s63, s64, s65, s66, s67, s68, s69, s70, s71, s72, s73, s74, s75, s76, s77, s78, s79, s80, s81, s82, s83, s84, s85, s86, s87, s88, s89, s90, s91, s92, s93, s94, s95, s96, s97, s98, s99, s100, s101, s102, s103, s104, s105, s106, s107, s108, s109, s110, s111, s112, s113, s114, s115, s116, s117, s118, s119, s120, s121, s122, s123], defers := df }
def acVC8 (b5 : Nat) (kg ng vg cg : Int) (Ag : Option Addr) (gn capg tn mn : Nat) (vl : Fo) (ml : List (Int × Int)) (kx nx vx cx : Int) (xn : Nat) (kidsx : Fo) (sp : Int) (lo : Nat) (s0 s2 s3 s4 s6 s7 s8 s9 s10 s12 s13 s14 s15 s16 s17 s18 s19 s20 s21 s22 s23 s24 s25 s26 s27 s28 s29 s30 s31 s32 s33 s34 s35 s36 s37 s38 s39 s40 s41 s42 s43 s44 s45 s46 s47 s48 s49 s50 s51 s52 s53 s54 s55 s56 s57 s58 s59 s60 s61 s62 s63 s64 s65 s66 s67 s68 s69 s70 s71 s72 s73 s74 s75 s76 s77 s78 s79 s80 s81 s82 s83 s84 s85 s86 s87 s88 s89 s90 s91 s92 s93 s94 s95 s96 s97 s98 s99 s100 s101 s102 s103 s104 s105 s106 s107 s108 s109 s110 s111 s112 s113 s114 s115 s116 s117 s118 s119 s120 s121 s122 s123 : Value) (df : List Deferred) (V : Nat → Value) : Act := { tmps := #[s0, .int .i64 sp, s2, s3, s4, .pointer (some ⟨b5, 0, none⟩), s6, s7, s8, s9, s10, .func (.func 39) #[] #[.pointer (some ⟨b5 + 1, 0, none⟩), .pointer (some ⟨b5 + 1 + 1, 0, none⟩)], V 15, s13, s14, s15, s16, s17, s18, s19, s20, s21, s22, s23, s24, s25, s26, s27, s28, s29, s30, s31, s32, s33, s34, s35, s36, s37, s38, s39, s40, s41, s42, s43, s44, s45, s46, s47, s48, s49, s50, s51, s52, s53, s54, s55, s56, s57, s58, s59, s60, s61, s62, s63, s64, s65, s66, V 12, V 0, V 1, V 2, V 3, V 4, V 5, V 6, V 7, V 8, V 9, V 10, V 11, V 13, V 14, s82, s83, s84, s85, s86, s87, s88, s89, s90, s91, s92, s93, s94, s95, s96, s97, s98, s99, s100, s101, s102, s103, s104, s105, s106, s107, s108, s109, s110, s111, s112, s113, s114, s115, s116, s117, s118, s119, s120, s121, s122, s123], defers := df }
theorem regC8_tail : tailB .any regC8.toArray 17 = true := by kernel_rfl
theorem regC8_fwd : fwdB regC8.toArray 17 = true := by kernel_rfl
theorem regC8_slots : slotsB regC8.toArray 124 = true := by kernel_rfl
theorem regC8_seq : Region.seqB .any regC8.toArray (regC8.length - 17) 17 (Array.replicate 17 true ++ Array.replicate (regC8.length - 17) false) = true := by kernel_rfl
set_option maxRecDepth 100000 in
set_option maxHeartbeats 8000000 in
theorem regC8_any {id : Nat} (b5 : Nat) (kg ng vg cg : Int) (Ag : Option Addr) (gn capg tn mn : Nat) (vl : Fo) (ml : List (Int × Int)) (kx nx vx cx : Int) (xn : Nat) (kidsx : Fo) (sp : Int) (lo : Nat) (s0 s2 s3 s4 s6 s7 s8 s9 s10 s12 s13 s14 s15 s16 s17 s18 s19 s20 s21 s22 s23 s24 s25 s26 s27 s28 s29 s30 s31 s32 s33 s34 s35 s36 s37 s38 s39 s40 s41 s42 s43 s44 s45 s46 s47 s48 s49 s50 s51 s52 s53 s54 s55 s56 s57 s58 s59 s60 s61 s62 s63 s64 s65 s66 s67 s68 s69 s70 s71 s72 s73 s74 s75 s76 s77 s78 s79 s80 s81 s82 s83 s84 s85 s86 s87 s88 s89 s90 s91 s92 s93 s94 s95 s96 s97 s98 s99 s100 s101 s102 s103 s104 s105 s106 s107 s108 s109 s110 s111 s112 s113 s114 s115 s116 s117 s118 s119 s120 s121 s122 s123 : Value) (df : List Deferred) (w : World) (hlo : lo = w.drew.heap.size) (hwx : kidsx.well = true) (hc : w.drew.heap[b5]? = some (.cells #[.int .u8 kg, .int .i64 ng, .int .i64 vg, .int .u8 cg, .slice Ag gn capg] 27 (0, 0))) (HBK : ∀ W, Bel w.drew W → Calls Tryd.prog 39 #[.int .i64 0, .pointer (some ⟨b5 + 1, 0, none⟩), .pointer (some ⟨b5 + 1 + 1, 0, none⟩)] W (BackQ tn mn vl ml W)) (HPT : ∀ W A c A' c', Bel w.drew W → KidsAt W (Old W) A tn c vl → RMu W A' mn ml → Calls Tryd.prog 24 #[.agg #[.int .u8 kg, .int .i64 ng, .int .i64 vg, .int .u8 cg, .slice Ag gn capg], .slice A tn c, .slice A' mn c'] W (PutQ kx nx vx cx xn kidsx W)) (Q : Exit → Act → World → Prop)
    (hend : ∀ (V : Nat → Value) (w' : World) (b : Nat) (A : Option Addr) (c : Nat), Bel w.drew w' → V 15 = .pointer (some ⟨b, 0, none⟩) → lo ≤ b → b < w'.heap.size → w'.rangeAt b 0 #[.int .u8 kx, .int .i64 nx, .int .i64 vx, .int .u8 cx, .slice A xn c].toList → KidsAt w' (Old w') A xn c kidsx → V 14 = .int .i64 0 → wpList Tryd.prog regC8.toArray Q (regC8.drop 17) (acVC8 b5 kg ng vg cg Ag gn capg tn mn vl ml kx nx vx cx xn kidsx sp lo s0 s2 s3 s4 s6 s7 s8 s9 s10 s12 s13 s14 s15 s16 s17 s18 s19 s20 s21 s22 s23 s24 s25 s26 s27 s28 s29 s30 s31 s32 s33 s34 s35 s36 s37 s38 s39 s40 s41 s42 s43 s44 s45 s46 s47 s48 s49 s50 s51 s52 s53 s54 s55 s56 s57 s58 s59 s60 s61 s62 s63 s64 s65 s66 s67 s68 s69 s70 s71 s72 s73 s74 s75 s76 s77 s78 s79 s80 s81 s82 s83 s84 s85 s86 s87 s88 s89 s90 s91 s92 s93 s94 s95 s96 s97 s98 s99 s100 s101 s102 s103 s104 s105 s106 s107 s108 s109 s110 s111 s112 s113 s114 s115 s116 s117 s118 s119 s120 s121 s122 s123 df V) w') :
    (Code.region id regC8.toArray true).wp Tryd.prog Q (acOC8 b5 kg ng vg cg Ag gn capg tn mn vl ml kx nx vx cx xn kidsx sp lo s0 s2 s3 s4 s6 s7 s8 s9 s10 s12 s13 s14 s15 s16 s17 s18 s19 s20 s21 s22 s23 s24 s25 s26 s27 s28 s29 s30 s31 s32 s33 s34 s35 s36 s37 s38 s39 s40 s41 s42 s43 s44 s45 s46 s47 s48 s49 s50 s51 s52 s53 s54 s55 s56 s57 s58 s59 s60 s61 s62 s63 s64 s65 s66 s67 s68 s69 s70 s71 s72 s73 s74 s75 s76 s77 s78 s79 s80 s81 s82 s83 s84 s85 s86 s87 s88 s89 s90 s91 s92 s93 s94 s95 s96 s97 s98 s99 s100 s101 s102 s103 s104 s105 s106 s107 s108 s109 s110 s111 s112 s113 s114 s115 s116 s117 s118 s119 s120 s121 s122 s123 df) w := by
  refine wp_region_invS (l := regC8) 16 14 (acOC8 b5 kg ng vg cg Ag gn capg tn mn vl ml kx nx vx cx xn kidsx sp lo s0 s2 s3 s4 s6 s7 s8 s9 s10 s12 s13 s14 s15 s16 s17 s18 s19 s20 s21 s22 s23 s24 s25 s26 s27 s28 s29 s30 s31 s32 s33 s34 s35 s36 s37 s38 s39 s40 s41 s42 s43 s44 s45 s46 s47 s48 s49 s50 s51 s52 s53 s54 s55 s56 s57 s58 s59 s60 s61 s62 s63 s64 s65 s66 s67 s68 s69 s70 s71 s72 s73 s74 s75 s76 s77 s78 s79 s80 s81 s82 s83 s84 s85 s86 s87 s88 s89 s90 s91 s92 s93 s94 s95 s96 s97 s98 s99 s100 s101 s102 s103 s104 s105 s106 s107 s108 s109 s110 s111 s112 s113 s114 s115 s116 s117 s118 s119 s120 s121 s122 s123 df) w (specC8 b5 kg ng vg cg Ag gn capg tn mn vl ml kx nx vx cx xn kidsx sp lo) (fun V w' => ∃ b A c, V 15 = .pointer (some ⟨b, 0, none⟩) ∧ lo ≤ b ∧ b < w'.heap.size ∧ Bel w.drew w' ∧ w'.rangeAt b 0 #[.int .u8 kx, .int .i64 nx, .int .i64 vx, .int .u8 cx, .slice A xn c].toList ∧ KidsAt w' (Old w') A xn c kidsx ∧ ∃ A c, V 12 = .tuple #[.agg #[.int .u8 kx, .int .i64 nx, .int .i64 vx, .int .u8 cx, .slice A xn c], .int .i64 0]) (fun v => v = .int .i64 0) (by kernel_rfl) regC8_tail regC8_fwd regC8_slots regC8_seq (by kernel_rfl) (by decide) (fun i v w w' hi h hb => specC8_mono i v w w' hi h hb) ?_ ?_ ?_ ?_ (fun v w h => h) ?_
  · intro i' o hi' ho a w1 V hbel hdep hpar K hK
    have p5 : a.eval (.tmp 5) = .pointer (some ⟨b5, 0, none⟩) := hpar 5 (by show 5 < 124; decide) (by kernel_rfl)
    have p5' : a.tmps[5]?.getD undef = .pointer (some ⟨b5, 0, none⟩) := by have h := p5; simp only [Act.eval, Array.getD_eq_getD_getElem?] at h; exact h
    have p11 : a.eval (.tmp 11) = .func (.func 39) #[] #[.pointer (some ⟨b5 + 1, 0, none⟩), .pointer (some ⟨b5 + 1 + 1, 0, none⟩)] := hpar 11 (by show 11 < 124; decide) (by kernel_rfl)
    have p11' : a.tmps[11]?.getD undef = .func (.func 39) #[] #[.pointer (some ⟨b5 + 1, 0, none⟩), .pointer (some ⟨b5 + 1 + 1, 0, none⟩)] := by have h := p11; simp only [Act.eval, Array.getD_eq_getD_getElem?] at h; exact h
    have p1 : a.eval (.tmp 1) = .int .i64 sp := hpar 1 (by show 1 < 124; decide) (by kernel_rfl)
    have p1' : a.tmps[1]?.getD undef = .int .i64 sp := by have h := p1; simp only [Act.eval, Array.getD_eq_getD_getElem?] at h; exact h
    obtain ⟨⟨m0, m1, m2, m3, m4⟩, _⟩ := cells5 (hbel.blk hc)
    match i', hi', ho, hdep, hK with
    | 0, _, ho, hdep, hK =>
      simp only [regC8, List.getElem?_toArray, List.getElem?_cons_zero, Option.some.injEq] at ho
      subst ho
      refine ⟨fun _ => ?_, fun hw => (yw_n rfl hw).elim⟩
      exact wp_val (v := .agg #[.int .u8 kg, .int .i64 ng, .int .i64 vg, .int .u8 cg, .slice Ag gn capg]) (w' := w1) (by simp [execOp, go_sem, p5', m0, m1, m2, m3, m4]) (hK _ _ (Bel.refl _) rfl)
    | 1, _, ho, hdep, hK =>
      simp only [regC8, List.getElem?_toArray, List.getElem?_cons_zero, List.getElem?_cons_succ, Option.some.injEq] at ho
      subst ho
      refine ⟨fun _ => ?_, fun hw => (yw_n rfl hw).elim⟩
      exact wp_val (v := .func (.func 39) #[] #[.pointer (some ⟨b5 + 1, 0, none⟩), .pointer (some ⟨b5 + 1 + 1, 0, none⟩)]) (w' := w1) (by simp [execOp, go_sem, p11']) (hK _ _ (Bel.refl _) rfl)
    | 2, _, ho, hdep, hK =>
      simp only [regC8, List.getElem?_toArray, List.getElem?_cons_zero, List.getElem?_cons_succ, Option.some.injEq] at ho
      subst ho
      refine ⟨fun _ => ?_, fun hw => (yw_n rfl hw).elim⟩
      obtain ⟨f1, d1⟩ := hdep ⟨1, .data⟩ (by simp) rfl
      have e1 : a.eval (.tmp 69) = .func (.func 39) #[] #[.pointer (some ⟨b5 + 1, 0, none⟩), .pointer (some ⟨b5 + 1 + 1, 0, none⟩)] := (d1 69 rfl).trans f1
      have e1' : a.tmps[69]?.getD undef = .func (.func 39) #[] #[.pointer (some ⟨b5 + 1, 0, none⟩), .pointer (some ⟨b5 + 1 + 1, 0, none⟩)] := by have h := e1; simp only [Act.eval, Array.getD_eq_getD_getElem?] at h; exact h
      refine wp_enter (f := 39) (args := #[.int .i64 0, .pointer (some ⟨b5 + 1, 0, none⟩), .pointer (some ⟨b5 + 1 + 1, 0, none⟩)]) (by simp [execOp, go_sem, e1']) ((HBK w1 hbel).mono ?_)
      rintro e w' ⟨A, c, A', c', rfl, hk, hu, hb⟩
      exact ⟨_, rfl, hK _ _ hb ⟨A, c, A', c', rfl, hk, hu⟩⟩
    | 3, _, ho, hdep, hK =>
      simp only [regC8, List.getElem?_toArray, List.getElem?_cons_zero, List.getElem?_cons_succ, Option.some.injEq] at ho
      subst ho
      refine ⟨fun _ => ?_, fun hw => (yw_n rfl hw).elim⟩
      obtain ⟨f2, d2⟩ := hdep ⟨2, .data⟩ (by simp) rfl
      obtain ⟨A2, c2, U2, q2, hv2, hk2, hu2⟩ := f2
      have e2 : a.eval (.tmp 70) = .tuple #[.slice A2 tn c2, .slice U2 mn q2] := (d2 70 rfl).trans hv2
      have e2' : a.tmps[70]?.getD undef = .tuple #[.slice A2 tn c2, .slice U2 mn q2] := by have h := e2; simp only [Act.eval, Array.getD_eq_getD_getElem?] at h; exact h
      exact wp_val (v := .slice A2 tn c2) (w' := w1) (by simp [execOp, go_sem, e2']) (hK _ _ (Bel.refl _) ⟨A2, c2, rfl, hk2⟩)
    | 4, _, ho, hdep, hK =>
      simp only [regC8, List.getElem?_toArray, List.getElem?_cons_zero, List.getElem?_cons_succ, Option.some.injEq] at ho
      subst ho
      refine ⟨fun _ => ?_, fun hw => (yw_n rfl hw).elim⟩
      obtain ⟨f2, d2⟩ := hdep ⟨2, .data⟩ (by simp) rfl
      obtain ⟨A2, c2, U2, q2, hv2, hk2, hu2⟩ := f2
      have e2 : a.eval (.tmp 70) = .tuple #[.slice A2 tn c2, .slice U2 mn q2] := (d2 70 rfl).trans hv2
      have e2' : a.tmps[70]?.getD undef = .tuple #[.slice A2 tn c2, .slice U2 mn q2] := by have h := e2; simp only [Act.eval, Array.getD_eq_getD_getElem?] at h; exact h
      exact wp_val (v := .slice U2 mn q2) (w' := w1) (by simp [execOp, go_sem, e2']) (hK _ _ (Bel.refl _) ⟨U2, q2, rfl, hu2⟩)
    | 5, _, ho, hdep, hK =>
      simp only [regC8, List.getElem?_toArray, List.getElem?_cons_zero, List.getElem?_cons_succ, Option.some.injEq] at ho
      subst ho
      refine ⟨fun _ => ?_, fun hw => (yw_n rfl hw).elim⟩
      obtain ⟨f3, d3⟩ := hdep ⟨3, .data⟩ (by simp) rfl
      obtain ⟨A3, c3, hv3, hk3⟩ := f3
      have e3 : a.eval (.tmp 71) = .slice A3 tn c3 := (d3 71 rfl).trans hv3
      have e3' : a.tmps[71]?.getD undef = .slice A3 tn c3 := by have h := e3; simp only [Act.eval, Array.getD_eq_getD_getElem?] at h; exact h
      obtain ⟨f4, d4⟩ := hdep ⟨4, .data⟩ (by simp) rfl
      obtain ⟨U4, q4, hv4, hu4⟩ := f4
      have e4 : a.eval (.tmp 72) = .slice U4 mn q4 := (d4 72 rfl).trans hv4
      have e4' : a.tmps[72]?.getD undef = .slice U4 mn q4 := by have h := e4; simp only [Act.eval, Array.getD_eq_getD_getElem?] at h; exact h
      refine wp_enter (f := 40) (args := #[.slice A3 tn c3, .slice U4 mn q4]) (by simp [go_sem, e3', e4']) ((first_any _ _ _ _ _ _ w1).mono ?_)
      rintro e w' ⟨rfl, hb⟩
      exact ⟨_, rfl, hK _ _ hb ⟨A3, c3, rfl, hk3.bel hb⟩⟩
    | 6, _, ho, hdep, hK =>
      simp only [regC8, List.getElem?_toArray, List.getElem?_cons_zero, List.getElem?_cons_succ, Option.some.injEq] at ho
      subst ho
      refine ⟨fun _ => ?_, fun hw => (yw_n rfl hw).elim⟩
      exact wp_val (v := .func (.func 39) #[] #[.pointer (some ⟨b5 + 1, 0, none⟩), .pointer (some ⟨b5 + 1 + 1, 0, none⟩)]) (w' := w1) (by simp [execOp, go_sem, p11']) (hK _ _ (Bel.refl _) rfl)
    | 7, _, ho, hdep, hK =>
      simp only [regC8, List.getElem?_toArray, List.getElem?_cons_zero, List.getElem?_cons_succ, Option.some.injEq] at ho
      subst ho
      refine ⟨fun _ => ?_, fun hw => (yw_n rfl hw).elim⟩
      obtain ⟨f6, d6⟩ := hdep ⟨6, .data⟩ (by simp) rfl
      have e6 : a.eval (.tmp 74) = .func (.func 39) #[] #[.pointer (some ⟨b5 + 1, 0, none⟩), .pointer (some ⟨b5 + 1 + 1, 0, none⟩)] := (d6 74 rfl).trans f6
      have e6' : a.tmps[74]?.getD undef = .func (.func 39) #[] #[.pointer (some ⟨b5 + 1, 0, none⟩), .pointer (some ⟨b5 + 1 + 1, 0, none⟩)] := by have h := e6; simp only [Act.eval, Array.getD_eq_getD_getElem?] at h; exact h
      refine wp_enter (f := 39) (args := #[.int .i64 0, .pointer (some ⟨b5 + 1, 0, none⟩), .pointer (some ⟨b5 + 1 + 1, 0, none⟩)]) (by simp [execOp, go_sem, e6']) ((HBK w1 hbel).mono ?_)
      rintro e w' ⟨A, c, A', c', rfl, hk, hu, hb⟩
      exact ⟨_, rfl, hK _ _ hb ⟨A, c, A', c', rfl, hk, hu⟩⟩
    | 8, _, ho, hdep, hK =>
      simp only [regC8, List.getElem?_toArray, List.getElem?_cons_zero, List.getElem?_cons_succ, Option.some.injEq] at ho
      subst ho
      refine ⟨fun _ => ?_, fun hw => (yw_n rfl hw).elim⟩
      obtain ⟨f7, d7⟩ := hdep ⟨7, .data⟩ (by simp) rfl
      obtain ⟨A7, c7, U7, q7, hv7, hk7, hu7⟩ := f7
      have e7 : a.eval (.tmp 75) = .tuple #[.slice A7 tn c7, .slice U7 mn q7] := (d7 75 rfl).trans hv7
      have e7' : a.tmps[75]?.getD undef = .tuple #[.slice A7 tn c7, .slice U7 mn q7] := by have h := e7; simp only [Act.eval, Array.getD_eq_getD_getElem?] at h; exact h
      exact wp_val (v := .slice A7 tn c7) (w' := w1) (by simp [execOp, go_sem, e7']) (hK _ _ (Bel.refl _) ⟨A7, c7, rfl, hk7⟩)
    | 9, _, ho, hdep, hK =>
      simp only [regC8, List.getElem?_toArray, List.getElem?_cons_zero, List.getElem?_cons_succ, Option.some.injEq] at ho
      subst ho
      refine ⟨fun _ => ?_, fun hw => (yw_n rfl hw).elim⟩
      obtain ⟨f7, d7⟩ := hdep ⟨7, .data⟩ (by simp) rfl
      obtain ⟨A7, c7, U7, q7, hv7, hk7, hu7⟩ := f7
      have e7 : a.eval (.tmp 75) = .tuple #[.slice A7 tn c7, .slice U7 mn q7] := (d7 75 rfl).trans hv7
      have e7' : a.tmps[75]?.getD undef = .tuple #[.slice A7 tn c7, .slice U7 mn q7] := by have h := e7; simp only [Act.eval, Array.getD_eq_getD_getElem?] at h; exact h
      exact wp_val (v := .slice U7 mn q7) (w' := w1) (by simp [execOp, go_sem, e7']) (hK _ _ (Bel.refl _) ⟨U7, q7, rfl, hu7⟩)
    | 10, _, ho, hdep, hK =>
      simp only [regC8, List.getElem?_toArray, List.getElem?_cons_zero, List.getElem?_cons_succ, Option.some.injEq] at ho
      subst ho
      refine ⟨fun _ => ?_, fun hw => (yw_n rfl hw).elim⟩
      obtain ⟨f8, d8⟩ := hdep ⟨8, .data⟩ (by simp) rfl
      obtain ⟨A8, c8, hv8, hk8⟩ := f8
      have e8 : a.eval (.tmp 76) = .slice A8 tn c8 := (d8 76 rfl).trans hv8
      have e8' : a.tmps[76]?.getD undef = .slice A8 tn c8 := by have h := e8; simp only [Act.eval, Array.getD_eq_getD_getElem?] at h; exact h
      obtain ⟨f9, d9⟩ := hdep ⟨9, .data⟩ (by simp) rfl
      obtain ⟨U9, q9, hv9, hu9⟩ := f9
      have e9 : a.eval (.tmp 77) = .slice U9 mn q9 := (d9 77 rfl).trans hv9
      have e9' : a.tmps[77]?.getD undef = .slice U9 mn q9 := by have h := e9; simp only [Act.eval, Array.getD_eq_getD_getElem?] at h; exact h
      refine wp_enter (f := 41) (args := #[.slice A8 tn c8, .slice U9 mn q9]) (by simp [go_sem, e8', e9']) ((second_any _ _ _ _ _ _ w1).mono ?_)
      rintro e w' ⟨rfl, hb⟩
      exact ⟨_, rfl, hK _ _ hb ⟨U9, q9, rfl, hu9.bel hb⟩⟩
    | 11, _, ho, hdep, hK =>
      simp only [regC8, List.getElem?_toArray, List.getElem?_cons_zero, List.getElem?_cons_succ, Option.some.injEq] at ho
      subst ho
      refine ⟨fun _ => ?_, fun hw => (yw_n rfl hw).elim⟩
      obtain ⟨f0, d0⟩ := hdep ⟨0, .data⟩ (by simp) rfl
      have e0 : a.eval (.tmp 68) = .agg #[.int .u8 kg, .int .i64 ng, .int .i64 vg, .int .u8 cg, .slice Ag gn capg] := (d0 68 rfl).trans f0
      have e0' : a.tmps[68]?.getD undef = .agg #[.int .u8 kg, .int .i64 ng, .int .i64 vg, .int .u8 cg, .slice Ag gn capg] := by have h := e0; simp only [Act.eval, Array.getD_eq_getD_getElem?] at h; exact h
      obtain ⟨f5, d5⟩ := hdep ⟨5, .data⟩ (by simp) rfl
      obtain ⟨A5, c5, hv5, hk5⟩ := f5
      have e5 : a.eval (.tmp 73) = .slice A5 tn c5 := (d5 73 rfl).trans hv5
      have e5' : a.tmps[73]?.getD undef = .slice A5 tn c5 := by have h := e5; simp only [Act.eval, Array.getD_eq_getD_getElem?] at h; exact h
      obtain ⟨f10, d10⟩ := hdep ⟨10, .data⟩ (by simp) rfl
      obtain ⟨U10, q10, hv10, hu10⟩ := f10
      have e10 : a.eval (.tmp 78) = .slice U10 mn q10 := (d10 78 rfl).trans hv10
      have e10' : a.tmps[78]?.getD undef = .slice U10 mn q10 := by have h := e10; simp only [Act.eval, Array.getD_eq_getD_getElem?] at h; exact h
      refine wp_enter (f := 24) (args := #[.agg #[.int .u8 kg, .int .i64 ng, .int .i64 vg, .int .u8 cg, .slice Ag gn capg], .slice A5 tn c5, .slice U10 mn q10]) (by simp [go_sem, e0', e5', e10']) ((HPT w1 _ _ _ _ hbel hk5 hu10).mono ?_)
      rintro e w' ⟨A, c, rfl, hk, hb⟩
      exact ⟨_, rfl, hK _ _ hb ⟨A, c, rfl, hk⟩⟩
    | 12, _, ho, hdep, hK =>
      simp only [regC8, List.getElem?_toArray, List.getElem?_cons_zero, List.getElem?_cons_succ, Option.some.injEq] at ho
      subst ho
      refine ⟨fun _ => ?_, fun hw => (yw_n rfl hw).elim⟩
      obtain ⟨f11, d11⟩ := hdep ⟨11, .data⟩ (by simp) rfl
      obtain ⟨A11, c11, hv11, hk11⟩ := f11
      have e11 : a.eval (.tmp 79) = .tuple #[.agg #[.int .u8 kx, .int .i64 nx, .int .i64 vx, .int .u8 cx, .slice A11 xn c11], .int .i64 0] := (d11 79 rfl).trans hv11
      have e11' : a.tmps[79]?.getD undef = .tuple #[.agg #[.int .u8 kx, .int .i64 nx, .int .i64 vx, .int .u8 cx, .slice A11 xn c11], .int .i64 0] := by have h := e11; simp only [Act.eval, Array.getD_eq_getD_getElem?] at h; exact h
      exact wp_val (v := .tuple #[.agg #[.int .u8 kx, .int .i64 nx, .int .i64 vx, .int .u8 cx, .slice A11 xn c11], .int .i64 0]) (w' := w1) (by simp [execOp, go_sem, e11']) (hK _ _ (Bel.refl _) ⟨A11, c11, rfl, hk11⟩)
    | 13, _, ho, hdep, hK =>
      simp only [regC8, List.getElem?_toArray, List.getElem?_cons_zero, List.getElem?_cons_succ, Option.some.injEq] at ho
      subst ho
      refine ⟨fun _ => ?_, fun hw => (yw_n rfl hw).elim⟩
      obtain ⟨f12, d12⟩ := hdep ⟨12, .data⟩ (by simp) rfl
      obtain ⟨A12, c12, hv12, hk12⟩ := f12
      have e12 : a.eval (.tmp 67) = .tuple #[.agg #[.int .u8 kx, .int .i64 nx, .int .i64 vx, .int .u8 cx, .slice A12 xn c12], .int .i64 0] := (d12 67 rfl).trans hv12
      have e12' : a.tmps[67]?.getD undef = .tuple #[.agg #[.int .u8 kx, .int .i64 nx, .int .i64 vx, .int .u8 cx, .slice A12 xn c12], .int .i64 0] := by have h := e12; simp only [Act.eval, Array.getD_eq_getD_getElem?] at h; exact h
      exact wp_val (v := .agg #[.int .u8 kx, .int .i64 nx, .int .i64 vx, .int .u8 cx, .slice A12 xn c12]) (w' := w1) (by simp [execOp, go_sem, e12']) (hK _ _ (Bel.refl _) ⟨A12, c12, rfl, hk12⟩)
    | 14, _, ho, hdep, hK =>
      simp only [regC8, List.getElem?_toArray, List.getElem?_cons_zero, List.getElem?_cons_succ, Option.some.injEq] at ho
      subst ho
      refine ⟨fun _ => ?_, fun hw => (yw_n rfl hw).elim⟩
      obtain ⟨f12, d12⟩ := hdep ⟨12, .data⟩ (by simp) rfl
      obtain ⟨A12, c12, hv12, hk12⟩ := f12
      have e12 : a.eval (.tmp 67) = .tuple #[.agg #[.int .u8 kx, .int .i64 nx, .int .i64 vx, .int .u8 cx, .slice A12 xn c12], .int .i64 0] := (d12 67 rfl).trans hv12
      have e12' : a.tmps[67]?.getD undef = .tuple #[.agg #[.int .u8 kx, .int .i64 nx, .int .i64 vx, .int .u8 cx, .slice A12 xn c12], .int .i64 0] := by have h := e12; simp only [Act.eval, Array.getD_eq_getD_getElem?] at h; exact h
      exact wp_val (v := .int .i64 0) (w' := w1) (by simp [execOp, go_sem, e12']) (hK _ _ (Bel.refl _) rfl)
    | 15, _, ho, hdep, hK =>
      simp only [regC8, List.getElem?_toArray, List.getElem?_cons_zero, List.getElem?_cons_succ, Option.some.injEq] at ho
      subst ho
      refine ⟨fun _ => ?_, fun hw => (yw_n rfl hw).elim⟩
      exact wp_val (v := .pointer (some ⟨w1.heap.size, 0, none⟩)) (w' := w1.alloc (.cells #[.int .u8 0, .int .i64 0, .int .i64 0, .int .u8 0, .slice none 0 0] 27)) (by simp [execOp, go_sem]) (hK _ _ ((Bel.refl w1).alloc _) ⟨_, rfl, hlo ▸ hbel.size, blk1 w1 _⟩)
    | q + 16, hi, _, _, _ => exact absurd hi (by omega)
  · intro o ho a w1 V hbel hd
    simp only [regC8, List.getElem?_toArray, List.getElem?_cons_zero, List.getElem?_cons_succ, Option.some.injEq] at ho
    subst ho
    refine ⟨wanted_none rfl, fun K hK => ?_⟩
    obtain ⟨⟨A, c, e1, hk⟩, d1⟩ := hd 13 (by decide) (by decide)
    obtain ⟨⟨b, e2, hl, hz⟩, d2⟩ := hd 15 (by decide) (by decide)
    obtain ⟨⟨A3, c3, e3, _⟩, _⟩ := hd 12 (by decide) (by decide)
    refine wp_store_mid 27 (.tmp 12) (.tmp 80) rfl b 0 #[.int .u8 kx, .int .i64 nx, .int .i64 vx, .int .u8 cx, .slice A xn c] ((d2 12 rfl).trans e2) ((d1 80 rfl).trans e1) (there_zero hz) (by kernel_rfl) (by simp [Value.oneCell']) (hK _ _ ?_)
    have hbs := (Array.getElem?_eq_some_iff.1 hz).1
    have hk' := hk.apart hwx hz
    refine ⟨b, A, c, e2, hl, by rw [setCells_size]; exact hbs, bel_setCells hbel (hlo ▸ hl), World.rangeAt_setCells_same _ _ _ _ (there_zero hz), ?_, A3, c3, e3⟩
    refine (hk'.keep fun j hj => World.heap_setCells_other _ _ _ _ hj.1 hj.2).wide fun j hj => ?_
    show j < _
    rw [setCells_size]
    exact hj.1
  · intro o ho a w1 V hz hd
    simp only [regC8, List.getElem?_toArray, List.getElem?_cons_zero, List.getElem?_cons_succ, Option.some.injEq] at ho
    subst ho
    refine ⟨wanted_none rfl, fun K hK => ?_⟩
    obtain ⟨b, A, c, _, _, _, _, _, _, A3, c3, e3⟩ := hz
    have e : a.eval (.tmp 67) = .tuple #[.agg #[.int .u8 kx, .int .i64 nx, .int .i64 vx, .int .u8 cx, .slice A3 xn c3], .int .i64 0] := (hd 12 (by decide) (by decide) 67 rfl).trans e3
    have e' : a.tmps[67]?.getD undef = .tuple #[.agg #[.int .u8 kx, .int .i64 nx, .int .i64 vx, .int .u8 cx, .slice A3 xn c3], .int .i64 0] := by have h := e; simp only [Act.eval, Array.getD_eq_getD_getElem?] at h; exact h
    exact wp_val (v := .int .i64 0) (w' := w1) (by simp [execOp, go_sem, e']) (hK _ rfl)
  · rintro V j v w1 hj ⟨b, A, c, e1, h1, h2, h3, h4, h5, A3, c3, e3⟩
    refine ⟨b, A, c, ?_, h1, h2, h3, h4, h5, A3, c3, ?_⟩
    · show (if 15 = j then v else V 15) = _
      rw [if_neg (by omega)]; exact e1
    · show (if 12 = j then v else V 12) = _
      rw [if_neg (by omega)]; exact e3
  · rintro V w1 ⟨b, A, c, e1, h1, h2, h3, h4, h5, _⟩ hl
    have e : finA regC8.toArray 17 V (acOC8 b5 kg ng vg cg Ag gn capg tn mn vl ml kx nx vx cx xn kidsx sp lo s0 s2 s3 s4 s6 s7 s8 s9 s10 s12 s13 s14 s15 s16 s17 s18 s19 s20 s21 s22 s23 s24 s25 s26 s27 s28 s29 s30 s31 s32 s33 s34 s35 s36 s37 s38 s39 s40 s41 s42 s43 s44 s45 s46 s47 s48 s49 s50 s51 s52 s53 s54 s55 s56 s57 s58 s59 s60 s61 s62 s63 s64 s65 s66 s67 s68 s69 s70 s71 s72 s73 s74 s75 s76 s77 s78 s79 s80 s81 s82 s83 s84 s85 s86 s87 s88 s89 s90 s91 s92 s93 s94 s95 s96 s97 s98 s99 s100 s101 s102 s103 s104 s105 s106 s107 s108 s109 s110 s111 s112 s113 s114 s115 s116 s117 s118 s119 s120 s121 s122 s123 df) = acVC8 b5 kg ng vg cg Ag gn capg tn mn vl ml kx nx vx cx xn kidsx sp lo s0 s2 s3 s4 s6 s7 s8 s9 s10 s12 s13 s14 s15 s16 s17 s18 s19 s20 s21 s22 s23 s24 s25 s26 s27 s28 s29 s30 s31 s32 s33 s34 s35 s36 s37 s38 s39 s40 s41 s42 s43 s44 s45 s46 s47 s48 s49 s50 s51 s52 s53 s54 s55 s56 s57 s58 s59 s60 s61 s62 s63 s64 s65 s66 s67 s68 s69 s70 s71 s72 s73 s74 s75 s76 s77 s78 s79 s80 s81 s82 s83 s84 s85 s86 s87 s88 s89 s90 s91 s92 s93 s94 s95 s96 s97 s98 s99 s100 s101 s102 s103 s104 s105 s106 s107 s108 s109 s110 s111 s112 s113 s114 s115 s116 s117 s118 s119 s120 s121 s122 s123 df V := by kernel_rfl
    rw [e]
    exact hend V w1 b A c h3 e1 h1 h2 h4 h5 hl
def regC9 : List Oper := [
  { dst := some 83, op := Op.load 27 (Operand.tmp 5), type := 27, pos := "outright.go:67", after := #[], guard := none },
  { dst := some 84, op := Op.move (Operand.tmp 11), type := 63, pos := "outright.go:67", after := #[], guard := none },
  { dst := some 85, op := Op.move (Operand.tmp 1), type := 3, pos := "outright.go:67", after := #[], guard := none },
  { dst := some 86, op := Op.call { callee := Callee.value (Operand.tmp 84), args := #[Operand.tmp 85], argTypes := #[3] }, type := 65, pos := "outright.go:67", after := #[{ on := 1, ground := Ground.data }, { on := 2, ground := Ground.data }], guard := none },
  { dst := some 87, op := Op.extract (Operand.tmp 86) 0, type := 25, pos := "outright.go:67", after := #[{ on := 3, ground := Ground.data }], guard := none },
  { dst := some 88, op := Op.extract (Operand.tmp 86) 1, type := 41, pos := "outright.go:67", after := #[{ on := 3, ground := Ground.data }], guard := none },
  { dst := some 89, op := Op.call { callee := Callee.value (Operand.func 40), args := #[Operand.tmp 87, Operand.tmp 88], argTypes := #[25, 41] }, type := 25, pos := "outright.go:67", after := #[{ on := 4, ground := Ground.data }, { on := 5, ground := Ground.data }, { on := 3, ground := Ground.chain }], guard := none },
  { dst := some 90, op := Op.move (Operand.tmp 11), type := 63, pos := "outright.go:67", after := #[], guard := none },
  { dst := some 91, op := Op.move (Operand.tmp 1), type := 3, pos := "outright.go:67", after := #[], guard := none },
  { dst := some 92, op := Op.call { callee := Callee.value (Operand.tmp 90), args := #[Operand.tmp 91], argTypes := #[3] }, type := 65, pos := "outright.go:67", after := #[{ on := 7, ground := Ground.data }, { on := 8, ground := Ground.data }, { on := 6, ground := Ground.chain }], guard := none },
  { dst := some 93, op := Op.extract (Operand.tmp 92) 0, type := 25, pos := "outright.go:67", after := #[{ on := 9, ground := Ground.data }], guard := none },
  { dst := some 94, op := Op.extract (Operand.tmp 92) 1, type := 41, pos := "outright.go:67", after := #[{ on := 9, ground := Ground.data }], guard := none },
  { dst := some 95, op := Op.call { callee := Callee.value (Operand.func 41), args := #[Operand.tmp 93, Operand.tmp 94], argTypes := #[25, 41] }, type := 41, pos := "outright.go:67", after := #[{ on := 10, ground := Ground.data }, { on := 11, ground := Ground.data }, { on := 9, ground := Ground.chain }], guard := none },
  { dst := some 96, op := Op.call { callee := Callee.value (Operand.func 24), args := #[Operand.tmp 83, Operand.tmp 89, Operand.tmp 95], argTypes := #[27, 25, 41] }, type := 42, pos := "outright.go:67", after := #[{ on := 0, ground := Ground.data }, { on := 6, ground := Ground.data }, { on := 12, ground := Ground.data }, { on := 12, ground := Ground.chain }], guard := none },
  { dst := some 82, op := Op.move (Operand.tmp 96), type := 42, pos := "outright.go:67", after := #[{ on := 13, ground := Ground.data }], guard := none },
  { dst := some 97, op := Op.extract (Operand.tmp 82) 0, type := 27, pos := "outright.go:67", after := #[{ on := 14, ground := Ground.data }], guard := none },
  { dst := some 98, op := Op.extract (Operand.tmp 82) 1, type := 38, pos := "outright.go:67", after := #[{ on := 14, ground := Ground.data }, { on := 18, ground := Ground.gcOnly Departure.lateStores }], guard := none },
  { dst := some 14, op := Op.alloc 27, type := 0, pos := "outright.go:67", after := #[], guard := none },
  { dst := none, op := Op.store 27 (Operand.tmp 14) (Operand.tmp 97), type := 0, pos := "outright.go:67", after := #[{ on := 17, ground := Ground.data }, { on := 15, ground := Ground.data }, { on := 13, ground := Ground.chain }, { on := 0, ground := Ground.phase }, { on := 1, ground := Ground.phase }, { on := 2, ground := Ground.phase }, { on := 3, ground := Ground.phase }, { on := 4, ground := Ground.phase }, { on := 5, ground := Ground.phase }, { on := 6, ground := Ground.phase }, { on := 7, ground := Ground.phase }, { on := 8, ground := Ground.phase }, { on := 9, ground := Ground.phase }, { on := 10, ground := Ground.phase }, { on := 11, ground := Ground.phase }, { on := 12, ground := Ground.phase }, { on := 13, ground := Ground.phase }, { on := 14, ground := Ground.phase }, { on := 15, ground := Ground.phase }, { on := 16, ground := Ground.textOnly Departure.lateStores }, { on := 17, ground := Ground.phase }], guard := none },
  { dst := some 15, op := Op.assign (Operand.tmp 98), type := 38, pos := "outright.go:67", after := #[{ on := 16, ground := Ground.data }, { on := 18, ground := Ground.chain }, { on := 0, ground := Ground.phase }, { on := 1, ground := Ground.phase }, { on := 2, ground := Ground.phase }, { on := 3, ground := Ground.phase }, { on := 4, ground := Ground.phase }, { on := 5, ground := Ground.phase }, { on := 6, ground := Ground.phase }, { on := 7, ground := Ground.phase }, { on := 8, ground := Ground.phase }, { on := 9, ground := Ground.phase }, { on := 10, ground := Ground.phase }, { on := 11, ground := Ground.phase }, { on := 12, ground := Ground.phase }, { on := 13, ground := Ground.phase }, { on := 14, ground := Ground.phase }, { on := 15, ground := Ground.phase }, { on := 16, ground := Ground.phase }, { on := 17, ground := Ground.phase }, { on := 18, ground := Ground.phase }], guard := none }]
def specC9 (b5 : Nat) (kg ng vg cg : Int) (Ag : Option Addr) (gn capg tn mn : Nat) (vl : Fo) (ml : List (Int × Int)) (kx nx vx cx : Int) (xn : Nat) (kidsx : Fo) (sp : Int) (lo : Nat) (i : Nat) (v : Value) (w : World) : Prop :=
  match i with
  | 0 => v = .agg #[.int .u8 kg, .int .i64 ng, .int .i64 vg, .int .u8 cg, .slice Ag gn capg]
  | 1 => v = .func (.func 39) #[] #[.pointer (some ⟨b5 + 1, 0, none⟩), .pointer (some ⟨b5 + 1 + 1, 0, none⟩)]
  | 2 => v = .int .i64 sp
  | 3 => ∃ A c A' c', v = .tuple #[.slice A tn c, .slice A' mn c'] ∧ KidsAt w (Old w) A tn c vl ∧ RMu w A' mn ml
  | 4 => ∃ A c, v = .slice A tn c ∧ KidsAt w (Old w) A tn c vl
  | 5 => ∃ A c, v = .slice A mn c ∧ RMu w A mn ml
  | 6 => ∃ A c, v = .slice A tn c ∧ KidsAt w (Old w) A tn c vl
  | 7 => v = .func (.func 39) #[] #[.pointer (some ⟨b5 + 1, 0, none⟩), .pointer (some ⟨b5 + 1 + 1, 0, none⟩)]
  | 8 => v = .int .i64 sp
  | 9 => ∃ A c A' c', v = .tuple #[.slice A tn c, .slice A' mn c'] ∧ KidsAt w (Old w) A tn c vl ∧ RMu w A' mn ml
  | 10 => ∃ A c, v = .slice A tn c ∧ KidsAt w (Old w) A tn c vl
  | 11 => ∃ A c, v = .slice A mn c ∧ RMu w A mn ml
  | 12 => ∃ A c, v = .slice A mn c ∧ RMu w A mn ml
  | 13 => ∃ A c, v = .tuple #[.agg #[.int .u8 kx, .int .i64 nx, .int .i64 vx, .int .u8 cx, .slice A xn c], .int .i64 0] ∧ KidsAt w (Old w) A xn c kidsx
  | 14 => ∃ A c, v = .tuple #[.agg #[.int .u8 kx, .int .i64 nx, .int .i64 vx, .int .u8 cx, .slice A xn c], .int .i64 0] ∧ KidsAt w (Old w) A xn c kidsx
  | 15 => ∃ A c, v = .agg #[.int .u8 kx, .int .i64 nx, .int .i64 vx, .int .u8 cx, .slice A xn c] ∧ KidsAt w (Old w) A xn c kidsx
  | 16 => v = .int .i64 0
  | 17 => ∃ b, v = .pointer (some ⟨b, 0, none⟩) ∧ lo ≤ b ∧ w.heap[b]? = some (.cells #[.int .u8 0, .int .i64 0, .int .i64 0, .int .u8 0, .slice none 0 0] 27 (0, 0))
  | _ => True
theorem specC9_mono {b5 : Nat} {kg ng vg cg : Int} {Ag : Option Addr} {gn capg tn mn : Nat} {vl : Fo} {ml : List (Int × Int)} {kx nx vx cx : Int} {xn : Nat} {kidsx : Fo} {sp : Int} {lo : Nat} (i : Nat) (v : Value) (w w' : World) (hi : i < 18) (h : specC9 b5 kg ng vg cg Ag gn capg tn mn vl ml kx nx vx cx xn kidsx sp lo i v w) (hb : Bel w w') : specC9 b5 kg ng vg cg Ag gn capg tn mn vl ml kx nx vx cx xn kidsx sp lo i v w' := by
  match i, hi, h with
  | 0, _, h => exact h
  | 1, _, h => exact h
  | 2, _, h => exact h
  | 3, _, h => obtain ⟨A, c, A2, c2, e, hk, hu⟩ := h; exact ⟨A, c, A2, c2, e, hk.bel hb, hu.bel hb⟩
  | 4, _, h => obtain ⟨A, c, e, hk⟩ := h; exact ⟨A, c, e, hk.bel hb⟩
  | 5, _, h => obtain ⟨A, c, e, hk⟩ := h; exact ⟨A, c, e, hk.bel hb⟩
  | 6, _, h => obtain ⟨A, c, e, hk⟩ := h; exact ⟨A, c, e, hk.bel hb⟩
  | 7, _, h => exact h
  | 8, _, h => exact h
  | 9, _, h => obtain ⟨A, c, A2, c2, e, hk, hu⟩ := h; exact ⟨A, c, A2, c2, e, hk.bel hb, hu.bel hb⟩
  | 10, _, h => obtain ⟨A, c, e, hk⟩ := h; exact ⟨A, c, e, hk.bel hb⟩
  | 11, _, h => obtain ⟨A, c, e, hk⟩ := h; exact ⟨A, c, e, hk.bel hb⟩
  | 12, _, h => obtain ⟨A, c, e, hk⟩ := h; exact ⟨A, c, e, hk.bel hb⟩
  | 13, _, h => obtain ⟨A, c, e, hk⟩ := h; exact ⟨A, c, e, hk.bel hb⟩
  | 14, _, h => obtain ⟨A, c, e, hk⟩ := h; exact ⟨A, c, e, hk.bel hb⟩
  | 15, _, h => obtain ⟨A, c, e, hk⟩ := h; exact ⟨A, c, e, hk.bel hb⟩
  | 16, _, h => exact h
  | 17, _, h => obtain ⟨b, e, hl, hk⟩ := h; exact ⟨b, e, hl, hb.blk hk⟩
  | q + 18, hi, _ => exact absurd hi (by omega)
def acOC9 (b5 : Nat) (kg ng vg cg : Int) (Ag : Option Addr) (gn capg tn mn : Nat) (vl : Fo) (ml : List (Int × Int)) (kx nx vx cx : Int) (xn : Nat) (kidsx : Fo) (sp : Int) (lo : Nat) (s0 s2 s3 s4 s6 s7 s8 s9 s10 s12 s13 s14 s15 s16 s17 s18 s19 s20 s21 s22 s23 s24 s25 s26 s27 s28 s29 s30 s31 s32 s33 s34 s35 s36 s37 s38 s39 s40 s41 s42 s43 s44 s45 s46 s47 s48 s49 s50 s51 s52 s53 s54 s55 s56 s57 s58 s59 s60 s61 s62 s63 s64 s65 s66 s67 s68 s69 s70 s71 s72 s73 s74 s75 s76 s77 s78 s79 s80 s81 s82 s83 s84 s85 s86 s87 s88 s89 s90 s91 s92 s93 s94 s95 s96 s97 s98 s99 s100 s101 s102 s103 s104 s105 s106 s107 s108 s109 s110 s111 s112 s113 s114 s115 s116 s117 s118 s119 s120 s121 s122 s123 : Value) (df : List Deferred) : Act := { tmps := #[s0, .int .i64 sp, s2, s3, s4, .pointer (some ⟨b5, 0, none⟩), s6, s7, s8, s9, s10, .func (.func 39) #[] #[.pointer (some ⟨b5 + 1, 0, none⟩), .pointer (some ⟨b5 + 1 + 1, 0, none⟩)], s12, s13, s14, s15, s16, s17, s18, s19, s20, s21, s22, s23, s24, s25, s26, s27, s28, s29, s30, s31, s32, s33, s34, s35, s36, s37, s38, s39, s40, s41, s42, s43, s44, s45, s46, s47, s48, s49, s50, s51, s52, s53, s54, s55, s56, s57, s58, s59, s60, s61, s62, s63, s64, s65, s66, s67, s68, s69, s70, s71, s72, s73, s74, s75, s76, s77, s78, s79, s80, s81, s82, s83, s84, s85, s86, s87, s88, s89, s90, s91, s92, s93, s94, s95, s96, s97, s98, s99, s100, s101, s102, s103, s104, s105, s106, s107, s108, s109, s110, s111, s112, s113, s114, s115, s116, s117, s118, s119, s120, s121, s122, s123], defers := df }
def acVC9 (b5 : Nat) (kg ng vg cg : Int) (Ag : Option Addr) (gn capg tn mn : Nat) (vl : Fo) (ml : List (Int × Int)) (kx nx vx cx : Int) (xn : Nat) (kidsx : Fo) (sp : Int) (lo : Nat) (s0 s2 s3 s4 s6 s7 s8 s9 s10 s12 s13 s14 s15 s16 s17 s18 s19 s20 s21 s22 s23 s24 s25 s26 s27 s28 s29 s30 s31 s32 s33 s34 s35 s36 s37 s38 s39 s40 s41 s42 s43 s44 s45 s46 s47 s48 s49 s50 s51 s52 s53 s54 s55 s56 s57 s58 s59 s60 s61 s62 s63 s64 s65 s66 s67 s68 s69 s70 s71 s72 s73 s74 s75 s76 s77 s78 s79 s80 s81 s82 s83 s84 s85 s86 s87 s88 s89 s90 s91 s92 s93 s94 s95 s96 s97 s98 s99 s100 s101 s102 s103 s104 s105 s106 s107 s108 s109 s110 s111 s112 s113 s114 s115 s116 s117 s118 s119 s120 s121 s122 s123 : Value) (df : List Deferred) (V : Nat → Value) : Act := { tmps := #[s0, .int .i64 sp, s2, s3, s4, .pointer (some ⟨b5, 0, none⟩), s6, s7, s8, s9, s10, .func (.func 39) #[] #[.pointer (some ⟨b5 + 1, 0, none⟩), .pointer (some ⟨b5 + 1 + 1, 0, none⟩)], s12, s13, V 17, s15, s16, s17, s18, s19, s20, s21, s22, s23, s24, s25, s26, s27, s28, s29, s30, s31, s32, s33, s34, s35, s36, s37, s38, s39, s40, s41, s42, s43, s44, s45, s46, s47, s48, s49, s50, s51, s52, s53, s54, s55, s56, s57, s58, s59, s60, s61, s62, s63, s64, s65, s66, s67, s68, s69, s70, s71, s72, s73, s74, s75, s76, s77, s78, s79, s80, s81, V 14, V 0, V 1, V 2, V 3, V 4, V 5, V 6, V 7, V 8, V 9, V 10, V 11, V 12, V 13, V 15, V 16, s99, s100, s101, s102, s103, s104, s105, s106, s107, s108, s109, s110, s111, s112, s113, s114, s115, s116, s117, s118, s119, s120, s121, s122, s123], defers := df }
theorem regC9_tail : tailB .any regC9.toArray 19 = true := by kernel_rfl
theorem regC9_fwd : fwdB regC9.toArray 19 = true := by kernel_rfl
theorem regC9_slots : slotsB regC9.toArray 124 = true := by kernel_rfl
theorem regC9_seq : Region.seqB .any regC9.toArray (regC9.length - 19) 19 (Array.replicate 19 true ++ Array.replicate (regC9.length - 19) false) = true := by kernel_rfl
set_option maxRecDepth 100000 in
set_option maxHeartbeats 8000000 in
theorem regC9_any {id : Nat} (b5 : Nat) (kg ng vg cg : Int) (Ag : Option Addr) (gn capg tn mn : Nat) (vl : Fo) (ml : List (Int × Int)) (kx nx vx cx : Int) (xn : Nat) (kidsx : Fo) (sp : Int) (lo : Nat) (s0 s2 s3 s4 s6 s7 s8 s9 s10 s12 s13 s14 s15 s16 s17 s18 s19 s20 s21 s22 s23 s24 s25 s26 s27 s28 s29 s30 s31 s32 s33 s34 s35 s36 s37 s38 s39 s40 s41 s42 s43 s44 s45 s46 s47 s48 s49 s50 s51 s52 s53 s54 s55 s56 s57 s58 s59 s60 s61 s62 s63 s64 s65 s66 s67 s68 s69 s70 s71 s72 s73 s74 s75 s76 s77 s78 s79 s80 s81 s82 s83 s84 s85 s86 s87 s88 s89 s90 s91 s92 s93 s94 s95 s96 s97 s98 s99 s100 s101 s102 s103 s104 s105 s106 s107 s108 s109 s110 s111 s112 s113 s114 s115 s116 s117 s118 s119 s120 s121 s122 s123 : Value) (df : List Deferred) (w : World) (hlo : lo = w.drew.heap.size) (hwx : kidsx.well = true) (hc : w.drew.heap[b5]? = some (.cells #[.int .u8 kg, .int .i64 ng, .int .i64 vg, .int .u8 cg, .slice Ag gn capg] 27 (0, 0))) (HBK : ∀ W, Bel w.drew W → Calls Tryd.prog 39 #[.int .i64 sp, .pointer (some ⟨b5 + 1, 0, none⟩), .pointer (some ⟨b5 + 1 + 1, 0, none⟩)] W (BackQ tn mn vl ml W)) (HPT : ∀ W A c A' c', Bel w.drew W → KidsAt W (Old W) A tn c vl → RMu W A' mn ml → Calls Tryd.prog 24 #[.agg #[.int .u8 kg, .int .i64 ng, .int .i64 vg, .int .u8 cg, .slice Ag gn capg], .slice A tn c, .slice A' mn c'] W (PutQ kx nx vx cx xn kidsx W)) (Q : Exit → Act → World → Prop)
    (hend : ∀ (V : Nat → Value) (w' : World) (b : Nat) (A : Option Addr) (c : Nat), Bel w.drew w' → V 17 = .pointer (some ⟨b, 0, none⟩) → lo ≤ b → b < w'.heap.size → w'.rangeAt b 0 #[.int .u8 kx, .int .i64 nx, .int .i64 vx, .int .u8 cx, .slice A xn c].toList → KidsAt w' (Old w') A xn c kidsx → V 16 = .int .i64 0 → wpList Tryd.prog regC9.toArray Q (regC9.drop 19) (acVC9 b5 kg ng vg cg Ag gn capg tn mn vl ml kx nx vx cx xn kidsx sp lo s0 s2 s3 s4 s6 s7 s8 s9 s10 s12 s13 s14 s15 s16 s17 s18 s19 s20 s21 s22 s23 s24 s25 s26 s27 s28 s29 s30 s31 s32 s33 s34 s35 s36 s37 s38 s39 s40 s41 s42 s43 s44 s45 s46 s47 s48 s49 s50 s51 s52 s53 s54 s55 s56 s57 s58 s59 s60 s61 s62 s63 s64 s65 s66 s67 s68 s69 s70 s71 s72 s73 s74 s75 s76 s77 s78 s79 s80 s81 s82 s83 s84 s85 s86 s87 s88 s89 s90 s91 s92 s93 s94 s95 s96 s97 s98 s99 s100 s101 s102 s103 s104 s105 s106 s107 s108 s109 s110 s111 s112 s113 s114 s115 s116 s117 s118 s119 s120 s121 s122 s123 df V) w') :
    (Code.region id regC9.toArray true).wp Tryd.prog Q (acOC9 b5 kg ng vg cg Ag gn capg tn mn vl ml kx nx vx cx xn kidsx sp lo s0 s2 s3 s4 s6 s7 s8 s9 s10 s12 s13 s14 s15 s16 s17 s18 s19 s20 s21 s22 s23 s24 s25 s26 s27 s28 s29 s30 s31 s32 s33 s34 s35 s36 s37 s38 s39 s40 s41 s42 s43 s44 s45 s46 s47 s48 s49 s50 s51 s52 s53 s54 s55 s56 s57 s58 s59 s60 s61 s62 s63 s64 s65 s66 s67 s68 s69 s70 s71 s72 s73 s74 s75 s76 s77 s78 s79 s80 s81 s82 s83 s84 s85 s86 s87 s88 s89 s90 s91 s92 s93 s94 s95 s96 s97 s98 s99 s100 s101 s102 s103 s104 s105 s106 s107 s108 s109 s110 s111 s112 s113 s114 s115 s116 s117 s118 s119 s120 s121 s122 s123 df) w := by
  refine wp_region_invS (l := regC9) 18 16 (acOC9 b5 kg ng vg cg Ag gn capg tn mn vl ml kx nx vx cx xn kidsx sp lo s0 s2 s3 s4 s6 s7 s8 s9 s10 s12 s13 s14 s15 s16 s17 s18 s19 s20 s21 s22 s23 s24 s25 s26 s27 s28 s29 s30 s31 s32 s33 s34 s35 s36 s37 s38 s39 s40 s41 s42 s43 s44 s45 s46 s47 s48 s49 s50 s51 s52 s53 s54 s55 s56 s57 s58 s59 s60 s61 s62 s63 s64 s65 s66 s67 s68 s69 s70 s71 s72 s73 s74 s75 s76 s77 s78 s79 s80 s81 s82 s83 s84 s85 s86 s87 s88 s89 s90 s91 s92 s93 s94 s95 s96 s97 s98 s99 s100 s101 s102 s103 s104 s105 s106 s107 s108 s109 s110 s111 s112 s113 s114 s115 s116 s117 s118 s119 s120 s121 s122 s123 df) w (specC9 b5 kg ng vg cg Ag gn capg tn mn vl ml kx nx vx cx xn kidsx sp lo) (fun V w' => ∃ b A c, V 17 = .pointer (some ⟨b, 0, none⟩) ∧ lo ≤ b ∧ b < w'.heap.size ∧ Bel w.drew w' ∧ w'.rangeAt b 0 #[.int .u8 kx, .int .i64 nx, .int .i64 vx, .int .u8 cx, .slice A xn c].toList ∧ KidsAt w' (Old w') A xn c kidsx ∧ ∃ A c, V 14 = .tuple #[.agg #[.int .u8 kx, .int .i64 nx, .int .i64 vx, .int .u8 cx, .slice A xn c], .int .i64 0]) (fun v => v = .int .i64 0) (by kernel_rfl) regC9_tail regC9_fwd regC9_slots regC9_seq (by kernel_rfl) (by decide) (fun i v w w' hi h hb => specC9_mono i v w w' hi h hb) ?_ ?_ ?_ ?_ (fun v w h => h) ?_
  · intro i' o hi' ho a w1 V hbel hdep hpar K hK
    have p5 : a.eval (.tmp 5) = .pointer (some ⟨b5, 0, none⟩) := hpar 5 (by show 5 < 124; decide) (by kernel_rfl)
    have p5' : a.tmps[5]?.getD undef = .pointer (some ⟨b5, 0, none⟩) := by have h := p5; simp only [Act.eval, Array.getD_eq_getD_getElem?] at h; exact h
    have p11 : a.eval (.tmp 11) = .func (.func 39) #[] #[.pointer (some ⟨b5 + 1, 0, none⟩), .pointer (some ⟨b5 + 1 + 1, 0, none⟩)] := hpar 11 (by show 11 < 124; decide) (by kernel_rfl)
    have p11' : a.tmps[11]?.getD undef = .func (.func 39) #[] #[.pointer (some ⟨b5 + 1, 0, none⟩), .pointer (some ⟨b5 + 1 + 1, 0, none⟩)] := by have h := p11; simp only [Act.eval, Array.getD_eq_getD_getElem?] at h; exact h
    have p1 : a.eval (.tmp 1) = .int .i64 sp := hpar 1 (by show 1 < 124; decide) (by kernel_rfl)
    have p1' : a.tmps[1]?.getD undef = .int .i64 sp := by have h := p1; simp only [Act.eval, Array.getD_eq_getD_getElem?] at h; exact h
    obtain ⟨⟨m0, m1, m2, m3, m4⟩, _⟩ := cells5 (hbel.blk hc)
    match i', hi', ho, hdep, hK with
    | 0, _, ho, hdep, hK =>
      simp only [regC9, List.getElem?_toArray, List.getElem?_cons_zero, Option.some.injEq] at ho
      subst ho
      refine ⟨fun _ => ?_, fun hw => (yw_n rfl hw).elim⟩
      exact wp_val (v := .agg #[.int .u8 kg, .int .i64 ng, .int .i64 vg, .int .u8 cg, .slice Ag gn capg]) (w' := w1) (by simp [execOp, go_sem, p5', m0, m1, m2, m3, m4]) (hK _ _ (Bel.refl _) rfl)
    | 1, _, ho, hdep, hK =>
      simp only [regC9, List.getElem?_toArray, List.getElem?_cons_zero, List.getElem?_cons_succ, Option.some.injEq] at ho
      subst ho
      refine ⟨fun _ => ?_, fun hw => (yw_n rfl hw).elim⟩
      exact wp_val (v := .func (.func 39) #[] #[.pointer (some ⟨b5 + 1, 0, none⟩), .pointer (some ⟨b5 + 1 + 1, 0, none⟩)]) (w' := w1) (by simp [execOp, go_sem, p11']) (hK _ _ (Bel.refl _) rfl)
    | 2, _, ho, hdep, hK =>
      simp only [regC9, List.getElem?_toArray, List.getElem?_cons_zero, List.getElem?_cons_succ, Option.some.injEq] at ho
      subst ho
      refine ⟨fun _ => ?_, fun hw => (yw_n rfl hw).elim⟩
      exact wp_val (v := .int .i64 sp) (w' := w1) (by simp [execOp, go_sem, p1']) (hK _ _ (Bel.refl _) rfl)
    | 3, _, ho, hdep, hK =>
      simp only [regC9, List.getElem?_toArray, List.getElem?_cons_zero, List.getElem?_cons_succ, Option.some.injEq] at ho
      subst ho
      refine ⟨fun _ => ?_, fun hw => (yw_n rfl hw).elim⟩
      obtain ⟨f1, d1⟩ := hdep ⟨1, .data⟩ (by simp) rfl
      have e1 : a.eval (.tmp 84) = .func (.func 39) #[] #[.pointer (some ⟨b5 + 1, 0, none⟩), .pointer (some ⟨b5 + 1 + 1, 0, none⟩)] := (d1 84 rfl).trans f1
      have e1' : a.tmps[84]?.getD undef = .func (.func 39) #[] #[.pointer (some ⟨b5 + 1, 0, none⟩), .pointer (some ⟨b5 + 1 + 1, 0, none⟩)] := by have h := e1; simp only [Act.eval, Array.getD_eq_getD_getElem?] at h; exact h
      obtain ⟨f2, d2⟩ := hdep ⟨2, .data⟩ (by simp) rfl
      have e2 : a.eval (.tmp 85) = .int .i64 sp := (d2 85 rfl).trans f2
      have e2' : a.tmps[85]?.getD undef = .int .i64 sp := by have h := e2; simp only [Act.eval, Array.getD_eq_getD_getElem?] at h; exact h
      refine wp_enter (f := 39) (args := #[.int .i64 sp, .pointer (some ⟨b5 + 1, 0, none⟩), .pointer (some ⟨b5 + 1 + 1, 0, none⟩)]) (by simp [execOp, go_sem, e1', e2']) ((HBK w1 hbel).mono ?_)
      rintro e w' ⟨A, c, A', c', rfl, hk, hu, hb⟩
      exact ⟨_, rfl, hK _ _ hb ⟨A, c, A', c', rfl, hk, hu⟩⟩
    | 4, _, ho, hdep, hK =>
      simp only [regC9, List.getElem?_toArray, List.getElem?_cons_zero, List.getElem?_cons_succ, Option.some.injEq] at ho
      subst ho
      refine ⟨fun _ => ?_, fun hw => (yw_n rfl hw).elim⟩
      obtain ⟨f3, d3⟩ := hdep ⟨3, .data⟩ (by simp) rfl
      obtain ⟨A3, c3, U3, q3, hv3, hk3, hu3⟩ := f3
      have e3 : a.eval (.tmp 86) = .tuple #[.slice A3 tn c3, .slice U3 mn q3] := (d3 86 rfl).trans hv3
      have e3' : a.tmps[86]?.getD undef = .tuple #[.slice A3 tn c3, .slice U3 mn q3] := by have h := e3; simp only [Act.eval, Array.getD_eq_getD_getElem?] at h; exact h
      exact wp_val (v := .slice A3 tn c3) (w' := w1) (by simp [execOp, go_sem, e3']) (hK _ _ (Bel.refl _) ⟨A3, c3, rfl, hk3⟩)
    | 5, _, ho, hdep, hK =>
      simp only [regC9, List.getElem?_toArray, List.getElem?_cons_zero, List.getElem?_cons_succ, Option.some.injEq] at ho
      subst ho
      refine ⟨fun _ => ?_, fun hw => (yw_n rfl hw).elim⟩
      obtain ⟨f3, d3⟩ := hdep ⟨3, .data⟩ (by simp) rfl
      obtain ⟨A3, c3, U3, q3, hv3, hk3, hu3⟩ := f3
      have e3 : a.eval (.tmp 86) = .tuple #[.slice A3 tn c3, .slice U3 mn q3] := (d3 86 rfl).trans hv3
      have e3' : a.tmps[86]?.getD undef = .tuple #[.slice A3 tn c3, .slice U3 mn q3] := by have h := e3; simp only [Act.eval, Array.getD_eq_getD_getElem?] at h; exact h
      exact wp_val (v := .slice U3 mn q3) (w' := w1) (by simp [execOp, go_sem, e3']) (hK _ _ (Bel.refl _) ⟨U3, q3, rfl, hu3⟩)
    | 6, _, ho, hdep, hK =>
      simp only [regC9, List.getElem?_toArray, List.getElem?_cons_zero, List.getElem?_cons_succ, Option.some.injEq] at ho
      subst ho
      refine ⟨fun _ => ?_, fun hw => (yw_n rfl hw).elim⟩
      obtain ⟨f4, d4⟩ := hdep ⟨4, .data⟩ (by simp) rfl
      obtain ⟨A4, c4, hv4, hk4⟩ := f4
      have e4 : a.eval (.tmp 87) = .slice A4 tn c4 := (d4 87 rfl).trans hv4
      have e4' : a.tmps[87]?.getD undef = .slice A4 tn c4 := by have h := e4; simp only [Act.eval, Array.getD_eq_getD_getElem?] at h; exact h
      obtain ⟨f5, d5⟩ := hdep ⟨5, .data⟩ (by simp) rfl
      obtain ⟨U5, q5, hv5, hu5⟩ := f5
      have e5 : a.eval (.tmp 88) = .slice U5 mn q5 := (d5 88 rfl).trans hv5
      have e5' : a.tmps[88]?.getD undef = .slice U5 mn q5 := by have h := e5; simp only [Act.eval, Array.getD_eq_getD_getElem?] at h; exact h
      refine wp_enter (f := 40) (args := #[.slice A4 tn c4, .slice U5 mn q5]) (by simp [go_sem, e4', e5']) ((first_any _ _ _ _ _ _ w1).mono ?_)
      rintro e w' ⟨rfl, hb⟩
      exact ⟨_, rfl, hK _ _ hb ⟨A4, c4, rfl, hk4.bel hb⟩⟩
    | 7, _, ho, hdep, hK =>
      simp only [regC9, List.getElem?_toArray, List.getElem?_cons_zero, List.getElem?_cons_succ, Option.some.injEq] at ho
      subst ho
      refine ⟨fun _ => ?_, fun hw => (yw_n rfl hw).elim⟩
      exact wp_val (v := .func (.func 39) #[] #[.pointer (some ⟨b5 + 1, 0, none⟩), .pointer (some ⟨b5 + 1 + 1, 0, none⟩)]) (w' := w1) (by simp [execOp, go_sem, p11']) (hK _ _ (Bel.refl _) rfl)
    | 8, _, ho, hdep, hK =>
      simp only [regC9, List.getElem?_toArray, List.getElem?_cons_zero, List.getElem?_cons_succ, Option.some.injEq] at ho
      subst ho
      refine ⟨fun _ => ?_, fun hw => (yw_n rfl hw).elim⟩
      exact wp_val (v := .int .i64 sp) (w' := w1) (by simp [execOp, go_sem, p1']) (hK _ _ (Bel.refl _) rfl)
    | 9, _, ho, hdep, hK =>
      simp only [regC9, List.getElem?_toArray, List.getElem?_cons_zero, List.getElem?_cons_succ, Option.some.injEq] at ho
      subst ho
      refine ⟨fun _ => ?_, fun hw => (yw_n rfl hw).elim⟩
      obtain ⟨f7, d7⟩ := hdep ⟨7, .data⟩ (by simp) rfl
      have e7 : a.eval (.tmp 90) = .func (.func 39) #[] #[.pointer (some ⟨b5 + 1, 0, none⟩), .pointer (some ⟨b5 + 1 + 1, 0, none⟩)] := (d7 90 rfl).trans f7
      have e7' : a.tmps[90]?.getD undef = .func (.func 39) #[] #[.pointer (some ⟨b5 + 1, 0, none⟩), .pointer (some ⟨b5 + 1 + 1, 0, none⟩)] := by have h := e7; simp only [Act.eval, Array.getD_eq_getD_getElem?] at h; exact h
      obtain ⟨f8, d8⟩ := hdep ⟨8, .data⟩ (by simp) rfl
      have e8 : a.eval (.tmp 91) = .int .i64 sp := (d8 91 rfl).trans f8
      have e8' : a.tmps[91]?.getD undef = .int .i64 sp := by have h := e8; simp only [Act.eval, Array.getD_eq_getD_getElem?] at h; exact h
      refine wp_enter (f := 39) (args := #[.int .i64 sp, .pointer (some ⟨b5 + 1, 0, none⟩), .pointer (some ⟨b5 + 1 + 1, 0, none⟩)]) (by simp [execOp, go_sem, e7', e8']) ((HBK w1 hbel).mono ?_)
      rintro e w' ⟨A, c, A', c', rfl, hk, hu, hb⟩
      exact ⟨_, rfl, hK _ _ hb ⟨A, c, A', c', rfl, hk, hu⟩⟩
    | 10, _, ho, hdep, hK =>
      simp only [regC9, List.getElem?_toArray, List.getElem?_cons_zero, List.getElem?_cons_succ, Option.some.injEq] at ho
      subst ho
      refine ⟨fun _ => ?_, fun hw => (yw_n rfl hw).elim⟩
      obtain ⟨f9, d9⟩ := hdep ⟨9, .data⟩ (by simp) rfl
      obtain ⟨A9, c9, U9, q9, hv9, hk9, hu9⟩ := f9
      have e9 : a.eval (.tmp 92) = .tuple #[.slice A9 tn c9, .slice U9 mn q9] := (d9 92 rfl).trans hv9
      have e9' : a.tmps[92]?.getD undef = .tuple #[.slice A9 tn c9, .slice U9 mn q9] := by have h := e9; simp only [Act.eval, Array.getD_eq_getD_getElem?] at h; exact h
      exact wp_val (v := .slice A9 tn c9) (w' := w1) (by simp [execOp, go_sem, e9']) (hK _ _ (Bel.refl _) ⟨A9, c9, rfl, hk9⟩)
    | 11, _, ho, hdep, hK =>
      simp only [regC9, List.getElem?_toArray, List.getElem?_cons_zero, List.getElem?_cons_succ, Option.some.injEq] at ho
      subst ho
      refine ⟨fun _ => ?_, fun hw => (yw_n rfl hw).elim⟩
      obtain ⟨f9, d9⟩ := hdep ⟨9, .data⟩ (by simp) rfl
      obtain ⟨A9, c9, U9, q9, hv9, hk9, hu9⟩ := f9
      have e9 : a.eval (.tmp 92) = .tuple #[.slice A9 tn c9, .slice U9 mn q9] := (d9 92 rfl).trans hv9
      have e9' : a.tmps[92]?.getD undef = .tuple #[.slice A9 tn c9, .slice U9 mn q9] := by have h := e9; simp only [Act.eval, Array.getD_eq_getD_getElem?] at h; exact h
      exact wp_val (v := .slice U9 mn q9) (w' := w1) (by simp [execOp, go_sem, e9']) (hK _ _ (Bel.refl _) ⟨U9, q9, rfl, hu9⟩)
    | 12, _, ho, hdep, hK =>
      simp only [regC9, List.getElem?_toArray, List.getElem?_cons_zero, List.getElem?_cons_succ, Option.some.injEq] at ho
      subst ho
      refine ⟨fun _ => ?_, fun hw => (yw_n rfl hw).elim⟩
      obtain ⟨f10, d10⟩ := hdep ⟨10, .data⟩ (by simp) rfl
      obtain ⟨A10, c10, hv10, hk10⟩ := f10
      have e10 : a.eval (.tmp 93) = .slice A10 tn c10 := (d10 93 rfl).trans hv10
      have e10' : a.tmps[93]?.getD undef = .slice A10 tn c10 := by have h := e10; simp only [Act.eval, Array.getD_eq_getD_getElem?] at h; exact h
      obtain ⟨f11, d11⟩ := hdep ⟨11, .data⟩ (by simp) rfl
      obtain ⟨U11, q11, hv11, hu11⟩ := f11
      have e11 : a.eval (.tmp 94) = .slice U11 mn q11 := (d11 94 rfl).trans hv11
      have e11' : a.tmps[94]?.getD undef = .slice U11 mn q11 := by have h := e11; simp only [Act.eval, Array.getD_eq_getD_getElem?] at h; exact h
      refine wp_enter (f := 41) (args := #[.slice A10 tn c10, .slice U11 mn q11]) (by simp [go_sem, e10', e11']) ((second_any _ _ _ _ _ _ w1).mono ?_)
      rintro e w' ⟨rfl, hb⟩
      exact ⟨_, rfl, hK _ _ hb ⟨U11, q11, rfl, hu11.bel hb⟩⟩
    | 13, _, ho, hdep, hK =>
      simp only [regC9, List.getElem?_toArray, List.getElem?_cons_zero, List.getElem?_cons_succ, Option.some.injEq] at ho
      subst ho
      refine ⟨fun _ => ?_, fun hw => (yw_n rfl hw).elim⟩
      obtain ⟨f0, d0⟩ := hdep ⟨0, .data⟩ (by simp) rfl
      have e0 : a.eval (.tmp 83) = .agg #[.int .u8 kg, .int .i64 ng, .int .i64 vg, .int .u8 cg, .slice Ag gn capg] := (d0 83 rfl).trans f0
      have e0' : a.tmps[83]?.getD undef = .agg #[.int .u8 kg, .int .i64 ng, .int .i64 vg, .int .u8 cg, .slice Ag gn capg] := by have h := e0; simp only [Act.eval, Array.getD_eq_getD_getElem?] at h; exact h
      obtain ⟨f6, d6⟩ := hdep ⟨6, .data⟩ (by simp) rfl
      obtain ⟨A6, c6, hv6, hk6⟩ := f6
      have e6 : a.eval (.tmp 89) = .slice A6 tn c6 := (d6 89 rfl).trans hv6
      have e6' : a.tmps[89]?.getD undef = .slice A6 tn c6 := by have h := e6; simp only [Act.eval, Array.getD_eq_getD_getElem?] at h; exact h
      obtain ⟨f12, d12⟩ := hdep ⟨12, .data⟩ (by simp) rfl
      obtain ⟨U12, q12, hv12, hu12⟩ := f12
      have e12 : a.eval (.tmp 95) = .slice U12 mn q12 := (d12 95 rfl).trans hv12
      have e12' : a.tmps[95]?.getD undef = .slice U12 mn q12 := by have h := e12; simp only [Act.eval, Array.getD_eq_getD_getElem?] at h; exact h
      refine wp_enter (f := 24) (args := #[.agg #[.int .u8 kg, .int .i64 ng, .int .i64 vg, .int .u8 cg, .slice Ag gn capg], .slice A6 tn c6, .slice U12 mn q12]) (by simp [go_sem, e0', e6', e12']) ((HPT w1 _ _ _ _ hbel hk6 hu12).mono ?_)
      rintro e w' ⟨A, c, rfl, hk, hb⟩
      exact ⟨_, rfl, hK _ _ hb ⟨A, c, rfl, hk⟩⟩
    | 14, _, ho, hdep, hK =>
      simp only [regC9, List.getElem?_toArray, List.getElem?_cons_zero, List.getElem?_cons_succ, Option.some.injEq] at ho
      subst ho
      refine ⟨fun _ => ?_, fun hw => (yw_n rfl hw).elim⟩
      obtain ⟨f13, d13⟩ := hdep ⟨13, .data⟩ (by simp) rfl
      obtain ⟨A13, c13, hv13, hk13⟩ := f13
      have e13 : a.eval (.tmp 96) = .tuple #[.agg #[.int .u8 kx, .int .i64 nx, .int .i64 vx, .int .u8 cx, .slice A13 xn c13], .int .i64 0] := (d13 96 rfl).trans hv13
      have e13' : a.tmps[96]?.getD undef = .tuple #[.agg #[.int .u8 kx, .int .i64 nx, .int .i64 vx, .int .u8 cx, .slice A13 xn c13], .int .i64 0] := by have h := e13; simp only [Act.eval, Array.getD_eq_getD_getElem?] at h; exact h
      exact wp_val (v := .tuple #[.agg #[.int .u8 kx, .int .i64 nx, .int .i64 vx, .int .u8 cx, .slice A13 xn c13], .int .i64 0]) (w' := w1) (by simp [execOp, go_sem, e13']) (hK _ _ (Bel.refl _) ⟨A13, c13, rfl, hk13⟩)
    | 15, _, ho, hdep, hK =>
      simp only [regC9, List.getElem?_toArray, List.getElem?_cons_zero, List.getElem?_cons_succ, Option.some.injEq] at ho
      subst ho
      refine ⟨fun _ => ?_, fun hw => (yw_n rfl hw).elim⟩
      obtain ⟨f14, d14⟩ := hdep ⟨14, .data⟩ (by simp) rfl
      obtain ⟨A14, c14, hv14, hk14⟩ := f14
      have e14 : a.eval (.tmp 82) = .tuple #[.agg #[.int .u8 kx, .int .i64 nx, .int .i64 vx, .int .u8 cx, .slice A14 xn c14], .int .i64 0] := (d14 82 rfl).trans hv14
      have e14' : a.tmps[82]?.getD undef = .tuple #[.agg #[.int .u8 kx, .int .i64 nx, .int .i64 vx, .int .u8 cx, .slice A14 xn c14], .int .i64 0] := by have h := e14; simp only [Act.eval, Array.getD_eq_getD_getElem?] at h; exact h
      exact wp_val (v := .agg #[.int .u8 kx, .int .i64 nx, .int .i64 vx, .int .u8 cx, .slice A14 xn c14]) (w' := w1) (by simp [execOp, go_sem, e14']) (hK _ _ (Bel.refl _) ⟨A14, c14, rfl, hk14⟩)
    | 16, _, ho, hdep, hK =>
      simp only [regC9, List.getElem?_toArray, List.getElem?_cons_zero, List.getElem?_cons_succ, Option.some.injEq] at ho
      subst ho
      refine ⟨fun _ => ?_, fun hw => (yw_n rfl hw).elim⟩
      obtain ⟨f14, d14⟩ := hdep ⟨14, .data⟩ (by simp) rfl
      obtain ⟨A14, c14, hv14, hk14⟩ := f14
      have e14 : a.eval (.tmp 82) = .tuple #[.agg #[.int .u8 kx, .int .i64 nx, .int .i64 vx, .int .u8 cx, .slice A14 xn c14], .int .i64 0] := (d14 82 rfl).trans hv14
      have e14' : a.tmps[82]?.getD undef = .tuple #[.agg #[.int .u8 kx, .int .i64 nx, .int .i64 vx, .int .u8 cx, .slice A14 xn c14], .int .i64 0] := by have h := e14; simp only [Act.eval, Array.getD_eq_getD_getElem?] at h; exact h
      exact wp_val (v := .int .i64 0) (w' := w1) (by simp [execOp, go_sem, e14']) (hK _ _ (Bel.refl _) rfl)
    | 17, _, ho, hdep, hK =>
      simp only [regC9, List.getElem?_toArray, List.getElem?_cons_zero, List.getElem?_cons_succ, Option.some.injEq] at ho
      subst ho
      refine ⟨fun _ => ?_, fun hw => (yw_n rfl hw).elim⟩
      exact wp_val (v := .pointer (some ⟨w1.heap.size, 0, none⟩)) (w' := w1.alloc (.cells #[.int .u8 0, .int .i64 0, .int .i64 0, .int .u8 0, .slice none 0 0] 27)) (by simp [execOp, go_sem]) (hK _ _ ((Bel.refl w1).alloc _) ⟨_, rfl, hlo ▸ hbel.size, blk1 w1 _⟩)
    | q + 18, hi, _, _, _ => exact absurd hi (by omega)
  · intro o ho a w1 V hbel hd
    simp only [regC9, List.getElem?_toArray, List.getElem?_cons_zero, List.getElem?_cons_succ, Option.some.injEq] at ho
    subst ho
    refine ⟨wanted_none rfl, fun K hK => ?_⟩
    obtain ⟨⟨A, c, e1, hk⟩, d1⟩ := hd 15 (by decide) (by decide)
    obtain ⟨⟨b, e2, hl, hz⟩, d2⟩ := hd 17 (by decide) (by decide)
    obtain ⟨⟨A3, c3, e3, _⟩, _⟩ := hd 14 (by decide) (by decide)
    refine wp_store_mid 27 (.tmp 14) (.tmp 97) rfl b 0 #[.int .u8 kx, .int .i64 nx, .int .i64 vx, .int .u8 cx, .slice A xn c] ((d2 14 rfl).trans e2) ((d1 97 rfl).trans e1) (there_zero hz) (by kernel_rfl) (by simp [Value.oneCell']) (hK _ _ ?_)
    have hbs := (Array.getElem?_eq_some_iff.1 hz).1
    have hk' := hk.apart hwx hz
    refine ⟨b, A, c, e2, hl, by rw [setCells_size]; exact hbs, bel_setCells hbel (hlo ▸ hl), World.rangeAt_setCells_same _ _ _ _ (there_zero hz), ?_, A3, c3, e3⟩
    refine (hk'.keep fun j hj => World.heap_setCells_other _ _ _ _ hj.1 hj.2).wide fun j hj => ?_
    show j < _
    rw [setCells_size]
    exact hj.1
  · intro o ho a w1 V hz hd
    simp only [regC9, List.getElem?_toArray, List.getElem?_cons_zero, List.getElem?_cons_succ, Option.some.injEq] at ho
    subst ho
    refine ⟨wanted_none rfl, fun K hK => ?_⟩
    obtain ⟨b, A, c, _, _, _, _, _, _, A3, c3, e3⟩ := hz
    have e : a.eval (.tmp 82) = .tuple #[.agg #[.int .u8 kx, .int .i64 nx, .int .i64 vx, .int .u8 cx, .slice A3 xn c3], .int .i64 0] := (hd 14 (by decide) (by decide) 82 rfl).trans e3
    have e' : a.tmps[82]?.getD undef = .tuple #[.agg #[.int .u8 kx, .int .i64 nx, .int .i64 vx, .int .u8 cx, .slice A3 xn c3], .int .i64 0] := by have h := e; simp only [Act.eval, Array.getD_eq_getD_getElem?] at h; exact h
    exact wp_val (v := .int .i64 0) (w' := w1) (by simp [execOp, go_sem, e']) (hK _ rfl)
  · rintro V j v w1 hj ⟨b, A, c, e1, h1, h2, h3, h4, h5, A3, c3, e3⟩
    refine ⟨b, A, c, ?_, h1, h2, h3, h4, h5, A3, c3, ?_⟩
    · show (if 17 = j then v else V 17) = _
      rw [if_neg (by omega)]; exact e1
    · show (if 14 = j then v else V 14) = _
      rw [if_neg (by omega)]; exact e3
  · rintro V w1 ⟨b, A, c, e1, h1, h2, h3, h4, h5, _⟩ hl
    have e : finA regC9.toArray 19 V (acOC9 b5 kg ng vg cg Ag gn capg tn mn vl ml kx nx vx cx xn kidsx sp lo s0 s2 s3 s4 s6 s7 s8 s9 s10 s12 s13 s14 s15 s16 s17 s18 s19 s20 s21 s22 s23 s24 s25 s26 s27 s28 s29 s30 s31 s32 s33 s34 s35 s36 s37 s38 s39 s40 s41 s42 s43 s44 s45 s46 s47 s48 s49 s50 s51 s52 s53 s54 s55 s56 s57 s58 s59 s60 s61 s62 s63 s64 s65 s66 s67 s68 s69 s70 s71 s72 s73 s74 s75 s76 s77 s78 s79 s80 s81 s82 s83 s84 s85 s86 s87 s88 s89 s90 s91 s92 s93 s94 s95 s96 s97 s98 s99 s100 s101 s102 s103 s104 s105 s106 s107 s108 s109 s110 s111 s112 s113 s114 s115 s116 s117 s118 s119 s120 s121 s122 s123 df) = acVC9 b5 kg ng vg cg Ag gn capg tn mn vl ml kx nx vx cx xn kidsx sp lo s0 s2 s3 s4 s6 s7 s8 s9 s10 s12 s13 s14 s15 s16 s17 s18 s19 s20 s21 s22 s23 s24 s25 s26 s27 s28 s29 s30 s31 s32 s33 s34 s35 s36 s37 s38 s39 s40 s41 s42 s43 s44 s45 s46 s47 s48 s49 s50 s51 s52 s53 s54 s55 s56 s57 s58 s59 s60 s61 s62 s63 s64 s65 s66 s67 s68 s69 s70 s71 s72 s73 s74 s75 s76 s77 s78 s79 s80 s81 s82 s83 s84 s85 s86 s87 s88 s89 s90 s91 s92 s93 s94 s95 s96 s97 s98 s99 s100 s101 s102 s103 s104 s105 s106 s107 s108 s109 s110 s111 s112 s113 s114 s115 s116 s117 s118 s119 s120 s121 s122 s123 df V := by kernel_rfl
    rw [e]
    exact hend V w1 b A c h3 e1 h1 h2 h4 h5 hl
end Go.Proofs.YtomojelaookacaaDoor.Mu

