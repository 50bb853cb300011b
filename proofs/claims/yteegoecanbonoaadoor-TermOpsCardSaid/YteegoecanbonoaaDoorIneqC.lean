/-
  Layer 3's functions: what always holds; what must hold so that a term is below a bound.
-/
import Derived.Test.YteegoecanbonoaaDoorIneqB
import Derived.RegionTactic
import Derived.ChangeAlike
import Derived.Deep.RegionLaw
namespace Go.Proofs.YteegoecanbonoaaDoor.Mu
open Go.ChangeShapes Go.WideShapes Go.ChangeAt Go.RowKit

def alwaysB (v m c r : Int) : Bool := if lhB m then decide (c = 3) || (rhB r && (r == lvF v m)) else decide (lcF m ≤ c)
set_option maxRecDepth 100000 in
set_option maxHeartbeats 1000000 in
theorem always_any (v m c r : Int) (w : World) : Calls Tryd.prog 86 #[.agg #[.int .i64 v, .int .u8 m, .int .u8 c, .int .i64 r]] w fun e w' => e = .returned (.bool (alwaysB v m c r)) ∧ Bel w w' := by
  obtain ⟨lc, hlc⟩ : ∃ x, lcF m = x := ⟨_, rfl⟩
  obtain ⟨lh, hlh⟩ : ∃ x, lhB m = x := ⟨_, rfl⟩
  obtain ⟨lv, hlv⟩ : ∃ x, lvF v m = x := ⟨_, rfl⟩
  obtain ⟨rh, hrh⟩ : ∃ x, rhB r = x := ⟨_, rfl⟩
  have HS : Hid (∀ W, Calls Tryd.prog 58 #[.agg #[.int .i64 v, .int .u8 m, .int .u8 c, .int .i64 r]] W fun e w' => e = .returned (.agg #[.int .u8 lc, .bool lh, .int .i64 lv, .int .u8 c, .bool rh, .int .i64 r]) ∧ Bel W w') := Lib.hid fun W => by
    have h := sides_any v m c r W; rw [hlc, hlh, hlv, hrh] at h; exact h
  have E : Hid (alwaysB v m c r = if lh then decide (c = 3) || (rh && (r == lv)) else decide (lc ≤ c)) := Lib.hid (by unfold alwaysB; rw [hlc, hlh, hlv, hrh])
  clear hlc hlh hlv hrh
  go_enter Tryd.func86, Tryd.ntmps86
  go_wp2_with fail
  refine (HS.out _).mono ?_
  rintro e w1 ⟨rfl, hb1⟩
  have HB : Hid (Bel w w1) := Lib.hid (((Bel.refl w).alloc _).on hb1)
  clear hb1
  go_wp2_with fail
  go_region
  all_goals go_wp2
  all_goals
    go_ret
    exact ⟨ret_bool (by rw [E.out]; simp [*]), by repeat (first | exact HB.out | apply Bel.alloc | apply Bel.drew | apply Bel.drewN)⟩

theorem step_append_own {P : Program} {ops : Array Oper} {o : Oper} {a : Act} {w : World} {K : Act → World → Prop} {Q : Exit → Act → World → Prop} {E : Prop}
    (hg : o.guard = none) (s x : Operand) (t : TypeId) (hop : o.op = Op.call { callee := Callee.builtin Builtin.append, args := #[s, x], argTypes := #[t, t] })
    (base : Nat) (e : TypeId) (z : Value) (size bytes : Nat) (h1 : P.underlying t = some (.slice e)) (hinfo : (P.info? e).map (fun i => (i.zero, i.size, i.bytes)) = some (some z, size, bytes)) (h6 : z.cells.size = size) (h7 : 0 < size) (hby : bytes ≤ 1000)
    (A : Option Addr) (n cap : Nat) (xs : List Value) (hs : a.eval s = .slice A n cap) (hown : w.ownsRow base e size (.slice A n cap) n xs)
    (b : Nat) (news : List Value) (hx : a.eval x = .slice (some ⟨b, 0, none⟩) 1 1) (hn : news.length = size) (hc : ∀ j u, news[j]? = some u → w.cell? ⟨b, j, none⟩ = some u) (h1c : ∀ u ∈ news, u.oneCell' = true)
    (hmax : n ≤ 1000000000) (hbase : base ≤ w.heap.size)
    (hK : ∀ A' c' w', w'.ownsRow base e size (.slice A' (n + 1) c') (n + 1) (xs ++ news) → w.grownBy w' (Value.slice A n cap).ownBlock → K (a.put o.dst (.slice A' (n + 1) c')) w') :
    if Region.wanted o (yielded ops a.tmps) = true then Oper.wp P o a w K Q else E := by
  have hw : Region.wanted o (yielded ops a.tmps) = true := by simp [Region.wanted, hg]
  rw [if_pos hw]
  obtain ⟨i, hi, hz0, hz1, hz2⟩ := info_parts hinfo
  obtain ⟨v', w', hrun, r1, r2, _⟩ := run_append_own (P := P) w base t o.type e i z size bytes h1 hi hz0 hz1 hz2 h6 h7 (.slice A n cap) n xs hown ⟨b, 0, none⟩ 1 1 news (by omega) (fun j u hu => by rw [Addr.add_lit]; simpa using hc j u hu) h1c (by unfold maxLen; omega)
    (Nat.le_trans (Nat.mul_le_mul (show n + 1 ≤ 1000000001 by omega) hby) (by omega)) hbase
  unfold Oper.wp
  simp [execOp, hop, resolve, invoke, builtin, hs, hx, hrun, Result.andThen]
  obtain ⟨A', c', rfl⟩ := own_form_n r1
  exact hK A' c' w' r1 r2

structure Iq where
  v : Int
  m : Int
  c : Int
  r : Int
deriving DecidableEq
def Iq.cells (x : Iq) : List Value := [.int .i64 x.v, .int .u8 x.m, .int .u8 x.c, .int .i64 x.r]
def flatI (xs : List Iq) : List Value := xs.flatMap Iq.cells
theorem flatI_len (xs : List Iq) : (flatI xs).length = xs.length * 4 := by
  induction xs with
  | nil => rfl
  | cons x xs ih => simp only [flatI, List.flatMap_cons, List.length_append, List.length_cons, Iq.cells, List.length_nil] at *; omega
theorem flatI_snoc (xs : List Iq) (x : Iq) : flatI (xs ++ [x]) = flatI xs ++ x.cells := by simp [flatI]
def layL (v m b r : Int) : List Iq := if alwaysB v m b r then [] else [⟨v, m, b, r⟩]
/-- But for block g, and for what stands from base on, all is as it was. -/
structure Kp (g base : Nat) (w w' : World) : Prop where
  os : w'.os = w.os
  tape : w'.tape = w.tape
  output : w'.output = w.output
  size : w.heap.size ≤ w'.heap.size
  block : ∀ i, i < base → i ≠ g → w'.heap[i]? = w.heap[i]?
theorem Kp.of_bel {g base : Nat} {w w' : World} (h : Bel w w') (hb : base ≤ w.heap.size) : Kp g base w w' := ⟨h.os, h.tape, h.output, h.size, fun i hi _ => h.block i (by omega)⟩
theorem Kp.on {g base : Nat} {a b c : World} (h : Kp g base a b) (k : Kp g base b c) : Kp g base a c :=
  ⟨k.os.trans h.os, k.tape.trans h.tape, k.output.trans h.output, Nat.le_trans h.size k.size, fun i hi hn => (k.block i hi hn).trans (h.block i hi hn)⟩
theorem Kp.of_grown {g base : Nat} {w w' : World} {row : Option Nat} (h : w.grownBy w' row) (hb : base ≤ w.heap.size) (hr : ∀ k, row = some k → base ≤ k) : Kp g base w w' :=
  ⟨h.os, h.tape, h.output, h.size, fun i hi _ => h.block i (by omega) (fun e => by have := hr i e.symm; omega)⟩
theorem Kp.of_only {g base : Nat} {w w' : World} (h : Only g w w') (hb : base ≤ w.heap.size) : Kp g base w w' :=
  ⟨h.os, h.tape, h.output, h.size, fun i hi hn => h.block i (by omega) (fun e => hn (by injection e))⟩
theorem Kp.below {g base : Nat} {w w' : World} (h : Kp g base w w') (hb : g < base) : Below g w w' :=
  ⟨h.os, h.tape, h.output, h.size, fun i hi => h.block i (by omega) (by omega)⟩
theorem Kp.cell {g base : Nat} {w w' : World} (h : Kp g base w w') {b : Nat} (hb : b < base) (hn : b ≠ g) (o : Nat) : w'.cell? ⟨b, o, none⟩ = w.cell? ⟨b, o, none⟩ :=
  World.cell?_of_block (a := ⟨b, o, none⟩) (h.block b hb hn)
/-- It goes on with the list laid. -/
def Laid (g base : Nat) (b r : Int) (ys : List Iq) (w : World) (e : Ending) (w' : World) : Prop :=
  ∃ A' n' k', e = .returned (.tuple #[]) ∧ w'.heap[g]? = some (.cells #[.int .u8 b, .int .i64 r, .slice A' n' k'] 94 (0, 0)) ∧ w'.ownsRow base 50 4 (.slice A' n' k') n' (flatI ys) ∧ Kp g base w w'
theorem info_ineq : (Tryd.prog.info? 50).map (fun i => (i.zero, i.size, i.bytes)) = some (some (.agg #[.int .i64 0, .int .u8 0, .int .u8 0, .int .i64 0]), 4, 32) := by kernel_rfl
theorem four_at (w : World) (a b c d : Value) (t : TypeId) : ∀ j u, [a, b, c, d][j]? = some u → (w.alloc (.cells #[a, b, c, d] t)).cell? ⟨w.heap.size, j, none⟩ = some u := by
  intro j u hu
  match j, hu with
  | 0, hu => simp at hu; subst hu; simp
  | 1, hu => simp at hu; subst hu; simp
  | 2, hu => simp at hu; subst hu; simp
  | 3, hu => simp at hu; subst hu; simp
theorem set3_2 {w : World} {b : Nat} {x y z u : Value} {t : TypeId} (h : w.heap[b]? = some (.cells #[x, y, z] t (0, 0))) : (w.setCell ⟨b, 2, none⟩ u).heap[b]? = some (.cells #[x, y, u] t (0, 0)) := by
  have hlt := (Array.getElem?_eq_some_iff.1 h).1
  have h' : w.heap[b] = .cells #[x, y, z] t (0, 0) := by simpa [Array.getElem?_eq_getElem hlt] using h
  show (w.heap.modify b _)[b]? = _
  rw [Array.getElem?_eq_getElem (by simpa using hlt), Array.getElem_modify_self, h']
  rfl
theorem blk_far {w w' : World} {row : Option Nat} {b : Nat} {o : Obj} (hg : w.grownBy w' row) (h : w.heap[b]? = some o) (hne : some b ≠ row) : w'.heap[b]? = some o := by
  rw [hg.block b (Array.getElem?_eq_some_iff.1 h).1 hne]; exact h

set_option maxRecDepth 100000 in
set_option maxHeartbeats 2000000 in
theorem lay_any (g base : Nat) (b r : Int) (A : Option Addr) (n k : Nat) (xs : List Iq) (v m : Int) (w : World) (hg : w.heap[g]? = some (.cells #[.int .u8 b, .int .i64 r, .slice A n k] 94 (0, 0)))
    (hown : w.ownsRow base 50 4 (.slice A n k) n (flatI xs)) (hmax : n ≤ 1000000) (hgb : g < base) (hbw : base ≤ w.heap.size) :
    Calls Tryd.prog 69 #[.pointer (some ⟨g, 0, none⟩), .agg #[.int .i64 v, .int .u8 m]] w (Laid g base b r (xs ++ layL v m b r) w) := by
  have HO := Lib.hid hown
  have HG := Lib.hid hg
  obtain ⟨k0, k1, k2, f0, f1, f2⟩ := cells3 hg
  have hlt : g < w.heap.size := (Array.getElem?_eq_some_iff.1 hg).1
  clear hown hg
  rcases Bool.eq_false_or_eq_true (alwaysB v m b r) with ha | ha
  all_goals
    have HA : Hid (∀ W, Calls Tryd.prog 86 #[.agg #[.int .i64 v, .int .u8 m, .int .u8 b, .int .i64 r]] W fun e w' => e = .returned (.bool _) ∧ Bel W w') := Lib.hid (fun W => by have h := always_any v m b r W; rw [ha] at h; exact h)
    have HL : Hid (alwaysB v m b r = _) := Lib.hid ha
    clear ha
    go_enter Tryd.func69, Tryd.ntmps69
    go_wp2_with fail
    go_region
    go_wp2_with fail
    refine (HA.out _).mono ?_
    rintro e w1 ⟨rfl, hb1⟩
    have HB0 : Hid (Bel w w1) := Lib.hid (((((Bel.refl w).alloc _).alloc _).drew).on hb1)
    have HG1 := Lib.hid (HB0.out.blk HG.out)
    obtain ⟨m0, m1, m2, m3⟩ := cells4 (hb1.blk (by exact (blk2 w _ _).2))
    replace k0 := (HB0.out.cell (p := ⟨g, 0, none⟩) hlt).trans k0
    replace k1 := (HB0.out.cell (p := ⟨g, 1, none⟩) hlt).trans k1
    replace k2 := (HB0.out.cell (p := ⟨g, 2, none⟩) hlt).trans k2
    replace f2 := (HB0.out.frozen (p := ⟨g, 2, none⟩) hlt).trans f2
    have hlt1 : g < w1.heap.size := Nat.lt_of_lt_of_le hlt HB0.out.size
    clear hb1 f0 f1
  · go_wp2_with fail
    go_end0
    exact ⟨A, n, k, rfl, HG1.out, by unfold layL; rw [HL.out]; simpa using owns_bel HO.out HB0.out, .of_bel HB0.out hbw⟩
  · have HO1 := Lib.hid (owns_bel HO.out HB0.out)
    go_wp2_with fail
    go_region_law? (refine step_append_own rfl (.tmp 22) (.tmp 24) 51 rfl base 50 _ 4 32 Tryd.underlying51 info_ineq rfl (by decide) (by decide) A n k (flatI xs) (by simp [Act.eval]) (by exact HO1.out.alloc _) w1.heap.size [.int .i64 v, .int .u8 m, .int .u8 b, .int .i64 r] (by simp [Act.eval]) rfl (by exact four_at w1 _ _ _ _ _) (by simp [Value.oneCell']) (by omega) (by have := HB0.out.size; simp; omega) ?_; intro A' c' w5 hown5 hg5; (have hne : some g ≠ (Value.slice A n k).ownBlock := fun e => by have := (HO1.out.lt g e.symm).1; omega); (have s2 := ((far hg5 (b := g) (by simp; omega) hne).1 2).trans (by exact (((Bel.refl w1).alloc _).cell (p := ⟨g, 2, none⟩) hlt1).trans k2)); (have s3 := ((far hg5 (b := g) (by simp; omega) hne).2 2).trans (by exact (((Bel.refl w1).alloc _).frozen (p := ⟨g, 2, none⟩) hlt1).trans f2)); (have HO5 := Lib.hid hown5); (have HG5 := Lib.hid hg5); (have HNE := Lib.hid hne); clear hown5 hg5 hne)
    all_goals
      go_wp2
      go_end0
      have hs5 := HG5.out.size
      have hB : Kp g base w w5 := Kp.on (.of_bel (((HB0.out).alloc _).drew) hbw) (.of_grown HG5.out (by have := HB0.out.size; simp; omega) (fun x hx => (HO1.out.lt x hx).1))
      have hbw5 : base ≤ w5.heap.size := by have := hB.size; omega
      refine ⟨A', n + 1, c', rfl, set3_2 (blk_far HG5.out ((((Bel.refl w1).alloc _).drew).blk HG1.out) HNE.out), ?_, hB.on (.of_only ((Only.refl g w5).set_ (.inl rfl) _) hbw5)⟩
      have h5 := HO5.out
      have e : flatI (xs ++ layL v m b r) = flatI xs ++ [.int .i64 v, .int .u8 m, .int .u8 b, .int .i64 r] := by unfold layL; rw [HL.out]; simp [flatI, Iq.cells]
      rw [e]
      exact h5.kept (row := some g) ((Only.refl g w5).set_ (.inl rfl) _) (.inr fun e => by have := (h5.lt g e).1; omega)

/-- It tells a term whose list reads so, and lies in a block of the call's own. -/
def GivesF (nv : Bool) (c : Int) (l : List Int) (w : World) (e : Ending) (w' : World) : Prop :=
  ∃ A' n' c', e = .returned (.agg #[.bool nv, .int .u8 c, .slice A' n' c']) ∧ RI .i64 w' w'.heap.size A' n' l ∧ Bel w w' ∧ ∀ a, A' = some a → 0 < n' → w.heap.size ≤ a.block
theorem copiedF_any (nv : Bool) (c : Int) (A : Option Addr) (n cap : Nat) (l : List Int) (w : World) (hr : RI .i64 w w.heap.size A n l) (hmax : n ≤ 1000000000) :
    Calls Tryd.prog 46 #[.agg #[.bool nv, .int .u8 c, .slice A n cap]] w (GivesF nv c l w) := by
  have HR := Lib.hid hr
  clear hr
  go_enter Tryd.func46, Tryd.ntmps46
  go_wp2_with (go_at_call 47; refine (clone_any _ _ _ _ _ ((HR.out.alloc _).alloc _) hmax).mono ?_; rintro e w1 ⟨A', c', rfl, hown, hb⟩; (obtain ⟨a0, a1, a2, f0, f1, f2⟩ := cells3 (hb.blk (blk2 _ _ _).1)); (obtain ⟨b0, b1, b2, g0, g1, g2⟩ := cells3 (hb.blk (blk2 _ _ _).2)); (have HO := Lib.hid hown); clear hown; (have hz : w.heap.size + 1 < w1.heap.size := by have := hb.size; simp at this; omega); (have HB := Lib.hid hb); clear hb)
  refine bodyPost_ret (v := .agg #[.bool nv, .int .u8 c, .slice A' n c']) (by simp [results, Tryd.results46, go_sem, *]) rfl ⟨_, _, _, rfl, ?_, ?_, ?_⟩
  · refine RI.of_own (base := ((w.alloc (.cells #[.bool nv, .int .u8 c, .slice A n cap] 25)).alloc (.cells #[.bool false, .int .u8 0, .slice none 0 0] 25)).heap.size) (e := 3) (c := c') ?_
    repeat (refine ownsRow_setCell_below ?_ (by simp; try omega) _)
    exact HO.out
  · show Bel w _
    repeat (refine Bel.set_ ?_ (by simp) _)
    exact (((Bel.refl _).alloc _).alloc _).on HB.out
  · intro a ha hn
    obtain ⟨g, cap', hv, hg, _⟩ := HO.out.form hn
    injection hv with h1 _ _
    subst h1
    injection ha with ha
    subst ha
    simp at hg ⊢
    omega
set_option maxRecDepth 100000 in
theorem leastF_any (nv : Bool) (c : Int) (A : Option Addr) (n cap : Nat) (l : List Int) (w : World) (hr : RI .i64 w w.heap.size A n l) (hmax : n ≤ 1000000000) :
    Calls Tryd.prog 68 #[.agg #[.bool nv, .int .u8 c, .slice A n cap]] w (GivesF false (leastC nv c) (leastL nv l) w) := by
  have HR := Lib.hid hr
  clear hr
  cases nv
  · show Calls _ _ _ _ (GivesF false c l w)
    go_enter Tryd.func68, Tryd.ntmps68
    go_wp2_with (go_at_call 46; refine (copiedF_any _ _ _ _ _ _ _ ((HR.out.alloc _).alloc _) hmax).mono ?_; rintro e w1 ⟨A', n', c', rfl, hri, hb, hf⟩; (have HK := Lib.hid (Bel.blk hb (blk2 _ _ _).2)); (obtain ⟨b0, b1, b2, g0, g1, g2⟩ := cells3 HK.out); (have HO := Lib.hid hri); (have HF := Lib.hid hf); clear hri hf; (have hz : w.heap.size + 1 < w1.heap.size := by have := hb.size; simp at this; omega); (have HB := Lib.hid hb); clear hb)
    refine bodyPost_ret (v := .agg #[.bool false, .int .u8 c, .slice A' n' c']) (by simp [results, Tryd.results68, go_sem, *]) rfl ⟨_, _, _, rfl, ?_, ?_, ?_⟩
    · have h := HO.out.put3 HK.out (.bool false) (.int .u8 c) (.slice A' n' c')
      simpa using h
    · show Bel w _
      exact ((((Bel.refl _).alloc _).alloc _).on HB.out).put3 (by omega) _ _ _
    · intro a ha hn
      have h := HF.out a ha hn
      simp at h
      omega
  · show Calls _ _ _ _ (GivesF false 2 [] w)
    go_enter Tryd.func68, Tryd.ntmps68
    have f0 : leastMF 0 = 2 := by decide +kernel
    go_wp2_with (go_at_call 85; refine (least_any _ _).mono ?_; rintro e w1 ⟨rfl, rfl⟩)
    exact bodyPost_ret (v := .agg #[.bool false, .int .u8 2, .slice none 0 0]) (by simp [results, Tryd.results68, go_sem]) rfl ⟨_, _, _, rfl, RI.nil_, ((Bel.refl _).alloc _).alloc _, fun a ha => by cases ha⟩
end Go.Proofs.YteegoecanbonoaaDoor.Mu
