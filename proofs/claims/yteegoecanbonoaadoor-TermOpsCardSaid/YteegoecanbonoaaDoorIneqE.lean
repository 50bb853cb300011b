/-
  Layer 3's functions: Fits.
-/
import Derived.Test.YteegoecanbonoaaDoorIneqD
namespace Go.Proofs.YteegoecanbonoaaDoor.Mu
open Go.ChangeShapes Go.WideShapes Go.ChangeAt Go.RowKit

/-- A slice value reads as a list of inequalities. -/
def RQ (w : World) (B : Nat) (A : Option Addr) (n : Nat) (xs : List Iq) : Prop :=
  n = xs.length ∧ (0 < n → ∃ b off, A = some ⟨b, off, none⟩ ∧ b < B ∧ ∀ (k : Nat) (x : Iq), xs[k]? = some x → w.cell? ⟨b, off + k * 4, none⟩ = some (.int .i64 x.v) ∧ w.cell? ⟨b, off + k * 4 + 1, none⟩ = some (.int .u8 x.m) ∧ w.cell? ⟨b, off + k * 4 + 2, none⟩ = some (.int .u8 x.c) ∧ w.cell? ⟨b, off + k * 4 + 3, none⟩ = some (.int .i64 x.r))
section
variable {w w' : World} {B B' n : Nat} {A : Option Addr} {xs : List Iq}
theorem RQ.nil_ : RQ w B A 0 [] := ⟨rfl, fun h => absurd h (by omega)⟩
theorem RQ.len (h : RQ w B A n xs) : n = xs.length := h.1
theorem RQ.at_ (h : RQ w B A n xs) (hn : 0 < n) : ∃ b off, A = some ⟨b, off, none⟩ ∧ b < B ∧ ∀ (k : Nat) (x : Iq), xs[k]? = some x → w.cell? ⟨b, off + k * 4, none⟩ = some (.int .i64 x.v) ∧ w.cell? ⟨b, off + k * 4 + 1, none⟩ = some (.int .u8 x.m) ∧ w.cell? ⟨b, off + k * 4 + 2, none⟩ = some (.int .u8 x.c) ∧ w.cell? ⟨b, off + k * 4 + 3, none⟩ = some (.int .i64 x.r) := h.2 hn
theorem RQ.keep (h : RQ w B A n xs) (hk : ∀ b o, b < B → w'.cell? ⟨b, o, none⟩ = w.cell? ⟨b, o, none⟩) : RQ w' B A n xs :=
  ⟨h.1, fun hn => by
    obtain ⟨b, off, e, hb, hc⟩ := h.2 hn
    exact ⟨b, off, e, hb, fun k x hx => by rw [hk _ _ hb, hk _ _ hb, hk _ _ hb, hk _ _ hb]; exact hc k x hx⟩⟩
theorem RQ.more (h : RQ w B A n xs) (hB : B ≤ B') : RQ w B' A n xs :=
  ⟨h.1, fun hn => by
    obtain ⟨b, off, e, hb, hc⟩ := h.2 hn
    exact ⟨b, off, e, by omega, hc⟩⟩
theorem RQ.bel (h : RQ w w.heap.size A n xs) (hb : Bel w w') : RQ w' w'.heap.size A n xs := (h.keep fun b o hp => hb.cell (p := ⟨b, o, none⟩) hp).more hb.size
theorem flatI_get : ∀ (xs : List Iq) (k : Nat) (x : Iq), xs[k]? = some x → (flatI xs)[k * 4]? = some (.int .i64 x.v) ∧ (flatI xs)[k * 4 + 1]? = some (.int .u8 x.m) ∧ (flatI xs)[k * 4 + 2]? = some (.int .u8 x.c) ∧ (flatI xs)[k * 4 + 3]? = some (.int .i64 x.r)
  | [], k, x, h => by simp at h
  | y :: xs, 0, x, h => by
    simp at h; subst h
    simp [flatI, Iq.cells]
  | y :: xs, k + 1, x, h => by
    have ih := flatI_get xs k x (by simpa using h)
    have e : flatI (y :: xs) = y.cells ++ flatI xs := by simp [flatI]
    have hl : y.cells.length = 4 := rfl
    rw [e]
    refine ⟨?_, ?_, ?_, ?_⟩
    · rw [List.getElem?_append_right (by omega), hl, show (k + 1) * 4 - 4 = k * 4 by omega]; exact ih.1
    · rw [List.getElem?_append_right (by omega), hl, show (k + 1) * 4 + 1 - 4 = k * 4 + 1 by omega]; exact ih.2.1
    · rw [List.getElem?_append_right (by omega), hl, show (k + 1) * 4 + 2 - 4 = k * 4 + 2 by omega]; exact ih.2.2.1
    · rw [List.getElem?_append_right (by omega), hl, show (k + 1) * 4 + 3 - 4 = k * 4 + 3 by omega]; exact ih.2.2.2
theorem RQ.of_own {base c : Nat} {e : TypeId} (h : w.ownsRow base e 4 (.slice A n c) n (flatI xs)) : RQ w w.heap.size A n xs := by
  refine ⟨own_n h, fun hn => ?_⟩
  obtain ⟨g, cap, hv, _, hlt⟩ := h.form hn
  have hA : A = some ⟨g, 0, none⟩ := by injection hv
  subst hA
  refine ⟨g, 0, rfl, hlt, fun k x hx => ?_⟩
  obtain ⟨a0, a1, a2, a3⟩ := flatI_get xs k x hx
  have c0 := h.cells (g := g) rfl _ _ a0
  have c1 := h.cells (g := g) rfl _ _ a1
  have c2 := h.cells (g := g) rfl _ _ a2
  have c3 := h.cells (g := g) rfl _ _ a3
  rw [Addr.add_lit] at c0 c1 c2 c3
  exact ⟨c0, by rw [Nat.add_assoc]; exact c1, by rw [Nat.add_assoc]; exact c2, by rw [Nat.add_assoc]; exact c3⟩
end
/-- It tells a list of inequalities, and an error. -/
def GivesQ (xs : List Iq) (x : Int) (w : World) (e : Ending) (w' : World) : Prop :=
  ∃ A n k, e = .returned (.tuple #[.slice A n k, .int .i64 x]) ∧ RQ w' w'.heap.size A n xs ∧ Bel w w'
def bndF (v m : Int) : Int := if m = 0 then v else -1
def fitsL (nv : Bool) (c : Int) (l : List Int) (g v m : Int) : List Iq := eachL (leastC nv c) (leastL nv l) (max g m) (bndF v m)

theorem leastL_len (nv : Bool) (l : List Int) : (leastL nv l).length ≤ l.length := by unfold leastL; cases nv <;> simp
theorem may_yes {nv : Bool} {c : Int} {l : List Int} (h : mayB nv c l = true) (A : Option Addr) (n cap : Nat) (w : World) (hr : RI .i64 w w.heap.size A n l) (hmax : n ≤ 9223372036854775807) :
    Calls Tryd.prog 20 #[.agg #[.bool nv, .int .u8 c, .slice A n cap]] w fun e w' => e = .returned (.int .i64 0) ∧ Bel w w' := by
  have := may_any nv c A n cap l w hr hmax; rw [h] at this; exact this
theorem may_no {nv : Bool} {c : Int} {l : List Int} (h : mayB nv c l = false) (A : Option Addr) (n cap : Nat) (w : World) (hr : RI .i64 w w.heap.size A n l) (hmax : n ≤ 9223372036854775807) :
    Calls Tryd.prog 20 #[.agg #[.bool nv, .int .u8 c, .slice A n cap]] w fun e w' => e = .returned (.int .i64 2) ∧ Bel w w' := by
  have := may_any nv c A n cap l w hr hmax; rw [h] at this; exact this

set_option maxRecDepth 100000 in
set_option maxHeartbeats 2000000 in
theorem fits_yes (nv : Bool) (c : Int) (A : Option Addr) (n k : Nat) (l : List Int) (g v m : Int) (w : World) (hr : RI .i64 w w.heap.size A n l) (hmax : n ≤ 10000) (ht : mayB nv c l = true) (hg : isMultB g = true) (hm : isB v m = true) :
    Calls Tryd.prog 38 #[.agg #[.bool nv, .int .u8 c, .slice A n k], .int .u8 g, .agg #[.int .i64 v, .int .u8 m]] w (GivesQ (fitsL nv c l g v m) 0 w) := by
  have HR := Lib.hid hr
  have HT := Lib.hid ht
  have HM := Lib.hid hm
  have HGM : Hid (∀ W, Calls Tryd.prog 66 #[.int .u8 g] W fun e w' => e = .returned (.bool true) ∧ W = w') := Lib.hid (fun W => by have h := iisMult_any g W; rw [hg] at h; exact h)
  have HL := Lib.hid hr.len
  obtain ⟨bb, hbb⟩ : ∃ x, max g m = x := ⟨_, rfl⟩
  obtain ⟨rr, hrr⟩ : ∃ x, bndF v m = x := ⟨_, rfl⟩
  have HF : Hid (fitsL nv c l g v m = eachL (leastC nv c) (leastL nv l) bb rr) := Lib.hid (by unfold fitsL; rw [hbb, hrr])
  have HRR : Hid (rr = if m = 0 then v else -1) := Lib.hid hrr.symm
  have hm2 : (m == 0) = decide (m = 0) := by by_cases h : m = 0 <;> simp [h]
  clear hr ht hg hm hrr
  by_cases hz : m = 0
  case' pos =>
    subst hz
    obtain rfl : rr = v := by simpa using HRR.out
    clear hm2
  case' neg =>
    obtain rfl : rr = -1 := by have h := HRR.out; rw [if_neg hz] at h; exact h
    simp only [hz, decide_false] at hm2
  all_goals
    go_enter Tryd.func38, Tryd.ntmps38
    go_wp2_with fail
    refine (may_yes HT.out A n k _ ((HR.out.alloc _).alloc _) (by omega)).mono ?_
    rintro e w1 ⟨rfl, hb1⟩
    have K0 := Lib.hid (hb1.blk (blk2 w _ _).1)
    have K1 := Lib.hid (hb1.blk (blk2 w _ _).2)
    have HB1 : Hid (Bel w w1) := Lib.hid ((((Bel.refl w).alloc _).alloc _).on hb1)
    obtain ⟨a0, a1⟩ := cells2 K1.out
    clear hb1
    go_wp2_with fail
    refine (HGM.out _).mono ?_
    rintro e w' ⟨rfl, rfl⟩
    go_wp2_with fail
    refine (is_yes HM.out _).mono ?_
    rintro e w2 ⟨rfl, hb2⟩
    replace K0 := Lib.hid (hb2.blk K0.out)
    replace K1 := Lib.hid (hb2.blk K1.out)
    have HB2 := Lib.hid (HB1.out.on hb2)
    clear a0 a1
    obtain ⟨a0, a1⟩ := cells2 K1.out
    obtain ⟨d0, d1, d2, _, _, _⟩ := cells3 K0.out
    have hz2 : w.heap.size + 1 < w2.heap.size := (Array.getElem?_eq_some_iff.1 K1.out).1
    have hz20 : w.heap.size < w2.heap.size := by omega
    clear hb2
    go_wp2_with fail
    refine (leastF_any nv c A n k l _ (by exact (HR.out.bel HB2.out).alloc _) (by omega)).mono ?_
    rintro e w3 ⟨A3, n3, k3, rfl, hr3, hb3, hf3⟩
    have HG3 := Lib.hid (hb3.blk (blk1 w2 _))
    have HR3 := Lib.hid hr3
    have HF3 := Lib.hid hf3
    have HB3 : Hid (Bel w w3) := Lib.hid ((HB2.out.alloc _).on hb3)
    have hz3 : w2.heap.size < w3.heap.size := (Array.getElem?_eq_some_iff.1 HG3.out).1
    have HLL : Hid (n3 ≤ 10000) := Lib.hid (by have h := hr3.len; have h2 := HL.out; have h3 := leastL_len nv l; omega)
    clear hr3 hf3 hb3 a0 a1 d0 d1 d2
    go_wp2_with fail
    refine (each_any w2.heap.size bb _ false (leastC nv c) A3 n3 k3 (leastL nv l) w3 HG3.out HR3.out (fun a ha hn => by have h := HF3.out a ha hn; simp at h; omega) HLL.out).mono ?_
    rintro e w4 ⟨A4, n4, k4, rfl, hg4, hown4, hk4⟩
    have HO4 := Lib.hid hown4
    have HK4 := Lib.hid hk4
    obtain ⟨e0, e1, e2, _, _, _⟩ := cells3 hg4
    clear hg4 hown4 hk4
    go_wp2_with fail
    go_ret2
    exact ⟨A4, n4, k4, rfl, by rw [HF.out]; exact .of_own HO4.out, Below.trans HB3.out ((HK4.out.below hz3).mono (by omega))⟩

set_option maxRecDepth 100000 in
set_option maxHeartbeats 2000000 in
theorem fits_no (nv : Bool) (c : Int) (A : Option Addr) (n k : Nat) (l : List Int) (g v m : Int) (w : World) (hr : RI .i64 w w.heap.size A n l) (hmax : n ≤ 10000) (hno : (mayB nv c l && isMultB g && isB v m) = false) :
    Calls Tryd.prog 38 #[.agg #[.bool nv, .int .u8 c, .slice A n k], .int .u8 g, .agg #[.int .i64 v, .int .u8 m]] w (GivesQ [] 2 w) := by
  have HR := Lib.hid hr
  clear hr
  rcases Bool.eq_false_or_eq_true (mayB nv c l) with ht | ht
  case inr =>
    have HT := Lib.hid ht
    clear ht hno
    go_enter Tryd.func38, Tryd.ntmps38
    go_wp2_with fail
    refine (may_no HT.out A n k _ ((HR.out.alloc _).alloc _) (by omega)).mono ?_
    rintro e w1 ⟨rfl, hb1⟩
    have HB1 : Hid (Bel w w1) := Lib.hid ((((Bel.refl w).alloc _).alloc _).on hb1)
    clear hb1
    go_wp2_with fail
    go_ret2
    exact ⟨none, 0, 0, rfl, .nil_, HB1.out⟩
  case inl =>
    have HT := Lib.hid ht
    rcases Bool.eq_false_or_eq_true (isMultB g) with hg | hg
    case inr =>
      have HGM : Hid (∀ W, Calls Tryd.prog 66 #[.int .u8 g] W fun e w' => e = .returned (.bool false) ∧ W = w') := Lib.hid (fun W => by have h := iisMult_any g W; rw [hg] at h; exact h)
      clear ht hno hg
      go_enter Tryd.func38, Tryd.ntmps38
      go_wp2_with fail
      refine (may_yes HT.out A n k _ ((HR.out.alloc _).alloc _) (by omega)).mono ?_
      rintro e w1 ⟨rfl, hb1⟩
      have HB1 : Hid (Bel w w1) := Lib.hid ((((Bel.refl w).alloc _).alloc _).on hb1)
      clear hb1
      go_wp2_with fail
      refine (HGM.out _).mono ?_
      rintro e w' ⟨rfl, rfl⟩
      go_wp2_with fail
      go_ret2
      exact ⟨none, 0, 0, rfl, .nil_, HB1.out⟩
    case inl =>
      have HGM : Hid (∀ W, Calls Tryd.prog 66 #[.int .u8 g] W fun e w' => e = .returned (.bool true) ∧ W = w') := Lib.hid (fun W => by have h := iisMult_any g W; rw [hg] at h; exact h)
      have HM : Hid (isB v m = false) := Lib.hid (by rw [ht, hg] at hno; simpa using hno)
      clear ht hno hg
      go_enter Tryd.func38, Tryd.ntmps38
      go_wp2_with fail
      refine (may_yes HT.out A n k _ ((HR.out.alloc _).alloc _) (by omega)).mono ?_
      rintro e w1 ⟨rfl, hb1⟩
      have HB1 : Hid (Bel w w1) := Lib.hid ((((Bel.refl w).alloc _).alloc _).on hb1)
      obtain ⟨a0, a1⟩ := cells2 (hb1.blk (blk2 w _ _).2)
      clear hb1
      go_wp2_with fail
      refine (HGM.out _).mono ?_
      rintro e w' ⟨rfl, rfl⟩
      go_wp2_with fail
      refine (is_no HM.out _).mono ?_
      rintro e w2 ⟨rfl, hb2⟩
      have HB2 := Lib.hid (HB1.out.on hb2)
      clear hb2 a0 a1
      go_wp2_with fail
      go_ret2
      exact ⟨none, 0, 0, rfl, .nil_, HB2.out⟩
end Go.Proofs.YteegoecanbonoaaDoor.Mu
