/-
  The document's own answers for layer 3, walked: whether an inequality may be, whether a variable has a place, whether one holds.
-/
import Derived.Test.YteegoecanbonoaaDoorRef03T
import Derived.Test.YteegoecanbonoaaDoorRef03F
namespace Go.Proofs.YteegoecanbonoaaDoor.Mu
open Go.ChangeShapes Go.WideShapes Go.ChangeAt Go.RowKit

set_option maxRecDepth 100000 in
set_option maxHeartbeats 1000000 in
theorem rmay3_any (x : Iq) (w : World) : Calls Tryd.prog 36 #[.agg #[.int .i64 x.v, .int .u8 x.m, .int .u8 x.c, .int .i64 x.r]] w fun e w' => e = .returned (.bool x.may) ∧ Bel w w' := by
  obtain ⟨v, m, c, r⟩ := x
  show Calls _ _ #[.agg #[.int .i64 v, .int .u8 m, .int .u8 c, .int .i64 r]] w fun e w' => e = .returned (.bool (mayI v m c r)) ∧ Bel w w'
  cases hi : isB v m
  all_goals
    have E : Hid (mayI v m c r = ((isB v m && (decide (1 ≤ c) && decide (c ≤ 3))) && decide (-1 ≤ r) && decide (r < 1048576))) := Lib.hid rfl
    rw [hi] at E
    have HI : Hid (∀ W, Calls Tryd.prog 22 #[.agg #[.int .i64 v, .int .u8 m]] W fun e w' => e = .returned (.bool _) ∧ Bel W w') := Lib.hid fun W => by
      have h := ris_any v m W; rw [hi] at h; exact h
    clear hi
    go_enter Tryd.func36, Tryd.ntmps36
    go_wp2_with fail
    refine (HI.out _).mono ?_
    rintro e w1 ⟨rfl, hb1⟩
    have HB1 : Hid (Bel w w1) := Lib.hid (((Bel.refl w).alloc _).on hb1)
    obtain ⟨k0, k1, k2, k3⟩ := cells4 (hb1.blk (blk1 w _))
    clear hb1
    go_wp2_with fail
    clear k0 k1 k2 k3
  all_goals
    go_ret
    refine ⟨ret_bool ?_, HB1.out⟩
    rw [E.out]
    clear E HI
    first | rfl | (simp_all; done) | (rw [Bool.eq_iff_iff]; simp only [Bool.and_eq_true, decide_eq_true_eq, Bool.false_eq_true, Bool.true_and, false_iff]; omega) | (simp_all; omega)

set_option maxRecDepth 100000 in
theorem there_any (v : Int) (G : Option Addr) (gn gc : Nat) (av : List Int) (h0 : 0 ≤ v) (h1 : v < 1048576) (w : World) (hg : RI .u8 w w.heap.size G gn av) (hmax : gn ≤ 9223372036854775807) :
    Calls Tryd.prog 64 #[.int .i64 v, .slice G gn gc] w fun e w' => e = .returned (.bool (okV av v)) ∧ w = w' := by
  have HL := Lib.hid hg.len
  by_cases hlt : v < (gn : Int)
  · obtain ⟨b, off, rfl, hb, hc⟩ := hg.at_ (by omega)
    have hcell := hc v.toNat (by omega)
    obtain ⟨q, hq⟩ : ∃ q, av[v.toNat]?.getD 0 = q := ⟨_, rfl⟩
    rw [hq] at hcell
    have E : Hid (okV av v = (decide (1 ≤ q) && decide (q ≤ 3))) := Lib.hid (by
      unfold okV
      have : v < (av.length : Int) := by rw [← HL.out]; exact hlt
      rw [decide_eq_true this, hq]; rfl)
    clear hc hq hg
    go_enter Tryd.func64, Tryd.ntmps64
    go_wp2
    all_goals
      go_ret
      refine ⟨ret_bool ?_, rfl⟩
      rw [E.out]
      first | (simp_all; done) | (rw [Bool.eq_iff_iff]; simp only [Bool.and_eq_true, decide_eq_true_eq, Bool.false_eq_true, false_iff]; omega)
  · have E : Hid (okV av v = false) := Lib.hid (by
      unfold okV
      have : ¬ v < (av.length : Int) := by rw [← HL.out]; exact hlt
      simp [this])
    have hd : decide (v < (gn : Int)) = false := decide_eq_false hlt
    clear hg HL
    go_enter Tryd.func64, Tryd.ntmps64
    go_wp2
    go_ret
    exact ⟨ret_bool E.out.symm, rfl⟩
theorem val_in {h : Bool} {v : Int} {av : List Int} (hs : standsB h v av = true) (hh : h = true) : 1 ≤ av[v.toNat]?.getD 0 ∧ av[v.toNat]?.getD 0 ≤ 3 ∧ v < av.length := by
  unfold standsB at hs
  rw [hh] at hs
  simp only [Bool.not_true, Bool.false_or] at hs
  obtain ⟨a, b, c⟩ := okV_parts hs
  exact ⟨b, c, a⟩

set_option maxRecDepth 100000 in
set_option maxHeartbeats 2000000 in
theorem one_any (v m c r : Int) (G : Option Addr) (gn gc : Nat) (av : List Int) (hm : (Iq.mk v m c r).may = true) (hs : (Iq.mk v m c r).stands av = true) (w : World) (hg : RI .u8 w w.heap.size G gn av) (hmax : gn ≤ 9223372036854775807) :
    Calls Tryd.prog 65 #[.agg #[.int .i64 v, .int .u8 m, .int .u8 c, .int .i64 r], .slice G gn gc] w fun e w' => e = .returned (.bool (!(Iq.mk v m c r).bad av)) ∧ Bel w w' := by
  have hl := may_left hm
  have hr := may_right hm
  simp only at hl hr
  have hm2 := hm
  unfold Iq.may mayI at hm2
  simp only [Bool.and_eq_true, decide_eq_true_eq] at hm2
  obtain ⟨⟨⟨hi, hc⟩, r0⟩, r1⟩ := hm2
  obtain ⟨c1, c3⟩ := isMultB_bd hc
  unfold Iq.stands at hs
  simp only [Bool.and_eq_true] at hs
  obtain ⟨s1, s2⟩ := hs
  have HG := Lib.hid (hg.alloc (.cells #[.int .i64 v, .int .u8 m, .int .u8 c, .int .i64 r] 50))
  have HL := Lib.hid hg.len
  have E0 : Hid ((Iq.mk v m c r).bad av = decide (atS c (rhB r) r av < atS (lcF m) (lhB m) (lvF v m) av)) := Lib.hid rfl
  clear hg
  have hmc : m = 0 ∨ 1 ≤ m := by rcases isB_parts hi with ⟨p, q, s⟩ | ⟨p, q, s⟩ <;> omega
  have hrc : r = -1 ∨ 0 ≤ r := by omega
  rcases hmc with hm0 | hm1 <;> rcases hrc with hr0 | hr0
  case' inl.inl | inl.inr =>
    subst hm0
    obtain ⟨v0, v1⟩ := hl rfl
    have v0' : 0 ≤ v := v0
    obtain ⟨a1, a3, a2⟩ := val_in s1 rfl
    have hlt : v < (gn : Int) := by have := HL.out; have : v < (av.length : Int) := a2; omega
    obtain ⟨b, off, eG, hb, hcs⟩ := HG.out.at_ (by omega)
    subst eG
    have hcell := hcs v.toNat (by omega)
    obtain ⟨q, hq⟩ : ∃ q, av[v.toNat]?.getD 0 = q := ⟨_, rfl⟩
    have a1' : 1 ≤ q := by rw [← hq]; exact a1
    rw [hq] at hcell
    have ELV : Hid (atS (lcF 0) (lhB 0) (lvF v 0) av = q) := Lib.hid (by
      have : atS (lcF 0) (lhB 0) (lvF v 0) av = max 1 (av[v.toNat]?.getD 0) := rfl
      rw [this, hq]; omega)
    have HCS := Lib.hid hcs
    clear hl a1 a2 a3 v0 v1 s1 hcs hq
  case' inr.inl | inr.inr =>
    have ELV : Hid (atS (lcF m) (lhB m) (lvF v m) av = m) := Lib.hid (by
      obtain ⟨p1, p2⟩ := lcm hm1
      rw [p1, p2]; rfl)
    have hmz : (m == 0) = false := by rw [beq_eq_false_iff_ne]; omega
    clear hl s1
  case' inr.inr =>
    have hrb : rhB r = true := by unfold rhB; simp; omega
    obtain ⟨a1, a3, a2⟩ := val_in s2 hrb
    have hrt : r < (gn : Int) := by have := HL.out; omega
    obtain ⟨b, off, eG, hb, hcs⟩ := HG.out.at_ (by omega)
    subst eG
    have HCS := Lib.hid hcs
    clear a1 a2 a3 hcs hrb
  case' inl.inl | inr.inl =>
    subst hr0
    have ERV : Hid (atS c (rhB (-1)) (-1) av = c) := Lib.hid rfl
    clear hr s2
  case' inl.inr | inr.inr =>
    have hrb : rhB r = true := by unfold rhB; simp; omega
    obtain ⟨a1, a3, a2⟩ := val_in s2 hrb
    have hrt : r < (gn : Int) := by have := HL.out; omega
    have hcell2 := HCS.out r.toNat (by omega)
    obtain ⟨q2, hq2⟩ : ∃ q, av[r.toNat]?.getD 0 = q := ⟨_, rfl⟩
    rw [hq2] at hcell2
    have ERV : Hid (atS c (rhB r) r av = max c q2) := Lib.hid (by
      rw [hrb]
      have : atS c true r av = max c (av[r.toNat]?.getD 0) := rfl
      rw [this, hq2])
    clear a1 a2 a3 hrb hq2 hr s2
  all_goals
    rw [ELV.out, ERV.out] at E0
    clear ELV ERV hi hc hm
    go_enter Tryd.func65, Tryd.ntmps65
    go_wp2
    all_goals
      go_ret
      refine ⟨ret_bool ?_, (Bel.refl _).alloc _⟩
      rw [E0.out]
      clear E0
      first | (simp_all; done) | (rw [Bool.eq_iff_iff]; simp only [Bool.not_eq_true', decide_eq_false_iff_not, decide_eq_true_eq, true_iff]; omega) | (rw [Bool.eq_iff_iff]; simp; omega)
end Go.Proofs.YteegoecanbonoaaDoor.Mu
