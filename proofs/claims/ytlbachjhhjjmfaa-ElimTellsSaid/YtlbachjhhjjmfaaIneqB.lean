/-
  Layer 3's functions: the text of an inequality, whether it may be.
-/
import Derived.Test.YtlbachjhhjjmfaaIneqA
import Derived.Test.YtlbachjhhjjmfaaIsB
import Derived.Deep.RegionHeld3
namespace Go.Proofs.Ytlbachjhhjjmfaa.Mu
open Go.ChangeShapes Go.WideShapes Go.ChangeAt Go.RowKit

theorem lh_var {v m : Int} (h : isB v m = true) : lhB m = true → 0 ≤ lvF v m ∧ lvF v m < 1048576 := by
  intro hl
  unfold lhB at hl
  simp at hl
  unfold lvF
  rw [if_pos hl]
  rcases isB_parts h with ⟨a, b, c⟩ | ⟨a, b, c⟩ <;> omega
theorem rh_var {r : Int} (h0 : -1 ≤ r) (h1 : r < 1048576) : rhB r = true → 0 ≤ r ∧ r < 1048576 := by
  intro hl; unfold rhB at hl; simp at hl; omega
theorem lc_bd {v m : Int} (h : isB v m = true) : 1 ≤ lcF m ∧ lcF m ≤ 3 := by
  unfold lcF; rcases isB_parts h with ⟨a, b, c⟩ | ⟨a, b, c⟩
  · rw [if_pos a]; omega
  · rw [if_neg (by omega)]; omega


theorem iisMult_any (c : Int) (w : World) : Calls Try.prog 63 #[.int .u8 c] w fun e w' => e = .returned (.bool (isMultB c)) ∧ w = w' := by
  by_cases h0 : 1 ≤ c <;> by_cases h1 : c ≤ 3
  all_goals
    have e : isMultB c = (decide (1 ≤ c) && decide (c ≤ 3)) := rfl
    simp only [h0, h1, decide_true, decide_false, Bool.and_self, Bool.and_false, Bool.false_and] at e
    have E := Lib.hid e
    clear e
    go_enter Try.func63, Try.ntmps63
    go_wp2
    go_ret
    exact ⟨ret_bool E.out.symm, rfl⟩
theorem is_yes {v m : Int} (h : isB v m = true) (w : World) : Calls Try.prog 62 #[.agg #[.int .i64 v, .int .u8 m]] w fun e w' => e = .returned (.int .i64 0) ∧ Bel w w' := by
  have := is_any v m w; rw [h] at this; exact this
theorem is_no {v m : Int} (h : isB v m = false) (w : World) : Calls Try.prog 62 #[.agg #[.int .i64 v, .int .u8 m]] w fun e w' => e = .returned (.int .i64 2) ∧ Bel w w' := by
  have := is_any v m w; rw [h] at this; exact this
set_option maxRecDepth 100000 in
set_option maxHeartbeats 1000000 in
theorem imay_any (v m c r : Int) (w : World) : Calls Try.prog 35 #[.agg #[.int .i64 v, .int .u8 m, .int .u8 c, .int .i64 r]] w fun e w' => e = .returned (.int .i64 (errF (mayI v m c r))) ∧ Bel w w' := by
  rcases Bool.eq_false_or_eq_true (isB v m) with hi | hi
  case inr =>
    have E : Hid ((2 : Int) = errF (mayI v m c r)) := Lib.hid (by unfold mayI; rw [hi]; rfl)
    have HI := Lib.hid hi
    clear hi
    go_enter Try.func35, Try.ntmps35
    go_wp2_with (go_at_call 62; refine (is_no HI.out _).mono ?_; rintro e w1 ⟨rfl, hb1⟩)
    go_ret
    exact ⟨ret_int E.out, ((Bel.refl _).alloc _).on hb1⟩
  case inl =>
    rcases Bool.eq_false_or_eq_true (isMultB c) with hc | hc <;> by_cases h0 : r < -1 <;> by_cases h1 : 1048576 ≤ r
    all_goals
      first
      | (exfalso; omega)
      | skip
    all_goals
      have e : mayI v m c r = (isB v m && isMultB c && decide (-1 ≤ r) && decide (r < 1048576)) := rfl
      have d0 : decide (-1 ≤ r) = !decide (r < -1) := by by_cases h : r < -1 <;> simp [h] <;> omega
      have d1 : decide (r < 1048576) = !decide (1048576 ≤ r) := by by_cases h : 1048576 ≤ r <;> simp [h] <;> omega
      rw [d0, d1] at e
      simp only [hi, hc, h0, h1, decide_true, decide_false, Bool.not_true, Bool.not_false, Bool.and_self, Bool.and_false, Bool.and_true] at e
      have E := Lib.hid e
      have HI := Lib.hid hi
      have HC := Lib.hid hc
      have HM : Hid (∀ W, Calls Try.prog 63 #[.int .u8 c] W fun e w' => e = .returned (.bool _) ∧ W = w') := Lib.hid (fun W => by have h := iisMult_any c W; rw [hc] at h; exact h)
      clear e hi hc d0 d1
      go_enter Try.func35, Try.ntmps35
      go_wp2_with fail
      refine (is_yes HI.out _).mono ?_
      rintro e w1 ⟨rfl, hb1⟩
      obtain ⟨k0, k1, k2, k3⟩ := cells4 (hb1.blk (blk1 w _))
      have HB := Lib.hid hb1
      clear hb1
      go_wp2_with (go_at_call 63; refine (HM.out _).mono ?_; rintro e w' ⟨rfl, rfl⟩)
      all_goals first
      | (exfalso; omega)
      | (go_ret; exact ⟨ret_int (by rw [E.out]; rfl), ((Bel.refl _).alloc _).on HB.out⟩)
end Go.Proofs.Ytlbachjhhjjmfaa.Mu

