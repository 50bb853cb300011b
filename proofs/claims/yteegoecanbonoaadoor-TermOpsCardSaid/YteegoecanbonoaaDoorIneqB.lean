/-
  Layer 3's functions: the text of an inequality, whether it may be.
-/
import Derived.Test.YteegoecanbonoaaDoorIneqA
import Derived.Deep.RegionHeld3
namespace Go.Proofs.YteegoecanbonoaaDoor.Mu
open Go.ChangeShapes Go.WideShapes Go.ChangeAt Go.RowKit

theorem lh_var {v m : Int} (h : isB v m = true) : lhB m = true → 0 ≤ lvF v m ∧ lvF v m < 1048576 := by
  intro hl
  unfold lhB at hl
  simp at hl
  unfold lvF
  rw [if_pos hl]
  rcases isB_parts h with ⟨a, b, c⟩ | ⟨a, b, c⟩ <;> omega
theorem rh_var {r : Int} (h0 : -1 ≤ r) (h1 : r < 1048576) : rhB r = true → 0 ≤ r ∧ r < 1048576 := by
  intro hl; unfold rhB at hl; simp at hl; omega
theorem lc_bd {v m : Int} (h : isB v m = true) : 1 ≤ lcF m ∧ lcF m ≤ 3 := by
  unfold lcF; rcases isB_parts h with ⟨a, b, c⟩ | ⟨a, b, c⟩
  · rw [if_pos a]; omega
  · rw [if_neg (by omega)]; omega
theorem textI_sides {v m c r : Int} (_ : isB v m = true) : textI v m c r = sideS (lcF m) (lhB m) (lvF v m) ++ [32, 60, 61, 32] ++ sideS c (rhB r) r := by
  unfold textI
  congr 1
  · congr 1
    unfold leftS sideS lhB lcF lvF
    by_cases hm : m = 0
    · simp [hm, textT, partsS, mulS, knownF, Lib.join_one]
    · simp [hm]
  · unfold rightL sideS rhB
    by_cases hr : r = -1
    · simp [hr, textT, partsS, Lib.join_one]
    · simp [hr]

set_option maxRecDepth 100000 in
set_option maxHeartbeats 1000000 in
theorem itext_any (v m c r : Int) (hi : isB v m = true) (h0 : 0 ≤ c) (h1 : c ≤ 255) (hr0 : -1 ≤ r) (hr1 : r < 1048576) (w : World) (ht : Tabs w) :
    Calls Tryd.prog 32 #[.agg #[.int .i64 v, .int .u8 m, .int .u8 c, .int .i64 r]] w fun e w' => e = .returned (.string ⟨(textI v m c r).toArray⟩) ∧ Bel w w' := by
  have HT := Lib.hid ht
  have HLV := Lib.hid (lh_var hi)
  have HRV := Lib.hid (rh_var hr0 hr1)
  have hl1 := sideS_len (c := lcF m) (lh_var hi)
  have hl2 := sideS_len (c := c) (rh_var hr0 hr1)
  obtain ⟨q0, q1⟩ := lc_bd hi
  have hl3 : ¬ 9223372036854775807 < (sideS (lcF m) (lhB m) (lvF v m)).length + 4 := by omega
  have hl4 : ¬ 9223372036854775807 < (sideS (lcF m) (lhB m) (lvF v m)).length + 4 + (sideS c (rhB r) r).length := by omega
  have HX := Lib.hid (textI_sides (c := c) (r := r) hi)
  clear ht hi
  go_enter Tryd.func32, Tryd.ntmps32
  go_wp2_with fail
  refine (sides_any v m c r _).mono ?_
  rintro e w1 ⟨rfl, hb1⟩
  have HB1 : Hid (Bel w w1) := Lib.hid (((Bel.refl w).alloc _).on hb1)
  have HT1 := Lib.hid (HT.out.bel HB1.out)
  clear hb1
  go_wp2_with fail
  obtain ⟨W, hW⟩ : ∃ W, W = w1.alloc (.cells #[.int .u8 (lcF m), .bool (lhB m), .int .i64 (lvF v m), .int .u8 c, .bool (rhB r), .int .i64 r] 85) := ⟨_, rfl⟩
  rw [← hW]
  have HBW : Hid (Bel w W) := Lib.hid (by rw [hW]; exact HB1.out.alloc _)
  have HTW : Hid (Tabs W) := Lib.hid (HT.out.bel HBW.out)
  obtain ⟨k0, k1, k2, k3, k4, k5⟩ := cells6 (w := W) (by rw [hW]; exact blk1 w1 _)
  have hz : w1.heap.size < W.heap.size := by rw [hW]; simp
  clear hW
  have tok1 : True := trivial
  go_region_held3 (fun w' => w'.cell? ⟨w1.heap.size, 0, none⟩ = some (.int .u8 (lcF m)) ∧ w'.cell? ⟨w1.heap.size, 1, none⟩ = some (.bool (lhB m)) ∧ w'.cell? ⟨w1.heap.size, 2, none⟩ = some (.int .i64 (lvF v m)) ∧ w'.cell? ⟨w1.heap.size, 3, none⟩ = some (.int .u8 c) ∧ w'.cell? ⟨w1.heap.size, 4, none⟩ = some (.bool (rhB r)) ∧ w'.cell? ⟨w1.heap.size, 5, none⟩ = some (.int .i64 r)) (go_keep)
    (first | (go_at_call 59; have _t := tok1; refine (stext_any _ _ _ (by first | exact HLV.out | exact HRV.out) (by omega) (by omega) _ (by exact HTW.out)).mono ?_; rintro e w4 ⟨rfl, hb4⟩; clear _t tok1; (have HB4 := Lib.hid (show Bel W w4 by first | exact hb4 | exact (Bel.refl _).drew.on hb4)); (have HT4 := Lib.hid (HTW.out.bel HB4.out)); (have k0 := (HB4.out.cell (p := ⟨w1.heap.size, 0, none⟩) hz).trans k0); (have k1 := (HB4.out.cell (p := ⟨w1.heap.size, 1, none⟩) hz).trans k1); (have k2 := (HB4.out.cell (p := ⟨w1.heap.size, 2, none⟩) hz).trans k2); (have k3 := (HB4.out.cell (p := ⟨w1.heap.size, 3, none⟩) hz).trans k3); (have k4 := (HB4.out.cell (p := ⟨w1.heap.size, 4, none⟩) hz).trans k4); (have k5 := (HB4.out.cell (p := ⟨w1.heap.size, 5, none⟩) hz).trans k5); (have hz4 : w1.heap.size < w4.heap.size := Nat.lt_of_lt_of_le hz HB4.out.size); clear hb4) | (go_at_call 59; refine (stext_any _ _ _ (by first | exact HLV.out | exact HRV.out) (by omega) (by omega) _ (by exact HT4.out)).mono ?_; rintro e w5 ⟨rfl, hb5⟩; (have HB5 := Lib.hid (show Bel w4 w5 by first | exact hb5 | exact (Bel.refl _).drew.on hb5)); (have k0 := (HB5.out.cell (p := ⟨w1.heap.size, 0, none⟩) hz4).trans k0); (have k1 := (HB5.out.cell (p := ⟨w1.heap.size, 1, none⟩) hz4).trans k1); (have k2 := (HB5.out.cell (p := ⟨w1.heap.size, 2, none⟩) hz4).trans k2); (have k3 := (HB5.out.cell (p := ⟨w1.heap.size, 3, none⟩) hz4).trans k3); (have k4 := (HB5.out.cell (p := ⟨w1.heap.size, 4, none⟩) hz4).trans k4); (have k5 := (HB5.out.cell (p := ⟨w1.heap.size, 5, none⟩) hz4).trans k5); clear hb5))
  all_goals
    go_wp2
    go_ret
    exact ⟨by rw [HX.out]; congr 2, HBW.out.on (HB4.out.on HB5.out)⟩

theorem iisMult_any (c : Int) (w : World) : Calls Tryd.prog 66 #[.int .u8 c] w fun e w' => e = .returned (.bool (isMultB c)) ∧ w = w' := by
  by_cases h0 : 1 ≤ c <;> by_cases h1 : c ≤ 3
  all_goals
    have e : isMultB c = (decide (1 ≤ c) && decide (c ≤ 3)) := rfl
    simp only [h0, h1, decide_true, decide_false, Bool.and_self, Bool.and_false, Bool.false_and] at e
    have E := Lib.hid e
    clear e
    go_enter Tryd.func66, Tryd.ntmps66
    go_wp2
    go_ret
    exact ⟨ret_bool E.out.symm, rfl⟩
theorem is_yes {v m : Int} (h : isB v m = true) (w : World) : Calls Tryd.prog 21 #[.agg #[.int .i64 v, .int .u8 m]] w fun e w' => e = .returned (.int .i64 0) ∧ Bel w w' := by
  have := is_any v m w; rw [h] at this; exact this
theorem is_no {v m : Int} (h : isB v m = false) (w : World) : Calls Tryd.prog 21 #[.agg #[.int .i64 v, .int .u8 m]] w fun e w' => e = .returned (.int .i64 2) ∧ Bel w w' := by
  have := is_any v m w; rw [h] at this; exact this
set_option maxRecDepth 100000 in
set_option maxHeartbeats 1000000 in
theorem imay_any (v m c r : Int) (w : World) : Calls Tryd.prog 35 #[.agg #[.int .i64 v, .int .u8 m, .int .u8 c, .int .i64 r]] w fun e w' => e = .returned (.int .i64 (errF (mayI v m c r))) ∧ Bel w w' := by
  rcases Bool.eq_false_or_eq_true (isB v m) with hi | hi
  case inr =>
    have E : Hid ((2 : Int) = errF (mayI v m c r)) := Lib.hid (by unfold mayI; rw [hi]; rfl)
    have HI := Lib.hid hi
    clear hi
    go_enter Tryd.func35, Tryd.ntmps35
    go_wp2_with (go_at_call 21; refine (is_no HI.out _).mono ?_; rintro e w1 ⟨rfl, hb1⟩)
    go_ret
    exact ⟨ret_int E.out, ((Bel.refl _).alloc _).on hb1⟩
  case inl =>
    rcases Bool.eq_false_or_eq_true (isMultB c) with hc | hc <;> by_cases h0 : r < -1 <;> by_cases h1 : 1048576 ≤ r
    all_goals
      first
      | (exfalso; omega)
      | skip
    all_goals
      have e : mayI v m c r = (isB v m && isMultB c && decide (-1 ≤ r) && decide (r < 1048576)) := rfl
      have d0 : decide (-1 ≤ r) = !decide (r < -1) := by by_cases h : r < -1 <;> simp [h] <;> omega
      have d1 : decide (r < 1048576) = !decide (1048576 ≤ r) := by by_cases h : 1048576 ≤ r <;> simp [h] <;> omega
      rw [d0, d1] at e
      simp only [hi, hc, h0, h1, decide_true, decide_false, Bool.not_true, Bool.not_false, Bool.and_self, Bool.and_false, Bool.and_true] at e
      have E := Lib.hid e
      have HI := Lib.hid hi
      have HC := Lib.hid hc
      have HM : Hid (∀ W, Calls Tryd.prog 66 #[.int .u8 c] W fun e w' => e = .returned (.bool _) ∧ W = w') := Lib.hid (fun W => by have h := iisMult_any c W; rw [hc] at h; exact h)
      clear e hi hc d0 d1
      go_enter Tryd.func35, Tryd.ntmps35
      go_wp2_with fail
      refine (is_yes HI.out _).mono ?_
      rintro e w1 ⟨rfl, hb1⟩
      obtain ⟨k0, k1, k2, k3⟩ := cells4 (hb1.blk (blk1 w _))
      have HB := Lib.hid hb1
      clear hb1
      go_wp2_with (go_at_call 66; refine (HM.out _).mono ?_; rintro e w' ⟨rfl, rfl⟩)
      all_goals first
      | (exfalso; omega)
      | (go_ret; exact ⟨ret_int (by rw [E.out]; rfl), ((Bel.refl _).alloc _).on HB.out⟩)
end Go.Proofs.YteegoecanbonoaaDoor.Mu
