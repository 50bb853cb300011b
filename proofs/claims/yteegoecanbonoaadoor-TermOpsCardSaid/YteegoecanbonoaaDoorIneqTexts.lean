/-
  The statement IneqTexts: walked; what the listed tables hold is a premise.
-/
import Derived.Test.YteegoecanbonoaaDoorIneqEq
import Derived.Deep.RegionHeld3
namespace Go.Proofs.YteegoecanbonoaaDoor.Mu
open Go.ChangeShapes Go.WideShapes Go.ChangeAt Go.RowKit

theorem ba_ne {a b : List UInt8} (h : ¬ a = b) : ((⟨a.toArray⟩ : ByteArray) == ⟨b.toArray⟩) = false := by
  rw [beq_toListBytes, ByteArray.toList_eq, ByteArray.toList_eq]
  simp [h]
theorem may_text {x : Iq} (h : x.may = true) (W : World) (hW : Tabs W) : Calls Tryd.prog 32 #[.agg #[.int .i64 x.v, .int .u8 x.m, .int .u8 x.c, .int .i64 x.r]] W fun e w' => e = .returned (.string ⟨x.text.toArray⟩) ∧ Bel W w' := by
  unfold Iq.may mayI at h
  simp only [Bool.and_eq_true, decide_eq_true_eq] at h
  have hc' := isMultB_bd h.1.1.2
  exact itext_any x.v x.m x.c x.r h.1.1.1 (by omega) (by omega) h.1.2 h.2 W hW
theorem text_len {x : Iq} (h : x.may = true) : x.text.length ≤ 300 := by
  have h1 := sideS_len (c := lcF x.m) (may_left h)
  have h2 := sideS_len (c := x.c) (may_right h)
  unfold Iq.text
  unfold Iq.may mayI at h
  simp only [Bool.and_eq_true, decide_eq_true_eq] at h
  rw [textI_sides h.1.1.1]
  simp; omega

set_option maxRecDepth 100000 in
set_option maxHeartbeats 2000000 in
theorem ineqTexts_any (x y : Iq) (w : World) (ht : Tabs w) : Calls Tryd.prog 11 #[.agg #[.int .i64 x.v, .int .u8 x.m, .int .u8 x.c, .int .i64 x.r], .agg #[.int .i64 y.v, .int .u8 y.m, .int .u8 y.c, .int .i64 y.r]] w fun e w' => e = .returned (.bool true) ∧ Bel w w' := by
  have HT := Lib.hid ht
  clear ht
  rcases Bool.eq_false_or_eq_true x.may with hx | hx
  case inr =>
    have HX := Lib.hid hx
    clear hx
    go_enter Tryd.func11, Tryd.ntmps11
    go_wp2_with fail
    refine (imay_no HX.out _).mono ?_
    rintro e w1 ⟨rfl, hb1⟩
    have HB1 : Hid (Bel w w1) := Lib.hid ((((Bel.refl w).alloc _).alloc _).on hb1)
    clear hb1
    go_wp2_with fail
    refine (works3_any _ (HT.out.bel HB1.out)).mono ?_
    rintro e w2 ⟨rfl, hb2⟩
    have HB2 := Lib.hid (HB1.out.on hb2)
    clear hb2
    go_wp2_with fail
    go_ret
    exact ⟨rfl, HB2.out⟩
  case inl =>
    have HX := Lib.hid hx
    clear hx
    rcases Bool.eq_false_or_eq_true y.may with hy | hy
    case inr =>
      have HY := Lib.hid hy
      clear hy
      go_enter Tryd.func11, Tryd.ntmps11
      go_wp2_with fail
      refine (imay_yes HX.out _).mono ?_
      rintro e w1 ⟨rfl, hb1⟩
      have HB1 : Hid (Bel w w1) := Lib.hid ((((Bel.refl w).alloc _).alloc _).on hb1)
      obtain ⟨b0, b1, b2, b3⟩ := cells4 (hb1.blk (blk2 w _ _).2)
      clear hb1
      go_wp2_with fail
      refine (imay_no HY.out _).mono ?_
      rintro e w2 ⟨rfl, hb2⟩
      have HB2 := Lib.hid (HB1.out.on hb2)
      clear hb2 b0 b1 b2 b3
      go_wp2_with fail
      refine (works3_any _ (HT.out.bel HB2.out)).mono ?_
      rintro e w3 ⟨rfl, hb3⟩
      have HB3 := Lib.hid (HB2.out.on hb3)
      clear hb3
      go_wp2_with fail
      go_ret
      exact ⟨rfl, HB3.out⟩
    case inl =>
      have HY := Lib.hid hy
      clear hy
      have HI : Hid (x.text = y.text ↔ x = y) := Lib.hid (by
        obtain ⟨v, m, c, r⟩ := x
        obtain ⟨u, k, d, q⟩ := y
        have h := textI_inj HX.out HY.out
        simp only [Iq.mk.injEq]
        exact h)
      by_cases hxy : x = y
      case' pos =>
        have hE := ineq_in x y
        rw [decide_eq_true hxy] at hE
        have hS : x.text = y.text := HI.out.2 hxy
        have hQ : ((⟨x.text.toArray⟩ : ByteArray) == ⟨y.text.toArray⟩) = true := by rw [hS, beq_toListBytes]; simp
        have hQ2 : (x.text == y.text) = true := by rw [hS]; simp
        have hQ3 : (x.text = y.text) = True := by simp [hS]
      case' neg =>
        have hE := ineq_in x y
        rw [decide_eq_false hxy] at hE
        have hS : ¬ x.text = y.text := fun e => hxy (HI.out.1 e)
        have hQ := ba_ne hS
        have hQ2 : (x.text == y.text) = false := by simp [hS]
        have hQ3 : (x.text = y.text) = False := by simp [hS]
      all_goals
        clear hxy hS
        go_enter Tryd.func11, Tryd.ntmps11
        go_wp2_with fail
        refine (imay_yes HX.out _).mono ?_
        rintro e w1 ⟨rfl, hb1⟩
        have HB1 : Hid (Bel w w1) := Lib.hid ((((Bel.refl w).alloc _).alloc _).on hb1)
        have HK0 := Lib.hid (hb1.blk (blk2 w _ _).1)
        have HK1 := Lib.hid (hb1.blk (blk2 w _ _).2)
        obtain ⟨b0, b1, b2, b3⟩ := cells4 HK1.out
        clear hb1
        go_wp2_with fail
        refine (imay_yes HY.out _).mono ?_
        rintro e w2 ⟨rfl, hb2⟩
        have HB2 := Lib.hid (HB1.out.on hb2)
        have HTW := Lib.hid (HT.out.bel HB2.out)
        clear b0 b1 b2 b3
        obtain ⟨k0, k1, k2, k3⟩ := cells4 (hb2.blk HK0.out)
        obtain ⟨k4, k5, k6, k7⟩ := cells4 (hb2.blk HK1.out)
        have hz : w.heap.size < w2.heap.size := (Array.getElem?_eq_some_iff.1 (hb2.blk HK0.out)).1
        have hy : w.heap.size + 1 < w2.heap.size := (Array.getElem?_eq_some_iff.1 (hb2.blk HK1.out)).1
        clear hb2
        go_wp2_with fail
        have tok1 : True := trivial
        have tok2 : True := trivial
        go_region_held3 (fun w' => w'.cell? ⟨w.heap.size, 0, none⟩ = some (.int .i64 x.v) ∧ w'.cell? ⟨w.heap.size, 1, none⟩ = some (.int .u8 x.m) ∧ w'.cell? ⟨w.heap.size, 2, none⟩ = some (.int .u8 x.c) ∧ w'.cell? ⟨w.heap.size, 3, none⟩ = some (.int .i64 x.r) ∧ w'.cell? ⟨w.heap.size + 1, 0, none⟩ = some (.int .i64 y.v) ∧ w'.cell? ⟨w.heap.size + 1, 1, none⟩ = some (.int .u8 y.m) ∧ w'.cell? ⟨w.heap.size + 1, 2, none⟩ = some (.int .u8 y.c) ∧ w'.cell? ⟨w.heap.size + 1, 3, none⟩ = some (.int .i64 y.r)) (go_keep)
          (first | (go_at_call 32; have _t := tok1; refine (may_text HX.out _ (by exact HTW.out)).mono ?_; rintro e w4 ⟨rfl, hb4⟩; clear _t tok1; (have HB4 := Lib.hid (show Bel w2 w4 by first | exact hb4 | exact (Bel.refl _).drew.on hb4)); (have HT4 := Lib.hid (HTW.out.bel HB4.out)); (have k0 := (HB4.out.cell (p := ⟨w.heap.size, 0, none⟩) hz).trans k0); (have k1 := (HB4.out.cell (p := ⟨w.heap.size, 1, none⟩) hz).trans k1); (have k2 := (HB4.out.cell (p := ⟨w.heap.size, 2, none⟩) hz).trans k2); (have k3 := (HB4.out.cell (p := ⟨w.heap.size, 3, none⟩) hz).trans k3); (have k4 := (HB4.out.cell (p := ⟨w.heap.size + 1, 0, none⟩) hy).trans k4); (have k5 := (HB4.out.cell (p := ⟨w.heap.size + 1, 1, none⟩) hy).trans k5); (have k6 := (HB4.out.cell (p := ⟨w.heap.size + 1, 2, none⟩) hy).trans k6); (have k7 := (HB4.out.cell (p := ⟨w.heap.size + 1, 3, none⟩) hy).trans k7); (have hz4 : w.heap.size < w4.heap.size := Nat.lt_of_lt_of_le hz HB4.out.size); (have hy4 : w.heap.size + 1 < w4.heap.size := Nat.lt_of_lt_of_le hy HB4.out.size); clear hb4) | (go_at_call 32; refine (may_text HY.out _ (by exact HT4.out)).mono ?_; rintro e w5 ⟨rfl, hb5⟩; (have HB5 := Lib.hid (show Bel w4 w5 by first | exact hb5 | exact (Bel.refl _).drew.on hb5)); (have HT5 := Lib.hid (HT4.out.bel HB5.out)); (have k0 := (HB5.out.cell (p := ⟨w.heap.size, 0, none⟩) hz4).trans k0); (have k1 := (HB5.out.cell (p := ⟨w.heap.size, 1, none⟩) hz4).trans k1); (have k2 := (HB5.out.cell (p := ⟨w.heap.size, 2, none⟩) hz4).trans k2); (have k3 := (HB5.out.cell (p := ⟨w.heap.size, 3, none⟩) hz4).trans k3); (have k4 := (HB5.out.cell (p := ⟨w.heap.size + 1, 0, none⟩) hy4).trans k4); (have k5 := (HB5.out.cell (p := ⟨w.heap.size + 1, 1, none⟩) hy4).trans k5); (have k6 := (HB5.out.cell (p := ⟨w.heap.size + 1, 2, none⟩) hy4).trans k6); (have k7 := (HB5.out.cell (p := ⟨w.heap.size + 1, 3, none⟩) hy4).trans k7); (have hz5 : w.heap.size < w5.heap.size := Nat.lt_of_lt_of_le hz4 HB5.out.size); (have hy5 : w.heap.size + 1 < w5.heap.size := Nat.lt_of_lt_of_le hy4 HB5.out.size); clear hb5) | (go_at_call 30; refine (works3_any _ (by exact HT5.out)).mono ?_; rintro e w6 ⟨rfl, hb6⟩; (have HB6 := Lib.hid (show Bel w5 w6 by first | exact hb6 | exact (Bel.refl _).drew.on hb6)); (have k0 := (HB6.out.cell (p := ⟨w.heap.size, 0, none⟩) hz5).trans k0); (have k1 := (HB6.out.cell (p := ⟨w.heap.size, 1, none⟩) hz5).trans k1); (have k2 := (HB6.out.cell (p := ⟨w.heap.size, 2, none⟩) hz5).trans k2); (have k3 := (HB6.out.cell (p := ⟨w.heap.size, 3, none⟩) hz5).trans k3); (have k4 := (HB6.out.cell (p := ⟨w.heap.size + 1, 0, none⟩) hy5).trans k4); (have k5 := (HB6.out.cell (p := ⟨w.heap.size + 1, 1, none⟩) hy5).trans k5); (have k6 := (HB6.out.cell (p := ⟨w.heap.size + 1, 2, none⟩) hy5).trans k6); (have k7 := (HB6.out.cell (p := ⟨w.heap.size + 1, 3, none⟩) hy5).trans k7); clear hb6))
        go_wp2
        go_ret
        exact ⟨rfl, HB2.out.on (HB4.out.on (HB5.out.on HB6.out))⟩
end Go.Proofs.YteegoecanbonoaaDoor.Mu
