/-
  The statement IneqKnown: walked; what the listed tables hold is a premise.
-/
import Derived.Test.YteegoecanbonoaaDoorIneqX
namespace Go.Proofs.YteegoecanbonoaaDoor.Mu
open Go.ChangeShapes Go.WideShapes Go.ChangeAt Go.RowKit

set_option maxRecDepth 100000 in
set_option maxHeartbeats 2000000 in
theorem ineqKnown_any (w : World) (ht : Tabs w) : Calls Tryd.prog 6 #[] w fun e w' => e = .returned (.bool true) ∧ Bel w w' := by
  have HT := Lib.hid ht
  clear ht
  have HB1 : Hid (∀ (W : World) (A : Option Addr) (n k : Nat), Tabs W → RI .i64 W W.heap.size A n [3] → Calls Tryd.prog 29 #[.agg #[.bool false, .int .u8 1, .slice A n k], .int .u8 2, .agg #[.int .i64 3, .int .u8 0]] W (GivesS [] 0 W)) := Lib.hid fun W A n k hT hr => by
    have h := below_any false 1 A n k [3] 2 3 0 W hr (by have := hr.len; simp at this; omega) (by decide +kernel) (by decide +kernel) (by decide +kernel) hT
    have e : (fitsL false 1 [3] 2 3 0).map Iq.text = [] := by decide +kernel
    rw [e] at h; exact h
  have HB2 : Hid (∀ (W : World), Tabs W → Calls Tryd.prog 29 #[.agg #[.bool true, .int .u8 0, .slice none 0 0], .int .u8 1, .agg #[.int .i64 0, .int .u8 1]] W (GivesS [[63, 32, 60, 61, 32, 49]] 0 W)) := Lib.hid fun W hT => by
    have h := below_any true 0 none 0 0 [] 1 0 1 W RI.nil_ (by omega) (by decide +kernel) (by decide +kernel) (by decide +kernel) hT
    have e : (fitsL true 0 [] 1 0 1).map Iq.text = [[63, 32, 60, 61, 32, 49]] := by decide +kernel
    rw [e] at h; exact h
  have HB3 : Hid (∀ (W : World) (A : Option Addr) (n k : Nat), Tabs W → RI .i64 W W.heap.size A n [3] → Calls Tryd.prog 29 #[.agg #[.bool false, .int .u8 1, .slice A n k], .int .u8 2, .agg #[.int .i64 0, .int .u8 1]] W (GivesS [[109, 51, 32, 60, 61, 32, 63]] 0 W)) := Lib.hid fun W A n k hT hr => by
    have h := below_any false 1 A n k [3] 2 0 1 W hr (by have := hr.len; simp at this; omega) (by decide +kernel) (by decide +kernel) (by decide +kernel) hT
    have e : (fitsL false 1 [3] 2 0 1).map Iq.text = [[109, 51, 32, 60, 61, 32, 63]] := by decide +kernel
    rw [e] at h; exact h
  have HEq : Hid (∀ (s : List UInt8) (W : World) (A B : Option Addr) (n c d : Nat), RS W W.heap.size A n [s] → RS W W.heap.size B 1 [s] → Calls Tryd.prog 31 #[.slice A n c, .slice B 1 d] W fun e w' => e = .returned (.bool true) ∧ Bel W w') := Lib.hid fun s W A B n c d ha hb => by
    have h := sequal_any A B n 1 c d _ _ W ha hb (by have := ha.1; simp at this; omega) (by omega)
    simpa using h
  have HX : Hid (∀ W, Tabs W → Calls Tryd.prog 32 #[.agg #[.int .i64 3, .int .u8 0, .int .u8 2, .int .i64 5]] W fun e w' => e = .returned (.string ⟨#[109, 51, 32, 60, 61, 32, 63, 124, 109, 53]⟩) ∧ Bel W w') := Lib.hid fun W hW => by
    have h := itext_any 3 0 2 5 (by decide +kernel) (by omega) (by omega) (by omega) (by omega) W hW
    have e : textI 3 0 2 5 = [109, 51, 32, 60, 61, 32, 63, 124, 109, 53] := by decide +kernel
    rw [e] at h; exact h
  go_enter Tryd.func6, Tryd.ntmps6
  go_wp2_with fail
  refine (HB1.out _ _ _ _ (HT.out.bel (((Bel.refl _).alloc _).alloc _)) (((ri_one w 3).lt (by simp)).bel ((Bel.refl _).alloc _))).mono ?_
  rintro e w1 ⟨A1, n1, k1, rfl, hs1, hb1⟩
  obtain rfl : n1 = 0 := by have := hs1.1; simpa using this
  have K1 := Lib.hid (hb1.blk (blk2 w _ _).2)
  have HC1 : Hid (Bel w w1) := Lib.hid ((((Bel.refl w).alloc _).alloc _).on hb1)
  have HR1 := Lib.hid (((ri_one w 3).lt (by simp)).bel (((Bel.refl _).alloc _).on hb1))
  clear hs1 hb1
  go_wp2_with fail
  refine (HB2.out _ (HT.out.bel HC1.out)).mono ?_
  rintro e w2 ⟨A2, n2, k2, rfl, hs2, hb2⟩
  have HS2 := Lib.hid hs2
  have HC2 := Lib.hid (HC1.out.on hb2)
  have HR2 := Lib.hid (HR1.out.bel hb2)
  obtain ⟨a0, a1, a2, _, _, _⟩ := cells3 (hb2.blk K1.out)
  clear hs2 hb2
  go_wp2_with fail
  refine (HB3.out _ _ _ _ (HT.out.bel HC2.out) (by simpa using HR2.out)).mono ?_
  rintro e w3 ⟨A3, n3, k3, rfl, hs3, hb3⟩
  have HS3 := Lib.hid hs3
  have HB23 := Lib.hid hb3
  have HC3 := Lib.hid (HC2.out.on hb3)
  clear hs3 hb3 a0 a1 a2
  go_wp2_with fail
  refine (works3_any _ (HT.out.bel HC3.out)).mono ?_
  rintro e w4 ⟨rfl, hb4⟩
  have HB4 := Lib.hid hb4
  clear hb4
  go_wp2_with fail
  refine (HEq.out [63, 32, 60, 61, 32, 49] _ _ _ _ _ _ ((HS2.out.bel (HB23.out.on HB4.out)).bel ((Bel.refl _).alloc _)) (by simpa using rs_one w4 [63, 32, 60, 61, 32, 49] 9)).mono ?_
  rintro e w5 ⟨rfl, hb5⟩
  have HB5 : Hid (Bel w4 w5) := Lib.hid (((Bel.refl w4).alloc _).on hb5)
  clear hb5
  go_wp2_with fail
  refine (HEq.out [109, 51, 32, 60, 61, 32, 63] _ _ _ _ _ _ ((HS3.out.bel (HB4.out.on HB5.out)).bel ((Bel.refl _).alloc _)) (by simpa using rs_one w5 [109, 51, 32, 60, 61, 32, 63] 9)).mono ?_
  rintro e w6 ⟨rfl, hb6⟩
  have HB6 : Hid (Bel w4 w6) := Lib.hid (HB5.out.on (((Bel.refl w5).alloc _).on hb6))
  clear hb6
  go_wp2_with fail
  refine (HX.out _ (HT.out.bel (HC3.out.on (HB4.out.on HB6.out)))).mono ?_
  rintro e w7 ⟨rfl, hb7⟩
  have HB7 := Lib.hid (HB6.out.on hb7)
  clear hb7
  go_wp2_with fail
  go_ret
  exact ⟨rfl, HC3.out.on (HB4.out.on HB7.out)⟩
end Go.Proofs.YteegoecanbonoaaDoor.Mu
