/-
  The statement TermKnown: walked; what the listed tables hold is a premise.
-/
import Derived.Test.YteegoecanbonoaaDoorText
import Derived.Test.YteegoecanbonoaaDoorTermX
import Derived.Test.YteegoecanbonoaaDoorTermG
namespace Go.Proofs.YteegoecanbonoaaDoor.Mu
open Go.ChangeShapes Go.WideShapes Go.ChangeAt Go.RowKit

set_option maxRecDepth 100000 in
set_option maxHeartbeats 2000000 in
theorem termKnown_any (w : World) (ht : Tabs w) : Calls Tryd.prog 3 #[] w fun e w' => e = .returned (.bool true) ∧ Bel w w' := by
  have HT := Lib.hid ht
  clear ht
  have HJ1 : Hid (∀ (W : World) (A B : Option Addr) (n k m j cap g : Nat), g = W.heap.size → RI .i64 W W.heap.size A n [3] → RI .i64 W W.heap.size B m [5] → Calls Tryd.prog 12 #[.slice (some ⟨g, 0, none⟩) 2 cap] (W.alloc (.cells #[.bool false, .int .u8 1, .slice A n k, .bool false, .int .u8 2, .slice B m j] 25)) (GivesTE false 2 [3, 5] 0 (W.alloc (.cells #[.bool false, .int .u8 1, .slice A n k, .bool false, .int .u8 2, .slice B m j] 25)))) :=
    Lib.hid fun W A B n k m j cap g hg hr hq => by
      have h := join2_ok false false 1 2 A B n k m j cap g [3] [5] W hg hr hq (by have := hr.len; have := hq.len; simp at *; omega) (by decide +kernel) (by decide +kernel)
      have e : j2L false false 1 2 [3] [5] = [3, 5] := srt_rising (by simp)
      rw [e] at h
      exact h
  have HJ2 : Hid (∀ (W : World) (B : Option Addr) (m j cap g : Nat), g = W.heap.size → RI .i64 W W.heap.size B m [3] → Calls Tryd.prog 12 #[.slice (some ⟨g, 0, none⟩) 2 cap] (W.alloc (.cells #[.bool true, .int .u8 0, .slice none 0 0, .bool false, .int .u8 1, .slice B m j] 25)) (GivesTE false 2 [3] 0 (W.alloc (.cells #[.bool true, .int .u8 0, .slice none 0 0, .bool false, .int .u8 1, .slice B m j] 25)))) :=
    Lib.hid fun W B m j cap g hg hq => by
      have h := join2_ok true false 0 1 none B 0 0 m j cap g [] [3] W hg RI.nil_ hq (by have := hq.len; simp at *; omega) (by decide +kernel) (by decide +kernel)
      have e : j2L true false 0 1 [] [3] = [3] := srt_rising (by simp)
      rw [e] at h
      exact h
  have HSm : Hid (∀ (W : World) (A : Option Addr) (n k cap g : Nat), g = W.heap.size → RI .i64 W W.heap.size A n [3] → Calls Tryd.prog 14 #[.slice (some ⟨g, 0, none⟩) 2 cap] (W.alloc (.cells #[.bool false, .int .u8 1, .slice A n k, .bool false, .int .u8 1, .slice none 0 0] 25)) (GivesTE false 3 [] 0 (W.alloc (.cells #[.bool false, .int .u8 1, .slice A n k, .bool false, .int .u8 1, .slice none 0 0] 25)))) :=
    Lib.hid fun W A n k cap g hg hr => by
      have h := sum2_ok false false 1 1 A none n k 0 0 cap g [3] [] W hg hr RI.nil_ (by have := hr.len; simp at *; omega) (by decide +kernel) (by decide +kernel)
      exact h
  have HSc : Hid (∀ (W : World) (A : Option Addr) (n k : Nat), RI .i64 W W.heap.size A n [3] → Calls Tryd.prog 15 #[.agg #[.int .i64 5, .int .u8 0], .agg #[.bool false, .int .u8 1, .slice A n k]] W (GivesTE false 1 [3, 5] 0 W)) :=
    Lib.hid fun W A n k hr => by
      have h := scaleT_yes 5 0 false 1 A n k [3] W hr (by have := hr.len; simp at *; omega) (by decide +kernel) (by decide +kernel)
      have e : scL false 5 0 1 [3] = [3, 5] := srt_rising (by simp)
      rw [e] at h
      exact h
  have t1 : textT false 2 [3, 5] = [63, 124, 109, 51, 124, 109, 53] := by decide +kernel
  have t2 : textT false 2 [3] = [63, 124, 109, 51] := by decide +kernel
  have t3 : textT false 3 [] = [42] := by decide +kernel
  have t4 : textT false 1 [3, 5] = [109, 51, 124, 109, 53] := by decide +kernel
  have HX1 : Hid (∀ (W : World) (A : Option Addr) (n k : Nat), Tabs W → RI .i64 W W.heap.size A n [3, 5] → Calls Tryd.prog 17 #[.agg #[.bool false, .int .u8 2, .slice A n k]] W fun e w' => e = .returned (.string ⟨#[63, 124, 109, 51, 124, 109, 53]⟩) ∧ Bel W w') := Lib.hid fun W A n k hT hr => by
    have h := textT_any false 2 A n k [3, 5] W hr (by have := hr.len; simp at *; omega) (by simp) (by omega) (by omega) hT
    rw [t1] at h; exact h
  have HX2 : Hid (∀ (W : World) (A : Option Addr) (n k : Nat), Tabs W → RI .i64 W W.heap.size A n [3] → Calls Tryd.prog 17 #[.agg #[.bool false, .int .u8 2, .slice A n k]] W fun e w' => e = .returned (.string ⟨#[63, 124, 109, 51]⟩) ∧ Bel W w') := Lib.hid fun W A n k hT hr => by
    have h := textT_any false 2 A n k [3] W hr (by have := hr.len; simp at *; omega) (by simp) (by omega) (by omega) hT
    rw [t2] at h; exact h
  have HX3 : Hid (∀ (W : World) (A : Option Addr) (n k : Nat), Tabs W → RI .i64 W W.heap.size A n [] → Calls Tryd.prog 17 #[.agg #[.bool false, .int .u8 3, .slice A n k]] W fun e w' => e = .returned (.string ⟨#[42]⟩) ∧ Bel W w') := Lib.hid fun W A n k hT hr => by
    have h := textT_any false 3 A n k [] W hr (by have := hr.len; simp at *; omega) (by simp) (by omega) (by omega) hT
    rw [t3] at h; exact h
  have HX4 : Hid (∀ (W : World) (A : Option Addr) (n k : Nat), Tabs W → RI .i64 W W.heap.size A n [3, 5] → Calls Tryd.prog 17 #[.agg #[.bool false, .int .u8 1, .slice A n k]] W fun e w' => e = .returned (.string ⟨#[109, 51, 124, 109, 53]⟩) ∧ Bel W w') := Lib.hid fun W A n k hT hr => by
    have h := textT_any false 1 A n k [3, 5] W hr (by have := hr.len; simp at *; omega) (by simp) (by omega) (by omega) hT
    rw [t4] at h; exact h
  clear t1 t2 t3 t4
  go_enter Tryd.func3, Tryd.ntmps3
  go_wp2_with fail
  refine (some_any _ _ _ _ _).mono ?_
  rintro e w1 ⟨rfl, hb1⟩
  have B1 : Hid (Bel w w1) := Lib.hid (((Bel.refl w).alloc _).on hb1)
  have R1 := Lib.hid (((ri_one w 3).lt (by simp)).bel hb1)
  clear hb1
  go_wp2_with fail
  refine (some_any _ _ _ _ _).mono ?_
  rintro e w2 ⟨rfl, hb2⟩
  have B2 : Hid (Bel w1 w2) := Lib.hid (((Bel.refl w1).alloc _).on hb2)
  have R2 := Lib.hid (((ri_one w1 5).lt (by simp)).bel hb2)
  clear hb2
  go_wp2_with fail
  refine (HJ1.out w2 _ _ _ _ _ _ _ _ (by simp) (R1.out.bel B2.out) R2.out).mono ?_
  rintro e w3 ⟨A3, n3, c3, rfl, hr3, hb3⟩
  have B3 : Hid (Bel w w3) := Lib.hid ((B1.out.on B2.out).on (((Bel.refl w2).alloc _).on hb3))
  have R3 := Lib.hid hr3
  clear hb3 hr3
  go_wp2_with fail
  refine (some_any _ _ _ _ _).mono ?_
  rintro e w4 ⟨rfl, hb4⟩
  have B4 : Hid (Bel w3 w4) := Lib.hid ((((Bel.refl w3).alloc _).alloc _).on hb4)
  have K1 : Hid (w4.heap[w3.heap.size]? = some (.cells #[.bool false, .int .u8 2, .slice A3 n3 c3] 25 (0, 0))) := Lib.hid (hb4.blk ((blk2 w3 _ _).1))
  have R4 := Lib.hid (((ri_one (w3.alloc (.cells #[.bool false, .int .u8 2, .slice A3 n3 c3] 25)) 3).lt (by simp)).bel hb4)
  clear hb4
  go_wp2_with fail
  refine (HJ2.out w4 _ _ _ _ _ (by simp) (by simpa using R4.out)).mono ?_
  rintro e w5 ⟨A5, n5, c5, rfl, hr5, hb5⟩
  have B5 : Hid (Bel w4 w5) := Lib.hid (((Bel.refl w4).alloc _).on hb5)
  have R5 := Lib.hid hr5
  clear hb5 hr5
  go_wp2_with fail
  refine (some_any _ _ _ _ _).mono ?_
  rintro e w6 ⟨rfl, hb6⟩
  have B6 : Hid (Bel w5 w6) := Lib.hid ((((Bel.refl w5).alloc _).alloc _).on hb6)
  have K2 : Hid (w6.heap[w5.heap.size]? = some (.cells #[.bool false, .int .u8 2, .slice A5 n5 c5] 25 (0, 0))) := Lib.hid (hb6.blk ((blk2 w5 _ _).1))
  have R6 := Lib.hid (((ri_one (w5.alloc (.cells #[.bool false, .int .u8 2, .slice A5 n5 c5] 25)) 3).lt (by simp)).bel hb6)
  clear hb6
  go_wp2_with fail
  refine (some_any _ _ _ _ _).mono ?_
  rintro e w7 ⟨rfl, hb7⟩
  have B7 : Hid (Bel w6 w7) := Lib.hid hb7
  clear hb7
  go_wp2_with fail
  refine (HSm.out w7 _ _ _ _ _ (by simp) (by simpa using R6.out.bel B7.out)).mono ?_
  rintro e w8 ⟨A8, n8, c8, rfl, hr8, hb8⟩
  have B8 : Hid (Bel w7 w8) := Lib.hid (((Bel.refl w7).alloc _).on hb8)
  have R8 := Lib.hid hr8
  clear hb8 hr8
  go_wp2_with fail
  refine (some_any _ _ _ _ _).mono ?_
  rintro e w9 ⟨rfl, hb9⟩
  have B9 : Hid (Bel w8 w9) := Lib.hid ((((Bel.refl w8).alloc _).alloc _).on hb9)
  have K3 : Hid (w9.heap[w8.heap.size]? = some (.cells #[.bool false, .int .u8 3, .slice A8 n8 c8] 25 (0, 0))) := Lib.hid (hb9.blk ((blk2 w8 _ _).1))
  have R9 := Lib.hid (((ri_one (w8.alloc (.cells #[.bool false, .int .u8 3, .slice A8 n8 c8] 25)) 3).lt (by simp)).bel hb9)
  clear hb9
  go_wp2_with fail
  refine (HSc.out w9 _ _ _ (by simpa using R9.out)).mono ?_
  rintro e w10 ⟨A10, n10, c10, rfl, hr10, hb10⟩
  have B10 : Hid (Bel w9 w10) := Lib.hid hb10
  have R10 := Lib.hid hr10
  clear hb10 hr10
  go_wp2_with fail
  refine (works2_any _).mono ?_
  rintro e w11 ⟨rfl, hb11⟩
  have B11 : Hid (Bel w10 w11) := Lib.hid (((Bel.refl w10).alloc _).on hb11)
  have K4 : Hid (w11.heap[w10.heap.size]? = some (.cells #[.bool false, .int .u8 1, .slice A10 n10 c10] 25 (0, 0))) := Lib.hid (hb11.blk (blk1 w10 _))
  clear hb11
  have C34 : Hid (Bel w3 w11) := Lib.hid (B4.out.on (B5.out.on (B6.out.on (B7.out.on (B8.out.on (B9.out.on (B10.out.on B11.out)))))))
  have C5 : Hid (Bel w5 w11) := Lib.hid (B6.out.on (B7.out.on (B8.out.on (B9.out.on (B10.out.on B11.out)))))
  have C8 : Hid (Bel w8 w11) := Lib.hid (B9.out.on (B10.out.on B11.out))
  have K1 := Lib.hid ((B5.out.on (B6.out.on (B7.out.on (B8.out.on (B9.out.on (B10.out.on B11.out)))))).blk K1.out)
  have K2 := Lib.hid ((B7.out.on (B8.out.on (B9.out.on (B10.out.on B11.out)))).blk K2.out)
  have K3 := Lib.hid ((B10.out.on B11.out).blk K3.out)
  obtain ⟨a0, a1, a2, _, _, _⟩ := cells3 K1.out
  go_wp2_with fail
  refine (HX1.out w11 _ _ _ (HT.out.bel (B3.out.on C34.out)) (R3.out.bel C34.out)).mono ?_
  rintro e w12 ⟨rfl, hb12⟩
  have B12 := Lib.hid hb12
  obtain ⟨d0, d1, d2, _, _, _⟩ := cells3 (hb12.blk K2.out)
  clear hb12 a0 a1 a2
  go_wp2_with fail
  refine (HX2.out w12 _ _ _ (HT.out.bel (B3.out.on (C34.out.on B12.out))) (R5.out.bel (C5.out.on B12.out))).mono ?_
  rintro e w13 ⟨rfl, hb13⟩
  have B13 := Lib.hid (B12.out.on hb13)
  obtain ⟨f0, f1, f2, _, _, _⟩ := cells3 (B13.out.blk K3.out)
  clear hb13 d0 d1 d2
  go_wp2_with fail
  refine (HX3.out w13 _ _ _ (HT.out.bel (B3.out.on (C34.out.on B13.out))) (R8.out.bel (C8.out.on B13.out))).mono ?_
  rintro e w14 ⟨rfl, hb14⟩
  have B14 := Lib.hid (B13.out.on hb14)
  obtain ⟨h0, h1, h2, _, _, _⟩ := cells3 (B14.out.blk K4.out)
  clear hb14 f0 f1 f2
  go_wp2_with fail
  refine (HX4.out w14 _ _ _ (HT.out.bel (B3.out.on (C34.out.on B14.out))) (R10.out.bel (B11.out.on B14.out))).mono ?_
  rintro e w15 ⟨rfl, hb15⟩
  have B15 := Lib.hid (B14.out.on hb15)
  clear hb15 h0 h1 h2
  go_wp2_with fail
  go_ret
  exact ⟨rfl, B3.out.on (C34.out.on B15.out)⟩
end Go.Proofs.YteegoecanbonoaaDoor.Mu
