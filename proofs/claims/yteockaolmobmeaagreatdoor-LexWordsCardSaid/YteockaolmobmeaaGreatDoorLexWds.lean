/-
  LexWords and LexWrites, walked.
-/
import Derived.Test.YteockaolmobmeaaGreatDoorLexKn
import Derived.Test.YteockaolmobmeaaGreatDoorLexGr
import Derived.Test.YteockaolmobmeaaGreatDoorLexWrR
import Derived.Test.YteockaolmobmeaaGreatDoorLexWord
namespace Go.Proofs.YteockaolmobmeaaGreatDoor.Mu
open Go.RowKit Go.Shelf
set_option maxRecDepth 100000

set_option maxHeartbeats 4000000 in
theorem lexWords_any (w : World) (htab : Tbl w) : Calls Tryz.prog 3 #[] w fun e w' => e = .returned (.bool true) ∧ Bel w w' := by
  have HTB := Lib.hid htab
  clear htab
  go_enter Tryz.func3, Tryz.ntmps3
  go_wp2_with fail
  refine (known10_any _ HTB.out).mono ?_
  rintro e w1 ⟨rfl, hb1⟩
  have HB1 := Lib.hid hb1
  clear hb1
  go_wp2_with fail
  refine (words_any _).mono ?_
  rintro e w2 ⟨⟨A2, rfl, hr2⟩, hb2⟩
  have HR2 := Lib.hid hr2
  have HB2 := Lib.hid (HB1.out.on hb2)
  clear hb2 hr2 HB1
  go_wp2_with fail
  refine (rwords_any _).mono ?_
  rintro e w3 ⟨⟨A3, rfl, hr3⟩, hb3⟩
  have HR2' := Lib.hid (HR2.out.bel hb3)
  have HR3 := Lib.hid hr3
  have HB3 := Lib.hid (HB2.out.on hb3)
  clear hb3 hr3 HB2 HR2
  go_wp2_with fail
  refine (alike_any _ HR2'.out HR3.out (by decide) (by decide) (by decide +kernel)).mono ?_
  rintro e w4 ⟨rfl, hb4⟩
  have HB4 := Lib.hid (HB3.out.on hb4)
  clear hb4 HB3 HR2' HR3
  go_wp2_with fail
  refine (prims_any _).mono ?_
  rintro e w5 ⟨⟨A5, rfl, hr5⟩, hb5⟩
  have HR5 := Lib.hid hr5
  have HB5 := Lib.hid (HB4.out.on hb5)
  clear hb5 hr5 HB4
  go_wp2_with fail
  refine (rprims_any _).mono ?_
  rintro e w6 ⟨⟨A6, rfl, hr6⟩, hb6⟩
  have HR5' := Lib.hid (HR5.out.bel hb6)
  have HR6 := Lib.hid hr6
  have HB6 := Lib.hid (HB5.out.on hb6)
  clear hb6 hr6 HB5 HR5
  go_wp2_with fail
  refine (alike_any _ HR5'.out HR6.out (by decide) (by decide) (by decide +kernel)).mono ?_
  rintro e w7 ⟨rfl, hb7⟩
  have HB7 := Lib.hid (HB6.out.on hb7)
  clear hb7 HB6 HR5' HR6
  go_wp2_with fail
  refine (signs_any _).mono ?_
  rintro e w8 ⟨⟨A8, rfl, hr8⟩, hb8⟩
  have HR8 := Lib.hid hr8
  have HB8 := Lib.hid (HB7.out.on hb8)
  clear hb8 hr8 HB7
  go_wp2_with fail
  refine (rsigns_any _).mono ?_
  rintro e w9 ⟨⟨A9, rfl, hr9⟩, hb9⟩
  have HR8' := Lib.hid (HR8.out.bel hb9)
  have HR9 := Lib.hid hr9
  have HB9 := Lib.hid (HB8.out.on hb9)
  clear hb9 hr9 HB8 HR8
  go_wp2_with fail
  refine (alike_any _ HR8'.out HR9.out (by decide) (by decide) (by decide +kernel)).mono ?_
  rintro e w10 ⟨rfl, hb10⟩
  have HB10 := Lib.hid (HB9.out.on hb10)
  clear hb10 HB9 HR8' HR9
  go_wp2
  go_ret
  exact ⟨rfl, HB10.out⟩
set_option maxHeartbeats 4000000 in
theorem lexWrites_any {A : Option Addr} {n cp : Nat} {xs : List Tn} (w : World) (htab : Tbl w) (hr : RTn w w.heap.size A n xs) (hn : n ≤ 1000000000) (hx : ∀ x ∈ xs, x.s.length ≤ 4000000 ∧ -9223372036854775808 ≤ x.n ∧ x.n ≤ 9223372036854775807) :
    Calls Tryz.prog 4 #[.slice A n cp] w fun e w' => e = .returned (.bool true) ∧ Bel w w' := by
  have HTB := Lib.hid htab
  have HR := Lib.hid hr
  have HX := Lib.hid hx
  have HX2 : Hid (∀ x ∈ xs, x.s.length ≤ 1000000000000 ∧ -9223372036854775808 ≤ x.n ∧ x.n ≤ 9223372036854775807) := Lib.hid fun x h => ⟨by have := (hx x h).1; omega, (hx x h).2⟩
  obtain ⟨RS, hRS⟩ : ∃ RS : ByteArray, RS = ⟨(wrO (xs.map Tn.b)).1.toArray⟩ := ⟨_, rfl⟩
  obtain ⟨RE, hRE⟩ : ∃ RE, RE = (wrO (xs.map Tn.b)).2 := ⟨_, rfl⟩
  have HW : Hid (∀ W, Tbl W → RTn W W.heap.size A n xs → Calls Tryz.prog 17 #[.slice A n cp] W fun e w' => e = .returned (.tuple #[.string RS, .int .i64 RE]) ∧ Bel W w') := Lib.hid fun W ht h => by rw [hRS, hRE]; exact write10_any W ht h hn HX2.out
  have HV : Hid (∀ W, RTn W W.heap.size A n xs → Calls Tryz.prog 18 #[.slice A n cp] W fun e w' => e = .returned (.tuple #[.string RS, .int .i64 RE]) ∧ Bel W w') := Lib.hid fun W h => by rw [hRS, hRE]; exact rwrite10_any W h hn HX.out
  clear htab hr hx hRS hRE
  go_enter Tryz.func4, Tryz.ntmps4
  go_wp2_with fail
  refine (known10_any _ HTB.out).mono ?_
  rintro e w1 ⟨rfl, hb1⟩
  have HB1 := Lib.hid hb1
  clear hb1
  go_wp2_with fail
  refine (great10_any _ (HR.out.bel HB1.out) hn).mono ?_
  rintro e w2 ⟨⟨b, rfl, -⟩, hb2⟩
  have HB2 := Lib.hid (HB1.out.on hb2)
  clear hb2
  cases b
  rotate_left
  · go_wp2
    go_ret
    exact ⟨rfl, HB2.out⟩
  go_wp2_with fail
  refine (HW.out _ (HTB.out.bel HB2.out) (HR.out.bel HB2.out)).mono ?_
  rintro e w3 ⟨rfl, hb3⟩
  have HB3 := Lib.hid (HB2.out.on hb3)
  clear hb3
  go_wp2_with fail
  refine (HV.out _ (HR.out.bel HB3.out)).mono ?_
  rintro e w4 ⟨rfl, hb4⟩
  have HB4 := Lib.hid (HB3.out.on hb4)
  clear hb4
  go_wp2
  go_ret
  exact ⟨by first | rfl | simp, HB4.out⟩
end Go.Proofs.YteockaolmobmeaaGreatDoor.Mu

