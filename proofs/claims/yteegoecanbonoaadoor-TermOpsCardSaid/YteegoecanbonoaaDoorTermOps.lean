/-
  The statement TermOps: walked; what the listed tables hold is a premise.
-/
import Derived.Test.YteegoecanbonoaaDoorRefOps
import Derived.Test.YteegoecanbonoaaDoorRefJoin2
import Derived.Test.YteegoecanbonoaaDoorRefSum
import Derived.Test.YteegoecanbonoaaDoorRef02
import Derived.Test.YteegoecanbonoaaDoorRef03F
import Derived.Deep.QuietTactic
import Derived.BigQuiet
import Derived.Test.YteegoecanbonoaaDoorTermCloses
namespace Go.Proofs.YteegoecanbonoaaDoor.Mu
open Go.ChangeShapes Go.WideShapes Go.ChangeAt Go.RowKit

theorem rmay_is {nv : Bool} {c : Int} {l : List Int} {b : Bool} (h : mayB nv c l = b) (A : Option Addr) (n cap : Nat) (w : World) (hr : RI .i64 w w.heap.size A n l) (hmax : n ≤ 9223372036854775807) :
    Calls Tryd.prog 19 #[.agg #[.bool nv, .int .u8 c, .slice A n cap]] w fun e w' => e = .returned (.bool b) ∧ Bel w w' := by
  have := rmay_any nv c A n cap l w hr hmax; rw [h] at this; exact this
theorem ris_is {v m : Int} {b : Bool} (h : isB v m = b) (w : World) : Calls Tryd.prog 22 #[.agg #[.int .i64 v, .int .u8 m]] w fun e w' => e = .returned (.bool b) ∧ Bel w w' := by
  have := ris_any v m w; rw [h] at this; exact this

theorem rj_eq {n1 n2 : Bool} {c1 c2 : Int} {l1 l2 : List Int} (h1 : mayB n1 c1 l1 = true) (h2 : mayB n2 c2 l2 = true) : rjC n1 n2 c1 c2 = j2C n1 n2 c1 c2 ∧ rjL n1 n2 c1 c2 l1 l2 = j2L n1 n2 c1 c2 l1 l2 := by
  unfold rjC rjL j2C j2L
  cases n1 <;> cases n2
  · have a := (mayB_false.1 h1).1
    have b : max 1 c1 = c1 := by omega
    simp [b]
  · simp
  · simp
  · have a := mayB_true.1 h1
    simp [a.1, a.2]
theorem rs_eq {n1 n2 : Bool} {c1 c2 : Int} {l1 l2 : List Int} (h1 : mayB n1 c1 l1 = true) (h2 : mayB n2 c2 l2 = true) : rsC n1 n2 c1 c2 = s2C n1 n2 c1 c2 ∧ rsL n1 n2 l1 l2 = s2L n1 n2 l1 l2 := by
  unfold rsC rsL s2C s2L
  cases n1 <;> cases n2
  · simp
  · simp
  · simp
  · have a := mayB_true.1 h2
    simp [a.1, a.2]

set_option maxRecDepth 100000 in
set_option maxHeartbeats 16000000 in
theorem termOps_any (n1 : Bool) (c1 : Int) (A1 : Option Addr) (m1 k1 : Nat) (l1 : List Int) (n2 : Bool) (c2 : Int) (A2 : Option Addr) (m2 k2 : Nat) (l2 : List Int) (v m : Int) (w : World) (h1 : RI .i64 w w.heap.size A1 m1 l1) (h2 : RI .i64 w w.heap.size A2 m2 l2) (hm1 : m1 ≤ 9223372036854775807) (hm2 : m2 ≤ 9223372036854775807) (hc10 : 0 ≤ c1) (hc11 : c1 ≤ 255) (_hc20 : 0 ≤ c2) (_hc21 : c2 ≤ 255) (ht : Tabs w) :
    Calls Tryd.prog 4 #[.agg #[.bool n1, .int .u8 c1, .slice A1 m1 k1], .agg #[.bool n2, .int .u8 c2, .slice A2 m2 k2], .agg #[.int .i64 v, .int .u8 m]] w fun e w' => e = .returned (.bool true) ∧ Bel w w' := by
  have HR1 := Lib.hid h1
  have HR2 := Lib.hid h2
  have HT := Lib.hid ht
  clear h1 h2 ht
  rcases Bool.eq_false_or_eq_true (greatB [⟨n1, c1, A1, m1, k1⟩, ⟨n2, c2, A2, m2, k2⟩]) with hgt | hgt
  all_goals
    have HGR : Hid (∀ (W : World) (cap g : Nat), g = W.heap.size → Calls Tryd.prog 18 #[.slice (some ⟨g, 0, none⟩) 2 cap] (W.alloc (.cells #[.bool n1, .int .u8 c1, .slice A1 m1 k1, .bool n2, .int .u8 c2, .slice A2 m2 k2] 25)) fun e w' => e = .returned (.bool _) ∧ Bel (W.alloc (.cells #[.bool n1, .int .u8 c1, .slice A1 m1 k1, .bool n2, .int .u8 c2, .slice A2 m2 k2] 25)) w') := Lib.hid fun W cap g hg => by
      have h := great2c_any ⟨n1, c1, A1, m1, k1⟩ ⟨n2, c2, A2, m2, k2⟩ cap g W hg; rw [hgt] at h; exact h
  · clear hgt
    go_enter Tryd.func4, Tryd.ntmps4
    go_wp2_with fail
    refine (HGR.out _ _ _ (by simp)).mono ?_
    rintro e w1 ⟨rfl, hb⟩
    have HC1 : Hid (Bel w w1) := Lib.hid ((((((Bel.refl w).alloc _).alloc _).alloc _).alloc _).on hb)
    clear hb
    go_wp2_with fail
    refine (works2_any _).mono ?_
    rintro e w2 ⟨rfl, hb⟩
    have HC2 := Lib.hid (HC1.out.on hb)
    clear hb
    go_wp2_with fail
    go_ret
    exact ⟨rfl, HC2.out⟩
  · obtain ⟨q1, q2⟩ := great2c_no hgt
    simp only at q1 q2
    clear hgt
    obtain ⟨sab, hsab⟩ : ∃ b, sameB n1 n2 c1 c2 l1 l2 = b := ⟨_, rfl⟩
    have hss : (sab != sab) = false := by simp
    obtain ⟨mb, y2⟩ : ∃ b, mayB n2 c2 l2 = b := ⟨_, rfl⟩
    obtain ⟨yib, yi⟩ : ∃ b, isB v m = b := ⟨_, rfl⟩
    obtain ⟨ma, y1⟩ : ∃ b, mayB n1 c1 l1 = b := ⟨_, rfl⟩
    have HrMa : Hid (∀ (W : World), Bel w W → Calls Tryd.prog 19 #[.agg #[.bool n1, .int .u8 c1, .slice A1 m1 k1]] W fun e w' => e = .returned (.bool ma) ∧ Bel W w') := Lib.hid fun W hW => rmay_is y1 A1 m1 k1 W (HR1.out.bel hW) (by omega)
    have HrMb : Hid (∀ (W : World), Bel w W → Calls Tryd.prog 19 #[.agg #[.bool n2, .int .u8 c2, .slice A2 m2 k2]] W fun e w' => e = .returned (.bool mb) ∧ Bel W w') := Lib.hid fun W hW => rmay_is y2 A2 m2 k2 W (HR2.out.bel hW) (by omega)
    have HrI : Hid (∀ (W : World), Bel w W → Calls Tryd.prog 22 #[.agg #[.int .i64 v, .int .u8 m]] W fun e w' => e = .returned (.bool yib) ∧ Bel W w') := Lib.hid fun W hW => ris_is yi W
    have HSab : Hid (∀ (W : World), Bel w W → Calls Tryd.prog 23 #[.agg #[.bool n1, .int .u8 c1, .slice A1 m1 k1], .agg #[.bool n2, .int .u8 c2, .slice A2 m2 k2]] W fun e w' => e = .returned (.bool sab) ∧ Bel W w') := Lib.hid fun W hW => by
      have h := same_any n1 n2 c1 c2 A1 A2 m1 m2 k1 k2 l1 l2 W (HR1.out.bel hW) (HR2.out.bel hW) (by omega) (by omega)
      rw [show (decide (n1 = n2) && decide (c1 = c2) && decide (l1 = l2)) = sab from hsab] at h; exact h
    have HrS : Hid (∀ (W : World), Bel w W → Calls Tryd.prog 24 #[.agg #[.bool n1, .int .u8 c1, .slice A1 m1 k1], .agg #[.bool n2, .int .u8 c2, .slice A2 m2 k2]] W fun e w' => e = .returned (.bool sab) ∧ Bel W w') := Lib.hid fun W hW => by
      have h := rsame_any n1 n2 c1 c2 A1 A2 m1 m2 k1 k2 l1 l2 W (HR1.out.bel hW) (HR2.out.bel hW) (by omega) (by omega)
      rw [show rsameB n1 n2 c1 c2 l1 l2 = sab from hsab] at h; exact h
    have HSaa : Hid (∀ (W : World), Bel w W → Calls Tryd.prog 23 #[.agg #[.bool n1, .int .u8 c1, .slice A1 m1 k1], .agg #[.bool n1, .int .u8 c1, .slice A1 m1 k1]] W fun e w' => e = .returned (.bool true) ∧ Bel W w') := Lib.hid fun W hW => by
      have h := same_any n1 n1 c1 c1 A1 A1 m1 m1 k1 k1 l1 l1 W (HR1.out.bel hW) (HR1.out.bel hW) (by omega) (by omega)
      rw [show (decide (n1 = n1) && decide (c1 = c1) && decide (l1 = l1)) = true by simp] at h; exact h
    have HWk : Hid (∀ (W : World), Bel w W → Calls Tryd.prog 16 #[] W fun e w' => e = .returned (.bool true) ∧ Bel W w') := Lib.hid fun W _ => works2_any W
    clear hsab
    cases ma
    case false =>
      have HMa : Hid (∀ (W : World), Bel w W → Calls Tryd.prog 20 #[.agg #[.bool n1, .int .u8 c1, .slice A1 m1 k1]] W fun e w' => e = .returned (.int .i64 2) ∧ Bel W w') := Lib.hid fun W hW => may_no y1 A1 m1 k1 W (HR1.out.bel hW) (by omega)
      have HJ : Hid (∀ (W : World) (cap g : Nat), g = W.heap.size → Bel w W → Calls Tryd.prog 12 #[.slice (some ⟨g, 0, none⟩) 2 cap] (W.alloc (.cells #[.bool n1, .int .u8 c1, .slice A1 m1 k1, .bool n2, .int .u8 c2, .slice A2 m2 k2] 25)) (GivesTE false 0 [] 2 (W.alloc (.cells #[.bool n1, .int .u8 c1, .slice A1 m1 k1, .bool n2, .int .u8 c2, .slice A2 m2 k2] 25)))) := Lib.hid fun W cap g hg hW => join2_no n1 n2 c1 c2 A1 A2 m1 k1 m2 k2 cap g l1 l2 W hg (HR1.out.bel hW) (HR2.out.bel hW) (by omega) (by rw [y1]; rfl)
      have HS : Hid (∀ (W : World) (cap g : Nat), g = W.heap.size → Bel w W → Calls Tryd.prog 14 #[.slice (some ⟨g, 0, none⟩) 2 cap] (W.alloc (.cells #[.bool n1, .int .u8 c1, .slice A1 m1 k1, .bool n2, .int .u8 c2, .slice A2 m2 k2] 25)) (GivesTE false 0 [] 2 (W.alloc (.cells #[.bool n1, .int .u8 c1, .slice A1 m1 k1, .bool n2, .int .u8 c2, .slice A2 m2 k2] 25)))) := Lib.hid fun W cap g hg hW => sum2_no n1 n2 c1 c2 A1 A2 m1 k1 m2 k2 cap g l1 l2 W hg (HR1.out.bel hW) (HR2.out.bel hW) (by omega) (by rw [y1]; rfl)
      have HSc : Hid (∀ (W : World), Bel w W → Calls Tryd.prog 15 #[.agg #[.int .i64 v, .int .u8 m], .agg #[.bool n1, .int .u8 c1, .slice A1 m1 k1]] W (GivesTE false 0 [] 2 W)) := Lib.hid fun W hW => scaleT_no v m n1 c1 A1 m1 k1 l1 W (HR1.out.bel hW) (by omega) (by rw [y1, Bool.and_false])
      cases yib
      case' false =>
        have HI : Hid (∀ (W : World), Bel w W → Calls Tryd.prog 21 #[.agg #[.int .i64 v, .int .u8 m]] W fun e w' => e = .returned (.int .i64 2) ∧ Bel W w') := Lib.hid fun W hW => is_no yi W
      case' true =>
        have HI : Hid (∀ (W : World), Bel w W → Calls Tryd.prog 21 #[.agg #[.int .i64 v, .int .u8 m]] W fun e w' => e = .returned (.int .i64 0) ∧ Bel W w') := Lib.hid fun W hW => is_yes yi W
      all_goals
        clear yi y1 y2
        go_enter Tryd.func4, Tryd.ntmps4
        go_wp2_with fail
        refine (HGR.out _ _ _ (by simp)).mono ?_
        rintro e w1 ⟨rfl, hb⟩
        have hbb : Bel (((w.alloc (.cells #[.bool n1, .int .u8 c1, .slice A1 m1 k1] 25)).alloc (.cells #[.bool n2, .int .u8 c2, .slice A2 m2 k2] 25)).alloc (.cells #[.int .i64 v, .int .u8 m] 32)) w1 := ((Bel.refl _).alloc _).on hb
        have HKa := Lib.hid (hbb.blk (blk3 w _ _ _).1)
        have HKb := Lib.hid (hbb.blk (blk3 w _ _ _).2.1)
        have HKm := Lib.hid (hbb.blk (blk3 w _ _ _).2.2)
        have HC1 : Hid (Bel w w1) := Lib.hid ((((Bel.refl w).alloc _).alloc _).alloc _ |>.on hbb)
        clear hb hbb
        obtain ⟨fa0, fa1, fa2, _, _, _⟩ := cells3 HKa.out
        have hza := (Array.getElem?_eq_some_iff.1 HKa.out).1
        go_wp2_with fail
        refine (HrMa.out _ HC1.out).mono ?_
        clear fa0 fa1 fa2 hza
        rintro e w2 ⟨rfl, hb⟩
        have hbb : Bel w1 w2 := (Bel.refl w1).on hb
        replace HKa := Lib.hid (hbb.blk HKa.out)
        replace HKb := Lib.hid (hbb.blk HKb.out)
        replace HKm := Lib.hid (hbb.blk HKm.out)
        have HC2 : Hid (Bel w w2) := Lib.hid (HC1.out.on hbb)
        clear hb hbb
        obtain ⟨fa0, fa1, fa2, _, _, _⟩ := cells3 HKa.out
        have hza := (Array.getElem?_eq_some_iff.1 HKa.out).1
        obtain ⟨fb0, fb1, fb2, _, _, _⟩ := cells3 HKb.out
        have hzb := (Array.getElem?_eq_some_iff.1 HKb.out).1
        obtain ⟨fm0, fm1⟩ := cells2 HKm.out
        have hzm := (Array.getElem?_eq_some_iff.1 HKm.out).1
        go_wp2_with fail
        have HB2 : Hid (Bel w2 w2) := Lib.hid (Bel.refl _)
        have tk1 : True := trivial
        have tk2 : True := trivial
        have tk3 : True := trivial
        have tk4 : True := trivial
        have tk5 : True := trivial
        have tk6 : True := trivial
        go_region_held3 (fun w' => w'.cell? ⟨w.heap.size, 0, none⟩ = some (.bool n1) ∧ w'.cell? ⟨w.heap.size, 1, none⟩ = some (.int .u8 c1) ∧ w'.cell? ⟨w.heap.size, 2, none⟩ = some (.slice A1 m1 k1) ∧ w'.cell? ⟨w.heap.size + 1, 0, none⟩ = some (.bool n2) ∧ w'.cell? ⟨w.heap.size + 1, 1, none⟩ = some (.int .u8 c2) ∧ w'.cell? ⟨w.heap.size + 1, 2, none⟩ = some (.slice A2 m2 k2) ∧ w'.cell? ⟨w.heap.size + 2, 0, none⟩ = some (.int .i64 v) ∧ w'.cell? ⟨w.heap.size + 2, 1, none⟩ = some (.int .u8 m)) (go_keep)
          (first | (go_at_call 20; have _t := tk1; refine (HMa.out _ (HC2.out.on (by first | exact HB2.out | exact HB2.out.drew))).mono ?_; rintro e w3 ⟨rfl, hb⟩; clear _t tk1; (have hbp : Bel w2 w3 := by first | exact hb | exact (Bel.refl _).drew.on hb); (have HB3 : Hid (Bel w2 w3) := Lib.hid (HB2.out.on hbp)); (have fa0 := (hbp.cell (p := ⟨w.heap.size, 0, none⟩) hza).trans fa0); (have fa1 := (hbp.cell (p := ⟨w.heap.size, 1, none⟩) hza).trans fa1); (have fa2 := (hbp.cell (p := ⟨w.heap.size, 2, none⟩) hza).trans fa2); (have fb0 := (hbp.cell (p := ⟨w.heap.size + 1, 0, none⟩) hzb).trans fb0); (have fb1 := (hbp.cell (p := ⟨w.heap.size + 1, 1, none⟩) hzb).trans fb1); (have fb2 := (hbp.cell (p := ⟨w.heap.size + 1, 2, none⟩) hzb).trans fb2); (have fm0 := (hbp.cell (p := ⟨w.heap.size + 2, 0, none⟩) hzm).trans fm0); (have fm1 := (hbp.cell (p := ⟨w.heap.size + 2, 1, none⟩) hzm).trans fm1); (have hza : w.heap.size < w3.heap.size := Nat.lt_of_lt_of_le hza hbp.size); (have hzb : w.heap.size + 1 < w3.heap.size := Nat.lt_of_lt_of_le hzb hbp.size); (have hzm : w.heap.size + 2 < w3.heap.size := Nat.lt_of_lt_of_le hzm hbp.size); clear hb hbp) | (go_at_call 21; have _t := tk2; refine (HI.out _ (HC2.out.on (by first | exact HB3.out | exact HB3.out.drew))).mono ?_; rintro e w4 ⟨rfl, hb⟩; clear _t tk2; (have hbp : Bel w3 w4 := by first | exact hb | exact (Bel.refl _).drew.on hb); (have HB4 : Hid (Bel w2 w4) := Lib.hid (HB3.out.on hbp)); (have fa0 := (hbp.cell (p := ⟨w.heap.size, 0, none⟩) hza).trans fa0); (have fa1 := (hbp.cell (p := ⟨w.heap.size, 1, none⟩) hza).trans fa1); (have fa2 := (hbp.cell (p := ⟨w.heap.size, 2, none⟩) hza).trans fa2); (have fb0 := (hbp.cell (p := ⟨w.heap.size + 1, 0, none⟩) hzb).trans fb0); (have fb1 := (hbp.cell (p := ⟨w.heap.size + 1, 1, none⟩) hzb).trans fb1); (have fb2 := (hbp.cell (p := ⟨w.heap.size + 1, 2, none⟩) hzb).trans fb2); (have fm0 := (hbp.cell (p := ⟨w.heap.size + 2, 0, none⟩) hzm).trans fm0); (have fm1 := (hbp.cell (p := ⟨w.heap.size + 2, 1, none⟩) hzm).trans fm1); (have hza : w.heap.size < w4.heap.size := Nat.lt_of_lt_of_le hza hbp.size); (have hzb : w.heap.size + 1 < w4.heap.size := Nat.lt_of_lt_of_le hzb hbp.size); (have hzm : w.heap.size + 2 < w4.heap.size := Nat.lt_of_lt_of_le hzm hbp.size); clear hb hbp) | (go_at_call 22; have _t := tk3; refine (HrI.out _ (HC2.out.on (by first | exact HB4.out | exact HB4.out.drew))).mono ?_; rintro e w5 ⟨rfl, hb⟩; clear _t tk3; (have hbp : Bel w4 w5 := by first | exact hb | exact (Bel.refl _).drew.on hb); (have HB5 : Hid (Bel w2 w5) := Lib.hid (HB4.out.on hbp)); (have fa0 := (hbp.cell (p := ⟨w.heap.size, 0, none⟩) hza).trans fa0); (have fa1 := (hbp.cell (p := ⟨w.heap.size, 1, none⟩) hza).trans fa1); (have fa2 := (hbp.cell (p := ⟨w.heap.size, 2, none⟩) hza).trans fa2); (have fb0 := (hbp.cell (p := ⟨w.heap.size + 1, 0, none⟩) hzb).trans fb0); (have fb1 := (hbp.cell (p := ⟨w.heap.size + 1, 1, none⟩) hzb).trans fb1); (have fb2 := (hbp.cell (p := ⟨w.heap.size + 1, 2, none⟩) hzb).trans fb2); (have fm0 := (hbp.cell (p := ⟨w.heap.size + 2, 0, none⟩) hzm).trans fm0); (have fm1 := (hbp.cell (p := ⟨w.heap.size + 2, 1, none⟩) hzm).trans fm1); (have hza : w.heap.size < w5.heap.size := Nat.lt_of_lt_of_le hza hbp.size); (have hzb : w.heap.size + 1 < w5.heap.size := Nat.lt_of_lt_of_le hzb hbp.size); (have hzm : w.heap.size + 2 < w5.heap.size := Nat.lt_of_lt_of_le hzm hbp.size); clear hb hbp) | (go_at_call 23; have _t := tk4; refine (HSab.out _ (HC2.out.on (by first | exact HB5.out | exact HB5.out.drew))).mono ?_; rintro e w6 ⟨rfl, hb⟩; clear _t tk4; (have hbp : Bel w5 w6 := by first | exact hb | exact (Bel.refl _).drew.on hb); (have HB6 : Hid (Bel w2 w6) := Lib.hid (HB5.out.on hbp)); (have fa0 := (hbp.cell (p := ⟨w.heap.size, 0, none⟩) hza).trans fa0); (have fa1 := (hbp.cell (p := ⟨w.heap.size, 1, none⟩) hza).trans fa1); (have fa2 := (hbp.cell (p := ⟨w.heap.size, 2, none⟩) hza).trans fa2); (have fb0 := (hbp.cell (p := ⟨w.heap.size + 1, 0, none⟩) hzb).trans fb0); (have fb1 := (hbp.cell (p := ⟨w.heap.size + 1, 1, none⟩) hzb).trans fb1); (have fb2 := (hbp.cell (p := ⟨w.heap.size + 1, 2, none⟩) hzb).trans fb2); (have fm0 := (hbp.cell (p := ⟨w.heap.size + 2, 0, none⟩) hzm).trans fm0); (have fm1 := (hbp.cell (p := ⟨w.heap.size + 2, 1, none⟩) hzm).trans fm1); (have hza : w.heap.size < w6.heap.size := Nat.lt_of_lt_of_le hza hbp.size); (have hzb : w.heap.size + 1 < w6.heap.size := Nat.lt_of_lt_of_le hzb hbp.size); (have hzm : w.heap.size + 2 < w6.heap.size := Nat.lt_of_lt_of_le hzm hbp.size); clear hb hbp) | (go_at_call 24; have _t := tk5; refine (HrS.out _ (HC2.out.on (by first | exact HB6.out | exact HB6.out.drew))).mono ?_; rintro e w7 ⟨rfl, hb⟩; clear _t tk5; (have hbp : Bel w6 w7 := by first | exact hb | exact (Bel.refl _).drew.on hb); (have HB7 : Hid (Bel w2 w7) := Lib.hid (HB6.out.on hbp)); (have fa0 := (hbp.cell (p := ⟨w.heap.size, 0, none⟩) hza).trans fa0); (have fa1 := (hbp.cell (p := ⟨w.heap.size, 1, none⟩) hza).trans fa1); (have fa2 := (hbp.cell (p := ⟨w.heap.size, 2, none⟩) hza).trans fa2); (have fb0 := (hbp.cell (p := ⟨w.heap.size + 1, 0, none⟩) hzb).trans fb0); (have fb1 := (hbp.cell (p := ⟨w.heap.size + 1, 1, none⟩) hzb).trans fb1); (have fb2 := (hbp.cell (p := ⟨w.heap.size + 1, 2, none⟩) hzb).trans fb2); (have fm0 := (hbp.cell (p := ⟨w.heap.size + 2, 0, none⟩) hzm).trans fm0); (have fm1 := (hbp.cell (p := ⟨w.heap.size + 2, 1, none⟩) hzm).trans fm1); (have hza : w.heap.size < w7.heap.size := Nat.lt_of_lt_of_le hza hbp.size); (have hzb : w.heap.size + 1 < w7.heap.size := Nat.lt_of_lt_of_le hzb hbp.size); (have hzm : w.heap.size + 2 < w7.heap.size := Nat.lt_of_lt_of_le hzm hbp.size); clear hb hbp) | (go_at_call 23; have _t := tk6; refine (HSaa.out _ (HC2.out.on (by first | exact HB7.out | exact HB7.out.drew))).mono ?_; rintro e w8 ⟨rfl, hb⟩; clear _t tk6; (have hbp : Bel w7 w8 := by first | exact hb | exact (Bel.refl _).drew.on hb); (have HB8 : Hid (Bel w2 w8) := Lib.hid (HB7.out.on hbp)); (have fa0 := (hbp.cell (p := ⟨w.heap.size, 0, none⟩) hza).trans fa0); (have fa1 := (hbp.cell (p := ⟨w.heap.size, 1, none⟩) hza).trans fa1); (have fa2 := (hbp.cell (p := ⟨w.heap.size, 2, none⟩) hza).trans fa2); (have fb0 := (hbp.cell (p := ⟨w.heap.size + 1, 0, none⟩) hzb).trans fb0); (have fb1 := (hbp.cell (p := ⟨w.heap.size + 1, 1, none⟩) hzb).trans fb1); (have fb2 := (hbp.cell (p := ⟨w.heap.size + 1, 2, none⟩) hzb).trans fb2); (have fm0 := (hbp.cell (p := ⟨w.heap.size + 2, 0, none⟩) hzm).trans fm0); (have fm1 := (hbp.cell (p := ⟨w.heap.size + 2, 1, none⟩) hzm).trans fm1); (have hza : w.heap.size < w8.heap.size := Nat.lt_of_lt_of_le hza hbp.size); (have hzb : w.heap.size + 1 < w8.heap.size := Nat.lt_of_lt_of_le hzb hbp.size); (have hzm : w.heap.size + 2 < w8.heap.size := Nat.lt_of_lt_of_le hzm hbp.size); clear hb hbp))
        replace HKa := Lib.hid (HB8.out.blk HKa.out)
        replace HKb := Lib.hid (HB8.out.blk HKb.out)
        replace HKm := Lib.hid (HB8.out.blk HKm.out)
        have HC8 : Hid (Bel w w8) := Lib.hid (HC2.out.on HB8.out)
        clear HB2 HB3 HB4 HB5 HB6 HB7 HB8
        go_wp2_with fail
        refine (HJ.out w8 _ _ (by simp) HC8.out).mono ?_
        clear fa0 fa1 fa2 hza fb0 fb1 fb2 hzb fm0 fm1 hzm
        rintro e w9 ⟨Ax, mx, kx, rfl, hrx, hb⟩
        have hbb : Bel w8 w9 := ((Bel.refl w8).alloc _).on hb
        replace HKa := Lib.hid (hbb.blk HKa.out)
        replace HKb := Lib.hid (hbb.blk HKb.out)
        replace HKm := Lib.hid (hbb.blk HKm.out)
        have HC9 : Hid (Bel w w9) := Lib.hid (HC8.out.on hbb)
        have HRX := Lib.hid hrx
        clear hb hbb hrx
        obtain ⟨fa0, fa1, fa2, _, _, _⟩ := cells3 HKa.out
        have hza := (Array.getElem?_eq_some_iff.1 HKa.out).1
        obtain ⟨fb0, fb1, fb2, _, _, _⟩ := cells3 HKb.out
        have hzb := (Array.getElem?_eq_some_iff.1 HKb.out).1
        obtain ⟨fm0, fm1⟩ := cells2 HKm.out
        have hzm := (Array.getElem?_eq_some_iff.1 HKm.out).1
        go_wp2_with fail
        refine (HS.out (w9.alloc _) _ _ (by simp) (HC9.out.alloc _)).mono ?_
        clear fa0 fa1 fa2 hza fb0 fb1 fb2 hzb fm0 fm1 hzm
        rintro e w10 ⟨Ay, my, ky, rfl, hry, hb⟩
        have hbb : Bel (w9.alloc (.cells #[.bool false, .int .u8 0, .slice Ax mx kx] 25)) w10 := ((Bel.refl _).alloc _).on hb
        have HKx := Lib.hid (hbb.blk (blk1 w9 _))
        replace HRX := Lib.hid (HRX.out.bel (((Bel.refl w9).alloc _).on hbb))
        have hbc : Bel w9 w10 := ((Bel.refl w9).alloc _).on hbb
        replace HKa := Lib.hid (hbc.blk HKa.out)
        replace HKb := Lib.hid (hbc.blk HKb.out)
        replace HKm := Lib.hid (hbc.blk HKm.out)
        have HC10 : Hid (Bel w w10) := Lib.hid (HC9.out.on hbc)
        have HRY := Lib.hid hry
        clear hb hbb hbc hry
        obtain ⟨fa0, fa1, fa2, _, _, _⟩ := cells3 HKa.out
        have hza := (Array.getElem?_eq_some_iff.1 HKa.out).1
        obtain ⟨fb0, fb1, fb2, _, _, _⟩ := cells3 HKb.out
        have hzb := (Array.getElem?_eq_some_iff.1 HKb.out).1
        obtain ⟨fm0, fm1⟩ := cells2 HKm.out
        have hzm := (Array.getElem?_eq_some_iff.1 HKm.out).1
        go_wp2_with fail
        refine (HSc.out _ (HC10.out.alloc _)).mono ?_
        clear fa0 fa1 fa2 hza fb0 fb1 fb2 hzb fm0 fm1 hzm
        rintro e w11 ⟨Az, mz, kz, rfl, hrz, hb⟩
        have HKy := Lib.hid (hb.blk (blk1 w10 _))
        have hbc : Bel w10 w11 := ((Bel.refl w10).alloc _).on hb
        replace HRX := Lib.hid (HRX.out.bel hbc)
        replace HRY := Lib.hid (HRY.out.bel hbc)
        replace HKa := Lib.hid (hbc.blk HKa.out)
        replace HKb := Lib.hid (hbc.blk HKb.out)
        replace HKm := Lib.hid (hbc.blk HKm.out)
        replace HKx := Lib.hid (hbc.blk HKx.out)
        have HC11 : Hid (Bel w w11) := Lib.hid (HC10.out.on hbc)
        have HRZ := Lib.hid hrz
        clear hb hbc hrz
        go_wp2_with fail
        refine (works2_any _).mono ?_
        rintro e w12 ⟨rfl, hb⟩
        have HC12 := Lib.hid ((HC11.out.alloc _).on hb)
        clear hb
        go_wp2_with fail
        go_ret
        exact ⟨rfl, HC12.out⟩
    case true =>
      cases mb
      case false =>
        have HMa : Hid (∀ (W : World), Bel w W → Calls Tryd.prog 20 #[.agg #[.bool n1, .int .u8 c1, .slice A1 m1 k1]] W fun e w' => e = .returned (.int .i64 0) ∧ Bel W w') := Lib.hid fun W hW => may_yes y1 A1 m1 k1 W (HR1.out.bel hW) (by omega)
        have HJ : Hid (∀ (W : World) (cap g : Nat), g = W.heap.size → Bel w W → Calls Tryd.prog 12 #[.slice (some ⟨g, 0, none⟩) 2 cap] (W.alloc (.cells #[.bool n1, .int .u8 c1, .slice A1 m1 k1, .bool n2, .int .u8 c2, .slice A2 m2 k2] 25)) (GivesTE false 0 [] 2 (W.alloc (.cells #[.bool n1, .int .u8 c1, .slice A1 m1 k1, .bool n2, .int .u8 c2, .slice A2 m2 k2] 25)))) := Lib.hid fun W cap g hg hW => join2_no n1 n2 c1 c2 A1 A2 m1 k1 m2 k2 cap g l1 l2 W hg (HR1.out.bel hW) (HR2.out.bel hW) (by omega) (by rw [y1, y2]; rfl)
        have HS : Hid (∀ (W : World) (cap g : Nat), g = W.heap.size → Bel w W → Calls Tryd.prog 14 #[.slice (some ⟨g, 0, none⟩) 2 cap] (W.alloc (.cells #[.bool n1, .int .u8 c1, .slice A1 m1 k1, .bool n2, .int .u8 c2, .slice A2 m2 k2] 25)) (GivesTE false 0 [] 2 (W.alloc (.cells #[.bool n1, .int .u8 c1, .slice A1 m1 k1, .bool n2, .int .u8 c2, .slice A2 m2 k2] 25)))) := Lib.hid fun W cap g hg hW => sum2_no n1 n2 c1 c2 A1 A2 m1 k1 m2 k2 cap g l1 l2 W hg (HR1.out.bel hW) (HR2.out.bel hW) (by omega) (by rw [y1, y2]; rfl)
        cases yib
        case' false =>
          have HI : Hid (∀ (W : World), Bel w W → Calls Tryd.prog 21 #[.agg #[.int .i64 v, .int .u8 m]] W fun e w' => e = .returned (.int .i64 2) ∧ Bel W w') := Lib.hid fun W hW => is_no yi W
          have HSz : ∃ zn zc zl ze, Hid (∀ (W : World), Bel w W → Calls Tryd.prog 15 #[.agg #[.int .i64 v, .int .u8 m], .agg #[.bool n1, .int .u8 c1, .slice A1 m1 k1]] W (GivesTE zn zc zl ze W)) := ⟨_, _, _, _, Lib.hid fun W hW => scaleT_no v m n1 c1 A1 m1 k1 l1 W (HR1.out.bel hW) (by omega) (by rw [yi]; rfl)⟩
        case' true =>
          have HI : Hid (∀ (W : World), Bel w W → Calls Tryd.prog 21 #[.agg #[.int .i64 v, .int .u8 m]] W fun e w' => e = .returned (.int .i64 0) ∧ Bel W w') := Lib.hid fun W hW => is_yes yi W
          have HSz : ∃ zn zc zl ze, Hid (∀ (W : World), Bel w W → Calls Tryd.prog 15 #[.agg #[.int .i64 v, .int .u8 m], .agg #[.bool n1, .int .u8 c1, .slice A1 m1 k1]] W (GivesTE zn zc zl ze W)) := ⟨_, _, _, _, Lib.hid fun W hW => scaleT_yes v m n1 c1 A1 m1 k1 l1 W (HR1.out.bel hW) (by omega) yi y1⟩
        all_goals
          obtain ⟨zn, zc, zl, ze, HSc⟩ := HSz
          clear yi y1 y2
          go_enter Tryd.func4, Tryd.ntmps4
          go_wp2_with fail
          refine (HGR.out _ _ _ (by simp)).mono ?_
          rintro e w1 ⟨rfl, hb⟩
          have hbb : Bel (((w.alloc (.cells #[.bool n1, .int .u8 c1, .slice A1 m1 k1] 25)).alloc (.cells #[.bool n2, .int .u8 c2, .slice A2 m2 k2] 25)).alloc (.cells #[.int .i64 v, .int .u8 m] 32)) w1 := ((Bel.refl _).alloc _).on hb
          have HKa := Lib.hid (hbb.blk (blk3 w _ _ _).1)
          have HKb := Lib.hid (hbb.blk (blk3 w _ _ _).2.1)
          have HKm := Lib.hid (hbb.blk (blk3 w _ _ _).2.2)
          have HC1 : Hid (Bel w w1) := Lib.hid ((((Bel.refl w).alloc _).alloc _).alloc _ |>.on hbb)
          clear hb hbb
          obtain ⟨fa0, fa1, fa2, _, _, _⟩ := cells3 HKa.out
          have hza := (Array.getElem?_eq_some_iff.1 HKa.out).1
          go_wp2_with fail
          refine (HrMa.out _ HC1.out).mono ?_
          clear fa0 fa1 fa2 hza
          rintro e w2 ⟨rfl, hb⟩
          have hbb : Bel w1 w2 := (Bel.refl w1).on hb
          replace HKa := Lib.hid (hbb.blk HKa.out)
          replace HKb := Lib.hid (hbb.blk HKb.out)
          replace HKm := Lib.hid (hbb.blk HKm.out)
          have HC2 : Hid (Bel w w2) := Lib.hid (HC1.out.on hbb)
          clear hb hbb
          obtain ⟨fa0, fa1, fa2, _, _, _⟩ := cells3 HKa.out
          have hza := (Array.getElem?_eq_some_iff.1 HKa.out).1
          obtain ⟨fb0, fb1, fb2, _, _, _⟩ := cells3 HKb.out
          have hzb := (Array.getElem?_eq_some_iff.1 HKb.out).1
          obtain ⟨fm0, fm1⟩ := cells2 HKm.out
          have hzm := (Array.getElem?_eq_some_iff.1 HKm.out).1
          go_wp2_with fail
          have HB2 : Hid (Bel w2 w2) := Lib.hid (Bel.refl _)
          have tk1 : True := trivial
          have tk2 : True := trivial
          have tk3 : True := trivial
          have tk4 : True := trivial
          have tk5 : True := trivial
          have tk6 : True := trivial
          go_region_held3 (fun w' => w'.cell? ⟨w.heap.size, 0, none⟩ = some (.bool n1) ∧ w'.cell? ⟨w.heap.size, 1, none⟩ = some (.int .u8 c1) ∧ w'.cell? ⟨w.heap.size, 2, none⟩ = some (.slice A1 m1 k1) ∧ w'.cell? ⟨w.heap.size + 1, 0, none⟩ = some (.bool n2) ∧ w'.cell? ⟨w.heap.size + 1, 1, none⟩ = some (.int .u8 c2) ∧ w'.cell? ⟨w.heap.size + 1, 2, none⟩ = some (.slice A2 m2 k2) ∧ w'.cell? ⟨w.heap.size + 2, 0, none⟩ = some (.int .i64 v) ∧ w'.cell? ⟨w.heap.size + 2, 1, none⟩ = some (.int .u8 m)) (go_keep)
            (first | (go_at_call 20; have _t := tk1; refine (HMa.out _ (HC2.out.on (by first | exact HB2.out | exact HB2.out.drew))).mono ?_; rintro e w3 ⟨rfl, hb⟩; clear _t tk1; (have hbp : Bel w2 w3 := by first | exact hb | exact (Bel.refl _).drew.on hb); (have HB3 : Hid (Bel w2 w3) := Lib.hid (HB2.out.on hbp)); (have fa0 := (hbp.cell (p := ⟨w.heap.size, 0, none⟩) hza).trans fa0); (have fa1 := (hbp.cell (p := ⟨w.heap.size, 1, none⟩) hza).trans fa1); (have fa2 := (hbp.cell (p := ⟨w.heap.size, 2, none⟩) hza).trans fa2); (have fb0 := (hbp.cell (p := ⟨w.heap.size + 1, 0, none⟩) hzb).trans fb0); (have fb1 := (hbp.cell (p := ⟨w.heap.size + 1, 1, none⟩) hzb).trans fb1); (have fb2 := (hbp.cell (p := ⟨w.heap.size + 1, 2, none⟩) hzb).trans fb2); (have fm0 := (hbp.cell (p := ⟨w.heap.size + 2, 0, none⟩) hzm).trans fm0); (have fm1 := (hbp.cell (p := ⟨w.heap.size + 2, 1, none⟩) hzm).trans fm1); (have hza : w.heap.size < w3.heap.size := Nat.lt_of_lt_of_le hza hbp.size); (have hzb : w.heap.size + 1 < w3.heap.size := Nat.lt_of_lt_of_le hzb hbp.size); (have hzm : w.heap.size + 2 < w3.heap.size := Nat.lt_of_lt_of_le hzm hbp.size); clear hb hbp) | (go_at_call 21; have _t := tk2; refine (HI.out _ (HC2.out.on (by first | exact HB3.out | exact HB3.out.drew))).mono ?_; rintro e w4 ⟨rfl, hb⟩; clear _t tk2; (have hbp : Bel w3 w4 := by first | exact hb | exact (Bel.refl _).drew.on hb); (have HB4 : Hid (Bel w2 w4) := Lib.hid (HB3.out.on hbp)); (have fa0 := (hbp.cell (p := ⟨w.heap.size, 0, none⟩) hza).trans fa0); (have fa1 := (hbp.cell (p := ⟨w.heap.size, 1, none⟩) hza).trans fa1); (have fa2 := (hbp.cell (p := ⟨w.heap.size, 2, none⟩) hza).trans fa2); (have fb0 := (hbp.cell (p := ⟨w.heap.size + 1, 0, none⟩) hzb).trans fb0); (have fb1 := (hbp.cell (p := ⟨w.heap.size + 1, 1, none⟩) hzb).trans fb1); (have fb2 := (hbp.cell (p := ⟨w.heap.size + 1, 2, none⟩) hzb).trans fb2); (have fm0 := (hbp.cell (p := ⟨w.heap.size + 2, 0, none⟩) hzm).trans fm0); (have fm1 := (hbp.cell (p := ⟨w.heap.size + 2, 1, none⟩) hzm).trans fm1); (have hza : w.heap.size < w4.heap.size := Nat.lt_of_lt_of_le hza hbp.size); (have hzb : w.heap.size + 1 < w4.heap.size := Nat.lt_of_lt_of_le hzb hbp.size); (have hzm : w.heap.size + 2 < w4.heap.size := Nat.lt_of_lt_of_le hzm hbp.size); clear hb hbp) | (go_at_call 22; have _t := tk3; refine (HrI.out _ (HC2.out.on (by first | exact HB4.out | exact HB4.out.drew))).mono ?_; rintro e w5 ⟨rfl, hb⟩; clear _t tk3; (have hbp : Bel w4 w5 := by first | exact hb | exact (Bel.refl _).drew.on hb); (have HB5 : Hid (Bel w2 w5) := Lib.hid (HB4.out.on hbp)); (have fa0 := (hbp.cell (p := ⟨w.heap.size, 0, none⟩) hza).trans fa0); (have fa1 := (hbp.cell (p := ⟨w.heap.size, 1, none⟩) hza).trans fa1); (have fa2 := (hbp.cell (p := ⟨w.heap.size, 2, none⟩) hza).trans fa2); (have fb0 := (hbp.cell (p := ⟨w.heap.size + 1, 0, none⟩) hzb).trans fb0); (have fb1 := (hbp.cell (p := ⟨w.heap.size + 1, 1, none⟩) hzb).trans fb1); (have fb2 := (hbp.cell (p := ⟨w.heap.size + 1, 2, none⟩) hzb).trans fb2); (have fm0 := (hbp.cell (p := ⟨w.heap.size + 2, 0, none⟩) hzm).trans fm0); (have fm1 := (hbp.cell (p := ⟨w.heap.size + 2, 1, none⟩) hzm).trans fm1); (have hza : w.heap.size < w5.heap.size := Nat.lt_of_lt_of_le hza hbp.size); (have hzb : w.heap.size + 1 < w5.heap.size := Nat.lt_of_lt_of_le hzb hbp.size); (have hzm : w.heap.size + 2 < w5.heap.size := Nat.lt_of_lt_of_le hzm hbp.size); clear hb hbp) | (go_at_call 23; have _t := tk4; refine (HSab.out _ (HC2.out.on (by first | exact HB5.out | exact HB5.out.drew))).mono ?_; rintro e w6 ⟨rfl, hb⟩; clear _t tk4; (have hbp : Bel w5 w6 := by first | exact hb | exact (Bel.refl _).drew.on hb); (have HB6 : Hid (Bel w2 w6) := Lib.hid (HB5.out.on hbp)); (have fa0 := (hbp.cell (p := ⟨w.heap.size, 0, none⟩) hza).trans fa0); (have fa1 := (hbp.cell (p := ⟨w.heap.size, 1, none⟩) hza).trans fa1); (have fa2 := (hbp.cell (p := ⟨w.heap.size, 2, none⟩) hza).trans fa2); (have fb0 := (hbp.cell (p := ⟨w.heap.size + 1, 0, none⟩) hzb).trans fb0); (have fb1 := (hbp.cell (p := ⟨w.heap.size + 1, 1, none⟩) hzb).trans fb1); (have fb2 := (hbp.cell (p := ⟨w.heap.size + 1, 2, none⟩) hzb).trans fb2); (have fm0 := (hbp.cell (p := ⟨w.heap.size + 2, 0, none⟩) hzm).trans fm0); (have fm1 := (hbp.cell (p := ⟨w.heap.size + 2, 1, none⟩) hzm).trans fm1); (have hza : w.heap.size < w6.heap.size := Nat.lt_of_lt_of_le hza hbp.size); (have hzb : w.heap.size + 1 < w6.heap.size := Nat.lt_of_lt_of_le hzb hbp.size); (have hzm : w.heap.size + 2 < w6.heap.size := Nat.lt_of_lt_of_le hzm hbp.size); clear hb hbp) | (go_at_call 24; have _t := tk5; refine (HrS.out _ (HC2.out.on (by first | exact HB6.out | exact HB6.out.drew))).mono ?_; rintro e w7 ⟨rfl, hb⟩; clear _t tk5; (have hbp : Bel w6 w7 := by first | exact hb | exact (Bel.refl _).drew.on hb); (have HB7 : Hid (Bel w2 w7) := Lib.hid (HB6.out.on hbp)); (have fa0 := (hbp.cell (p := ⟨w.heap.size, 0, none⟩) hza).trans fa0); (have fa1 := (hbp.cell (p := ⟨w.heap.size, 1, none⟩) hza).trans fa1); (have fa2 := (hbp.cell (p := ⟨w.heap.size, 2, none⟩) hza).trans fa2); (have fb0 := (hbp.cell (p := ⟨w.heap.size + 1, 0, none⟩) hzb).trans fb0); (have fb1 := (hbp.cell (p := ⟨w.heap.size + 1, 1, none⟩) hzb).trans fb1); (have fb2 := (hbp.cell (p := ⟨w.heap.size + 1, 2, none⟩) hzb).trans fb2); (have fm0 := (hbp.cell (p := ⟨w.heap.size + 2, 0, none⟩) hzm).trans fm0); (have fm1 := (hbp.cell (p := ⟨w.heap.size + 2, 1, none⟩) hzm).trans fm1); (have hza : w.heap.size < w7.heap.size := Nat.lt_of_lt_of_le hza hbp.size); (have hzb : w.heap.size + 1 < w7.heap.size := Nat.lt_of_lt_of_le hzb hbp.size); (have hzm : w.heap.size + 2 < w7.heap.size := Nat.lt_of_lt_of_le hzm hbp.size); clear hb hbp) | (go_at_call 23; have _t := tk6; refine (HSaa.out _ (HC2.out.on (by first | exact HB7.out | exact HB7.out.drew))).mono ?_; rintro e w8 ⟨rfl, hb⟩; clear _t tk6; (have hbp : Bel w7 w8 := by first | exact hb | exact (Bel.refl _).drew.on hb); (have HB8 : Hid (Bel w2 w8) := Lib.hid (HB7.out.on hbp)); (have fa0 := (hbp.cell (p := ⟨w.heap.size, 0, none⟩) hza).trans fa0); (have fa1 := (hbp.cell (p := ⟨w.heap.size, 1, none⟩) hza).trans fa1); (have fa2 := (hbp.cell (p := ⟨w.heap.size, 2, none⟩) hza).trans fa2); (have fb0 := (hbp.cell (p := ⟨w.heap.size + 1, 0, none⟩) hzb).trans fb0); (have fb1 := (hbp.cell (p := ⟨w.heap.size + 1, 1, none⟩) hzb).trans fb1); (have fb2 := (hbp.cell (p := ⟨w.heap.size + 1, 2, none⟩) hzb).trans fb2); (have fm0 := (hbp.cell (p := ⟨w.heap.size + 2, 0, none⟩) hzm).trans fm0); (have fm1 := (hbp.cell (p := ⟨w.heap.size + 2, 1, none⟩) hzm).trans fm1); (have hza : w.heap.size < w8.heap.size := Nat.lt_of_lt_of_le hza hbp.size); (have hzb : w.heap.size + 1 < w8.heap.size := Nat.lt_of_lt_of_le hzb hbp.size); (have hzm : w.heap.size + 2 < w8.heap.size := Nat.lt_of_lt_of_le hzm hbp.size); clear hb hbp))
          replace HKa := Lib.hid (HB8.out.blk HKa.out)
          replace HKb := Lib.hid (HB8.out.blk HKb.out)
          replace HKm := Lib.hid (HB8.out.blk HKm.out)
          have HC8 : Hid (Bel w w8) := Lib.hid (HC2.out.on HB8.out)
          clear HB2 HB3 HB4 HB5 HB6 HB7 HB8
          go_wp2_with fail
          refine (HJ.out w8 _ _ (by simp) HC8.out).mono ?_
          clear fa0 fa1 fa2 hza fb0 fb1 fb2 hzb fm0 fm1 hzm
          rintro e w9 ⟨Ax, mx, kx, rfl, hrx, hb⟩
          have hbb : Bel w8 w9 := ((Bel.refl w8).alloc _).on hb
          replace HKa := Lib.hid (hbb.blk HKa.out)
          replace HKb := Lib.hid (hbb.blk HKb.out)
          replace HKm := Lib.hid (hbb.blk HKm.out)
          have HC9 : Hid (Bel w w9) := Lib.hid (HC8.out.on hbb)
          have HRX := Lib.hid hrx
          clear hb hbb hrx
          obtain ⟨fa0, fa1, fa2, _, _, _⟩ := cells3 HKa.out
          have hza := (Array.getElem?_eq_some_iff.1 HKa.out).1
          obtain ⟨fb0, fb1, fb2, _, _, _⟩ := cells3 HKb.out
          have hzb := (Array.getElem?_eq_some_iff.1 HKb.out).1
          obtain ⟨fm0, fm1⟩ := cells2 HKm.out
          have hzm := (Array.getElem?_eq_some_iff.1 HKm.out).1
          go_wp2_with fail
          refine (HS.out (w9.alloc _) _ _ (by simp) (HC9.out.alloc _)).mono ?_
          clear fa0 fa1 fa2 hza fb0 fb1 fb2 hzb fm0 fm1 hzm
          rintro e w10 ⟨Ay, my, ky, rfl, hry, hb⟩
          have hbb : Bel (w9.alloc (.cells #[.bool false, .int .u8 0, .slice Ax mx kx] 25)) w10 := ((Bel.refl _).alloc _).on hb
          have HKx := Lib.hid (hbb.blk (blk1 w9 _))
          replace HRX := Lib.hid (HRX.out.bel (((Bel.refl w9).alloc _).on hbb))
          have hbc : Bel w9 w10 := ((Bel.refl w9).alloc _).on hbb
          replace HKa := Lib.hid (hbc.blk HKa.out)
          replace HKb := Lib.hid (hbc.blk HKb.out)
          replace HKm := Lib.hid (hbc.blk HKm.out)
          have HC10 : Hid (Bel w w10) := Lib.hid (HC9.out.on hbc)
          have HRY := Lib.hid hry
          clear hb hbb hbc hry
          obtain ⟨fa0, fa1, fa2, _, _, _⟩ := cells3 HKa.out
          have hza := (Array.getElem?_eq_some_iff.1 HKa.out).1
          obtain ⟨fb0, fb1, fb2, _, _, _⟩ := cells3 HKb.out
          have hzb := (Array.getElem?_eq_some_iff.1 HKb.out).1
          obtain ⟨fm0, fm1⟩ := cells2 HKm.out
          have hzm := (Array.getElem?_eq_some_iff.1 HKm.out).1
          go_wp2_with fail
          refine (HSc.out _ (HC10.out.alloc _)).mono ?_
          clear fa0 fa1 fa2 hza fb0 fb1 fb2 hzb fm0 fm1 hzm
          rintro e w11 ⟨Az, mz, kz, rfl, hrz, hb⟩
          have HKy := Lib.hid (hb.blk (blk1 w10 _))
          have hbc : Bel w10 w11 := ((Bel.refl w10).alloc _).on hb
          replace HRX := Lib.hid (HRX.out.bel hbc)
          replace HRY := Lib.hid (HRY.out.bel hbc)
          replace HKa := Lib.hid (hbc.blk HKa.out)
          replace HKb := Lib.hid (hbc.blk HKb.out)
          replace HKm := Lib.hid (hbc.blk HKm.out)
          replace HKx := Lib.hid (hbc.blk HKx.out)
          have HC11 : Hid (Bel w w11) := Lib.hid (HC10.out.on hbc)
          have HRZ := Lib.hid hrz
          clear hb hbc hrz
          obtain ⟨fb0, fb1, fb2, _, _, _⟩ := cells3 HKb.out
          have hzb := (Array.getElem?_eq_some_iff.1 HKb.out).1
          go_wp2_with fail
          refine (HrMb.out _ (HC11.out.alloc _)).mono ?_
          clear fb0 fb1 fb2 hzb
          rintro e w12 ⟨rfl, hb⟩
          have HC12 := Lib.hid ((HC11.out.alloc _).on hb)
          clear hb
          go_wp2_with fail
          refine (works2_any _).mono ?_
          rintro e w13 ⟨rfl, hb⟩
          have HC13 := Lib.hid ((HC12.out).on hb)
          clear hb
          go_wp2_with fail
          go_ret
          exact ⟨rfl, HC13.out⟩
      case true =>
        have HMa : Hid (∀ (W : World), Bel w W → Calls Tryd.prog 20 #[.agg #[.bool n1, .int .u8 c1, .slice A1 m1 k1]] W fun e w' => e = .returned (.int .i64 0) ∧ Bel W w') := Lib.hid fun W hW => may_yes y1 A1 m1 k1 W (HR1.out.bel hW) (by omega)
        obtain ⟨xn, hxn⟩ : ∃ x, (n1 && n2) = x := ⟨_, rfl⟩
        obtain ⟨xc, hxc⟩ : ∃ x, j2C n1 n2 c1 c2 = x := ⟨_, rfl⟩
        obtain ⟨xl, hxl⟩ : ∃ x, j2L n1 n2 c1 c2 l1 l2 = x := ⟨_, rfl⟩
        obtain ⟨yc, hyc⟩ : ∃ x, s2C n1 n2 c1 c2 = x := ⟨_, rfl⟩
        obtain ⟨yl, hyl⟩ : ∃ x, s2L n1 n2 l1 l2 = x := ⟨_, rfl⟩
        have HJ : Hid (∀ (W : World) (cap g : Nat), g = W.heap.size → Bel w W → Calls Tryd.prog 12 #[.slice (some ⟨g, 0, none⟩) 2 cap] (W.alloc (.cells #[.bool n1, .int .u8 c1, .slice A1 m1 k1, .bool n2, .int .u8 c2, .slice A2 m2 k2] 25)) (GivesTE xn xc xl 0 (W.alloc (.cells #[.bool n1, .int .u8 c1, .slice A1 m1 k1, .bool n2, .int .u8 c2, .slice A2 m2 k2] 25)))) := Lib.hid fun W cap g hg hW => by
          have h := join2_ok n1 n2 c1 c2 A1 A2 m1 k1 m2 k2 cap g l1 l2 W hg (HR1.out.bel hW) (HR2.out.bel hW) (by omega) y1 y2
          rw [hxn, hxc, hxl] at h; exact h
        have HS : Hid (∀ (W : World) (cap g : Nat), g = W.heap.size → Bel w W → Calls Tryd.prog 14 #[.slice (some ⟨g, 0, none⟩) 2 cap] (W.alloc (.cells #[.bool n1, .int .u8 c1, .slice A1 m1 k1, .bool n2, .int .u8 c2, .slice A2 m2 k2] 25)) (GivesTE xn yc yl 0 (W.alloc (.cells #[.bool n1, .int .u8 c1, .slice A1 m1 k1, .bool n2, .int .u8 c2, .slice A2 m2 k2] 25)))) := Lib.hid fun W cap g hg hW => by
          have h := sum2_ok n1 n2 c1 c2 A1 A2 m1 k1 m2 k2 cap g l1 l2 W hg (HR1.out.bel hW) (HR2.out.bel hW) (by omega) y1 y2
          rw [hxn, hyc, hyl] at h; exact h
        have HLX : Hid (xl.length ≤ 10000) := Lib.hid (by rw [← hxl]; have a := j2L_len n1 n2 c1 c2 l1 l2; have b := HR1.out.len; have c := HR2.out.len; omega)
        have HLY : Hid (yl.length ≤ 10000) := Lib.hid (by rw [← hyl]; have a := s2L_len n1 n2 l1 l2; have b := HR1.out.len; have c := HR2.out.len; omega)
        obtain ⟨ta, hta⟩ : ∃ t, textT n1 c1 l1 = t := ⟨_, rfl⟩
        have hq1 : ((⟨ta.toArray⟩ : ByteArray) == ⟨ta.toArray⟩) = true := ba_eq rfl
        have hq2 : ((⟨ta.toArray⟩ : ByteArray) != ⟨ta.toArray⟩) = false := by simp [bne, ba_eq]
        have HTa : Hid (∀ (W : World), Bel w W → Calls Tryd.prog 17 #[.agg #[.bool n1, .int .u8 c1, .slice A1 m1 k1]] W fun e w' => e = .returned (.string ⟨ta.toArray⟩) ∧ Bel W w') := Lib.hid fun W hW => by
          have h := textT_any n1 c1 A1 m1 k1 l1 W (HR1.out.bel hW) (by omega) (mayB_all y1) hc10 hc11 (HT.out.bel hW); rw [hta] at h; exact h
        have HrT : Hid (∀ (W : World), Bel w W → Calls Tryd.prog 27 #[.agg #[.bool n1, .int .u8 c1, .slice A1 m1 k1]] W fun e w' => e = .returned (.string ⟨ta.toArray⟩) ∧ Bel W w') := Lib.hid fun W hW => by
          have h := rtextT_any n1 c1 A1 m1 k1 l1 W (HR1.out.bel hW) (by omega) y1; rw [hta] at h; exact h
        have HrJ : Hid (∀ (W : World), Bel w W → Calls Tryd.prog 25 #[.agg #[.bool n1, .int .u8 c1, .slice A1 m1 k1], .agg #[.bool n2, .int .u8 c2, .slice A2 m2 k2]] W fun e w' => ∃ A' n' c', e = .returned (.agg #[.bool xn, .int .u8 xc, .slice A' n' c']) ∧ RI .i64 w' w'.heap.size A' n' xl ∧ Bel W w') := Lib.hid fun W hW => by
          have h := rjoin_any n1 n2 c1 c2 A1 A2 m1 k1 m2 k2 l1 l2 W (HR1.out.bel hW) (HR2.out.bel hW) (rising_of y1) (rising_of y2) (by omega)
          rw [(rj_eq y1 y2).1, (rj_eq y1 y2).2, hxn, hxc, hxl] at h; exact h
        have HrSu : Hid (∀ (W : World), Bel w W → Calls Tryd.prog 26 #[.agg #[.bool n1, .int .u8 c1, .slice A1 m1 k1], .agg #[.bool n2, .int .u8 c2, .slice A2 m2 k2]] W fun e w' => ∃ A' n' c', e = .returned (.agg #[.bool xn, .int .u8 yc, .slice A' n' c']) ∧ RI .i64 w' w'.heap.size A' n' yl ∧ Bel W w') := Lib.hid fun W hW => by
          have h := rsum_any n1 n2 c1 c2 A1 A2 m1 k1 m2 k2 l1 l2 W (HR1.out.bel hW) (HR2.out.bel hW)
          rw [(rs_eq y1 y2).1, (rs_eq y1 y2).2, hxn, hyc, hyl] at h; exact h
        have HsX : Hid (∀ (W : World) (B D : Option Addr) (p q i j : Nat), RI .i64 W W.heap.size B p xl → RI .i64 W W.heap.size D q xl → Calls Tryd.prog 24 #[.agg #[.bool xn, .int .u8 xc, .slice B p i], .agg #[.bool xn, .int .u8 xc, .slice D q j]] W fun e w' => e = .returned (.bool true) ∧ Bel W w') := Lib.hid fun W B D p q i j hB hD => by
          have h := rsame_any xn xn xc xc B D p q i j xl xl W hB hD (by have := hB.len; have := HLX.out; omega) (by have := hD.len; have := HLX.out; omega)
          rw [show rsameB xn xn xc xc xl xl = true by simp [rsameB]] at h; exact h
        have HsY : Hid (∀ (W : World) (B D : Option Addr) (p q i j : Nat), RI .i64 W W.heap.size B p yl → RI .i64 W W.heap.size D q yl → Calls Tryd.prog 24 #[.agg #[.bool xn, .int .u8 yc, .slice B p i], .agg #[.bool xn, .int .u8 yc, .slice D q j]] W fun e w' => e = .returned (.bool true) ∧ Bel W w') := Lib.hid fun W B D p q i j hB hD => by
          have h := rsame_any xn xn yc yc B D p q i j yl yl W hB hD (by have := hB.len; have := HLY.out; omega) (by have := hD.len; have := HLY.out; omega)
          rw [show rsameB xn xn yc yc yl yl = true by simp [rsameB]] at h; exact h
        cases yib
        case false =>
          have HI : Hid (∀ (W : World), Bel w W → Calls Tryd.prog 21 #[.agg #[.int .i64 v, .int .u8 m]] W fun e w' => e = .returned (.int .i64 2) ∧ Bel W w') := Lib.hid fun W hW => is_no yi W
          have HSc : Hid (∀ (W : World), Bel w W → Calls Tryd.prog 15 #[.agg #[.int .i64 v, .int .u8 m], .agg #[.bool n1, .int .u8 c1, .slice A1 m1 k1]] W (GivesTE false 0 [] 2 W)) := Lib.hid fun W hW => scaleT_no v m n1 c1 A1 m1 k1 l1 W (HR1.out.bel hW) (by omega) (by rw [yi]; rfl)
          clear hxn hxc hxl hyc hyl hta yi y1 y2
          go_enter Tryd.func4, Tryd.ntmps4
          go_wp2_with fail
          refine (HGR.out _ _ _ (by simp)).mono ?_
          rintro e w1 ⟨rfl, hb⟩
          have hbb : Bel (((w.alloc (.cells #[.bool n1, .int .u8 c1, .slice A1 m1 k1] 25)).alloc (.cells #[.bool n2, .int .u8 c2, .slice A2 m2 k2] 25)).alloc (.cells #[.int .i64 v, .int .u8 m] 32)) w1 := ((Bel.refl _).alloc _).on hb
          have HKa := Lib.hid (hbb.blk (blk3 w _ _ _).1)
          have HKb := Lib.hid (hbb.blk (blk3 w _ _ _).2.1)
          have HKm := Lib.hid (hbb.blk (blk3 w _ _ _).2.2)
          have HC1 : Hid (Bel w w1) := Lib.hid ((((Bel.refl w).alloc _).alloc _).alloc _ |>.on hbb)
          clear hb hbb
          obtain ⟨fa0, fa1, fa2, _, _, _⟩ := cells3 HKa.out
          have hza := (Array.getElem?_eq_some_iff.1 HKa.out).1
          go_wp2_with fail
          refine (HrMa.out _ HC1.out).mono ?_
          clear fa0 fa1 fa2 hza
          rintro e w2 ⟨rfl, hb⟩
          have hbb : Bel w1 w2 := (Bel.refl w1).on hb
          replace HKa := Lib.hid (hbb.blk HKa.out)
          replace HKb := Lib.hid (hbb.blk HKb.out)
          replace HKm := Lib.hid (hbb.blk HKm.out)
          have HC2 : Hid (Bel w w2) := Lib.hid (HC1.out.on hbb)
          clear hb hbb
          obtain ⟨fa0, fa1, fa2, _, _, _⟩ := cells3 HKa.out
          have hza := (Array.getElem?_eq_some_iff.1 HKa.out).1
          obtain ⟨fb0, fb1, fb2, _, _, _⟩ := cells3 HKb.out
          have hzb := (Array.getElem?_eq_some_iff.1 HKb.out).1
          obtain ⟨fm0, fm1⟩ := cells2 HKm.out
          have hzm := (Array.getElem?_eq_some_iff.1 HKm.out).1
          go_wp2_with fail
          have HB2 : Hid (Bel w2 w2) := Lib.hid (Bel.refl _)
          have tk1 : True := trivial
          have tk2 : True := trivial
          have tk3 : True := trivial
          have tk4 : True := trivial
          have tk5 : True := trivial
          have tk6 : True := trivial
          go_region_held3 (fun w' => w'.cell? ⟨w.heap.size, 0, none⟩ = some (.bool n1) ∧ w'.cell? ⟨w.heap.size, 1, none⟩ = some (.int .u8 c1) ∧ w'.cell? ⟨w.heap.size, 2, none⟩ = some (.slice A1 m1 k1) ∧ w'.cell? ⟨w.heap.size + 1, 0, none⟩ = some (.bool n2) ∧ w'.cell? ⟨w.heap.size + 1, 1, none⟩ = some (.int .u8 c2) ∧ w'.cell? ⟨w.heap.size + 1, 2, none⟩ = some (.slice A2 m2 k2) ∧ w'.cell? ⟨w.heap.size + 2, 0, none⟩ = some (.int .i64 v) ∧ w'.cell? ⟨w.heap.size + 2, 1, none⟩ = some (.int .u8 m)) (go_keep)
            (first | (go_at_call 20; have _t := tk1; refine (HMa.out _ (HC2.out.on (by first | exact HB2.out | exact HB2.out.drew))).mono ?_; rintro e w3 ⟨rfl, hb⟩; clear _t tk1; (have hbp : Bel w2 w3 := by first | exact hb | exact (Bel.refl _).drew.on hb); (have HB3 : Hid (Bel w2 w3) := Lib.hid (HB2.out.on hbp)); (have fa0 := (hbp.cell (p := ⟨w.heap.size, 0, none⟩) hza).trans fa0); (have fa1 := (hbp.cell (p := ⟨w.heap.size, 1, none⟩) hza).trans fa1); (have fa2 := (hbp.cell (p := ⟨w.heap.size, 2, none⟩) hza).trans fa2); (have fb0 := (hbp.cell (p := ⟨w.heap.size + 1, 0, none⟩) hzb).trans fb0); (have fb1 := (hbp.cell (p := ⟨w.heap.size + 1, 1, none⟩) hzb).trans fb1); (have fb2 := (hbp.cell (p := ⟨w.heap.size + 1, 2, none⟩) hzb).trans fb2); (have fm0 := (hbp.cell (p := ⟨w.heap.size + 2, 0, none⟩) hzm).trans fm0); (have fm1 := (hbp.cell (p := ⟨w.heap.size + 2, 1, none⟩) hzm).trans fm1); (have hza : w.heap.size < w3.heap.size := Nat.lt_of_lt_of_le hza hbp.size); (have hzb : w.heap.size + 1 < w3.heap.size := Nat.lt_of_lt_of_le hzb hbp.size); (have hzm : w.heap.size + 2 < w3.heap.size := Nat.lt_of_lt_of_le hzm hbp.size); clear hb hbp) | (go_at_call 21; have _t := tk2; refine (HI.out _ (HC2.out.on (by first | exact HB3.out | exact HB3.out.drew))).mono ?_; rintro e w4 ⟨rfl, hb⟩; clear _t tk2; (have hbp : Bel w3 w4 := by first | exact hb | exact (Bel.refl _).drew.on hb); (have HB4 : Hid (Bel w2 w4) := Lib.hid (HB3.out.on hbp)); (have fa0 := (hbp.cell (p := ⟨w.heap.size, 0, none⟩) hza).trans fa0); (have fa1 := (hbp.cell (p := ⟨w.heap.size, 1, none⟩) hza).trans fa1); (have fa2 := (hbp.cell (p := ⟨w.heap.size, 2, none⟩) hza).trans fa2); (have fb0 := (hbp.cell (p := ⟨w.heap.size + 1, 0, none⟩) hzb).trans fb0); (have fb1 := (hbp.cell (p := ⟨w.heap.size + 1, 1, none⟩) hzb).trans fb1); (have fb2 := (hbp.cell (p := ⟨w.heap.size + 1, 2, none⟩) hzb).trans fb2); (have fm0 := (hbp.cell (p := ⟨w.heap.size + 2, 0, none⟩) hzm).trans fm0); (have fm1 := (hbp.cell (p := ⟨w.heap.size + 2, 1, none⟩) hzm).trans fm1); (have hza : w.heap.size < w4.heap.size := Nat.lt_of_lt_of_le hza hbp.size); (have hzb : w.heap.size + 1 < w4.heap.size := Nat.lt_of_lt_of_le hzb hbp.size); (have hzm : w.heap.size + 2 < w4.heap.size := Nat.lt_of_lt_of_le hzm hbp.size); clear hb hbp) | (go_at_call 22; have _t := tk3; refine (HrI.out _ (HC2.out.on (by first | exact HB4.out | exact HB4.out.drew))).mono ?_; rintro e w5 ⟨rfl, hb⟩; clear _t tk3; (have hbp : Bel w4 w5 := by first | exact hb | exact (Bel.refl _).drew.on hb); (have HB5 : Hid (Bel w2 w5) := Lib.hid (HB4.out.on hbp)); (have fa0 := (hbp.cell (p := ⟨w.heap.size, 0, none⟩) hza).trans fa0); (have fa1 := (hbp.cell (p := ⟨w.heap.size, 1, none⟩) hza).trans fa1); (have fa2 := (hbp.cell (p := ⟨w.heap.size, 2, none⟩) hza).trans fa2); (have fb0 := (hbp.cell (p := ⟨w.heap.size + 1, 0, none⟩) hzb).trans fb0); (have fb1 := (hbp.cell (p := ⟨w.heap.size + 1, 1, none⟩) hzb).trans fb1); (have fb2 := (hbp.cell (p := ⟨w.heap.size + 1, 2, none⟩) hzb).trans fb2); (have fm0 := (hbp.cell (p := ⟨w.heap.size + 2, 0, none⟩) hzm).trans fm0); (have fm1 := (hbp.cell (p := ⟨w.heap.size + 2, 1, none⟩) hzm).trans fm1); (have hza : w.heap.size < w5.heap.size := Nat.lt_of_lt_of_le hza hbp.size); (have hzb : w.heap.size + 1 < w5.heap.size := Nat.lt_of_lt_of_le hzb hbp.size); (have hzm : w.heap.size + 2 < w5.heap.size := Nat.lt_of_lt_of_le hzm hbp.size); clear hb hbp) | (go_at_call 23; have _t := tk4; refine (HSab.out _ (HC2.out.on (by first | exact HB5.out | exact HB5.out.drew))).mono ?_; rintro e w6 ⟨rfl, hb⟩; clear _t tk4; (have hbp : Bel w5 w6 := by first | exact hb | exact (Bel.refl _).drew.on hb); (have HB6 : Hid (Bel w2 w6) := Lib.hid (HB5.out.on hbp)); (have fa0 := (hbp.cell (p := ⟨w.heap.size, 0, none⟩) hza).trans fa0); (have fa1 := (hbp.cell (p := ⟨w.heap.size, 1, none⟩) hza).trans fa1); (have fa2 := (hbp.cell (p := ⟨w.heap.size, 2, none⟩) hza).trans fa2); (have fb0 := (hbp.cell (p := ⟨w.heap.size + 1, 0, none⟩) hzb).trans fb0); (have fb1 := (hbp.cell (p := ⟨w.heap.size + 1, 1, none⟩) hzb).trans fb1); (have fb2 := (hbp.cell (p := ⟨w.heap.size + 1, 2, none⟩) hzb).trans fb2); (have fm0 := (hbp.cell (p := ⟨w.heap.size + 2, 0, none⟩) hzm).trans fm0); (have fm1 := (hbp.cell (p := ⟨w.heap.size + 2, 1, none⟩) hzm).trans fm1); (have hza : w.heap.size < w6.heap.size := Nat.lt_of_lt_of_le hza hbp.size); (have hzb : w.heap.size + 1 < w6.heap.size := Nat.lt_of_lt_of_le hzb hbp.size); (have hzm : w.heap.size + 2 < w6.heap.size := Nat.lt_of_lt_of_le hzm hbp.size); clear hb hbp) | (go_at_call 24; have _t := tk5; refine (HrS.out _ (HC2.out.on (by first | exact HB6.out | exact HB6.out.drew))).mono ?_; rintro e w7 ⟨rfl, hb⟩; clear _t tk5; (have hbp : Bel w6 w7 := by first | exact hb | exact (Bel.refl _).drew.on hb); (have HB7 : Hid (Bel w2 w7) := Lib.hid (HB6.out.on hbp)); (have fa0 := (hbp.cell (p := ⟨w.heap.size, 0, none⟩) hza).trans fa0); (have fa1 := (hbp.cell (p := ⟨w.heap.size, 1, none⟩) hza).trans fa1); (have fa2 := (hbp.cell (p := ⟨w.heap.size, 2, none⟩) hza).trans fa2); (have fb0 := (hbp.cell (p := ⟨w.heap.size + 1, 0, none⟩) hzb).trans fb0); (have fb1 := (hbp.cell (p := ⟨w.heap.size + 1, 1, none⟩) hzb).trans fb1); (have fb2 := (hbp.cell (p := ⟨w.heap.size + 1, 2, none⟩) hzb).trans fb2); (have fm0 := (hbp.cell (p := ⟨w.heap.size + 2, 0, none⟩) hzm).trans fm0); (have fm1 := (hbp.cell (p := ⟨w.heap.size + 2, 1, none⟩) hzm).trans fm1); (have hza : w.heap.size < w7.heap.size := Nat.lt_of_lt_of_le hza hbp.size); (have hzb : w.heap.size + 1 < w7.heap.size := Nat.lt_of_lt_of_le hzb hbp.size); (have hzm : w.heap.size + 2 < w7.heap.size := Nat.lt_of_lt_of_le hzm hbp.size); clear hb hbp) | (go_at_call 23; have _t := tk6; refine (HSaa.out _ (HC2.out.on (by first | exact HB7.out | exact HB7.out.drew))).mono ?_; rintro e w8 ⟨rfl, hb⟩; clear _t tk6; (have hbp : Bel w7 w8 := by first | exact hb | exact (Bel.refl _).drew.on hb); (have HB8 : Hid (Bel w2 w8) := Lib.hid (HB7.out.on hbp)); (have fa0 := (hbp.cell (p := ⟨w.heap.size, 0, none⟩) hza).trans fa0); (have fa1 := (hbp.cell (p := ⟨w.heap.size, 1, none⟩) hza).trans fa1); (have fa2 := (hbp.cell (p := ⟨w.heap.size, 2, none⟩) hza).trans fa2); (have fb0 := (hbp.cell (p := ⟨w.heap.size + 1, 0, none⟩) hzb).trans fb0); (have fb1 := (hbp.cell (p := ⟨w.heap.size + 1, 1, none⟩) hzb).trans fb1); (have fb2 := (hbp.cell (p := ⟨w.heap.size + 1, 2, none⟩) hzb).trans fb2); (have fm0 := (hbp.cell (p := ⟨w.heap.size + 2, 0, none⟩) hzm).trans fm0); (have fm1 := (hbp.cell (p := ⟨w.heap.size + 2, 1, none⟩) hzm).trans fm1); (have hza : w.heap.size < w8.heap.size := Nat.lt_of_lt_of_le hza hbp.size); (have hzb : w.heap.size + 1 < w8.heap.size := Nat.lt_of_lt_of_le hzb hbp.size); (have hzm : w.heap.size + 2 < w8.heap.size := Nat.lt_of_lt_of_le hzm hbp.size); clear hb hbp))
          replace HKa := Lib.hid (HB8.out.blk HKa.out)
          replace HKb := Lib.hid (HB8.out.blk HKb.out)
          replace HKm := Lib.hid (HB8.out.blk HKm.out)
          have HC8 : Hid (Bel w w8) := Lib.hid (HC2.out.on HB8.out)
          clear HB2 HB3 HB4 HB5 HB6 HB7 HB8
          go_wp2_with fail
          refine (HJ.out w8 _ _ (by simp) HC8.out).mono ?_
          clear fa0 fa1 fa2 hza fb0 fb1 fb2 hzb fm0 fm1 hzm
          rintro e w9 ⟨Ax, mx, kx, rfl, hrx, hb⟩
          have hbb : Bel w8 w9 := ((Bel.refl w8).alloc _).on hb
          replace HKa := Lib.hid (hbb.blk HKa.out)
          replace HKb := Lib.hid (hbb.blk HKb.out)
          replace HKm := Lib.hid (hbb.blk HKm.out)
          have HC9 : Hid (Bel w w9) := Lib.hid (HC8.out.on hbb)
          have HRX := Lib.hid hrx
          clear hb hbb hrx
          obtain ⟨fa0, fa1, fa2, _, _, _⟩ := cells3 HKa.out
          have hza := (Array.getElem?_eq_some_iff.1 HKa.out).1
          obtain ⟨fb0, fb1, fb2, _, _, _⟩ := cells3 HKb.out
          have hzb := (Array.getElem?_eq_some_iff.1 HKb.out).1
          obtain ⟨fm0, fm1⟩ := cells2 HKm.out
          have hzm := (Array.getElem?_eq_some_iff.1 HKm.out).1
          go_wp2_with fail
          refine (HS.out (w9.alloc _) _ _ (by simp) (HC9.out.alloc _)).mono ?_
          clear fa0 fa1 fa2 hza fb0 fb1 fb2 hzb fm0 fm1 hzm
          rintro e w10 ⟨Ay, my, ky, rfl, hry, hb⟩
          have hbb : Bel (w9.alloc (.cells #[.bool xn, .int .u8 xc, .slice Ax mx kx] 25)) w10 := ((Bel.refl _).alloc _).on hb
          have HKx := Lib.hid (hbb.blk (blk1 w9 _))
          replace HRX := Lib.hid (HRX.out.bel (((Bel.refl w9).alloc _).on hbb))
          have hbc : Bel w9 w10 := ((Bel.refl w9).alloc _).on hbb
          replace HKa := Lib.hid (hbc.blk HKa.out)
          replace HKb := Lib.hid (hbc.blk HKb.out)
          replace HKm := Lib.hid (hbc.blk HKm.out)
          have HC10 : Hid (Bel w w10) := Lib.hid (HC9.out.on hbc)
          have HRY := Lib.hid hry
          clear hb hbb hbc hry
          obtain ⟨fa0, fa1, fa2, _, _, _⟩ := cells3 HKa.out
          have hza := (Array.getElem?_eq_some_iff.1 HKa.out).1
          obtain ⟨fb0, fb1, fb2, _, _, _⟩ := cells3 HKb.out
          have hzb := (Array.getElem?_eq_some_iff.1 HKb.out).1
          obtain ⟨fm0, fm1⟩ := cells2 HKm.out
          have hzm := (Array.getElem?_eq_some_iff.1 HKm.out).1
          go_wp2_with fail
          refine (HSc.out _ (HC10.out.alloc _)).mono ?_
          clear fa0 fa1 fa2 hza fb0 fb1 fb2 hzb fm0 fm1 hzm
          rintro e w11 ⟨Az, mz, kz, rfl, hrz, hb⟩
          have HKy := Lib.hid (hb.blk (blk1 w10 _))
          have hbc : Bel w10 w11 := ((Bel.refl w10).alloc _).on hb
          replace HRX := Lib.hid (HRX.out.bel hbc)
          replace HRY := Lib.hid (HRY.out.bel hbc)
          replace HKa := Lib.hid (hbc.blk HKa.out)
          replace HKb := Lib.hid (hbc.blk HKb.out)
          replace HKm := Lib.hid (hbc.blk HKm.out)
          replace HKx := Lib.hid (hbc.blk HKx.out)
          have HC11 : Hid (Bel w w11) := Lib.hid (HC10.out.on hbc)
          have HRZ := Lib.hid hrz
          clear hb hbc hrz
          obtain ⟨fb0, fb1, fb2, _, _, _⟩ := cells3 HKb.out
          have hzb := (Array.getElem?_eq_some_iff.1 HKb.out).1
          go_wp2_with fail
          refine (HrMb.out _ (HC11.out.alloc _)).mono ?_
          clear fb0 fb1 fb2 hzb
          rintro e w12 ⟨rfl, hb⟩
          have HKz := Lib.hid (hb.blk (blk1 w11 _))
          have hbc : Bel w11 w12 := ((Bel.refl w11).alloc _).on hb
          have HC12 : Hid (Bel w w12) := Lib.hid (HC11.out.on hbc)
          replace HRX := Lib.hid (HRX.out.bel hbc)
          replace HRY := Lib.hid (HRY.out.bel hbc)
          replace HRZ := Lib.hid (HRZ.out.bel hbc)
          replace HKa := Lib.hid (hbc.blk HKa.out)
          replace HKb := Lib.hid (hbc.blk HKb.out)
          replace HKm := Lib.hid (hbc.blk HKm.out)
          replace HKx := Lib.hid (hbc.blk HKx.out)
          replace HKy := Lib.hid (hbc.blk HKy.out)
          clear hb hbc
          obtain ⟨fa0, fa1, fa2, _, _, _⟩ := cells3 HKa.out
          have hza := (Array.getElem?_eq_some_iff.1 HKa.out).1
          obtain ⟨fb0, fb1, fb2, _, _, _⟩ := cells3 HKb.out
          have hzb := (Array.getElem?_eq_some_iff.1 HKb.out).1
          obtain ⟨fx0, fx1, fx2, _, _, _⟩ := cells3 HKx.out
          have hzx := (Array.getElem?_eq_some_iff.1 HKx.out).1
          obtain ⟨fy0, fy1, fy2, _, _, _⟩ := cells3 HKy.out
          have hzy := (Array.getElem?_eq_some_iff.1 HKy.out).1
          go_wp2_with fail
          have HB12 : Hid (Bel w12 w12) := Lib.hid (Bel.refl _)
          have tk1 : True := trivial
          have tk2 : True := trivial
          have tk3 : True := trivial
          have tk4 : True := trivial
          have tk5 : True := trivial
          have tk6 : True := trivial
          go_region_held3 (fun w' => w'.cell? ⟨w.heap.size, 0, none⟩ = some (.bool n1) ∧ w'.cell? ⟨w.heap.size, 1, none⟩ = some (.int .u8 c1) ∧ w'.cell? ⟨w.heap.size, 2, none⟩ = some (.slice A1 m1 k1) ∧ w'.cell? ⟨w.heap.size + 1, 0, none⟩ = some (.bool n2) ∧ w'.cell? ⟨w.heap.size + 1, 1, none⟩ = some (.int .u8 c2) ∧ w'.cell? ⟨w.heap.size + 1, 2, none⟩ = some (.slice A2 m2 k2) ∧ w'.cell? ⟨w9.heap.size, 0, none⟩ = some (.bool xn) ∧ w'.cell? ⟨w9.heap.size, 1, none⟩ = some (.int .u8 xc) ∧ w'.cell? ⟨w9.heap.size, 2, none⟩ = some (.slice Ax mx kx) ∧ w'.cell? ⟨w10.heap.size, 0, none⟩ = some (.bool xn) ∧ w'.cell? ⟨w10.heap.size, 1, none⟩ = some (.int .u8 yc) ∧ w'.cell? ⟨w10.heap.size, 2, none⟩ = some (.slice Ay my ky)) (go_keep)
            (first | (go_at_call 25; have _t := tk1; refine (HrJ.out _ (HC12.out.on (by first | exact HB12.out | exact HB12.out.drew))).mono ?_; rintro e w13 ⟨Aj, nj, kj, rfl, hrr, hb⟩; clear _t tk1; (have hbp : Bel w12 w13 := by first | exact hb | exact (Bel.refl _).drew.on hb); (have HB13 : Hid (Bel w12 w13) := Lib.hid (HB12.out.on hbp)); (have HQ13 := Lib.hid hrr); clear hrr; (have fa0 := (hbp.cell (p := ⟨w.heap.size, 0, none⟩) hza).trans fa0); (have fa1 := (hbp.cell (p := ⟨w.heap.size, 1, none⟩) hza).trans fa1); (have fa2 := (hbp.cell (p := ⟨w.heap.size, 2, none⟩) hza).trans fa2); (have fb0 := (hbp.cell (p := ⟨w.heap.size + 1, 0, none⟩) hzb).trans fb0); (have fb1 := (hbp.cell (p := ⟨w.heap.size + 1, 1, none⟩) hzb).trans fb1); (have fb2 := (hbp.cell (p := ⟨w.heap.size + 1, 2, none⟩) hzb).trans fb2); (have fx0 := (hbp.cell (p := ⟨w9.heap.size, 0, none⟩) hzx).trans fx0); (have fx1 := (hbp.cell (p := ⟨w9.heap.size, 1, none⟩) hzx).trans fx1); (have fx2 := (hbp.cell (p := ⟨w9.heap.size, 2, none⟩) hzx).trans fx2); (have fy0 := (hbp.cell (p := ⟨w10.heap.size, 0, none⟩) hzy).trans fy0); (have fy1 := (hbp.cell (p := ⟨w10.heap.size, 1, none⟩) hzy).trans fy1); (have fy2 := (hbp.cell (p := ⟨w10.heap.size, 2, none⟩) hzy).trans fy2); (have hza : w.heap.size < w13.heap.size := Nat.lt_of_lt_of_le hza hbp.size); (have hzb : w.heap.size + 1 < w13.heap.size := Nat.lt_of_lt_of_le hzb hbp.size); (have hzx : w9.heap.size < w13.heap.size := Nat.lt_of_lt_of_le hzx hbp.size); (have hzy : w10.heap.size < w13.heap.size := Nat.lt_of_lt_of_le hzy hbp.size); clear hb hbp) | (go_at_call 24; have _t := tk2; refine (HsX.out _ _ _ _ _ _ _ (HRX.out.bel (by first | exact HB13.out | exact HB13.out.drew)) (by first | exact HQ13.out | exact HQ13.out.bel (Bel.refl _).drew)).mono ?_; rintro e w14 ⟨rfl, hb⟩; clear _t tk2; (have hbp : Bel w13 w14 := by first | exact hb | exact (Bel.refl _).drew.on hb); (have HB14 : Hid (Bel w12 w14) := Lib.hid (HB13.out.on hbp)); (have fa0 := (hbp.cell (p := ⟨w.heap.size, 0, none⟩) hza).trans fa0); (have fa1 := (hbp.cell (p := ⟨w.heap.size, 1, none⟩) hza).trans fa1); (have fa2 := (hbp.cell (p := ⟨w.heap.size, 2, none⟩) hza).trans fa2); (have fb0 := (hbp.cell (p := ⟨w.heap.size + 1, 0, none⟩) hzb).trans fb0); (have fb1 := (hbp.cell (p := ⟨w.heap.size + 1, 1, none⟩) hzb).trans fb1); (have fb2 := (hbp.cell (p := ⟨w.heap.size + 1, 2, none⟩) hzb).trans fb2); (have fx0 := (hbp.cell (p := ⟨w9.heap.size, 0, none⟩) hzx).trans fx0); (have fx1 := (hbp.cell (p := ⟨w9.heap.size, 1, none⟩) hzx).trans fx1); (have fx2 := (hbp.cell (p := ⟨w9.heap.size, 2, none⟩) hzx).trans fx2); (have fy0 := (hbp.cell (p := ⟨w10.heap.size, 0, none⟩) hzy).trans fy0); (have fy1 := (hbp.cell (p := ⟨w10.heap.size, 1, none⟩) hzy).trans fy1); (have fy2 := (hbp.cell (p := ⟨w10.heap.size, 2, none⟩) hzy).trans fy2); (have hza : w.heap.size < w14.heap.size := Nat.lt_of_lt_of_le hza hbp.size); (have hzb : w.heap.size + 1 < w14.heap.size := Nat.lt_of_lt_of_le hzb hbp.size); (have hzx : w9.heap.size < w14.heap.size := Nat.lt_of_lt_of_le hzx hbp.size); (have hzy : w10.heap.size < w14.heap.size := Nat.lt_of_lt_of_le hzy hbp.size); clear hb hbp) | (go_at_call 26; have _t := tk3; refine (HrSu.out _ (HC12.out.on (by first | exact HB14.out | exact HB14.out.drew))).mono ?_; rintro e w15 ⟨As, ns, ks, rfl, hrr, hb⟩; clear _t tk3; (have hbp : Bel w14 w15 := by first | exact hb | exact (Bel.refl _).drew.on hb); (have HB15 : Hid (Bel w12 w15) := Lib.hid (HB14.out.on hbp)); (have HQ15 := Lib.hid hrr); clear hrr; (have fa0 := (hbp.cell (p := ⟨w.heap.size, 0, none⟩) hza).trans fa0); (have fa1 := (hbp.cell (p := ⟨w.heap.size, 1, none⟩) hza).trans fa1); (have fa2 := (hbp.cell (p := ⟨w.heap.size, 2, none⟩) hza).trans fa2); (have fb0 := (hbp.cell (p := ⟨w.heap.size + 1, 0, none⟩) hzb).trans fb0); (have fb1 := (hbp.cell (p := ⟨w.heap.size + 1, 1, none⟩) hzb).trans fb1); (have fb2 := (hbp.cell (p := ⟨w.heap.size + 1, 2, none⟩) hzb).trans fb2); (have fx0 := (hbp.cell (p := ⟨w9.heap.size, 0, none⟩) hzx).trans fx0); (have fx1 := (hbp.cell (p := ⟨w9.heap.size, 1, none⟩) hzx).trans fx1); (have fx2 := (hbp.cell (p := ⟨w9.heap.size, 2, none⟩) hzx).trans fx2); (have fy0 := (hbp.cell (p := ⟨w10.heap.size, 0, none⟩) hzy).trans fy0); (have fy1 := (hbp.cell (p := ⟨w10.heap.size, 1, none⟩) hzy).trans fy1); (have fy2 := (hbp.cell (p := ⟨w10.heap.size, 2, none⟩) hzy).trans fy2); (have hza : w.heap.size < w15.heap.size := Nat.lt_of_lt_of_le hza hbp.size); (have hzb : w.heap.size + 1 < w15.heap.size := Nat.lt_of_lt_of_le hzb hbp.size); (have hzx : w9.heap.size < w15.heap.size := Nat.lt_of_lt_of_le hzx hbp.size); (have hzy : w10.heap.size < w15.heap.size := Nat.lt_of_lt_of_le hzy hbp.size); clear hb hbp) | (go_at_call 24; have _t := tk4; refine (HsY.out _ _ _ _ _ _ _ (HRY.out.bel (by first | exact HB15.out | exact HB15.out.drew)) (by first | exact HQ15.out | exact HQ15.out.bel (Bel.refl _).drew)).mono ?_; rintro e w16 ⟨rfl, hb⟩; clear _t tk4; (have hbp : Bel w15 w16 := by first | exact hb | exact (Bel.refl _).drew.on hb); (have HB16 : Hid (Bel w12 w16) := Lib.hid (HB15.out.on hbp)); (have fa0 := (hbp.cell (p := ⟨w.heap.size, 0, none⟩) hza).trans fa0); (have fa1 := (hbp.cell (p := ⟨w.heap.size, 1, none⟩) hza).trans fa1); (have fa2 := (hbp.cell (p := ⟨w.heap.size, 2, none⟩) hza).trans fa2); (have fb0 := (hbp.cell (p := ⟨w.heap.size + 1, 0, none⟩) hzb).trans fb0); (have fb1 := (hbp.cell (p := ⟨w.heap.size + 1, 1, none⟩) hzb).trans fb1); (have fb2 := (hbp.cell (p := ⟨w.heap.size + 1, 2, none⟩) hzb).trans fb2); (have fx0 := (hbp.cell (p := ⟨w9.heap.size, 0, none⟩) hzx).trans fx0); (have fx1 := (hbp.cell (p := ⟨w9.heap.size, 1, none⟩) hzx).trans fx1); (have fx2 := (hbp.cell (p := ⟨w9.heap.size, 2, none⟩) hzx).trans fx2); (have fy0 := (hbp.cell (p := ⟨w10.heap.size, 0, none⟩) hzy).trans fy0); (have fy1 := (hbp.cell (p := ⟨w10.heap.size, 1, none⟩) hzy).trans fy1); (have fy2 := (hbp.cell (p := ⟨w10.heap.size, 2, none⟩) hzy).trans fy2); (have hza : w.heap.size < w16.heap.size := Nat.lt_of_lt_of_le hza hbp.size); (have hzb : w.heap.size + 1 < w16.heap.size := Nat.lt_of_lt_of_le hzb hbp.size); (have hzx : w9.heap.size < w16.heap.size := Nat.lt_of_lt_of_le hzx hbp.size); (have hzy : w10.heap.size < w16.heap.size := Nat.lt_of_lt_of_le hzy hbp.size); clear hb hbp) | (go_at_call 17; have _t := tk5; refine (HTa.out _ (HC12.out.on (by first | exact HB16.out | exact HB16.out.drew))).mono ?_; rintro e w17 ⟨rfl, hb⟩; clear _t tk5; (have hbp : Bel w16 w17 := by first | exact hb | exact (Bel.refl _).drew.on hb); (have HB17 : Hid (Bel w12 w17) := Lib.hid (HB16.out.on hbp)); (have fa0 := (hbp.cell (p := ⟨w.heap.size, 0, none⟩) hza).trans fa0); (have fa1 := (hbp.cell (p := ⟨w.heap.size, 1, none⟩) hza).trans fa1); (have fa2 := (hbp.cell (p := ⟨w.heap.size, 2, none⟩) hza).trans fa2); (have fb0 := (hbp.cell (p := ⟨w.heap.size + 1, 0, none⟩) hzb).trans fb0); (have fb1 := (hbp.cell (p := ⟨w.heap.size + 1, 1, none⟩) hzb).trans fb1); (have fb2 := (hbp.cell (p := ⟨w.heap.size + 1, 2, none⟩) hzb).trans fb2); (have fx0 := (hbp.cell (p := ⟨w9.heap.size, 0, none⟩) hzx).trans fx0); (have fx1 := (hbp.cell (p := ⟨w9.heap.size, 1, none⟩) hzx).trans fx1); (have fx2 := (hbp.cell (p := ⟨w9.heap.size, 2, none⟩) hzx).trans fx2); (have fy0 := (hbp.cell (p := ⟨w10.heap.size, 0, none⟩) hzy).trans fy0); (have fy1 := (hbp.cell (p := ⟨w10.heap.size, 1, none⟩) hzy).trans fy1); (have fy2 := (hbp.cell (p := ⟨w10.heap.size, 2, none⟩) hzy).trans fy2); (have hza : w.heap.size < w17.heap.size := Nat.lt_of_lt_of_le hza hbp.size); (have hzb : w.heap.size + 1 < w17.heap.size := Nat.lt_of_lt_of_le hzb hbp.size); (have hzx : w9.heap.size < w17.heap.size := Nat.lt_of_lt_of_le hzx hbp.size); (have hzy : w10.heap.size < w17.heap.size := Nat.lt_of_lt_of_le hzy hbp.size); clear hb hbp) | (go_at_call 27; have _t := tk6; refine (HrT.out _ (HC12.out.on (by first | exact HB17.out | exact HB17.out.drew))).mono ?_; rintro e w18 ⟨rfl, hb⟩; clear _t tk6; (have hbp : Bel w17 w18 := by first | exact hb | exact (Bel.refl _).drew.on hb); (have HB18 : Hid (Bel w12 w18) := Lib.hid (HB17.out.on hbp)); (have fa0 := (hbp.cell (p := ⟨w.heap.size, 0, none⟩) hza).trans fa0); (have fa1 := (hbp.cell (p := ⟨w.heap.size, 1, none⟩) hza).trans fa1); (have fa2 := (hbp.cell (p := ⟨w.heap.size, 2, none⟩) hza).trans fa2); (have fb0 := (hbp.cell (p := ⟨w.heap.size + 1, 0, none⟩) hzb).trans fb0); (have fb1 := (hbp.cell (p := ⟨w.heap.size + 1, 1, none⟩) hzb).trans fb1); (have fb2 := (hbp.cell (p := ⟨w.heap.size + 1, 2, none⟩) hzb).trans fb2); (have fx0 := (hbp.cell (p := ⟨w9.heap.size, 0, none⟩) hzx).trans fx0); (have fx1 := (hbp.cell (p := ⟨w9.heap.size, 1, none⟩) hzx).trans fx1); (have fx2 := (hbp.cell (p := ⟨w9.heap.size, 2, none⟩) hzx).trans fx2); (have fy0 := (hbp.cell (p := ⟨w10.heap.size, 0, none⟩) hzy).trans fy0); (have fy1 := (hbp.cell (p := ⟨w10.heap.size, 1, none⟩) hzy).trans fy1); (have fy2 := (hbp.cell (p := ⟨w10.heap.size, 2, none⟩) hzy).trans fy2); (have hza : w.heap.size < w18.heap.size := Nat.lt_of_lt_of_le hza hbp.size); (have hzb : w.heap.size + 1 < w18.heap.size := Nat.lt_of_lt_of_le hzb hbp.size); (have hzx : w9.heap.size < w18.heap.size := Nat.lt_of_lt_of_le hzx hbp.size); (have hzy : w10.heap.size < w18.heap.size := Nat.lt_of_lt_of_le hzy hbp.size); clear hb hbp))
          replace HKa := Lib.hid (HB18.out.blk HKa.out)
          replace HKb := Lib.hid (HB18.out.blk HKb.out)
          replace HKm := Lib.hid (HB18.out.blk HKm.out)
          replace HKx := Lib.hid (HB18.out.blk HKx.out)
          replace HKy := Lib.hid (HB18.out.blk HKy.out)
          replace HKz := Lib.hid (HB18.out.blk HKz.out)
          have HC18 : Hid (Bel w w18) := Lib.hid (HC12.out.on HB18.out)
          replace HRZ := Lib.hid (HRZ.out.bel HB18.out)
          clear fa0 fa1 fa2 hza fb0 fb1 fb2 hzb fx0 fx1 fx2 hzx fy0 fy1 fy2 hzy HB12 HB13 HB14 HB15 HB16 HB17 HB18 HQ13 HQ15
          obtain ⟨fm0, fm1⟩ := cells2 HKm.out
          have hzm := (Array.getElem?_eq_some_iff.1 HKm.out).1
          go_wp2_with fail
          refine (HrI.out _ HC18.out).mono ?_
          clear fm0 fm1 hzm
          rintro e w19 ⟨rfl, hbc⟩
          have HC19 : Hid (Bel w w19) := Lib.hid (HC18.out.on hbc)
          replace HRZ := Lib.hid (HRZ.out.bel hbc)
          replace HKa := Lib.hid (hbc.blk HKa.out)
          replace HKm := Lib.hid (hbc.blk HKm.out)
          replace HKz := Lib.hid (hbc.blk HKz.out)
          clear hbc
          go_wp2_with fail
          refine (works2_any _).mono ?_
          rintro e w20 ⟨rfl, hb⟩
          have HC20 := Lib.hid ((HC19.out).on hb)
          clear hb
          go_wp2_with fail
          go_ret
          exact ⟨rfl, HC20.out⟩
        case true =>
          have HI : Hid (∀ (W : World), Bel w W → Calls Tryd.prog 21 #[.agg #[.int .i64 v, .int .u8 m]] W fun e w' => e = .returned (.int .i64 0) ∧ Bel W w') := Lib.hid fun W hW => is_yes yi W
          obtain ⟨zc, hzc⟩ : ∃ x, scC n1 m c1 = x := ⟨_, rfl⟩
          obtain ⟨zl, hzl⟩ : ∃ x, scL n1 v m c1 l1 = x := ⟨_, rfl⟩
          have HSc : Hid (∀ (W : World), Bel w W → Calls Tryd.prog 15 #[.agg #[.int .i64 v, .int .u8 m], .agg #[.bool n1, .int .u8 c1, .slice A1 m1 k1]] W (GivesTE n1 zc zl 0 W)) := Lib.hid fun W hW => by
            have h := scaleT_yes v m n1 c1 A1 m1 k1 l1 W (HR1.out.bel hW) (by omega) yi y1
            rw [hzc, hzl] at h; exact h
          have HLZ : Hid (zl.length ≤ 10000) := Lib.hid (by rw [← hzl]; have a := scL_len n1 v m c1 l1; have b := HR1.out.len; omega)
          have HrSc : Hid (∀ (W : World), Bel w W → Calls Tryd.prog 28 #[.agg #[.int .i64 v, .int .u8 m], .agg #[.bool n1, .int .u8 c1, .slice A1 m1 k1]] W fun e w' => ∃ A' n' c', e = .returned (.agg #[.bool n1, .int .u8 zc, .slice A' n' c']) ∧ RI .i64 w' w'.heap.size A' n' zl ∧ Bel W w') := Lib.hid fun W hW => by
            have h := rscale_any v m n1 c1 A1 m1 k1 l1 W (HR1.out.bel hW) (by omega) yi y1
            rw [hzc, hzl] at h; exact h
          have HsZ : Hid (∀ (W : World) (B D : Option Addr) (p q i j : Nat), RI .i64 W W.heap.size B p zl → RI .i64 W W.heap.size D q zl → Calls Tryd.prog 24 #[.agg #[.bool n1, .int .u8 zc, .slice B p i], .agg #[.bool n1, .int .u8 zc, .slice D q j]] W fun e w' => e = .returned (.bool true) ∧ Bel W w') := Lib.hid fun W B D p q i j hB hD => by
            have h := rsame_any n1 n1 zc zc B D p q i j zl zl W hB hD (by have := hB.len; have := HLZ.out; omega) (by have := hD.len; have := HLZ.out; omega)
            rw [show rsameB n1 n1 zc zc zl zl = true by simp [rsameB]] at h; exact h
          clear hxn hxc hxl hyc hyl hzc hzl hta yi y1 y2
          go_enter Tryd.func4, Tryd.ntmps4
          go_wp2_with fail
          refine (HGR.out _ _ _ (by simp)).mono ?_
          rintro e w1 ⟨rfl, hb⟩
          have hbb : Bel (((w.alloc (.cells #[.bool n1, .int .u8 c1, .slice A1 m1 k1] 25)).alloc (.cells #[.bool n2, .int .u8 c2, .slice A2 m2 k2] 25)).alloc (.cells #[.int .i64 v, .int .u8 m] 32)) w1 := ((Bel.refl _).alloc _).on hb
          have HKa := Lib.hid (hbb.blk (blk3 w _ _ _).1)
          have HKb := Lib.hid (hbb.blk (blk3 w _ _ _).2.1)
          have HKm := Lib.hid (hbb.blk (blk3 w _ _ _).2.2)
          have HC1 : Hid (Bel w w1) := Lib.hid ((((Bel.refl w).alloc _).alloc _).alloc _ |>.on hbb)
          clear hb hbb
          obtain ⟨fa0, fa1, fa2, _, _, _⟩ := cells3 HKa.out
          have hza := (Array.getElem?_eq_some_iff.1 HKa.out).1
          go_wp2_with fail
          refine (HrMa.out _ HC1.out).mono ?_
          clear fa0 fa1 fa2 hza
          rintro e w2 ⟨rfl, hb⟩
          have hbb : Bel w1 w2 := (Bel.refl w1).on hb
          replace HKa := Lib.hid (hbb.blk HKa.out)
          replace HKb := Lib.hid (hbb.blk HKb.out)
          replace HKm := Lib.hid (hbb.blk HKm.out)
          have HC2 : Hid (Bel w w2) := Lib.hid (HC1.out.on hbb)
          clear hb hbb
          obtain ⟨fa0, fa1, fa2, _, _, _⟩ := cells3 HKa.out
          have hza := (Array.getElem?_eq_some_iff.1 HKa.out).1
          obtain ⟨fb0, fb1, fb2, _, _, _⟩ := cells3 HKb.out
          have hzb := (Array.getElem?_eq_some_iff.1 HKb.out).1
          obtain ⟨fm0, fm1⟩ := cells2 HKm.out
          have hzm := (Array.getElem?_eq_some_iff.1 HKm.out).1
          go_wp2_with fail
          have HB2 : Hid (Bel w2 w2) := Lib.hid (Bel.refl _)
          have tk1 : True := trivial
          have tk2 : True := trivial
          have tk3 : True := trivial
          have tk4 : True := trivial
          have tk5 : True := trivial
          have tk6 : True := trivial
          go_region_held3 (fun w' => w'.cell? ⟨w.heap.size, 0, none⟩ = some (.bool n1) ∧ w'.cell? ⟨w.heap.size, 1, none⟩ = some (.int .u8 c1) ∧ w'.cell? ⟨w.heap.size, 2, none⟩ = some (.slice A1 m1 k1) ∧ w'.cell? ⟨w.heap.size + 1, 0, none⟩ = some (.bool n2) ∧ w'.cell? ⟨w.heap.size + 1, 1, none⟩ = some (.int .u8 c2) ∧ w'.cell? ⟨w.heap.size + 1, 2, none⟩ = some (.slice A2 m2 k2) ∧ w'.cell? ⟨w.heap.size + 2, 0, none⟩ = some (.int .i64 v) ∧ w'.cell? ⟨w.heap.size + 2, 1, none⟩ = some (.int .u8 m)) (go_keep)
            (first | (go_at_call 20; have _t := tk1; refine (HMa.out _ (HC2.out.on (by first | exact HB2.out | exact HB2.out.drew))).mono ?_; rintro e w3 ⟨rfl, hb⟩; clear _t tk1; (have hbp : Bel w2 w3 := by first | exact hb | exact (Bel.refl _).drew.on hb); (have HB3 : Hid (Bel w2 w3) := Lib.hid (HB2.out.on hbp)); (have fa0 := (hbp.cell (p := ⟨w.heap.size, 0, none⟩) hza).trans fa0); (have fa1 := (hbp.cell (p := ⟨w.heap.size, 1, none⟩) hza).trans fa1); (have fa2 := (hbp.cell (p := ⟨w.heap.size, 2, none⟩) hza).trans fa2); (have fb0 := (hbp.cell (p := ⟨w.heap.size + 1, 0, none⟩) hzb).trans fb0); (have fb1 := (hbp.cell (p := ⟨w.heap.size + 1, 1, none⟩) hzb).trans fb1); (have fb2 := (hbp.cell (p := ⟨w.heap.size + 1, 2, none⟩) hzb).trans fb2); (have fm0 := (hbp.cell (p := ⟨w.heap.size + 2, 0, none⟩) hzm).trans fm0); (have fm1 := (hbp.cell (p := ⟨w.heap.size + 2, 1, none⟩) hzm).trans fm1); (have hza : w.heap.size < w3.heap.size := Nat.lt_of_lt_of_le hza hbp.size); (have hzb : w.heap.size + 1 < w3.heap.size := Nat.lt_of_lt_of_le hzb hbp.size); (have hzm : w.heap.size + 2 < w3.heap.size := Nat.lt_of_lt_of_le hzm hbp.size); clear hb hbp) | (go_at_call 21; have _t := tk2; refine (HI.out _ (HC2.out.on (by first | exact HB3.out | exact HB3.out.drew))).mono ?_; rintro e w4 ⟨rfl, hb⟩; clear _t tk2; (have hbp : Bel w3 w4 := by first | exact hb | exact (Bel.refl _).drew.on hb); (have HB4 : Hid (Bel w2 w4) := Lib.hid (HB3.out.on hbp)); (have fa0 := (hbp.cell (p := ⟨w.heap.size, 0, none⟩) hza).trans fa0); (have fa1 := (hbp.cell (p := ⟨w.heap.size, 1, none⟩) hza).trans fa1); (have fa2 := (hbp.cell (p := ⟨w.heap.size, 2, none⟩) hza).trans fa2); (have fb0 := (hbp.cell (p := ⟨w.heap.size + 1, 0, none⟩) hzb).trans fb0); (have fb1 := (hbp.cell (p := ⟨w.heap.size + 1, 1, none⟩) hzb).trans fb1); (have fb2 := (hbp.cell (p := ⟨w.heap.size + 1, 2, none⟩) hzb).trans fb2); (have fm0 := (hbp.cell (p := ⟨w.heap.size + 2, 0, none⟩) hzm).trans fm0); (have fm1 := (hbp.cell (p := ⟨w.heap.size + 2, 1, none⟩) hzm).trans fm1); (have hza : w.heap.size < w4.heap.size := Nat.lt_of_lt_of_le hza hbp.size); (have hzb : w.heap.size + 1 < w4.heap.size := Nat.lt_of_lt_of_le hzb hbp.size); (have hzm : w.heap.size + 2 < w4.heap.size := Nat.lt_of_lt_of_le hzm hbp.size); clear hb hbp) | (go_at_call 22; have _t := tk3; refine (HrI.out _ (HC2.out.on (by first | exact HB4.out | exact HB4.out.drew))).mono ?_; rintro e w5 ⟨rfl, hb⟩; clear _t tk3; (have hbp : Bel w4 w5 := by first | exact hb | exact (Bel.refl _).drew.on hb); (have HB5 : Hid (Bel w2 w5) := Lib.hid (HB4.out.on hbp)); (have fa0 := (hbp.cell (p := ⟨w.heap.size, 0, none⟩) hza).trans fa0); (have fa1 := (hbp.cell (p := ⟨w.heap.size, 1, none⟩) hza).trans fa1); (have fa2 := (hbp.cell (p := ⟨w.heap.size, 2, none⟩) hza).trans fa2); (have fb0 := (hbp.cell (p := ⟨w.heap.size + 1, 0, none⟩) hzb).trans fb0); (have fb1 := (hbp.cell (p := ⟨w.heap.size + 1, 1, none⟩) hzb).trans fb1); (have fb2 := (hbp.cell (p := ⟨w.heap.size + 1, 2, none⟩) hzb).trans fb2); (have fm0 := (hbp.cell (p := ⟨w.heap.size + 2, 0, none⟩) hzm).trans fm0); (have fm1 := (hbp.cell (p := ⟨w.heap.size + 2, 1, none⟩) hzm).trans fm1); (have hza : w.heap.size < w5.heap.size := Nat.lt_of_lt_of_le hza hbp.size); (have hzb : w.heap.size + 1 < w5.heap.size := Nat.lt_of_lt_of_le hzb hbp.size); (have hzm : w.heap.size + 2 < w5.heap.size := Nat.lt_of_lt_of_le hzm hbp.size); clear hb hbp) | (go_at_call 23; have _t := tk4; refine (HSab.out _ (HC2.out.on (by first | exact HB5.out | exact HB5.out.drew))).mono ?_; rintro e w6 ⟨rfl, hb⟩; clear _t tk4; (have hbp : Bel w5 w6 := by first | exact hb | exact (Bel.refl _).drew.on hb); (have HB6 : Hid (Bel w2 w6) := Lib.hid (HB5.out.on hbp)); (have fa0 := (hbp.cell (p := ⟨w.heap.size, 0, none⟩) hza).trans fa0); (have fa1 := (hbp.cell (p := ⟨w.heap.size, 1, none⟩) hza).trans fa1); (have fa2 := (hbp.cell (p := ⟨w.heap.size, 2, none⟩) hza).trans fa2); (have fb0 := (hbp.cell (p := ⟨w.heap.size + 1, 0, none⟩) hzb).trans fb0); (have fb1 := (hbp.cell (p := ⟨w.heap.size + 1, 1, none⟩) hzb).trans fb1); (have fb2 := (hbp.cell (p := ⟨w.heap.size + 1, 2, none⟩) hzb).trans fb2); (have fm0 := (hbp.cell (p := ⟨w.heap.size + 2, 0, none⟩) hzm).trans fm0); (have fm1 := (hbp.cell (p := ⟨w.heap.size + 2, 1, none⟩) hzm).trans fm1); (have hza : w.heap.size < w6.heap.size := Nat.lt_of_lt_of_le hza hbp.size); (have hzb : w.heap.size + 1 < w6.heap.size := Nat.lt_of_lt_of_le hzb hbp.size); (have hzm : w.heap.size + 2 < w6.heap.size := Nat.lt_of_lt_of_le hzm hbp.size); clear hb hbp) | (go_at_call 24; have _t := tk5; refine (HrS.out _ (HC2.out.on (by first | exact HB6.out | exact HB6.out.drew))).mono ?_; rintro e w7 ⟨rfl, hb⟩; clear _t tk5; (have hbp : Bel w6 w7 := by first | exact hb | exact (Bel.refl _).drew.on hb); (have HB7 : Hid (Bel w2 w7) := Lib.hid (HB6.out.on hbp)); (have fa0 := (hbp.cell (p := ⟨w.heap.size, 0, none⟩) hza).trans fa0); (have fa1 := (hbp.cell (p := ⟨w.heap.size, 1, none⟩) hza).trans fa1); (have fa2 := (hbp.cell (p := ⟨w.heap.size, 2, none⟩) hza).trans fa2); (have fb0 := (hbp.cell (p := ⟨w.heap.size + 1, 0, none⟩) hzb).trans fb0); (have fb1 := (hbp.cell (p := ⟨w.heap.size + 1, 1, none⟩) hzb).trans fb1); (have fb2 := (hbp.cell (p := ⟨w.heap.size + 1, 2, none⟩) hzb).trans fb2); (have fm0 := (hbp.cell (p := ⟨w.heap.size + 2, 0, none⟩) hzm).trans fm0); (have fm1 := (hbp.cell (p := ⟨w.heap.size + 2, 1, none⟩) hzm).trans fm1); (have hza : w.heap.size < w7.heap.size := Nat.lt_of_lt_of_le hza hbp.size); (have hzb : w.heap.size + 1 < w7.heap.size := Nat.lt_of_lt_of_le hzb hbp.size); (have hzm : w.heap.size + 2 < w7.heap.size := Nat.lt_of_lt_of_le hzm hbp.size); clear hb hbp) | (go_at_call 23; have _t := tk6; refine (HSaa.out _ (HC2.out.on (by first | exact HB7.out | exact HB7.out.drew))).mono ?_; rintro e w8 ⟨rfl, hb⟩; clear _t tk6; (have hbp : Bel w7 w8 := by first | exact hb | exact (Bel.refl _).drew.on hb); (have HB8 : Hid (Bel w2 w8) := Lib.hid (HB7.out.on hbp)); (have fa0 := (hbp.cell (p := ⟨w.heap.size, 0, none⟩) hza).trans fa0); (have fa1 := (hbp.cell (p := ⟨w.heap.size, 1, none⟩) hza).trans fa1); (have fa2 := (hbp.cell (p := ⟨w.heap.size, 2, none⟩) hza).trans fa2); (have fb0 := (hbp.cell (p := ⟨w.heap.size + 1, 0, none⟩) hzb).trans fb0); (have fb1 := (hbp.cell (p := ⟨w.heap.size + 1, 1, none⟩) hzb).trans fb1); (have fb2 := (hbp.cell (p := ⟨w.heap.size + 1, 2, none⟩) hzb).trans fb2); (have fm0 := (hbp.cell (p := ⟨w.heap.size + 2, 0, none⟩) hzm).trans fm0); (have fm1 := (hbp.cell (p := ⟨w.heap.size + 2, 1, none⟩) hzm).trans fm1); (have hza : w.heap.size < w8.heap.size := Nat.lt_of_lt_of_le hza hbp.size); (have hzb : w.heap.size + 1 < w8.heap.size := Nat.lt_of_lt_of_le hzb hbp.size); (have hzm : w.heap.size + 2 < w8.heap.size := Nat.lt_of_lt_of_le hzm hbp.size); clear hb hbp))
          replace HKa := Lib.hid (HB8.out.blk HKa.out)
          replace HKb := Lib.hid (HB8.out.blk HKb.out)
          replace HKm := Lib.hid (HB8.out.blk HKm.out)
          have HC8 : Hid (Bel w w8) := Lib.hid (HC2.out.on HB8.out)
          clear HB2 HB3 HB4 HB5 HB6 HB7 HB8
          go_wp2_with fail
          refine (HJ.out w8 _ _ (by simp) HC8.out).mono ?_
          clear fa0 fa1 fa2 hza fb0 fb1 fb2 hzb fm0 fm1 hzm
          rintro e w9 ⟨Ax, mx, kx, rfl, hrx, hb⟩
          have hbb : Bel w8 w9 := ((Bel.refl w8).alloc _).on hb
          replace HKa := Lib.hid (hbb.blk HKa.out)
          replace HKb := Lib.hid (hbb.blk HKb.out)
          replace HKm := Lib.hid (hbb.blk HKm.out)
          have HC9 : Hid (Bel w w9) := Lib.hid (HC8.out.on hbb)
          have HRX := Lib.hid hrx
          clear hb hbb hrx
          obtain ⟨fa0, fa1, fa2, _, _, _⟩ := cells3 HKa.out
          have hza := (Array.getElem?_eq_some_iff.1 HKa.out).1
          obtain ⟨fb0, fb1, fb2, _, _, _⟩ := cells3 HKb.out
          have hzb := (Array.getElem?_eq_some_iff.1 HKb.out).1
          obtain ⟨fm0, fm1⟩ := cells2 HKm.out
          have hzm := (Array.getElem?_eq_some_iff.1 HKm.out).1
          go_wp2_with fail
          refine (HS.out (w9.alloc _) _ _ (by simp) (HC9.out.alloc _)).mono ?_
          clear fa0 fa1 fa2 hza fb0 fb1 fb2 hzb fm0 fm1 hzm
          rintro e w10 ⟨Ay, my, ky, rfl, hry, hb⟩
          have hbb : Bel (w9.alloc (.cells #[.bool xn, .int .u8 xc, .slice Ax mx kx] 25)) w10 := ((Bel.refl _).alloc _).on hb
          have HKx := Lib.hid (hbb.blk (blk1 w9 _))
          replace HRX := Lib.hid (HRX.out.bel (((Bel.refl w9).alloc _).on hbb))
          have hbc : Bel w9 w10 := ((Bel.refl w9).alloc _).on hbb
          replace HKa := Lib.hid (hbc.blk HKa.out)
          replace HKb := Lib.hid (hbc.blk HKb.out)
          replace HKm := Lib.hid (hbc.blk HKm.out)
          have HC10 : Hid (Bel w w10) := Lib.hid (HC9.out.on hbc)
          have HRY := Lib.hid hry
          clear hb hbb hbc hry
          obtain ⟨fa0, fa1, fa2, _, _, _⟩ := cells3 HKa.out
          have hza := (Array.getElem?_eq_some_iff.1 HKa.out).1
          obtain ⟨fb0, fb1, fb2, _, _, _⟩ := cells3 HKb.out
          have hzb := (Array.getElem?_eq_some_iff.1 HKb.out).1
          obtain ⟨fm0, fm1⟩ := cells2 HKm.out
          have hzm := (Array.getElem?_eq_some_iff.1 HKm.out).1
          go_wp2_with fail
          refine (HSc.out _ (HC10.out.alloc _)).mono ?_
          clear fa0 fa1 fa2 hza fb0 fb1 fb2 hzb fm0 fm1 hzm
          rintro e w11 ⟨Az, mz, kz, rfl, hrz, hb⟩
          have HKy := Lib.hid (hb.blk (blk1 w10 _))
          have hbc : Bel w10 w11 := ((Bel.refl w10).alloc _).on hb
          replace HRX := Lib.hid (HRX.out.bel hbc)
          replace HRY := Lib.hid (HRY.out.bel hbc)
          replace HKa := Lib.hid (hbc.blk HKa.out)
          replace HKb := Lib.hid (hbc.blk HKb.out)
          replace HKm := Lib.hid (hbc.blk HKm.out)
          replace HKx := Lib.hid (hbc.blk HKx.out)
          have HC11 : Hid (Bel w w11) := Lib.hid (HC10.out.on hbc)
          have HRZ := Lib.hid hrz
          clear hb hbc hrz
          obtain ⟨fb0, fb1, fb2, _, _, _⟩ := cells3 HKb.out
          have hzb := (Array.getElem?_eq_some_iff.1 HKb.out).1
          go_wp2_with fail
          refine (HrMb.out _ (HC11.out.alloc _)).mono ?_
          clear fb0 fb1 fb2 hzb
          rintro e w12 ⟨rfl, hb⟩
          have HKz := Lib.hid (hb.blk (blk1 w11 _))
          have hbc : Bel w11 w12 := ((Bel.refl w11).alloc _).on hb
          have HC12 : Hid (Bel w w12) := Lib.hid (HC11.out.on hbc)
          replace HRX := Lib.hid (HRX.out.bel hbc)
          replace HRY := Lib.hid (HRY.out.bel hbc)
          replace HRZ := Lib.hid (HRZ.out.bel hbc)
          replace HKa := Lib.hid (hbc.blk HKa.out)
          replace HKb := Lib.hid (hbc.blk HKb.out)
          replace HKm := Lib.hid (hbc.blk HKm.out)
          replace HKx := Lib.hid (hbc.blk HKx.out)
          replace HKy := Lib.hid (hbc.blk HKy.out)
          clear hb hbc
          obtain ⟨fa0, fa1, fa2, _, _, _⟩ := cells3 HKa.out
          have hza := (Array.getElem?_eq_some_iff.1 HKa.out).1
          obtain ⟨fb0, fb1, fb2, _, _, _⟩ := cells3 HKb.out
          have hzb := (Array.getElem?_eq_some_iff.1 HKb.out).1
          obtain ⟨fx0, fx1, fx2, _, _, _⟩ := cells3 HKx.out
          have hzx := (Array.getElem?_eq_some_iff.1 HKx.out).1
          obtain ⟨fy0, fy1, fy2, _, _, _⟩ := cells3 HKy.out
          have hzy := (Array.getElem?_eq_some_iff.1 HKy.out).1
          go_wp2_with fail
          have HB12 : Hid (Bel w12 w12) := Lib.hid (Bel.refl _)
          have tk1 : True := trivial
          have tk2 : True := trivial
          have tk3 : True := trivial
          have tk4 : True := trivial
          have tk5 : True := trivial
          have tk6 : True := trivial
          go_region_held3 (fun w' => w'.cell? ⟨w.heap.size, 0, none⟩ = some (.bool n1) ∧ w'.cell? ⟨w.heap.size, 1, none⟩ = some (.int .u8 c1) ∧ w'.cell? ⟨w.heap.size, 2, none⟩ = some (.slice A1 m1 k1) ∧ w'.cell? ⟨w.heap.size + 1, 0, none⟩ = some (.bool n2) ∧ w'.cell? ⟨w.heap.size + 1, 1, none⟩ = some (.int .u8 c2) ∧ w'.cell? ⟨w.heap.size + 1, 2, none⟩ = some (.slice A2 m2 k2) ∧ w'.cell? ⟨w9.heap.size, 0, none⟩ = some (.bool xn) ∧ w'.cell? ⟨w9.heap.size, 1, none⟩ = some (.int .u8 xc) ∧ w'.cell? ⟨w9.heap.size, 2, none⟩ = some (.slice Ax mx kx) ∧ w'.cell? ⟨w10.heap.size, 0, none⟩ = some (.bool xn) ∧ w'.cell? ⟨w10.heap.size, 1, none⟩ = some (.int .u8 yc) ∧ w'.cell? ⟨w10.heap.size, 2, none⟩ = some (.slice Ay my ky)) (go_keep)
            (first | (go_at_call 25; have _t := tk1; refine (HrJ.out _ (HC12.out.on (by first | exact HB12.out | exact HB12.out.drew))).mono ?_; rintro e w13 ⟨Aj, nj, kj, rfl, hrr, hb⟩; clear _t tk1; (have hbp : Bel w12 w13 := by first | exact hb | exact (Bel.refl _).drew.on hb); (have HB13 : Hid (Bel w12 w13) := Lib.hid (HB12.out.on hbp)); (have HQ13 := Lib.hid hrr); clear hrr; (have fa0 := (hbp.cell (p := ⟨w.heap.size, 0, none⟩) hza).trans fa0); (have fa1 := (hbp.cell (p := ⟨w.heap.size, 1, none⟩) hza).trans fa1); (have fa2 := (hbp.cell (p := ⟨w.heap.size, 2, none⟩) hza).trans fa2); (have fb0 := (hbp.cell (p := ⟨w.heap.size + 1, 0, none⟩) hzb).trans fb0); (have fb1 := (hbp.cell (p := ⟨w.heap.size + 1, 1, none⟩) hzb).trans fb1); (have fb2 := (hbp.cell (p := ⟨w.heap.size + 1, 2, none⟩) hzb).trans fb2); (have fx0 := (hbp.cell (p := ⟨w9.heap.size, 0, none⟩) hzx).trans fx0); (have fx1 := (hbp.cell (p := ⟨w9.heap.size, 1, none⟩) hzx).trans fx1); (have fx2 := (hbp.cell (p := ⟨w9.heap.size, 2, none⟩) hzx).trans fx2); (have fy0 := (hbp.cell (p := ⟨w10.heap.size, 0, none⟩) hzy).trans fy0); (have fy1 := (hbp.cell (p := ⟨w10.heap.size, 1, none⟩) hzy).trans fy1); (have fy2 := (hbp.cell (p := ⟨w10.heap.size, 2, none⟩) hzy).trans fy2); (have hza : w.heap.size < w13.heap.size := Nat.lt_of_lt_of_le hza hbp.size); (have hzb : w.heap.size + 1 < w13.heap.size := Nat.lt_of_lt_of_le hzb hbp.size); (have hzx : w9.heap.size < w13.heap.size := Nat.lt_of_lt_of_le hzx hbp.size); (have hzy : w10.heap.size < w13.heap.size := Nat.lt_of_lt_of_le hzy hbp.size); clear hb hbp) | (go_at_call 24; have _t := tk2; refine (HsX.out _ _ _ _ _ _ _ (HRX.out.bel (by first | exact HB13.out | exact HB13.out.drew)) (by first | exact HQ13.out | exact HQ13.out.bel (Bel.refl _).drew)).mono ?_; rintro e w14 ⟨rfl, hb⟩; clear _t tk2; (have hbp : Bel w13 w14 := by first | exact hb | exact (Bel.refl _).drew.on hb); (have HB14 : Hid (Bel w12 w14) := Lib.hid (HB13.out.on hbp)); (have fa0 := (hbp.cell (p := ⟨w.heap.size, 0, none⟩) hza).trans fa0); (have fa1 := (hbp.cell (p := ⟨w.heap.size, 1, none⟩) hza).trans fa1); (have fa2 := (hbp.cell (p := ⟨w.heap.size, 2, none⟩) hza).trans fa2); (have fb0 := (hbp.cell (p := ⟨w.heap.size + 1, 0, none⟩) hzb).trans fb0); (have fb1 := (hbp.cell (p := ⟨w.heap.size + 1, 1, none⟩) hzb).trans fb1); (have fb2 := (hbp.cell (p := ⟨w.heap.size + 1, 2, none⟩) hzb).trans fb2); (have fx0 := (hbp.cell (p := ⟨w9.heap.size, 0, none⟩) hzx).trans fx0); (have fx1 := (hbp.cell (p := ⟨w9.heap.size, 1, none⟩) hzx).trans fx1); (have fx2 := (hbp.cell (p := ⟨w9.heap.size, 2, none⟩) hzx).trans fx2); (have fy0 := (hbp.cell (p := ⟨w10.heap.size, 0, none⟩) hzy).trans fy0); (have fy1 := (hbp.cell (p := ⟨w10.heap.size, 1, none⟩) hzy).trans fy1); (have fy2 := (hbp.cell (p := ⟨w10.heap.size, 2, none⟩) hzy).trans fy2); (have hza : w.heap.size < w14.heap.size := Nat.lt_of_lt_of_le hza hbp.size); (have hzb : w.heap.size + 1 < w14.heap.size := Nat.lt_of_lt_of_le hzb hbp.size); (have hzx : w9.heap.size < w14.heap.size := Nat.lt_of_lt_of_le hzx hbp.size); (have hzy : w10.heap.size < w14.heap.size := Nat.lt_of_lt_of_le hzy hbp.size); clear hb hbp) | (go_at_call 26; have _t := tk3; refine (HrSu.out _ (HC12.out.on (by first | exact HB14.out | exact HB14.out.drew))).mono ?_; rintro e w15 ⟨As, ns, ks, rfl, hrr, hb⟩; clear _t tk3; (have hbp : Bel w14 w15 := by first | exact hb | exact (Bel.refl _).drew.on hb); (have HB15 : Hid (Bel w12 w15) := Lib.hid (HB14.out.on hbp)); (have HQ15 := Lib.hid hrr); clear hrr; (have fa0 := (hbp.cell (p := ⟨w.heap.size, 0, none⟩) hza).trans fa0); (have fa1 := (hbp.cell (p := ⟨w.heap.size, 1, none⟩) hza).trans fa1); (have fa2 := (hbp.cell (p := ⟨w.heap.size, 2, none⟩) hza).trans fa2); (have fb0 := (hbp.cell (p := ⟨w.heap.size + 1, 0, none⟩) hzb).trans fb0); (have fb1 := (hbp.cell (p := ⟨w.heap.size + 1, 1, none⟩) hzb).trans fb1); (have fb2 := (hbp.cell (p := ⟨w.heap.size + 1, 2, none⟩) hzb).trans fb2); (have fx0 := (hbp.cell (p := ⟨w9.heap.size, 0, none⟩) hzx).trans fx0); (have fx1 := (hbp.cell (p := ⟨w9.heap.size, 1, none⟩) hzx).trans fx1); (have fx2 := (hbp.cell (p := ⟨w9.heap.size, 2, none⟩) hzx).trans fx2); (have fy0 := (hbp.cell (p := ⟨w10.heap.size, 0, none⟩) hzy).trans fy0); (have fy1 := (hbp.cell (p := ⟨w10.heap.size, 1, none⟩) hzy).trans fy1); (have fy2 := (hbp.cell (p := ⟨w10.heap.size, 2, none⟩) hzy).trans fy2); (have hza : w.heap.size < w15.heap.size := Nat.lt_of_lt_of_le hza hbp.size); (have hzb : w.heap.size + 1 < w15.heap.size := Nat.lt_of_lt_of_le hzb hbp.size); (have hzx : w9.heap.size < w15.heap.size := Nat.lt_of_lt_of_le hzx hbp.size); (have hzy : w10.heap.size < w15.heap.size := Nat.lt_of_lt_of_le hzy hbp.size); clear hb hbp) | (go_at_call 24; have _t := tk4; refine (HsY.out _ _ _ _ _ _ _ (HRY.out.bel (by first | exact HB15.out | exact HB15.out.drew)) (by first | exact HQ15.out | exact HQ15.out.bel (Bel.refl _).drew)).mono ?_; rintro e w16 ⟨rfl, hb⟩; clear _t tk4; (have hbp : Bel w15 w16 := by first | exact hb | exact (Bel.refl _).drew.on hb); (have HB16 : Hid (Bel w12 w16) := Lib.hid (HB15.out.on hbp)); (have fa0 := (hbp.cell (p := ⟨w.heap.size, 0, none⟩) hza).trans fa0); (have fa1 := (hbp.cell (p := ⟨w.heap.size, 1, none⟩) hza).trans fa1); (have fa2 := (hbp.cell (p := ⟨w.heap.size, 2, none⟩) hza).trans fa2); (have fb0 := (hbp.cell (p := ⟨w.heap.size + 1, 0, none⟩) hzb).trans fb0); (have fb1 := (hbp.cell (p := ⟨w.heap.size + 1, 1, none⟩) hzb).trans fb1); (have fb2 := (hbp.cell (p := ⟨w.heap.size + 1, 2, none⟩) hzb).trans fb2); (have fx0 := (hbp.cell (p := ⟨w9.heap.size, 0, none⟩) hzx).trans fx0); (have fx1 := (hbp.cell (p := ⟨w9.heap.size, 1, none⟩) hzx).trans fx1); (have fx2 := (hbp.cell (p := ⟨w9.heap.size, 2, none⟩) hzx).trans fx2); (have fy0 := (hbp.cell (p := ⟨w10.heap.size, 0, none⟩) hzy).trans fy0); (have fy1 := (hbp.cell (p := ⟨w10.heap.size, 1, none⟩) hzy).trans fy1); (have fy2 := (hbp.cell (p := ⟨w10.heap.size, 2, none⟩) hzy).trans fy2); (have hza : w.heap.size < w16.heap.size := Nat.lt_of_lt_of_le hza hbp.size); (have hzb : w.heap.size + 1 < w16.heap.size := Nat.lt_of_lt_of_le hzb hbp.size); (have hzx : w9.heap.size < w16.heap.size := Nat.lt_of_lt_of_le hzx hbp.size); (have hzy : w10.heap.size < w16.heap.size := Nat.lt_of_lt_of_le hzy hbp.size); clear hb hbp) | (go_at_call 17; have _t := tk5; refine (HTa.out _ (HC12.out.on (by first | exact HB16.out | exact HB16.out.drew))).mono ?_; rintro e w17 ⟨rfl, hb⟩; clear _t tk5; (have hbp : Bel w16 w17 := by first | exact hb | exact (Bel.refl _).drew.on hb); (have HB17 : Hid (Bel w12 w17) := Lib.hid (HB16.out.on hbp)); (have fa0 := (hbp.cell (p := ⟨w.heap.size, 0, none⟩) hza).trans fa0); (have fa1 := (hbp.cell (p := ⟨w.heap.size, 1, none⟩) hza).trans fa1); (have fa2 := (hbp.cell (p := ⟨w.heap.size, 2, none⟩) hza).trans fa2); (have fb0 := (hbp.cell (p := ⟨w.heap.size + 1, 0, none⟩) hzb).trans fb0); (have fb1 := (hbp.cell (p := ⟨w.heap.size + 1, 1, none⟩) hzb).trans fb1); (have fb2 := (hbp.cell (p := ⟨w.heap.size + 1, 2, none⟩) hzb).trans fb2); (have fx0 := (hbp.cell (p := ⟨w9.heap.size, 0, none⟩) hzx).trans fx0); (have fx1 := (hbp.cell (p := ⟨w9.heap.size, 1, none⟩) hzx).trans fx1); (have fx2 := (hbp.cell (p := ⟨w9.heap.size, 2, none⟩) hzx).trans fx2); (have fy0 := (hbp.cell (p := ⟨w10.heap.size, 0, none⟩) hzy).trans fy0); (have fy1 := (hbp.cell (p := ⟨w10.heap.size, 1, none⟩) hzy).trans fy1); (have fy2 := (hbp.cell (p := ⟨w10.heap.size, 2, none⟩) hzy).trans fy2); (have hza : w.heap.size < w17.heap.size := Nat.lt_of_lt_of_le hza hbp.size); (have hzb : w.heap.size + 1 < w17.heap.size := Nat.lt_of_lt_of_le hzb hbp.size); (have hzx : w9.heap.size < w17.heap.size := Nat.lt_of_lt_of_le hzx hbp.size); (have hzy : w10.heap.size < w17.heap.size := Nat.lt_of_lt_of_le hzy hbp.size); clear hb hbp) | (go_at_call 27; have _t := tk6; refine (HrT.out _ (HC12.out.on (by first | exact HB17.out | exact HB17.out.drew))).mono ?_; rintro e w18 ⟨rfl, hb⟩; clear _t tk6; (have hbp : Bel w17 w18 := by first | exact hb | exact (Bel.refl _).drew.on hb); (have HB18 : Hid (Bel w12 w18) := Lib.hid (HB17.out.on hbp)); (have fa0 := (hbp.cell (p := ⟨w.heap.size, 0, none⟩) hza).trans fa0); (have fa1 := (hbp.cell (p := ⟨w.heap.size, 1, none⟩) hza).trans fa1); (have fa2 := (hbp.cell (p := ⟨w.heap.size, 2, none⟩) hza).trans fa2); (have fb0 := (hbp.cell (p := ⟨w.heap.size + 1, 0, none⟩) hzb).trans fb0); (have fb1 := (hbp.cell (p := ⟨w.heap.size + 1, 1, none⟩) hzb).trans fb1); (have fb2 := (hbp.cell (p := ⟨w.heap.size + 1, 2, none⟩) hzb).trans fb2); (have fx0 := (hbp.cell (p := ⟨w9.heap.size, 0, none⟩) hzx).trans fx0); (have fx1 := (hbp.cell (p := ⟨w9.heap.size, 1, none⟩) hzx).trans fx1); (have fx2 := (hbp.cell (p := ⟨w9.heap.size, 2, none⟩) hzx).trans fx2); (have fy0 := (hbp.cell (p := ⟨w10.heap.size, 0, none⟩) hzy).trans fy0); (have fy1 := (hbp.cell (p := ⟨w10.heap.size, 1, none⟩) hzy).trans fy1); (have fy2 := (hbp.cell (p := ⟨w10.heap.size, 2, none⟩) hzy).trans fy2); (have hza : w.heap.size < w18.heap.size := Nat.lt_of_lt_of_le hza hbp.size); (have hzb : w.heap.size + 1 < w18.heap.size := Nat.lt_of_lt_of_le hzb hbp.size); (have hzx : w9.heap.size < w18.heap.size := Nat.lt_of_lt_of_le hzx hbp.size); (have hzy : w10.heap.size < w18.heap.size := Nat.lt_of_lt_of_le hzy hbp.size); clear hb hbp))
          replace HKa := Lib.hid (HB18.out.blk HKa.out)
          replace HKb := Lib.hid (HB18.out.blk HKb.out)
          replace HKm := Lib.hid (HB18.out.blk HKm.out)
          replace HKx := Lib.hid (HB18.out.blk HKx.out)
          replace HKy := Lib.hid (HB18.out.blk HKy.out)
          replace HKz := Lib.hid (HB18.out.blk HKz.out)
          have HC18 : Hid (Bel w w18) := Lib.hid (HC12.out.on HB18.out)
          replace HRZ := Lib.hid (HRZ.out.bel HB18.out)
          clear fa0 fa1 fa2 hza fb0 fb1 fb2 hzb fx0 fx1 fx2 hzx fy0 fy1 fy2 hzy HB12 HB13 HB14 HB15 HB16 HB17 HB18 HQ13 HQ15
          obtain ⟨fm0, fm1⟩ := cells2 HKm.out
          have hzm := (Array.getElem?_eq_some_iff.1 HKm.out).1
          go_wp2_with fail
          refine (HrI.out _ HC18.out).mono ?_
          clear fm0 fm1 hzm
          rintro e w19 ⟨rfl, hbc⟩
          have HC19 : Hid (Bel w w19) := Lib.hid (HC18.out.on hbc)
          replace HRZ := Lib.hid (HRZ.out.bel hbc)
          replace HKa := Lib.hid (hbc.blk HKa.out)
          replace HKm := Lib.hid (hbc.blk HKm.out)
          replace HKz := Lib.hid (hbc.blk HKz.out)
          clear hbc
          obtain ⟨fa0, fa1, fa2, _, _, _⟩ := cells3 HKa.out
          have hza := (Array.getElem?_eq_some_iff.1 HKa.out).1
          obtain ⟨fm0, fm1⟩ := cells2 HKm.out
          have hzm := (Array.getElem?_eq_some_iff.1 HKm.out).1
          obtain ⟨fz0, fz1, fz2, _, _, _⟩ := cells3 HKz.out
          have hzz := (Array.getElem?_eq_some_iff.1 HKz.out).1
          go_wp2_with fail
          have HB19 : Hid (Bel w19 w19) := Lib.hid (Bel.refl _)
          have tk1 : True := trivial
          have tk2 : True := trivial
          have tk3 : True := trivial
          go_region_held3 (fun w' => w'.cell? ⟨w.heap.size, 0, none⟩ = some (.bool n1) ∧ w'.cell? ⟨w.heap.size, 1, none⟩ = some (.int .u8 c1) ∧ w'.cell? ⟨w.heap.size, 2, none⟩ = some (.slice A1 m1 k1) ∧ w'.cell? ⟨w.heap.size + 2, 0, none⟩ = some (.int .i64 v) ∧ w'.cell? ⟨w.heap.size + 2, 1, none⟩ = some (.int .u8 m) ∧ w'.cell? ⟨w11.heap.size, 0, none⟩ = some (.bool n1) ∧ w'.cell? ⟨w11.heap.size, 1, none⟩ = some (.int .u8 zc) ∧ w'.cell? ⟨w11.heap.size, 2, none⟩ = some (.slice Az mz kz)) (go_keep)
            (first | (go_at_call 28; have _t := tk1; refine (HrSc.out _ (HC19.out.on (by first | exact HB19.out | exact HB19.out.drew))).mono ?_; rintro e w20 ⟨Aj, nj, kj, rfl, hrr, hb⟩; clear _t tk1; (have hbp : Bel w19 w20 := by first | exact hb | exact (Bel.refl _).drew.on hb); (have HB20 : Hid (Bel w19 w20) := Lib.hid (HB19.out.on hbp)); (have HQ20 := Lib.hid hrr); clear hrr; (have fa0 := (hbp.cell (p := ⟨w.heap.size, 0, none⟩) hza).trans fa0); (have fa1 := (hbp.cell (p := ⟨w.heap.size, 1, none⟩) hza).trans fa1); (have fa2 := (hbp.cell (p := ⟨w.heap.size, 2, none⟩) hza).trans fa2); (have fm0 := (hbp.cell (p := ⟨w.heap.size + 2, 0, none⟩) hzm).trans fm0); (have fm1 := (hbp.cell (p := ⟨w.heap.size + 2, 1, none⟩) hzm).trans fm1); (have fz0 := (hbp.cell (p := ⟨w11.heap.size, 0, none⟩) hzz).trans fz0); (have fz1 := (hbp.cell (p := ⟨w11.heap.size, 1, none⟩) hzz).trans fz1); (have fz2 := (hbp.cell (p := ⟨w11.heap.size, 2, none⟩) hzz).trans fz2); (have hza : w.heap.size < w20.heap.size := Nat.lt_of_lt_of_le hza hbp.size); (have hzm : w.heap.size + 2 < w20.heap.size := Nat.lt_of_lt_of_le hzm hbp.size); (have hzz : w11.heap.size < w20.heap.size := Nat.lt_of_lt_of_le hzz hbp.size); clear hb hbp) | (go_at_call 24; have _t := tk2; refine (HsZ.out _ _ _ _ _ _ _ (HRZ.out.bel (by first | exact HB20.out | exact HB20.out.drew)) (by first | exact HQ20.out | exact HQ20.out.bel (Bel.refl _).drew)).mono ?_; rintro e w21 ⟨rfl, hb⟩; clear _t tk2; (have hbp : Bel w20 w21 := by first | exact hb | exact (Bel.refl _).drew.on hb); (have HB21 : Hid (Bel w19 w21) := Lib.hid (HB20.out.on hbp)); (have fa0 := (hbp.cell (p := ⟨w.heap.size, 0, none⟩) hza).trans fa0); (have fa1 := (hbp.cell (p := ⟨w.heap.size, 1, none⟩) hza).trans fa1); (have fa2 := (hbp.cell (p := ⟨w.heap.size, 2, none⟩) hza).trans fa2); (have fm0 := (hbp.cell (p := ⟨w.heap.size + 2, 0, none⟩) hzm).trans fm0); (have fm1 := (hbp.cell (p := ⟨w.heap.size + 2, 1, none⟩) hzm).trans fm1); (have fz0 := (hbp.cell (p := ⟨w11.heap.size, 0, none⟩) hzz).trans fz0); (have fz1 := (hbp.cell (p := ⟨w11.heap.size, 1, none⟩) hzz).trans fz1); (have fz2 := (hbp.cell (p := ⟨w11.heap.size, 2, none⟩) hzz).trans fz2); (have hza : w.heap.size < w21.heap.size := Nat.lt_of_lt_of_le hza hbp.size); (have hzm : w.heap.size + 2 < w21.heap.size := Nat.lt_of_lt_of_le hzm hbp.size); (have hzz : w11.heap.size < w21.heap.size := Nat.lt_of_lt_of_le hzz hbp.size); clear hb hbp) | (go_at_call 16; have _t := tk3; refine (HWk.out _ (HC19.out.on (by first | exact HB21.out | exact HB21.out.drew))).mono ?_; rintro e w22 ⟨rfl, hb⟩; clear _t tk3; (have hbp : Bel w21 w22 := by first | exact hb | exact (Bel.refl _).drew.on hb); (have HB22 : Hid (Bel w19 w22) := Lib.hid (HB21.out.on hbp)); (have fa0 := (hbp.cell (p := ⟨w.heap.size, 0, none⟩) hza).trans fa0); (have fa1 := (hbp.cell (p := ⟨w.heap.size, 1, none⟩) hza).trans fa1); (have fa2 := (hbp.cell (p := ⟨w.heap.size, 2, none⟩) hza).trans fa2); (have fm0 := (hbp.cell (p := ⟨w.heap.size + 2, 0, none⟩) hzm).trans fm0); (have fm1 := (hbp.cell (p := ⟨w.heap.size + 2, 1, none⟩) hzm).trans fm1); (have fz0 := (hbp.cell (p := ⟨w11.heap.size, 0, none⟩) hzz).trans fz0); (have fz1 := (hbp.cell (p := ⟨w11.heap.size, 1, none⟩) hzz).trans fz1); (have fz2 := (hbp.cell (p := ⟨w11.heap.size, 2, none⟩) hzz).trans fz2); (have hza : w.heap.size < w22.heap.size := Nat.lt_of_lt_of_le hza hbp.size); (have hzm : w.heap.size + 2 < w22.heap.size := Nat.lt_of_lt_of_le hzm hbp.size); (have hzz : w11.heap.size < w22.heap.size := Nat.lt_of_lt_of_le hzz hbp.size); clear hb hbp))
          go_wp2
          go_ret
          exact ⟨rfl, HC19.out.on HB22.out⟩
end Go.Proofs.YteegoecanbonoaaDoor.Mu
