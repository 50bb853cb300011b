/-
  The statement IneqFits: walked; what the listed tables hold is a premise.
-/
import Derived.Test.YteegoecanbonoaaDoorRef03F
import Derived.Test.YteegoecanbonoaaDoorRef02
import Derived.Deep.QuietTactic
import Derived.BigQuiet
namespace Go.Proofs.YteegoecanbonoaaDoor.Mu
open Go.ChangeShapes Go.WideShapes Go.ChangeAt Go.RowKit

set_option maxRecDepth 100000 in
set_option maxHeartbeats 1000000 in
theorem iequal_any (A B : Option Addr) (n c d : Nat) (xs ys : List Iq) (w : World) (ha : RQ w w.heap.size A n xs) (hb : RQ w w.heap.size B n ys) (hn : n ≤ 1000000000) (hxy : xs = ys) :
    Calls Tryd.prog 39 #[.slice A n c, .slice B n d] w fun e w' => e = .returned (.bool true) ∧ Bel w w' := by
  subst hxy
  have HA := Lib.hid ha
  have HB := Lib.hid hb
  have HL := Lib.hid ha.len
  clear ha hb
  go_enter Tryd.func39, Tryd.ntmps39
  go_wp2
  go_loopw [13] (fun i wr => ∃ k : Nat, k ≤ n ∧ i = .int .i64 k ∧ Bel w wr) (fun i _ => n - (intOf i).toNat)
  case atStart => exact ⟨0, Nat.zero_le _, rfl, Bel.refl _⟩
  case round =>
    obtain ⟨k, hk, rfl, hB⟩ := hrel
    by_cases hlt : k < n
    · obtain ⟨b, off, eA, hb, hc⟩ := (HA.out.bel hB).at_ (by omega)
      obtain ⟨b', off', eB, hb', hc'⟩ := (HB.out.bel hB).at_ (by omega)
      subst eA
      subst eB
      obtain ⟨x, hxk⟩ : ∃ x, xs[k]? = some x := ⟨_, List.getElem?_eq_getElem (by rw [← HL.out]; exact hlt)⟩
      obtain ⟨c0, c1, c2, c3⟩ := hc k x hxk
      obtain ⟨d0, d1, d2, d3⟩ := hc' k x hxk
      have hE := ineq_in x x
      rw [decide_eq_true rfl] at hE
      have hi1 : (0 : Int) ≤ k := by omega
      have hi2 : (k : Int) < n := by omega
      clear hc hc' hxk
      have HBW := Lib.hid hB
      clear hB
      go_wp2_with fail
      go_quiet (fail)
      go_wp2
      go_roundw
      case rel => exact ⟨k + 1, by omega, by go_num, HBW.out.drewN _⟩
      case measure => simp [intOf]; omega
    · obtain rfl : k = n := by omega
      go_wp2
      go_ret
      exact ⟨rfl, hB⟩

theorem rmay_is {nv : Bool} {c : Int} {l : List Int} {b : Bool} (h : mayB nv c l = b) (A : Option Addr) (n cap : Nat) (w : World) (hr : RI .i64 w w.heap.size A n l) (hmax : n ≤ 9223372036854775807) :
    Calls Tryd.prog 19 #[.agg #[.bool nv, .int .u8 c, .slice A n cap]] w fun e w' => e = .returned (.bool b) ∧ Bel w w' := by
  have := rmay_any nv c A n cap l w hr hmax; rw [h] at this; exact this
theorem ris_is {v m : Int} {b : Bool} (h : isB v m = b) (w : World) : Calls Tryd.prog 22 #[.agg #[.int .i64 v, .int .u8 m]] w fun e w' => e = .returned (.bool b) ∧ Bel w w' := by
  have := ris_any v m w; rw [h] at this; exact this

set_option maxRecDepth 100000 in
set_option maxHeartbeats 4000000 in
theorem ineqFits_any (nv : Bool) (c : Int) (A : Option Addr) (n k : Nat) (l : List Int) (g v m : Int) (w : World) (hr : RI .i64 w w.heap.size A n l) (hn : n ≤ 9223372036854775807) (ht : Tabs w) :
    Calls Tryd.prog 8 #[.agg #[.bool nv, .int .u8 c, .slice A n k], .int .u8 g, .agg #[.int .i64 v, .int .u8 m]] w fun e w' => e = .returned (.bool true) ∧ Bel w w' := by
  have HR := Lib.hid hr
  have HT := Lib.hid ht
  clear hr ht
  by_cases hbig : 5000 < n
  · go_enter Tryd.func8, Tryd.ntmps8
    go_wp2_with fail
    refine (works3_any _ (HT.out.bel (((Bel.refl _).alloc _).alloc _))).mono ?_
    rintro e w1 ⟨rfl, hb1⟩
    have HB1 : Hid (Bel w w1) := Lib.hid ((((Bel.refl w).alloc _).alloc _).on hb1)
    clear hb1
    go_wp2_with fail
    go_ret
    exact ⟨rfl, HB1.out⟩
  · have hsm : n ≤ 5000 := by omega
    clear hbig
    cases ho : okF nv c l g v m
    case false =>
      have HF : Hid (∀ W, RI .i64 W W.heap.size A n l → Calls Tryd.prog 38 #[.agg #[.bool nv, .int .u8 c, .slice A n k], .int .u8 g, .agg #[.int .i64 v, .int .u8 m]] W (GivesQ [] 2 W)) := Lib.hid fun W hW => fits_no nv c A n k l g v m W hW (by omega) ho
      have hcase : mayB nv c l = false ∨ (mayB nv c l = true ∧ g < 1) ∨ (mayB nv c l = true ∧ 1 ≤ g ∧ 3 < g) ∨ (mayB nv c l = true ∧ 1 ≤ g ∧ g ≤ 3 ∧ isB v m = false) := by
        unfold okF at ho
        cases h1 : mayB nv c l with
        | false => exact .inl rfl
        | true =>
          by_cases h2 : g < 1
          · exact .inr (.inl ⟨rfl, h2⟩)
          · by_cases h3 : 3 < g
            · exact .inr (.inr (.inl ⟨rfl, by omega, h3⟩))
            · rw [h1, isMultB_mk (by omega) (by omega)] at ho
              exact .inr (.inr (.inr ⟨rfl, by omega, by omega, by simpa using ho⟩))
      clear ho
      rcases hcase with h1 | ⟨h1, h2⟩ | ⟨h1, h2, h3⟩ | ⟨h1, h2, h3, h4⟩
      case' inr.inl => have hd1 : decide (g < 1) = true := decide_eq_true h2
      case' inr.inr.inl =>
        have hd1 : decide (g < 1) = false := decide_eq_false (by omega)
        have hd3 : decide (3 < g) = true := decide_eq_true h3
      case' inr.inr.inr =>
        have hd1 : decide (g < 1) = false := decide_eq_false (by omega)
        have hd3 : decide (3 < g) = false := decide_eq_false (by omega)
      all_goals
        have HM := Lib.hid h1
        try have HI := Lib.hid h4
        try clear h4
        clear h1
        go_enter Tryd.func8, Tryd.ntmps8
        go_wp2_with fail
        refine (HF.out _ ((HR.out.alloc _).alloc _)).mono ?_
        rintro e w1 ⟨A1, n1, k1, rfl, hq1, hb1⟩
        obtain rfl : n1 = 0 := by simpa using hq1.len
        have HB1 : Hid (Bel w w1) := Lib.hid ((((Bel.refl w).alloc _).alloc _).on hb1)
        have HK1 := Lib.hid (hb1.blk (blk2 w _ _).2)
        obtain ⟨a0, a1, a2, _, _, _⟩ := cells3 (hb1.blk (blk2 w _ _).1)
        clear hq1 hb1
        go_wp2_with fail
        refine (rmay_is HM.out A n k _ (HR.out.bel HB1.out) (by omega)).mono ?_
        rintro e w2 ⟨rfl, hb2⟩
        have HB2 := Lib.hid (HB1.out.on hb2)
        obtain ⟨d0, d1⟩ := cells2 (hb2.blk HK1.out)
        clear hb2 a0 a1 a2
        go_wp2_with fail
        first
        | (refine (works3_any _ (HT.out.bel HB2.out)).mono ?_
           rintro e w3 ⟨rfl, hb3⟩
           have HB3 := Lib.hid (HB2.out.on hb3)
           clear hb3
           go_wp2_with fail
           go_ret
           exact ⟨rfl, HB3.out⟩)
        | (refine (ris_is HI.out _).mono ?_
           rintro e w3 ⟨rfl, hb3⟩
           have HB3 := Lib.hid (HB2.out.on hb3)
           clear hb3 d0 d1
           go_wp2_with fail
           refine (works3_any _ (HT.out.bel HB3.out)).mono ?_
           rintro e w4 ⟨rfl, hb4⟩
           have HB4 := Lib.hid (HB3.out.on hb4)
           clear hb4
           go_wp2_with fail
           go_ret
           exact ⟨rfl, HB4.out⟩)
    case true =>
      have hp : mayB nv c l = true ∧ isMultB g = true ∧ isB v m = true := by
        unfold okF at ho; simp only [Bool.and_eq_true] at ho; exact ⟨ho.1.1, ho.1.2, ho.2⟩
      have HF : Hid (∀ W, RI .i64 W W.heap.size A n l → Calls Tryd.prog 38 #[.agg #[.bool nv, .int .u8 c, .slice A n k], .int .u8 g, .agg #[.int .i64 v, .int .u8 m]] W (GivesQ (fitsL nv c l g v m) 0 W)) := Lib.hid fun W hW => fits_ok ho A n k W hW (by omega)
      have HRF : Hid (∀ W, RI .i64 W W.heap.size A n l → Calls Tryd.prog 40 #[.agg #[.bool nv, .int .u8 c, .slice A n k], .int .u8 g, .agg #[.int .i64 v, .int .u8 m]] W (GivesR (fitsL nv c l g v m) W)) := Lib.hid fun W hW => rfits_any nv c A n k l g v m W hW (by omega) hp.1 hp.2.1 hp.2.2
      have HM := Lib.hid hp.1
      have HI := Lib.hid hp.2.2
      obtain ⟨g1, g3⟩ := isMultB_bd hp.2.1
      have hd1 : decide (g < 1) = false := decide_eq_false (by omega)
      have hd3 : decide (3 < g) = false := decide_eq_false (by omega)
      obtain ⟨xs, hxs⟩ : ∃ xs, fitsL nv c l g v m = xs := ⟨_, rfl⟩
      have HLA : Hid (xs.length ≤ 10000) := Lib.hid (by
        have h1 := eachL_len (leastC nv c) (leastL nv l) (max g m) (bndF v m)
        have h2 := leastL_len nv l
        have h3 := HR.out.len
        rw [← hxs]; unfold fitsL; omega)
      rw [hxs] at HF HRF
      clear ho hp hxs
      go_enter Tryd.func8, Tryd.ntmps8
      go_wp2_with fail
      refine (HF.out _ ((HR.out.alloc _).alloc _)).mono ?_
      rintro e w1 ⟨A1, n1, k1, rfl, hq1, hb1⟩
      have HQ1 := Lib.hid hq1
      have HB1 : Hid (Bel w w1) := Lib.hid ((((Bel.refl w).alloc _).alloc _).on hb1)
      have HK0 := Lib.hid (hb1.blk (blk2 w _ _).1)
      have HK1 := Lib.hid (hb1.blk (blk2 w _ _).2)
      obtain ⟨a0, a1, a2, _, _, _⟩ := cells3 HK0.out
      clear hq1 hb1
      go_wp2_with fail
      refine (rmay_is HM.out A n k _ (HR.out.bel HB1.out) (by omega)).mono ?_
      rintro e w2 ⟨rfl, hb2⟩
      have HB2 := Lib.hid (HB1.out.on hb2)
      have HQ2 := Lib.hid (HQ1.out.bel hb2)
      replace HK0 := Lib.hid (hb2.blk HK0.out)
      replace HK1 := Lib.hid (hb2.blk HK1.out)
      obtain ⟨d0, d1⟩ := cells2 HK1.out
      clear hb2 a0 a1 a2
      go_wp2_with fail
      refine (ris_is HI.out _).mono ?_
      rintro e w3 ⟨rfl, hb3⟩
      have HB3 := Lib.hid (HB2.out.on hb3)
      have HQ3 := Lib.hid (HQ2.out.bel hb3)
      replace HK0 := Lib.hid (hb3.blk HK0.out)
      replace HK1 := Lib.hid (hb3.blk HK1.out)
      clear hb3 d0 d1
      obtain ⟨d0, d1⟩ := cells2 HK1.out
      obtain ⟨a0, a1, a2, _, _, _⟩ := cells3 HK0.out
      go_wp2_with fail
      refine (HRF.out _ (HR.out.bel HB3.out)).mono ?_
      rintro e w4 ⟨A4, n4, k4, rfl, hq4, hb4⟩
      have HB4 := Lib.hid (HB3.out.on hb4)
      have HQ4 := Lib.hid hq4
      have HQ5 := Lib.hid (HQ3.out.bel hb4)
      obtain rfl : n4 = n1 := by rw [hq4.len, HQ1.out.len]
      clear hq4 hb4 d0 d1 a0 a1 a2
      go_wp2_with fail
      refine (iequal_any _ _ n4 _ _ xs xs _ HQ5.out HQ4.out (by have := HQ4.out.len; have := HLA.out; omega) rfl).mono ?_
      rintro e w5 ⟨rfl, hb5⟩
      have HB5 := Lib.hid (HB4.out.on hb5)
      clear hb5
      go_wp2_with fail
      refine (works3_any _ (HT.out.bel HB5.out)).mono ?_
      rintro e w6 ⟨rfl, hb6⟩
      have HB6 := Lib.hid (HB5.out.on hb6)
      clear hb6
      go_wp2_with fail
      go_ret
      exact ⟨rfl, HB6.out⟩
end Go.Proofs.YteegoecanbonoaaDoor.Mu
