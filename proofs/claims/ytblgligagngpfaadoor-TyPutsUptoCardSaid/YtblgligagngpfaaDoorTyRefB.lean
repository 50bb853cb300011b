/-
  The reference's Is and May of a type.
-/
import Derived.Test.YtblgligagngpfaaDoorTyEqs
import Derived.Deep.DeepCutAuto
namespace Go.Proofs.YtblgligagngpfaaDoor.Mu
open Go.ChangeShapes Go.WideShapes Go.ChangeAt Go.RowKit Go.Shelf

attribute [local go_sem] Oper.semAt_some
set_option linter.unusedVariables false

set_option maxRecDepth 100000 in
set_option maxHeartbeats 1000000 in
theorem risT_any (v c : Int) (w : World) : Calls Tryd.prog 8 #[.agg #[.int .i64 v, .int .u8 c]] w fun e w' => e = .returned (.bool (isB v c)) ∧ Bel w w' := by
  have E : Hid (isB v c = ((decide (c = 0) && (decide (0 ≤ v) && decide (v < 1048576))) || ((decide (1 ≤ c) && decide (c ≤ 3)) && decide (v = 0)))) := Lib.hid rfl
  go_enter Tryd.func8, Tryd.ntmps8
  go_wp2
  all_goals go_ret
  all_goals
    refine ⟨ret_bool ?_, (Bel.refl _).alloc _⟩
    clear E
    unfold isB isVarB isMultB
    first | (rw [Bool.eq_iff_iff]; simp only [Bool.or_eq_true, Bool.and_eq_true, decide_eq_true_eq, beq_iff_eq, Bool.false_eq_true, false_iff, true_iff]; omega) | (simp_all; done) | (simp_all; omega)
/-- The first ones within are nodes of types. -/
def Fo.wellTo : Fo → Nat → Bool
  | .nil, _ => true
  | .cons _ _ _ _ _ _, 0 => true
  | .cons k n v c kids rest, j + 1 => (nodeB k n v c kids.len && kids.well) && rest.wellTo j
theorem Fo.wellTo_zero (f : Fo) : f.wellTo 0 = true := by cases f <;> rfl
theorem Fo.wellTo_succ : ∀ (f : Fo) (j : Nat), j < f.len → f.wellTo (j + 1) = (f.wellTo j && (f.nth j).well)
  | .nil, j, h => by simp [Fo.len] at h
  | .cons k n v c kids rest, 0, _ => by simp [Fo.wellTo, Fo.nth, Fo.well, Fo.wellTo_zero]
  | .cons k n v c kids rest, j + 1, h => by
    have := Fo.wellTo_succ rest j (by simp only [Fo.len] at h; omega)
    simp only [Fo.wellTo, Fo.nth] at this ⊢
    rw [this, Bool.and_assoc, Bool.and_assoc, Bool.and_assoc]
theorem Fo.wellTo_all : ∀ f : Fo, f.wellTo f.len = f.well
  | .nil => rfl
  | .cons k n v c kids rest => by simp only [Fo.len, Fo.wellTo, Fo.well, Fo.wellTo_all rest, Bool.and_assoc]
set_option maxRecDepth 100000 in
set_option maxHeartbeats 4000000 in
theorem ris6_any (N : Nat) : ∀ (k n v c : Int) (A : Option Addr) (len cap : Nat) (kids : Fo) (w : World), kids.size = N → KidsAt w (Old w) A len cap kids → kids.size ≤ 1400000 →
    Calls Tryd.prog 33 #[.agg #[.int .u8 k, .int .i64 n, .int .i64 v, .int .u8 c, .slice A len cap]] w (SameP (Fo.cons k n v c kids .nil).well w) := by
  induction N using Nat.strongRecOn with
  | _ N ih =>
    intro k n v c A len cap kids w hN h hsz
    have H := Lib.hid h
    have IH := Lib.hid ih
    have HL : Hid (len = kids.len) := Lib.hid h.1
    have HN := Lib.hid hN
    have hlen : len ≤ 1400000 := by have := h.1; have := kids.len_le; omega
    obtain ⟨pl, hpl⟩ : ∃ pl, pl = (decide (v = 0) && decide (c = 0)) := ⟨_, rfl⟩
    have qm := fun W => mu_eql 9998 v c 0 0 W
    rw [← hpl] at qm
    have HPL := Lib.hid hpl
    obtain ⟨ib, hib⟩ : ∃ ib, ib = isB v c := ⟨_, rfl⟩
    have HI : Hid (∀ W, Calls Tryd.prog 8 #[.agg #[.int .i64 v, .int .u8 c]] W fun e w' => e = .returned (.bool ib) ∧ Bel W w') := Lib.hid fun W => by rw [hib]; exact risT_any v c W
    have HIB := Lib.hid hib
    obtain ⟨nb, hnb⟩ : ∃ nb, nb = nodeB k n v c len := ⟨_, rfl⟩
    have HNB := Lib.hid hnb
    have HWL : Hid ((Fo.cons k n v c kids .nil).well = (nb && kids.well)) := Lib.hid (by rw [hnb]; simp [Fo.well, h.1])
    obtain ⟨r, hr⟩ : ∃ r, r = (Fo.cons k n v c kids .nil).well := ⟨_, rfl⟩
    rw [← hr]
    rw [← hr] at HWL
    clear h ih hN hnb hr hpl hib
    go_enter Tryd.func33, Tryd.ntmps33
    go_upto_region 3 with fail
    have q1 := blk1 w (.cells #[.int .u8 k, .int .i64 n, .int .i64 v, .int .u8 c, .slice A len cap] 27)
    have hb1 : Bel w (w.alloc (.cells #[.int .u8 k, .int .i64 n, .int .i64 v, .int .u8 c, .slice A len cap] 27)) := (Bel.refl w).alloc _
    have hs1 : (w.alloc (.cells #[.int .u8 k, .int .i64 n, .int .i64 v, .int .u8 c, .slice A len cap] 27)).heap.size = w.heap.size + 1 := by simp
    obtain ⟨w1, hw1⟩ : ∃ w1, w1 = w.alloc (.cells #[.int .u8 k, .int .i64 n, .int .i64 v, .int .u8 c, .slice A len cap] 27) := ⟨_, rfl⟩
    rw [← hw1] at q1 hb1 hs1 ⊢
    obtain ⟨⟨x0, x1, x2, x3, x4⟩, _⟩ := cells5 q1
    have HQ := Lib.hid q1
    have HB1 := Lib.hid hb1
    have HS1 := Lib.hid hs1
    clear q1 hb1 hs1 hw1
    rename ∀ (a : Act) (w : World), Code.wp _ (Code.block 0 _) _ a w → _ => hk0
    have HK0 := Lib.hid hk0
    clear hk0
    go_wp2_with fail
    refine HK0.out _ _ ?_
    go_cut [4] (fun b wx => b = .bool nb ∧ Hid (Bel w1 wx))
    case first =>
      by_cases e1 : k = 1
      case pos =>
        subst e1
        cases pl
        all_goals go_wp2_with fail
        all_goals go_meet
        all_goals refine ⟨congrArg Value.bool ?_, Lib.hid (by first | exact Bel.refl _ | exact HB2.out)⟩
        all_goals
          have E := HNB.out
          rw [E]
          clear E
          unfold nodeB
          rw [← HPL.out, ← HIB.out]
          first | (simp; done) | (simp_all; done) | (simp_all; omega) | (rw [Bool.eq_iff_iff]; simp; omega)
      have d1 : (k == 1) = false := by simpa using e1
      by_cases e2 : k = 2
      case pos =>
        subst e2
        cases pl
        all_goals go_wp2_with fail
        all_goals go_meet
        all_goals refine ⟨congrArg Value.bool ?_, Lib.hid (by first | exact Bel.refl _ | exact HB2.out)⟩
        all_goals
          have E := HNB.out
          rw [E]
          clear E
          unfold nodeB
          rw [← HPL.out, ← HIB.out]
          first | (simp; done) | (simp_all; done) | (simp_all; omega) | (rw [Bool.eq_iff_iff]; simp; omega)
      have d2 : (k == 2) = false := by simpa using e2
      by_cases e3 : k = 3
      case pos =>
        subst e3
        cases pl
        all_goals go_wp2_with fail
        all_goals go_meet
        all_goals refine ⟨congrArg Value.bool ?_, Lib.hid (by first | exact Bel.refl _ | exact HB2.out)⟩
        all_goals
          have E := HNB.out
          rw [E]
          clear E
          unfold nodeB
          rw [← HPL.out, ← HIB.out]
          first | (simp; done) | (simp_all; done) | (simp_all; omega) | (rw [Bool.eq_iff_iff]; simp; omega)
      have d3 : (k == 3) = false := by simpa using e3
      by_cases e4 : k = 4
      case pos =>
        subst e4
        cases pl
        all_goals go_wp2_with fail
        all_goals go_meet
        all_goals refine ⟨congrArg Value.bool ?_, Lib.hid (by first | exact Bel.refl _ | exact HB2.out)⟩
        all_goals
          have E := HNB.out
          rw [E]
          clear E
          unfold nodeB
          rw [← HPL.out, ← HIB.out]
          first | (simp; done) | (simp_all; done) | (simp_all; omega) | (rw [Bool.eq_iff_iff]; simp; omega)
      have d4 : (k == 4) = false := by simpa using e4
      by_cases e5 : k = 5
      case pos =>
        subst e5
        cases pl
        all_goals go_wp2_with fail
        all_goals go_meet
        all_goals refine ⟨congrArg Value.bool ?_, Lib.hid (by first | exact Bel.refl _ | exact HB2.out)⟩
        all_goals
          have E := HNB.out
          rw [E]
          clear E
          unfold nodeB
          rw [← HPL.out, ← HIB.out]
          first | (simp; done) | (simp_all; done) | (simp_all; omega) | (rw [Bool.eq_iff_iff]; simp; omega)
      have d5 : (k == 5) = false := by simpa using e5
      by_cases e6 : k = 6
      case pos =>
        subst e6
        cases pl
        all_goals go_wp2_with fail
        all_goals go_meet
        all_goals refine ⟨congrArg Value.bool ?_, Lib.hid (by first | exact Bel.refl _ | exact HB2.out)⟩
        all_goals
          have E := HNB.out
          rw [E]
          clear E
          unfold nodeB
          rw [← HPL.out, ← HIB.out]
          first | (simp; done) | (simp_all; done) | (simp_all; omega) | (rw [Bool.eq_iff_iff]; simp; omega)
      have d6 : (k == 6) = false := by simpa using e6
      by_cases e7 : k = 7
      case pos =>
        subst e7
        cases pl <;> cases ib
        all_goals go_wp2_with (go_at_call 8; refine (HI.out _).mono ?_; rintro e w2 ⟨rfl, hb2⟩; (have HB2 := Lib.hid hb2); (obtain ⟨⟨y0, y1, y2, y3, y4⟩, _⟩ := cells5 (hb2.blk HQ.out)); clear hb2 x0 x1 x2 x3 x4)
        all_goals go_meet
        all_goals refine ⟨congrArg Value.bool ?_, Lib.hid (by first | exact Bel.refl _ | exact HB2.out)⟩
        all_goals
          have E := HNB.out
          rw [E]
          clear E
          unfold nodeB
          rw [← HPL.out, ← HIB.out]
          first | (simp; done) | (simp_all; done) | (simp_all; omega) | (rw [Bool.eq_iff_iff]; simp; omega)
      have d7 : (k == 7) = false := by simpa using e7
      by_cases e8 : k = 8
      case pos =>
        subst e8
        cases pl
        all_goals go_wp2_with fail
        all_goals go_meet
        all_goals refine ⟨congrArg Value.bool ?_, Lib.hid (by first | exact Bel.refl _ | exact HB2.out)⟩
        all_goals
          have E := HNB.out
          rw [E]
          clear E
          unfold nodeB
          rw [← HPL.out, ← HIB.out]
          first | (simp; done) | (simp_all; done) | (simp_all; omega) | (rw [Bool.eq_iff_iff]; simp; omega)
      have d8 : (k == 8) = false := by simpa using e8
      go_wp2_with fail
      go_meet
      refine ⟨congrArg Value.bool ?_, Lib.hid (Bel.refl _)⟩
      have E := HNB.out
      rw [E]
      unfold nodeB
      rw [← HPL.out, ← HIB.out]
      simp [e1, e2, e3, e4, e5, e6, e7, e8]
    case rest =>
      obtain ⟨rfl, HBw⟩ := hcut
      clear HIB HPL qm HI HK0 x0 x1 x2 x3 x4
      go_wp2_with fail
      go_loopw [4, 5] (fun b i wr => ∃ j : Nat, j ≤ len ∧ i = .int .i64 (j : Int) ∧ b = .bool (nb && kids.wellTo j) ∧ Hid (Bel w1 wr)) (fun _ i _ => len - (intOf i).toNat)
      case atStart => exact ⟨0, Nat.zero_le _, rfl, by rw [Fo.wellTo_zero, Bool.and_true], HBw⟩
      case round =>
        obtain ⟨j, hj, rfl, rfl, HB⟩ := hrel
        have hbx := (HB.out.block w.heap.size (by have := HS1.out; omega)).trans HQ.out
        obtain ⟨⟨x0, x1, x2, x3, x4⟩, _⟩ := cells5 hbx
        clear hbx
        by_cases hlt : j < len
        · have hkr : KidsAt wr (Old w) A len cap kids := H.out.keep fun i hi => (HB.out.block i (Nat.lt_of_lt_of_le hi HB1.out.size)).trans (HB1.out.block i hi)
          obtain ⟨ub, uo, eA, hob, hfo⟩ := hkr.2.2 (by omega)
          subst eA
          obtain ⟨k', n', v', c', kids', A', cap', en, e1, e2, e3, e4, e5, hk'⟩ := FoAt.nth kids j ub uo hfo (by rw [← HL.out]; exact hlt)
          have hsn := Fo.nth_size kids j
          rw [en] at hsn
          simp only [Fo.size] at hsn
          have HU : Hid (kids.wellTo (j + 1) = (kids.wellTo j && (kids.nth j).well)) := Lib.hid (Fo.wellTo_succ kids j (by rw [← HL.out]; exact hlt))
          have HC : Hid (∀ W, Bel wr W → Calls Tryd.prog 33 #[.agg #[.int .u8 k', .int .i64 n', .int .i64 v', .int .u8 c', .slice A' kids'.len cap']] W (SameP (kids.nth j).well W)) := Lib.hid fun W hW => by
            rw [en]
            exact IH.out kids'.size (by have := HN.out; omega) k' n' v' c' A' kids'.len cap' kids' W rfl ((hk'.wide fun i hi => Nat.lt_of_lt_of_le hi (Nat.le_trans HB1.out.size HB.out.size)).bel hW) (by omega)
          obtain ⟨q, hq⟩ : ∃ q, q = (kids.nth j).well := ⟨_, rfl⟩
          rw [← hq] at HC HU
          obtain ⟨l', hl'⟩ : ∃ l', l' = kids'.len := ⟨_, rfl⟩
          rw [← hl'] at e5 HC
          obtain ⟨bb, hbb⟩ : ∃ bb, bb = (nb && kids.wellTo j) := ⟨_, rfl⟩
          rw [← hbb]
          have HNX : Hid ((nb && kids.wellTo (j + 1)) = (bb && q)) := Lib.hid (by rw [HU.out, hbb, Bool.and_assoc])
          have i1 : (0 : Int) ≤ (j : Int) := by omega
          have i2 : (j : Int) < (len : Int) := by omega
          clear hkr hfo en hk' hsn hq hl' hbb HU
          cases bb
          · go_wp2_with fail
            go_roundw
            case rel => exact ⟨j + 1, by omega, by go_num, by rw [HNX.out]; rfl, HB⟩
            case measure => simp [intOf]; omega
          · go_wp2_with fail
            refine (HC.out _ (Bel.refl _)).mono ?_
            rintro e w3 ⟨rfl, hb3⟩
            have HB3 := Lib.hid (HB.out.on hb3)
            clear hb3
            go_wp2_with fail
            go_roundw
            case rel => exact ⟨j + 1, by omega, by go_num, by rw [HNX.out]; rfl, HB3⟩
            case measure => simp [intOf]; omega
        · obtain rfl : j = len := by omega
          have hr2 : r = (nb && kids.wellTo j) := by rw [HWL.out, HL.out, Fo.wellTo_all]
          rw [← hr2]
          clear hr2
          go_wp2_with fail
          go_ret
          exact ⟨rfl, HB1.out.on HB.out⟩
set_option maxRecDepth 100000 in
set_option maxHeartbeats 1000000 in
theorem rmay6_any (k n v c : Int) (A : Option Addr) (len cap : Nat) (kids : Fo) (w : World) (h : KidsAt w (Old w) A len cap kids) (hsz : kids.size ≤ 1400000) :
    Calls Tryd.prog 7 #[.agg #[.int .u8 k, .int .i64 n, .int .i64 v, .int .u8 c, .slice A len cap]] w fun e w' => e = .returned (.int .i64 (tyErr (.cons k n v c kids .nil))) ∧ Bel w w' := by
  have HS : Hid (∀ W, Bel w W → Calls Tryd.prog 11 #[.agg #[.int .u8 k, .int .i64 n, .int .i64 v, .int .u8 c, .slice A len cap]] W fun e w' => e = .returned (.int .i64 ((1 + kids.size : Nat) : Int)) ∧ Bel W w') := Lib.hid fun W hW => rsize_any _ k n v c A len cap kids W rfl (h.bel hW) hsz
  have HI : Hid (∀ W, Bel w W → Calls Tryd.prog 33 #[.agg #[.int .u8 k, .int .i64 n, .int .i64 v, .int .u8 c, .slice A len cap]] W (SameP (Fo.cons k n v c kids .nil).well W)) := Lib.hid fun W hW => ris6_any _ k n v c A len cap kids W rfl (h.bel hW) hsz
  have HE : Hid (tyErr (.cons k n v c kids .nil) = if 300 < 1 + kids.size then 3 else if (Fo.cons k n v c kids .nil).well = true then 0 else 2) := Lib.hid (by
    have e : (Fo.cons k n v c kids .nil).size = 1 + kids.size := by simp [Fo.size]
    unfold tyErr
    rw [e])
  obtain ⟨r, hr⟩ : ∃ r, r = tyErr (.cons k n v c kids .nil) := ⟨_, rfl⟩
  obtain ⟨y, hy⟩ : ∃ y, y = (Fo.cons k n v c kids .nil).well := ⟨_, rfl⟩
  obtain ⟨z, hz⟩ : ∃ z : Nat, z = 1 + kids.size := ⟨_, rfl⟩
  rw [← hr] at HE ⊢
  rw [← hy] at HE HI
  rw [← hz] at HE HS
  clear h hsz hr hy hz
  have q1 := blk1 w (.cells #[.int .u8 k, .int .i64 n, .int .i64 v, .int .u8 c, .slice A len cap] 27)
  go_enter Tryd.func7, Tryd.ntmps7
  have hb1 : Bel w (w.alloc (.cells #[.int .u8 k, .int .i64 n, .int .i64 v, .int .u8 c, .slice A len cap] 27)) := (Bel.refl w).alloc _
  have HB1 := Lib.hid hb1
  have HQ := Lib.hid q1
  clear hb1 q1
  go_wp2_with fail
  refine (HS.out _ HB1.out).mono ?_
  rintro e w2 ⟨rfl, hb2⟩
  have HB2 := Lib.hid (HB1.out.on hb2)
  obtain ⟨⟨x0, x1, x2, x3, x4⟩, _⟩ := cells5 (hb2.blk HQ.out)
  clear hb2
  by_cases hz : 300 < z
  · have d1 : decide ((300 : Int) < (z : Int)) = true := by simp; omega
    have hr : r = 3 := by rw [HE.out, if_pos hz]
    subst hr
    go_wp2_with fail
    go_ret
    exact ⟨rfl, HB2.out⟩
  · have d1 : decide ((300 : Int) < (z : Int)) = false := by simp; omega
    have hr : r = if y = true then 0 else 2 := by rw [HE.out, if_neg hz]
    have HR := Lib.hid hr
    clear hr
    go_wp2_with fail
    refine (HI.out _ HB2.out).mono ?_
    rintro e w3 ⟨rfl, hb3⟩
    have HB3 := Lib.hid (HB2.out.on hb3)
    clear hb3
    cases y
    · have hr : r = 2 := by rw [HR.out]; simp
      subst hr
      go_wp2_with fail
      go_ret
      exact ⟨rfl, HB3.out⟩
    · have hr : r = 0 := by rw [HR.out]; simp
      subst hr
      go_wp2_with fail
      go_ret
      exact ⟨rfl, HB3.out⟩
end Go.Proofs.YtblgligagngpfaaDoor.Mu

