/-
  The statement TermCloses: walked; what the listed tables hold is a premise.
-/
import Derived.Test.YteegoecanbonoaaDoorIneqTexts
import Derived.Test.YteegoecanbonoaaDoorTermX
import Derived.Test.YteegoecanbonoaaDoorTermMath
namespace Go.Proofs.YteegoecanbonoaaDoor.Mu
open Go.ChangeShapes Go.WideShapes Go.ChangeAt Go.RowKit

theorem great2c_any (r q : Raw) (cap g : Nat) (W : World) (hg : g = W.heap.size) :
    Calls Tryd.prog 18 #[.slice (some ⟨g, 0, none⟩) 2 cap] (W.alloc (.cells #[.bool r.nv, .int .u8 r.c, .slice r.A r.n r.k, .bool q.nv, .int .u8 q.c, .slice q.A q.n q.k] 25)) fun e w' => e = .returned (.bool (greatB [r, q])) ∧ Bel (W.alloc (.cells #[.bool r.nv, .int .u8 r.c, .slice r.A r.n r.k, .bool q.nv, .int .u8 q.c, .slice q.A q.n q.k] 25)) w' := by
  subst hg
  exact great_any _ 2 cap _ _ ((rt_two W r q).more (by simp)) (by omega)
theorem great2c_no {r q : Raw} (h : greatB [r, q] = false) : r.n ≤ 5000 ∧ q.n ≤ 5000 := by
  unfold greatB greatN at h
  rw [decide_eq_false_iff_not] at h
  simp only [List.map_cons, List.map_nil, List.sum_cons, List.sum_nil] at h
  split at h <;> split at h <;> omega
theorem j2L_len (n1 n2 : Bool) (c1 c2 : Int) (l1 l2 : List Int) : (j2L n1 n2 c1 c2 l1 l2).length ≤ l1.length + l2.length := by
  unfold j2L
  have a1 := greatL_len (max 2 c2) l2
  have a2 := greatL_len (max 2 c1) l1
  have a3 := greatL_len (max (max 1 c1) c2) (l1 ++ l2)
  rw [List.length_append] at a3
  cases n1 <;> cases n2
  · exact a3
  · exact Nat.le_trans a2 (Nat.le_add_right _ _)
  · exact Nat.le_trans a1 (Nat.le_add_left _ _)
  · exact Nat.zero_le _
theorem s2L_len (n1 n2 : Bool) (l1 l2 : List Int) : (s2L n1 n2 l1 l2).length ≤ l1.length + l2.length := by
  unfold s2L; cases n1 <;> cases n2 <;> simp
theorem scL_len (nv : Bool) (v m c : Int) (l : List Int) : (scL nv v m c l).length ≤ l.length + 1 := by
  unfold scL scaleL
  have a1 := greatL_len (max m c) (if m = 0 then l ++ [v] else l)
  have a2 : (if m = 0 then l ++ [v] else l).length ≤ l.length + 1 := by split <;> simp
  cases nv <;> simp <;> omega
/-- Texts tell terms apart, as Same does. -/
def sameB (n1 n2 : Bool) (c1 c2 : Int) (l1 l2 : List Int) : Bool := decide (n1 = n2) && decide (c1 = c2) && decide (l1 = l2)
theorem sameB_iff {n1 n2 : Bool} {c1 c2 : Int} {l1 l2 : List Int} (h1 : mayB n1 c1 l1 = true) (h2 : mayB n2 c2 l2 = true) : sameB n1 n2 c1 c2 l1 l2 = true ↔ textT n1 c1 l1 = textT n2 c2 l2 := by
  rw [textT_inj h1 h2]; unfold sameB; simp [and_assoc]
theorem ba_eq {a b : List UInt8} (h : a = b) : ((⟨a.toArray⟩ : ByteArray) == ⟨b.toArray⟩) = true := by
  rw [h, beq_toListBytes]; simp

set_option maxRecDepth 100000 in
set_option maxHeartbeats 8000000 in
theorem termCloses_any (n1 : Bool) (c1 : Int) (A1 : Option Addr) (m1 k1 : Nat) (l1 : List Int) (n2 : Bool) (c2 : Int) (A2 : Option Addr) (m2 k2 : Nat) (l2 : List Int) (v m : Int) (w : World) (h1 : RI .i64 w w.heap.size A1 m1 l1) (h2 : RI .i64 w w.heap.size A2 m2 l2) (hm1 : m1 ≤ 9223372036854775807) (hm2 : m2 ≤ 9223372036854775807) (hc10 : 0 ≤ c1) (hc11 : c1 ≤ 255) (hc20 : 0 ≤ c2) (hc21 : c2 ≤ 255) (ht : Tabs w) :
    Calls Tryd.prog 5 #[.agg #[.bool n1, .int .u8 c1, .slice A1 m1 k1], .agg #[.bool n2, .int .u8 c2, .slice A2 m2 k2], .agg #[.int .i64 v, .int .u8 m]] w fun e w' => e = .returned (.bool true) ∧ Bel w w' := by
  have HR1 := Lib.hid h1
  have HR2 := Lib.hid h2
  have HT := Lib.hid ht
  clear h1 h2 ht
  rcases Bool.eq_false_or_eq_true (greatB [⟨n1, c1, A1, m1, k1⟩, ⟨n2, c2, A2, m2, k2⟩]) with hgt | hgt
  all_goals
    have HGR : Hid (∀ (W : World) (cap g : Nat), g = W.heap.size → Calls Tryd.prog 18 #[.slice (some ⟨g, 0, none⟩) 2 cap] (W.alloc (.cells #[.bool n1, .int .u8 c1, .slice A1 m1 k1, .bool n2, .int .u8 c2, .slice A2 m2 k2] 25)) fun e w' => e = .returned (.bool _) ∧ Bel (W.alloc (.cells #[.bool n1, .int .u8 c1, .slice A1 m1 k1, .bool n2, .int .u8 c2, .slice A2 m2 k2] 25)) w') := Lib.hid fun W cap g hg => by
      have h := great2c_any ⟨n1, c1, A1, m1, k1⟩ ⟨n2, c2, A2, m2, k2⟩ cap g W hg; rw [hgt] at h; exact h
  · clear hgt
    go_enter Tryd.func5, Tryd.ntmps5
    go_wp2_with fail
    refine (HGR.out _ _ _ (by simp)).mono ?_
    rintro e w1 ⟨rfl, hb⟩
    have HC1 : Hid (Bel w w1) := Lib.hid ((((((Bel.refl w).alloc _).alloc _).alloc _).alloc _).on hb)
    clear hb
    go_wp2_with fail
    refine (works2_any _).mono ?_
    rintro e w2 ⟨rfl, hb⟩
    have HC2 := Lib.hid (HC1.out.on hb)
    clear hb
    go_wp2_with fail
    go_ret
    exact ⟨rfl, HC2.out⟩
  · obtain ⟨q1, q2⟩ := great2c_no hgt
    simp only at q1 q2
    clear hgt
    cases y1 : mayB n1 c1 l1
    case false =>
      have Y1 := Lib.hid y1
      clear y1
      go_enter Tryd.func5, Tryd.ntmps5
      go_wp2_with fail
      refine (HGR.out _ _ _ (by simp)).mono ?_
      rintro e w1 ⟨rfl, hb⟩
      have hbb : Bel (((w.alloc (.cells #[.bool n1, .int .u8 c1, .slice A1 m1 k1] 25)).alloc (.cells #[.bool n2, .int .u8 c2, .slice A2 m2 k2] 25)).alloc (.cells #[.int .i64 v, .int .u8 m] 32)) w1 := ((Bel.refl _).alloc _).on hb
      have HKa := Lib.hid (hbb.blk (blk3 w _ _ _).1)
      have HKb := Lib.hid (hbb.blk (blk3 w _ _ _).2.1)
      have HKm := Lib.hid (hbb.blk (blk3 w _ _ _).2.2)
      have HC1 : Hid (Bel w w1) := Lib.hid ((((Bel.refl w).alloc _).alloc _).alloc _ |>.on hbb)
      clear hb hbb
      obtain ⟨fa0, fa1, fa2, _, _, _⟩ := cells3 HKa.out
      have hza := (Array.getElem?_eq_some_iff.1 HKa.out).1
      obtain ⟨fb0, fb1, fb2, _, _, _⟩ := cells3 HKb.out
      have hzb := (Array.getElem?_eq_some_iff.1 HKb.out).1
      obtain ⟨fm0, fm1⟩ := cells2 HKm.out
      have hzm := (Array.getElem?_eq_some_iff.1 HKm.out).1
      go_wp2_with fail
      refine (may_no Y1.out A1 m1 k1 _ (HR1.out.bel HC1.out) (by omega)).mono ?_
      clear fa0 fa1 fa2 hza fb0 fb1 fb2 hzb fm0 fm1 hzm
      rintro e w2 ⟨rfl, hb⟩
      have hbb : Bel w1 w2 := (Bel.refl w1).on hb
      have HC2 : Hid (Bel w w2) := Lib.hid (HC1.out.on hbb)
      clear hb hbb
      go_wp2_with fail
      refine (works2_any _).mono ?_
      rintro e w3 ⟨rfl, hb⟩
      have HC3 := Lib.hid (HC2.out.on hb)
      clear hb
      go_wp2_with fail
      go_ret
      exact ⟨rfl, HC3.out⟩
    case true =>
      have Y1 := Lib.hid y1
      clear y1
      cases y2 : mayB n2 c2 l2
      case false =>
        have Y2 := Lib.hid y2
        clear y2
        go_enter Tryd.func5, Tryd.ntmps5
        go_wp2_with fail
        refine (HGR.out _ _ _ (by simp)).mono ?_
        rintro e w1 ⟨rfl, hb⟩
        have hbb : Bel (((w.alloc (.cells #[.bool n1, .int .u8 c1, .slice A1 m1 k1] 25)).alloc (.cells #[.bool n2, .int .u8 c2, .slice A2 m2 k2] 25)).alloc (.cells #[.int .i64 v, .int .u8 m] 32)) w1 := ((Bel.refl _).alloc _).on hb
        have HKa := Lib.hid (hbb.blk (blk3 w _ _ _).1)
        have HKb := Lib.hid (hbb.blk (blk3 w _ _ _).2.1)
        have HKm := Lib.hid (hbb.blk (blk3 w _ _ _).2.2)
        have HC1 : Hid (Bel w w1) := Lib.hid ((((Bel.refl w).alloc _).alloc _).alloc _ |>.on hbb)
        clear hb hbb
        obtain ⟨fa0, fa1, fa2, _, _, _⟩ := cells3 HKa.out
        have hza := (Array.getElem?_eq_some_iff.1 HKa.out).1
        obtain ⟨fb0, fb1, fb2, _, _, _⟩ := cells3 HKb.out
        have hzb := (Array.getElem?_eq_some_iff.1 HKb.out).1
        obtain ⟨fm0, fm1⟩ := cells2 HKm.out
        have hzm := (Array.getElem?_eq_some_iff.1 HKm.out).1
        go_wp2_with fail
        refine (may_yes Y1.out A1 m1 k1 _ (HR1.out.bel HC1.out) (by omega)).mono ?_
        clear fa0 fa1 fa2 hza fb0 fb1 fb2 hzb fm0 fm1 hzm
        rintro e w2 ⟨rfl, hb⟩
        have hbb : Bel w1 w2 := (Bel.refl w1).on hb
        replace HKa := Lib.hid (hbb.blk HKa.out)
        replace HKb := Lib.hid (hbb.blk HKb.out)
        have HC2 : Hid (Bel w w2) := Lib.hid (HC1.out.on hbb)
        clear hb hbb
        obtain ⟨fa0, fa1, fa2, _, _, _⟩ := cells3 HKa.out
        have hza := (Array.getElem?_eq_some_iff.1 HKa.out).1
        obtain ⟨fb0, fb1, fb2, _, _, _⟩ := cells3 HKb.out
        have hzb := (Array.getElem?_eq_some_iff.1 HKb.out).1
        go_wp2_with fail
        refine (may_no Y2.out A2 m2 k2 _ (HR2.out.bel HC2.out) (by omega)).mono ?_
        clear fa0 fa1 fa2 hza fb0 fb1 fb2 hzb
        rintro e w3 ⟨rfl, hb⟩
        have hbb : Bel w2 w3 := (Bel.refl w2).on hb
        have HC3 : Hid (Bel w w3) := Lib.hid (HC2.out.on hbb)
        clear hb hbb
        go_wp2_with fail
        refine (works2_any _).mono ?_
        rintro e w4 ⟨rfl, hb⟩
        have HC4 := Lib.hid (HC3.out.on hb)
        clear hb
        go_wp2_with fail
        go_ret
        exact ⟨rfl, HC4.out⟩
      case true =>
        have Y2 := Lib.hid y2
        clear y2
        cases yi : isB v m
        case false =>
          have YI := Lib.hid yi
          clear yi
          go_enter Tryd.func5, Tryd.ntmps5
          go_wp2_with fail
          refine (HGR.out _ _ _ (by simp)).mono ?_
          rintro e w1 ⟨rfl, hb⟩
          have hbb : Bel (((w.alloc (.cells #[.bool n1, .int .u8 c1, .slice A1 m1 k1] 25)).alloc (.cells #[.bool n2, .int .u8 c2, .slice A2 m2 k2] 25)).alloc (.cells #[.int .i64 v, .int .u8 m] 32)) w1 := ((Bel.refl _).alloc _).on hb
          have HKa := Lib.hid (hbb.blk (blk3 w _ _ _).1)
          have HKb := Lib.hid (hbb.blk (blk3 w _ _ _).2.1)
          have HKm := Lib.hid (hbb.blk (blk3 w _ _ _).2.2)
          have HC1 : Hid (Bel w w1) := Lib.hid ((((Bel.refl w).alloc _).alloc _).alloc _ |>.on hbb)
          clear hb hbb
          obtain ⟨fa0, fa1, fa2, _, _, _⟩ := cells3 HKa.out
          have hza := (Array.getElem?_eq_some_iff.1 HKa.out).1
          obtain ⟨fb0, fb1, fb2, _, _, _⟩ := cells3 HKb.out
          have hzb := (Array.getElem?_eq_some_iff.1 HKb.out).1
          obtain ⟨fm0, fm1⟩ := cells2 HKm.out
          have hzm := (Array.getElem?_eq_some_iff.1 HKm.out).1
          go_wp2_with fail
          refine (may_yes Y1.out A1 m1 k1 _ (HR1.out.bel HC1.out) (by omega)).mono ?_
          clear fa0 fa1 fa2 hza fb0 fb1 fb2 hzb fm0 fm1 hzm
          rintro e w2 ⟨rfl, hb⟩
          have hbb : Bel w1 w2 := (Bel.refl w1).on hb
          replace HKa := Lib.hid (hbb.blk HKa.out)
          replace HKb := Lib.hid (hbb.blk HKb.out)
          replace HKm := Lib.hid (hbb.blk HKm.out)
          have HC2 : Hid (Bel w w2) := Lib.hid (HC1.out.on hbb)
          clear hb hbb
          obtain ⟨fa0, fa1, fa2, _, _, _⟩ := cells3 HKa.out
          have hza := (Array.getElem?_eq_some_iff.1 HKa.out).1
          obtain ⟨fb0, fb1, fb2, _, _, _⟩ := cells3 HKb.out
          have hzb := (Array.getElem?_eq_some_iff.1 HKb.out).1
          obtain ⟨fm0, fm1⟩ := cells2 HKm.out
          have hzm := (Array.getElem?_eq_some_iff.1 HKm.out).1
          go_wp2_with fail
          refine (may_yes Y2.out A2 m2 k2 _ (HR2.out.bel HC2.out) (by omega)).mono ?_
          clear fa0 fa1 fa2 hza fb0 fb1 fb2 hzb fm0 fm1 hzm
          rintro e w3 ⟨rfl, hb⟩
          have hbb : Bel w2 w3 := (Bel.refl w2).on hb
          replace HKa := Lib.hid (hbb.blk HKa.out)
          replace HKb := Lib.hid (hbb.blk HKb.out)
          replace HKm := Lib.hid (hbb.blk HKm.out)
          have HC3 : Hid (Bel w w3) := Lib.hid (HC2.out.on hbb)
          clear hb hbb
          obtain ⟨fa0, fa1, fa2, _, _, _⟩ := cells3 HKa.out
          have hza := (Array.getElem?_eq_some_iff.1 HKa.out).1
          obtain ⟨fb0, fb1, fb2, _, _, _⟩ := cells3 HKb.out
          have hzb := (Array.getElem?_eq_some_iff.1 HKb.out).1
          obtain ⟨fm0, fm1⟩ := cells2 HKm.out
          have hzm := (Array.getElem?_eq_some_iff.1 HKm.out).1
          go_wp2_with fail
          refine (is_no YI.out _).mono ?_
          clear fa0 fa1 fa2 hza fb0 fb1 fb2 hzb fm0 fm1 hzm
          rintro e w4 ⟨rfl, hb⟩
          have hbb : Bel w3 w4 := (Bel.refl w3).on hb
          have HC4 : Hid (Bel w w4) := Lib.hid (HC3.out.on hbb)
          clear hb hbb
          go_wp2_with fail
          refine (works2_any _).mono ?_
          rintro e w5 ⟨rfl, hb⟩
          have HC5 := Lib.hid (HC4.out.on hb)
          clear hb
          go_wp2_with fail
          go_ret
          exact ⟨rfl, HC5.out⟩
        case true =>
          have YI := Lib.hid yi
          obtain ⟨xn, hxn⟩ : ∃ x, (n1 && n2) = x := ⟨_, rfl⟩
          obtain ⟨xc, hxc⟩ : ∃ x, j2C n1 n2 c1 c2 = x := ⟨_, rfl⟩
          obtain ⟨xl, hxl⟩ : ∃ x, j2L n1 n2 c1 c2 l1 l2 = x := ⟨_, rfl⟩
          obtain ⟨yc, hyc⟩ : ∃ x, s2C n1 n2 c1 c2 = x := ⟨_, rfl⟩
          obtain ⟨yl, hyl⟩ : ∃ x, s2L n1 n2 l1 l2 = x := ⟨_, rfl⟩
          obtain ⟨zc, hzc⟩ : ∃ x, scC n1 m c1 = x := ⟨_, rfl⟩
          obtain ⟨zl, hzl⟩ : ∃ x, scL n1 v m c1 l1 = x := ⟨_, rfl⟩
          have HJ : Hid (∀ (W : World) (cap g : Nat), g = W.heap.size → Bel w W → Calls Tryd.prog 12 #[.slice (some ⟨g, 0, none⟩) 2 cap] (W.alloc (.cells #[.bool n1, .int .u8 c1, .slice A1 m1 k1, .bool n2, .int .u8 c2, .slice A2 m2 k2] 25)) (GivesTE xn xc xl 0 (W.alloc (.cells #[.bool n1, .int .u8 c1, .slice A1 m1 k1, .bool n2, .int .u8 c2, .slice A2 m2 k2] 25)))) := Lib.hid fun W cap g hg hW => by
            have h := join2_ok n1 n2 c1 c2 A1 A2 m1 k1 m2 k2 cap g l1 l2 W hg (HR1.out.bel hW) (HR2.out.bel hW) (by omega) Y1.out Y2.out
            rw [hxn, hxc, hxl] at h; exact h
          have HS : Hid (∀ (W : World) (cap g : Nat), g = W.heap.size → Bel w W → Calls Tryd.prog 14 #[.slice (some ⟨g, 0, none⟩) 2 cap] (W.alloc (.cells #[.bool n1, .int .u8 c1, .slice A1 m1 k1, .bool n2, .int .u8 c2, .slice A2 m2 k2] 25)) (GivesTE xn yc yl 0 (W.alloc (.cells #[.bool n1, .int .u8 c1, .slice A1 m1 k1, .bool n2, .int .u8 c2, .slice A2 m2 k2] 25)))) := Lib.hid fun W cap g hg hW => by
            have h := sum2_ok n1 n2 c1 c2 A1 A2 m1 k1 m2 k2 cap g l1 l2 W hg (HR1.out.bel hW) (HR2.out.bel hW) (by omega) Y1.out Y2.out
            rw [hxn, hyc, hyl] at h; exact h
          have HSc : Hid (∀ (W : World), Bel w W → Calls Tryd.prog 15 #[.agg #[.int .i64 v, .int .u8 m], .agg #[.bool n1, .int .u8 c1, .slice A1 m1 k1]] W (GivesTE n1 zc zl 0 W)) := Lib.hid fun W hW => by
            have h := scaleT_yes v m n1 c1 A1 m1 k1 l1 W (HR1.out.bel hW) (by omega) YI.out Y1.out
            rw [hzc, hzl] at h; exact h
          have YX : Hid (mayB xn xc xl = true) := Lib.hid (by rw [← hxn, ← hxc, ← hxl]; exact j2_may Y1.out Y2.out)
          have YY : Hid (mayB xn yc yl = true) := Lib.hid (by rw [← hxn, ← hyc, ← hyl]; exact s2_may Y1.out Y2.out)
          have YZ : Hid (mayB n1 zc zl = true) := Lib.hid (by rw [← hzc, ← hzl]; exact sc_may YI.out Y1.out)
          have HLX : Hid (xl.length ≤ 10000) := Lib.hid (by rw [← hxl]; have a := j2L_len n1 n2 c1 c2 l1 l2; have b := HR1.out.len; have c := HR2.out.len; omega)
          have HLY : Hid (yl.length ≤ 10000) := Lib.hid (by rw [← hyl]; have a := s2L_len n1 n2 l1 l2; have b := HR1.out.len; have c := HR2.out.len; omega)
          have HLZ : Hid (zl.length ≤ 10000) := Lib.hid (by rw [← hzl]; have a := scL_len n1 v m c1 l1; have b := HR1.out.len; omega)
          have HXC : Hid (0 ≤ xc ∧ xc ≤ 255) := Lib.hid (by
            have h := YX.out; unfold mayB isMultB at h; cases xn <;> simp at h <;> omega)
          have HZC : Hid (0 ≤ zc ∧ zc ≤ 255) := Lib.hid (by
            have h := YZ.out; clear HSc HS HJ; unfold mayB isMultB at h; cases n1 <;> simp at h <;> omega)
          clear hxn hxc hxl hyc hyl hzc hzl yi
          go_enter Tryd.func5, Tryd.ntmps5
          go_wp2_with fail
          refine (HGR.out _ _ _ (by simp)).mono ?_
          rintro e w1 ⟨rfl, hb⟩
          have hbb : Bel (((w.alloc (.cells #[.bool n1, .int .u8 c1, .slice A1 m1 k1] 25)).alloc (.cells #[.bool n2, .int .u8 c2, .slice A2 m2 k2] 25)).alloc (.cells #[.int .i64 v, .int .u8 m] 32)) w1 := ((Bel.refl _).alloc _).on hb
          have HKa := Lib.hid (hbb.blk (blk3 w _ _ _).1)
          have HKb := Lib.hid (hbb.blk (blk3 w _ _ _).2.1)
          have HKm := Lib.hid (hbb.blk (blk3 w _ _ _).2.2)
          have HC1 : Hid (Bel w w1) := Lib.hid ((((Bel.refl w).alloc _).alloc _).alloc _ |>.on hbb)
          clear hb hbb
          obtain ⟨fa0, fa1, fa2, _, _, _⟩ := cells3 HKa.out
          have hza := (Array.getElem?_eq_some_iff.1 HKa.out).1
          obtain ⟨fb0, fb1, fb2, _, _, _⟩ := cells3 HKb.out
          have hzb := (Array.getElem?_eq_some_iff.1 HKb.out).1
          obtain ⟨fm0, fm1⟩ := cells2 HKm.out
          have hzm := (Array.getElem?_eq_some_iff.1 HKm.out).1
          go_wp2_with fail
          refine (may_yes Y1.out A1 m1 k1 _ (HR1.out.bel HC1.out) (by omega)).mono ?_
          clear fa0 fa1 fa2 hza fb0 fb1 fb2 hzb fm0 fm1 hzm
          rintro e w2 ⟨rfl, hb⟩
          have hbb : Bel w1 w2 := (Bel.refl w1).on hb
          replace HKa := Lib.hid (hbb.blk HKa.out)
          replace HKb := Lib.hid (hbb.blk HKb.out)
          replace HKm := Lib.hid (hbb.blk HKm.out)
          have HC2 : Hid (Bel w w2) := Lib.hid (HC1.out.on hbb)
          clear hb hbb
          obtain ⟨fa0, fa1, fa2, _, _, _⟩ := cells3 HKa.out
          have hza := (Array.getElem?_eq_some_iff.1 HKa.out).1
          obtain ⟨fb0, fb1, fb2, _, _, _⟩ := cells3 HKb.out
          have hzb := (Array.getElem?_eq_some_iff.1 HKb.out).1
          obtain ⟨fm0, fm1⟩ := cells2 HKm.out
          have hzm := (Array.getElem?_eq_some_iff.1 HKm.out).1
          go_wp2_with fail
          refine (may_yes Y2.out A2 m2 k2 _ (HR2.out.bel HC2.out) (by omega)).mono ?_
          clear fa0 fa1 fa2 hza fb0 fb1 fb2 hzb fm0 fm1 hzm
          rintro e w3 ⟨rfl, hb⟩
          have hbb : Bel w2 w3 := (Bel.refl w2).on hb
          replace HKa := Lib.hid (hbb.blk HKa.out)
          replace HKb := Lib.hid (hbb.blk HKb.out)
          replace HKm := Lib.hid (hbb.blk HKm.out)
          have HC3 : Hid (Bel w w3) := Lib.hid (HC2.out.on hbb)
          clear hb hbb
          obtain ⟨fa0, fa1, fa2, _, _, _⟩ := cells3 HKa.out
          have hza := (Array.getElem?_eq_some_iff.1 HKa.out).1
          obtain ⟨fb0, fb1, fb2, _, _, _⟩ := cells3 HKb.out
          have hzb := (Array.getElem?_eq_some_iff.1 HKb.out).1
          obtain ⟨fm0, fm1⟩ := cells2 HKm.out
          have hzm := (Array.getElem?_eq_some_iff.1 HKm.out).1
          go_wp2_with fail
          refine (is_yes YI.out _).mono ?_
          clear fa0 fa1 fa2 hza fb0 fb1 fb2 hzb fm0 fm1 hzm
          rintro e w4 ⟨rfl, hb⟩
          have hbb : Bel w3 w4 := (Bel.refl w3).on hb
          replace HKa := Lib.hid (hbb.blk HKa.out)
          replace HKb := Lib.hid (hbb.blk HKb.out)
          replace HKm := Lib.hid (hbb.blk HKm.out)
          have HC4 : Hid (Bel w w4) := Lib.hid (HC3.out.on hbb)
          clear hb hbb
          obtain ⟨fa0, fa1, fa2, _, _, _⟩ := cells3 HKa.out
          have hza := (Array.getElem?_eq_some_iff.1 HKa.out).1
          obtain ⟨fb0, fb1, fb2, _, _, _⟩ := cells3 HKb.out
          have hzb := (Array.getElem?_eq_some_iff.1 HKb.out).1
          obtain ⟨fm0, fm1⟩ := cells2 HKm.out
          have hzm := (Array.getElem?_eq_some_iff.1 HKm.out).1
          go_wp2_with fail
          refine (HJ.out w4 _ _ (by simp) HC4.out).mono ?_
          clear fa0 fa1 fa2 hza fb0 fb1 fb2 hzb fm0 fm1 hzm
          rintro e w5 ⟨Ax, mx, kx, rfl, hrx, hb⟩
          have hbb : Bel w4 w5 := ((Bel.refl w4).alloc _).on hb
          replace HKa := Lib.hid (hbb.blk HKa.out)
          replace HKb := Lib.hid (hbb.blk HKb.out)
          replace HKm := Lib.hid (hbb.blk HKm.out)
          have HC5 : Hid (Bel w w5) := Lib.hid (HC4.out.on hbb)
          have HRX := Lib.hid hrx
          clear hb hbb hrx
          obtain ⟨fa0, fa1, fa2, _, _, _⟩ := cells3 HKa.out
          have hza := (Array.getElem?_eq_some_iff.1 HKa.out).1
          obtain ⟨fb0, fb1, fb2, _, _, _⟩ := cells3 HKb.out
          have hzb := (Array.getElem?_eq_some_iff.1 HKb.out).1
          obtain ⟨fm0, fm1⟩ := cells2 HKm.out
          have hzm := (Array.getElem?_eq_some_iff.1 HKm.out).1
          go_wp2_with fail
          refine (HS.out (w5.alloc _) _ _ (by simp) (HC5.out.alloc _)).mono ?_
          clear fa0 fa1 fa2 hza fb0 fb1 fb2 hzb fm0 fm1 hzm
          rintro e w6 ⟨Ay, my, ky, rfl, hry, hb⟩
          have hbb : Bel (w5.alloc (.cells #[.bool xn, .int .u8 xc, .slice Ax mx kx] 25)) w6 := ((Bel.refl _).alloc _).on hb
          have HKx := Lib.hid (hbb.blk (blk1 w5 _))
          replace HRX := Lib.hid (HRX.out.bel (((Bel.refl w5).alloc _).on hbb))
          have hbc : Bel w5 w6 := ((Bel.refl w5).alloc _).on hbb
          replace HKa := Lib.hid (hbc.blk HKa.out)
          replace HKb := Lib.hid (hbc.blk HKb.out)
          replace HKm := Lib.hid (hbc.blk HKm.out)
          have HC6 : Hid (Bel w w6) := Lib.hid (HC5.out.on hbc)
          have HRY := Lib.hid hry
          clear hb hbb hbc hry
          obtain ⟨fa0, fa1, fa2, _, _, _⟩ := cells3 HKa.out
          have hza := (Array.getElem?_eq_some_iff.1 HKa.out).1
          obtain ⟨fb0, fb1, fb2, _, _, _⟩ := cells3 HKb.out
          have hzb := (Array.getElem?_eq_some_iff.1 HKb.out).1
          obtain ⟨fm0, fm1⟩ := cells2 HKm.out
          have hzm := (Array.getElem?_eq_some_iff.1 HKm.out).1
          go_wp2_with fail
          refine (HSc.out _ (HC6.out.alloc _)).mono ?_
          clear fa0 fa1 fa2 hza fb0 fb1 fb2 hzb fm0 fm1 hzm
          rintro e w7 ⟨Az, mz, kz, rfl, hrz, hb⟩
          have HKy := Lib.hid (hb.blk (blk1 w6 _))
          have hbc : Bel w6 w7 := ((Bel.refl w6).alloc _).on hb
          replace HRX := Lib.hid (HRX.out.bel hbc)
          replace HRY := Lib.hid (HRY.out.bel hbc)
          replace HKa := Lib.hid (hbc.blk HKa.out)
          replace HKb := Lib.hid (hbc.blk HKb.out)
          replace HKx := Lib.hid (hbc.blk HKx.out)
          have HC7 : Hid (Bel w w7) := Lib.hid (HC6.out.on hbc)
          have HRZ := Lib.hid hrz
          clear hb hbc hrz
          obtain ⟨fx0, fx1, fx2, _, _, _⟩ := cells3 HKx.out
          have hzx := (Array.getElem?_eq_some_iff.1 HKx.out).1
          obtain ⟨fy0, fy1, fy2, _, _, _⟩ := cells3 HKy.out
          have hzy := (Array.getElem?_eq_some_iff.1 HKy.out).1
          go_wp2_with fail
          refine (may_yes YX.out Ax mx kx _ (HRX.out.alloc _) (by have := HRX.out.len; have := HLX.out; omega)).mono ?_
          rintro e w8 ⟨rfl, hb⟩
          have HKz := Lib.hid (hb.blk (blk1 w7 _))
          have hbc : Bel w7 w8 := ((Bel.refl w7).alloc _).on hb
          clear fx0 fx1 fx2 hzx fy0 fy1 fy2 hzy
          replace HRX := Lib.hid (HRX.out.bel hbc)
          replace HRY := Lib.hid (HRY.out.bel hbc)
          replace HRZ := Lib.hid (HRZ.out.bel hbc)
          replace HKa := Lib.hid (hbc.blk HKa.out)
          replace HKb := Lib.hid (hbc.blk HKb.out)
          replace HKx := Lib.hid (hbc.blk HKx.out)
          replace HKy := Lib.hid (hbc.blk HKy.out)
          have HC8 : Hid (Bel w w8) := Lib.hid (HC7.out.on hbc)
          clear hb hbc
          obtain ⟨fy0, fy1, fy2, _, _, _⟩ := cells3 HKy.out
          have hzy := (Array.getElem?_eq_some_iff.1 HKy.out).1
          obtain ⟨fz0, fz1, fz2, _, _, _⟩ := cells3 HKz.out
          have hzz := (Array.getElem?_eq_some_iff.1 HKz.out).1
          go_wp2_with fail
          refine (may_yes YY.out Ay my ky _ HRY.out (by have := HRY.out.len; have := HLY.out; omega)).mono ?_
          clear fy0 fy1 fy2 hzy fz0 fz1 fz2 hzz
          rintro e w9 ⟨rfl, hbc⟩
          replace HRX := Lib.hid (HRX.out.bel hbc)
          replace HRZ := Lib.hid (HRZ.out.bel hbc)
          replace HKa := Lib.hid (hbc.blk HKa.out)
          replace HKb := Lib.hid (hbc.blk HKb.out)
          replace HKx := Lib.hid (hbc.blk HKx.out)
          replace HKz := Lib.hid (hbc.blk HKz.out)
          have HC9 : Hid (Bel w w9) := Lib.hid (HC8.out.on hbc)
          clear hbc HKy HRY
          obtain ⟨fz0, fz1, fz2, _, _, _⟩ := cells3 HKz.out
          have hzz := (Array.getElem?_eq_some_iff.1 HKz.out).1
          go_wp2_with fail
          refine (may_yes YZ.out Az mz kz _ HRZ.out (by have := HRZ.out.len; have := HLZ.out; omega)).mono ?_
          clear fz0 fz1 fz2 hzz
          rintro e w10 ⟨rfl, hbc⟩
          replace HRX := Lib.hid (HRX.out.bel hbc)
          replace HRZ := Lib.hid (HRZ.out.bel hbc)
          replace HKa := Lib.hid (hbc.blk HKa.out)
          replace HKb := Lib.hid (hbc.blk HKb.out)
          replace HKx := Lib.hid (hbc.blk HKx.out)
          replace HKz := Lib.hid (hbc.blk HKz.out)
          have HC10 : Hid (Bel w w10) := Lib.hid (HC9.out.on hbc)
          clear hbc
          obtain ⟨fa0, fa1, fa2, _, _, _⟩ := cells3 HKa.out
          have hza := (Array.getElem?_eq_some_iff.1 HKa.out).1
          obtain ⟨fb0, fb1, fb2, _, _, _⟩ := cells3 HKb.out
          have hzb := (Array.getElem?_eq_some_iff.1 HKb.out).1
          obtain ⟨fx0, fx1, fx2, _, _, _⟩ := cells3 HKx.out
          have hzx := (Array.getElem?_eq_some_iff.1 HKx.out).1
          obtain ⟨fz0, fz1, fz2, _, _, _⟩ := cells3 HKz.out
          have hzz := (Array.getElem?_eq_some_iff.1 HKz.out).1
          obtain ⟨sab, hsab⟩ : ∃ b, sameB n1 n2 c1 c2 l1 l2 = b := ⟨_, rfl⟩
          obtain ⟨sxz, hsxz⟩ : ∃ b, sameB xn n1 xc zc xl zl = b := ⟨_, rfl⟩
          have HIab := Lib.hid (sameB_iff Y1.out Y2.out)
          have HIxz := Lib.hid (sameB_iff YX.out YZ.out)
          obtain ⟨ta, hta⟩ : ∃ t, textT n1 c1 l1 = t := ⟨_, rfl⟩
          obtain ⟨tb, htb⟩ : ∃ t, textT n2 c2 l2 = t := ⟨_, rfl⟩
          obtain ⟨tx, htx⟩ : ∃ t, textT xn xc xl = t := ⟨_, rfl⟩
          obtain ⟨tz, htz⟩ : ∃ t, textT n1 zc zl = t := ⟨_, rfl⟩
          have HTa : Hid (∀ W, Bel w10 W → Calls Tryd.prog 17 #[.agg #[.bool n1, .int .u8 c1, .slice A1 m1 k1]] W fun e w' => e = .returned (.string ⟨ta.toArray⟩) ∧ Bel W w') := Lib.hid fun W hW => by
            have h := textT_any n1 c1 A1 m1 k1 l1 W (HR1.out.bel (HC10.out.on hW)) (by omega) (mayB_all Y1.out) hc10 hc11 (HT.out.bel (HC10.out.on hW)); rw [hta] at h; exact h
          have HTb : Hid (∀ W, Bel w10 W → Calls Tryd.prog 17 #[.agg #[.bool n2, .int .u8 c2, .slice A2 m2 k2]] W fun e w' => e = .returned (.string ⟨tb.toArray⟩) ∧ Bel W w') := Lib.hid fun W hW => by
            have h := textT_any n2 c2 A2 m2 k2 l2 W (HR2.out.bel (HC10.out.on hW)) (by omega) (mayB_all Y2.out) hc20 hc21 (HT.out.bel (HC10.out.on hW)); rw [htb] at h; exact h
          have HTx : Hid (∀ W, Bel w10 W → Calls Tryd.prog 17 #[.agg #[.bool xn, .int .u8 xc, .slice Ax mx kx]] W fun e w' => e = .returned (.string ⟨tx.toArray⟩) ∧ Bel W w') := Lib.hid fun W hW => by
            have h := textT_any xn xc Ax mx kx xl W (HRX.out.bel hW) (by have := HRX.out.len; have := HLX.out; omega) (mayB_all YX.out) HXC.out.1 HXC.out.2 (HT.out.bel (HC10.out.on hW)); rw [htx] at h; exact h
          have HTz : Hid (∀ W, Bel w10 W → Calls Tryd.prog 17 #[.agg #[.bool n1, .int .u8 zc, .slice Az mz kz]] W fun e w' => e = .returned (.string ⟨tz.toArray⟩) ∧ Bel W w') := Lib.hid fun W hW => by
            have h := textT_any n1 zc Az mz kz zl W (HRZ.out.bel hW) (by have := HRZ.out.len; have := HLZ.out; omega) (mayB_all YZ.out) HZC.out.1 HZC.out.2 (HT.out.bel (HC10.out.on hW)); rw [htz] at h; exact h
          have HSab : Hid (∀ W, Bel w10 W → Calls Tryd.prog 23 #[.agg #[.bool n1, .int .u8 c1, .slice A1 m1 k1], .agg #[.bool n2, .int .u8 c2, .slice A2 m2 k2]] W fun e w' => e = .returned (.bool sab) ∧ Bel W w') := Lib.hid fun W hW => by
            have h := same_any n1 n2 c1 c2 A1 A2 m1 m2 k1 k2 l1 l2 W (HR1.out.bel (HC10.out.on hW)) (HR2.out.bel (HC10.out.on hW)) (by omega) (by omega)
            rw [show (decide (n1 = n2) && decide (c1 = c2) && decide (l1 = l2)) = sab from hsab] at h; exact h
          have HSxz : Hid (∀ W, Bel w10 W → Calls Tryd.prog 23 #[.agg #[.bool xn, .int .u8 xc, .slice Ax mx kx], .agg #[.bool n1, .int .u8 zc, .slice Az mz kz]] W fun e w' => e = .returned (.bool sxz) ∧ Bel W w') := Lib.hid fun W hW => by
            have h := same_any xn n1 xc zc Ax Az mx mz kx kz xl zl W (HRX.out.bel hW) (HRZ.out.bel hW) (by have := HRX.out.len; have := HLX.out; omega) (by have := HRZ.out.len; have := HLZ.out; omega)
            rw [show (decide (xn = n1) && decide (xc = zc) && decide (xl = zl)) = sxz from hsxz] at h; exact h
          rw [hsab, hta, htb] at HIab
          rw [hsxz, htx, htz] at HIxz
          clear hsab hsxz hta htb htx htz
          go_wp2_with fail
          cases sab <;> cases sxz
          all_goals
            have hab := HIab.out
            have hxz := HIxz.out
            simp only [Bool.false_eq_true, false_iff, true_iff] at hab hxz
          case' false.false =>
            have qhab1 := ba_ne hab
            have qhab2 : (ta == tb) = false := by simp [hab]
            have qhab3 : (ta = tb) = False := by simp [hab]
            clear hab
            have qhxz1 := ba_ne hxz
            have qhxz2 : (tx == tz) = false := by simp [hxz]
            have qhxz3 : (tx = tz) = False := by simp [hxz]
            clear hxz
          case' false.true =>
            have qhab1 := ba_ne hab
            have qhab2 : (ta == tb) = false := by simp [hab]
            have qhab3 : (ta = tb) = False := by simp [hab]
            clear hab
            have qhxz1 := ba_eq hxz
            have qhxz2 : (tx == tz) = true := by rw [hxz]; simp
            have qhxz3 : (tx = tz) = True := by simp [hxz]
            clear hxz
          case' true.false =>
            have qhab1 := ba_eq hab
            have qhab2 : (ta == tb) = true := by rw [hab]; simp
            have qhab3 : (ta = tb) = True := by simp [hab]
            clear hab
            have qhxz1 := ba_ne hxz
            have qhxz2 : (tx == tz) = false := by simp [hxz]
            have qhxz3 : (tx = tz) = False := by simp [hxz]
            clear hxz
          case' true.true =>
            have qhab1 := ba_eq hab
            have qhab2 : (ta == tb) = true := by rw [hab]; simp
            have qhab3 : (ta = tb) = True := by simp [hab]
            clear hab
            have qhxz1 := ba_eq hxz
            have qhxz2 : (tx == tz) = true := by rw [hxz]; simp
            have qhxz3 : (tx = tz) = True := by simp [hxz]
            clear hxz
          all_goals
            have HB10 : Hid (Bel w10 w10) := Lib.hid (Bel.refl _)
            have HWk : Hid (∀ W, Bel w10 W → Calls Tryd.prog 16 #[] W fun e w' => e = .returned (.bool true) ∧ Bel W w') := Lib.hid fun W _ => works2_any W
            have tk1 : True := trivial
            have tk2 : True := trivial
            have tk3 : True := trivial
            have tk4 : True := trivial
            have tk5 : True := trivial
            have tk6 : True := trivial
            have tk7 : True := trivial
            go_region_held3 (fun w' => w'.cell? ⟨w.heap.size, 0, none⟩ = some (.bool n1) ∧ w'.cell? ⟨w.heap.size, 1, none⟩ = some (.int .u8 c1) ∧ w'.cell? ⟨w.heap.size, 2, none⟩ = some (.slice A1 m1 k1) ∧ w'.cell? ⟨w.heap.size + 1, 0, none⟩ = some (.bool n2) ∧ w'.cell? ⟨w.heap.size + 1, 1, none⟩ = some (.int .u8 c2) ∧ w'.cell? ⟨w.heap.size + 1, 2, none⟩ = some (.slice A2 m2 k2) ∧ w'.cell? ⟨w5.heap.size, 0, none⟩ = some (.bool xn) ∧ w'.cell? ⟨w5.heap.size, 1, none⟩ = some (.int .u8 xc) ∧ w'.cell? ⟨w5.heap.size, 2, none⟩ = some (.slice Ax mx kx) ∧ w'.cell? ⟨w7.heap.size, 0, none⟩ = some (.bool n1) ∧ w'.cell? ⟨w7.heap.size, 1, none⟩ = some (.int .u8 zc) ∧ w'.cell? ⟨w7.heap.size, 2, none⟩ = some (.slice Az mz kz)) (go_keep)
              (first | (go_at_call 17; have _t := tk1; refine (HTa.out _ (by first | exact HB10.out | exact HB10.out.drew)).mono ?_; rintro e w11 ⟨rfl, hb⟩; clear _t tk1; (have hbp : Bel w10 w11 := by first | exact hb | exact (Bel.refl _).drew.on hb); (have HB11 : Hid (Bel w10 w11) := Lib.hid (HB10.out.on hbp)); (have fa0 := (hbp.cell (p := ⟨w.heap.size, 0, none⟩) hza).trans fa0); (have fa1 := (hbp.cell (p := ⟨w.heap.size, 1, none⟩) hza).trans fa1); (have fa2 := (hbp.cell (p := ⟨w.heap.size, 2, none⟩) hza).trans fa2); (have fb0 := (hbp.cell (p := ⟨w.heap.size + 1, 0, none⟩) hzb).trans fb0); (have fb1 := (hbp.cell (p := ⟨w.heap.size + 1, 1, none⟩) hzb).trans fb1); (have fb2 := (hbp.cell (p := ⟨w.heap.size + 1, 2, none⟩) hzb).trans fb2); (have fx0 := (hbp.cell (p := ⟨w5.heap.size, 0, none⟩) hzx).trans fx0); (have fx1 := (hbp.cell (p := ⟨w5.heap.size, 1, none⟩) hzx).trans fx1); (have fx2 := (hbp.cell (p := ⟨w5.heap.size, 2, none⟩) hzx).trans fx2); (have fz0 := (hbp.cell (p := ⟨w7.heap.size, 0, none⟩) hzz).trans fz0); (have fz1 := (hbp.cell (p := ⟨w7.heap.size, 1, none⟩) hzz).trans fz1); (have fz2 := (hbp.cell (p := ⟨w7.heap.size, 2, none⟩) hzz).trans fz2); (have hza : w.heap.size < w11.heap.size := Nat.lt_of_lt_of_le hza hbp.size); (have hzb : w.heap.size + 1 < w11.heap.size := Nat.lt_of_lt_of_le hzb hbp.size); (have hzx : w5.heap.size < w11.heap.size := Nat.lt_of_lt_of_le hzx hbp.size); (have hzz : w7.heap.size < w11.heap.size := Nat.lt_of_lt_of_le hzz hbp.size); clear hb hbp) | (go_at_call 17; have _t := tk2; refine (HTb.out _ (by first | exact HB11.out | exact HB11.out.drew)).mono ?_; rintro e w12 ⟨rfl, hb⟩; clear _t tk2; (have hbp : Bel w11 w12 := by first | exact hb | exact (Bel.refl _).drew.on hb); (have HB12 : Hid (Bel w10 w12) := Lib.hid (HB11.out.on hbp)); (have fa0 := (hbp.cell (p := ⟨w.heap.size, 0, none⟩) hza).trans fa0); (have fa1 := (hbp.cell (p := ⟨w.heap.size, 1, none⟩) hza).trans fa1); (have fa2 := (hbp.cell (p := ⟨w.heap.size, 2, none⟩) hza).trans fa2); (have fb0 := (hbp.cell (p := ⟨w.heap.size + 1, 0, none⟩) hzb).trans fb0); (have fb1 := (hbp.cell (p := ⟨w.heap.size + 1, 1, none⟩) hzb).trans fb1); (have fb2 := (hbp.cell (p := ⟨w.heap.size + 1, 2, none⟩) hzb).trans fb2); (have fx0 := (hbp.cell (p := ⟨w5.heap.size, 0, none⟩) hzx).trans fx0); (have fx1 := (hbp.cell (p := ⟨w5.heap.size, 1, none⟩) hzx).trans fx1); (have fx2 := (hbp.cell (p := ⟨w5.heap.size, 2, none⟩) hzx).trans fx2); (have fz0 := (hbp.cell (p := ⟨w7.heap.size, 0, none⟩) hzz).trans fz0); (have fz1 := (hbp.cell (p := ⟨w7.heap.size, 1, none⟩) hzz).trans fz1); (have fz2 := (hbp.cell (p := ⟨w7.heap.size, 2, none⟩) hzz).trans fz2); (have hza : w.heap.size < w12.heap.size := Nat.lt_of_lt_of_le hza hbp.size); (have hzb : w.heap.size + 1 < w12.heap.size := Nat.lt_of_lt_of_le hzb hbp.size); (have hzx : w5.heap.size < w12.heap.size := Nat.lt_of_lt_of_le hzx hbp.size); (have hzz : w7.heap.size < w12.heap.size := Nat.lt_of_lt_of_le hzz hbp.size); clear hb hbp) | (go_at_call 23; have _t := tk3; refine (HSab.out _ (by first | exact HB12.out | exact HB12.out.drew)).mono ?_; rintro e w13 ⟨rfl, hb⟩; clear _t tk3; (have hbp : Bel w12 w13 := by first | exact hb | exact (Bel.refl _).drew.on hb); (have HB13 : Hid (Bel w10 w13) := Lib.hid (HB12.out.on hbp)); (have fa0 := (hbp.cell (p := ⟨w.heap.size, 0, none⟩) hza).trans fa0); (have fa1 := (hbp.cell (p := ⟨w.heap.size, 1, none⟩) hza).trans fa1); (have fa2 := (hbp.cell (p := ⟨w.heap.size, 2, none⟩) hza).trans fa2); (have fb0 := (hbp.cell (p := ⟨w.heap.size + 1, 0, none⟩) hzb).trans fb0); (have fb1 := (hbp.cell (p := ⟨w.heap.size + 1, 1, none⟩) hzb).trans fb1); (have fb2 := (hbp.cell (p := ⟨w.heap.size + 1, 2, none⟩) hzb).trans fb2); (have fx0 := (hbp.cell (p := ⟨w5.heap.size, 0, none⟩) hzx).trans fx0); (have fx1 := (hbp.cell (p := ⟨w5.heap.size, 1, none⟩) hzx).trans fx1); (have fx2 := (hbp.cell (p := ⟨w5.heap.size, 2, none⟩) hzx).trans fx2); (have fz0 := (hbp.cell (p := ⟨w7.heap.size, 0, none⟩) hzz).trans fz0); (have fz1 := (hbp.cell (p := ⟨w7.heap.size, 1, none⟩) hzz).trans fz1); (have fz2 := (hbp.cell (p := ⟨w7.heap.size, 2, none⟩) hzz).trans fz2); (have hza : w.heap.size < w13.heap.size := Nat.lt_of_lt_of_le hza hbp.size); (have hzb : w.heap.size + 1 < w13.heap.size := Nat.lt_of_lt_of_le hzb hbp.size); (have hzx : w5.heap.size < w13.heap.size := Nat.lt_of_lt_of_le hzx hbp.size); (have hzz : w7.heap.size < w13.heap.size := Nat.lt_of_lt_of_le hzz hbp.size); clear hb hbp) | (go_at_call 17; have _t := tk4; refine (HTx.out _ (by first | exact HB13.out | exact HB13.out.drew)).mono ?_; rintro e w14 ⟨rfl, hb⟩; clear _t tk4; (have hbp : Bel w13 w14 := by first | exact hb | exact (Bel.refl _).drew.on hb); (have HB14 : Hid (Bel w10 w14) := Lib.hid (HB13.out.on hbp)); (have fa0 := (hbp.cell (p := ⟨w.heap.size, 0, none⟩) hza).trans fa0); (have fa1 := (hbp.cell (p := ⟨w.heap.size, 1, none⟩) hza).trans fa1); (have fa2 := (hbp.cell (p := ⟨w.heap.size, 2, none⟩) hza).trans fa2); (have fb0 := (hbp.cell (p := ⟨w.heap.size + 1, 0, none⟩) hzb).trans fb0); (have fb1 := (hbp.cell (p := ⟨w.heap.size + 1, 1, none⟩) hzb).trans fb1); (have fb2 := (hbp.cell (p := ⟨w.heap.size + 1, 2, none⟩) hzb).trans fb2); (have fx0 := (hbp.cell (p := ⟨w5.heap.size, 0, none⟩) hzx).trans fx0); (have fx1 := (hbp.cell (p := ⟨w5.heap.size, 1, none⟩) hzx).trans fx1); (have fx2 := (hbp.cell (p := ⟨w5.heap.size, 2, none⟩) hzx).trans fx2); (have fz0 := (hbp.cell (p := ⟨w7.heap.size, 0, none⟩) hzz).trans fz0); (have fz1 := (hbp.cell (p := ⟨w7.heap.size, 1, none⟩) hzz).trans fz1); (have fz2 := (hbp.cell (p := ⟨w7.heap.size, 2, none⟩) hzz).trans fz2); (have hza : w.heap.size < w14.heap.size := Nat.lt_of_lt_of_le hza hbp.size); (have hzb : w.heap.size + 1 < w14.heap.size := Nat.lt_of_lt_of_le hzb hbp.size); (have hzx : w5.heap.size < w14.heap.size := Nat.lt_of_lt_of_le hzx hbp.size); (have hzz : w7.heap.size < w14.heap.size := Nat.lt_of_lt_of_le hzz hbp.size); clear hb hbp) | (go_at_call 17; have _t := tk5; refine (HTz.out _ (by first | exact HB14.out | exact HB14.out.drew)).mono ?_; rintro e w15 ⟨rfl, hb⟩; clear _t tk5; (have hbp : Bel w14 w15 := by first | exact hb | exact (Bel.refl _).drew.on hb); (have HB15 : Hid (Bel w10 w15) := Lib.hid (HB14.out.on hbp)); (have fa0 := (hbp.cell (p := ⟨w.heap.size, 0, none⟩) hza).trans fa0); (have fa1 := (hbp.cell (p := ⟨w.heap.size, 1, none⟩) hza).trans fa1); (have fa2 := (hbp.cell (p := ⟨w.heap.size, 2, none⟩) hza).trans fa2); (have fb0 := (hbp.cell (p := ⟨w.heap.size + 1, 0, none⟩) hzb).trans fb0); (have fb1 := (hbp.cell (p := ⟨w.heap.size + 1, 1, none⟩) hzb).trans fb1); (have fb2 := (hbp.cell (p := ⟨w.heap.size + 1, 2, none⟩) hzb).trans fb2); (have fx0 := (hbp.cell (p := ⟨w5.heap.size, 0, none⟩) hzx).trans fx0); (have fx1 := (hbp.cell (p := ⟨w5.heap.size, 1, none⟩) hzx).trans fx1); (have fx2 := (hbp.cell (p := ⟨w5.heap.size, 2, none⟩) hzx).trans fx2); (have fz0 := (hbp.cell (p := ⟨w7.heap.size, 0, none⟩) hzz).trans fz0); (have fz1 := (hbp.cell (p := ⟨w7.heap.size, 1, none⟩) hzz).trans fz1); (have fz2 := (hbp.cell (p := ⟨w7.heap.size, 2, none⟩) hzz).trans fz2); (have hza : w.heap.size < w15.heap.size := Nat.lt_of_lt_of_le hza hbp.size); (have hzb : w.heap.size + 1 < w15.heap.size := Nat.lt_of_lt_of_le hzb hbp.size); (have hzx : w5.heap.size < w15.heap.size := Nat.lt_of_lt_of_le hzx hbp.size); (have hzz : w7.heap.size < w15.heap.size := Nat.lt_of_lt_of_le hzz hbp.size); clear hb hbp) | (go_at_call 23; have _t := tk6; refine (HSxz.out _ (by first | exact HB15.out | exact HB15.out.drew)).mono ?_; rintro e w16 ⟨rfl, hb⟩; clear _t tk6; (have hbp : Bel w15 w16 := by first | exact hb | exact (Bel.refl _).drew.on hb); (have HB16 : Hid (Bel w10 w16) := Lib.hid (HB15.out.on hbp)); (have fa0 := (hbp.cell (p := ⟨w.heap.size, 0, none⟩) hza).trans fa0); (have fa1 := (hbp.cell (p := ⟨w.heap.size, 1, none⟩) hza).trans fa1); (have fa2 := (hbp.cell (p := ⟨w.heap.size, 2, none⟩) hza).trans fa2); (have fb0 := (hbp.cell (p := ⟨w.heap.size + 1, 0, none⟩) hzb).trans fb0); (have fb1 := (hbp.cell (p := ⟨w.heap.size + 1, 1, none⟩) hzb).trans fb1); (have fb2 := (hbp.cell (p := ⟨w.heap.size + 1, 2, none⟩) hzb).trans fb2); (have fx0 := (hbp.cell (p := ⟨w5.heap.size, 0, none⟩) hzx).trans fx0); (have fx1 := (hbp.cell (p := ⟨w5.heap.size, 1, none⟩) hzx).trans fx1); (have fx2 := (hbp.cell (p := ⟨w5.heap.size, 2, none⟩) hzx).trans fx2); (have fz0 := (hbp.cell (p := ⟨w7.heap.size, 0, none⟩) hzz).trans fz0); (have fz1 := (hbp.cell (p := ⟨w7.heap.size, 1, none⟩) hzz).trans fz1); (have fz2 := (hbp.cell (p := ⟨w7.heap.size, 2, none⟩) hzz).trans fz2); (have hza : w.heap.size < w16.heap.size := Nat.lt_of_lt_of_le hza hbp.size); (have hzb : w.heap.size + 1 < w16.heap.size := Nat.lt_of_lt_of_le hzb hbp.size); (have hzx : w5.heap.size < w16.heap.size := Nat.lt_of_lt_of_le hzx hbp.size); (have hzz : w7.heap.size < w16.heap.size := Nat.lt_of_lt_of_le hzz hbp.size); clear hb hbp) | (go_at_call 16; have _t := tk7; refine (HWk.out _ (by first | exact HB16.out | exact HB16.out.drew)).mono ?_; rintro e w17 ⟨rfl, hb⟩; clear _t tk7; (have hbp : Bel w16 w17 := by first | exact hb | exact (Bel.refl _).drew.on hb); (have HB17 : Hid (Bel w10 w17) := Lib.hid (HB16.out.on hbp)); (have fa0 := (hbp.cell (p := ⟨w.heap.size, 0, none⟩) hza).trans fa0); (have fa1 := (hbp.cell (p := ⟨w.heap.size, 1, none⟩) hza).trans fa1); (have fa2 := (hbp.cell (p := ⟨w.heap.size, 2, none⟩) hza).trans fa2); (have fb0 := (hbp.cell (p := ⟨w.heap.size + 1, 0, none⟩) hzb).trans fb0); (have fb1 := (hbp.cell (p := ⟨w.heap.size + 1, 1, none⟩) hzb).trans fb1); (have fb2 := (hbp.cell (p := ⟨w.heap.size + 1, 2, none⟩) hzb).trans fb2); (have fx0 := (hbp.cell (p := ⟨w5.heap.size, 0, none⟩) hzx).trans fx0); (have fx1 := (hbp.cell (p := ⟨w5.heap.size, 1, none⟩) hzx).trans fx1); (have fx2 := (hbp.cell (p := ⟨w5.heap.size, 2, none⟩) hzx).trans fx2); (have fz0 := (hbp.cell (p := ⟨w7.heap.size, 0, none⟩) hzz).trans fz0); (have fz1 := (hbp.cell (p := ⟨w7.heap.size, 1, none⟩) hzz).trans fz1); (have fz2 := (hbp.cell (p := ⟨w7.heap.size, 2, none⟩) hzz).trans fz2); (have hza : w.heap.size < w17.heap.size := Nat.lt_of_lt_of_le hza hbp.size); (have hzb : w.heap.size + 1 < w17.heap.size := Nat.lt_of_lt_of_le hzb hbp.size); (have hzx : w5.heap.size < w17.heap.size := Nat.lt_of_lt_of_le hzx hbp.size); (have hzz : w7.heap.size < w17.heap.size := Nat.lt_of_lt_of_le hzz hbp.size); clear hb hbp))
            go_wp2
            go_ret
            exact ⟨rfl, HC10.out.on HB17.out⟩
end Go.Proofs.YteegoecanbonoaaDoor.Mu
