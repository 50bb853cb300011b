/-
  The statement TyTexts, walked.
-/
import Derived.Test.YtomojelaookacaaDoorTyTextsR
namespace Go.Proofs.YtomojelaookacaaDoor.Mu
open Go.ChangeShapes Go.WideShapes Go.ChangeAt Go.RowKit Go.Shelf

attribute [local go_sem] Oper.semAt_some
set_option linter.unusedVariables false

set_option maxRecDepth 100000 in
set_option maxHeartbeats 4000000 in
theorem tyTexts_any (k n v c : Int) (A : Option Addr) (len cap : Nat) (kids : Fo) (k2 n2 v2 c2 : Int) (A2 : Option Addr) (len2 cap2 : Nat) (kids2 : Fo) (w : World) (h : KidsAt w (Old w) A len cap kids) (h2 : KidsAt w (Old w) A2 len2 cap2 kids2) (hsz : kids.size + kids2.size ≤ 1300000) (ht : Tabs w) :
    Calls Tryd.prog 8 #[.agg #[.int .u8 k, .int .i64 n, .int .i64 v, .int .u8 c, .slice A len cap], .agg #[.int .u8 k2, .int .i64 n2, .int .i64 v2, .int .u8 c2, .slice A2 len2 cap2]] w (TrueP w) := by
  obtain ⟨w1, hw1⟩ : ∃ w1, w1 = (w.alloc (.cells #[.int .u8 k, .int .i64 n, .int .i64 v, .int .u8 c, .slice A len cap] 27)).alloc (.cells #[.int .u8 k2, .int .i64 n2, .int .i64 v2, .int .u8 c2, .slice A2 len2 cap2] 27) := ⟨_, rfl⟩
  have q1 := blk2 w (.cells #[.int .u8 k, .int .i64 n, .int .i64 v, .int .u8 c, .slice A len cap] 27) (.cells #[.int .u8 k2, .int .i64 n2, .int .i64 v2, .int .u8 c2, .slice A2 len2 cap2] 27)
  have hb1 : Bel w w1 := by rw [hw1]; exact ((Bel.refl w).alloc _).alloc _
  have hs1 : w1.heap.size = w.heap.size + 2 := by rw [hw1]; simp
  rw [← hw1] at q1
  have hk1 := h.bel hb1
  have hk2 := h2.bel hb1
  have ht1 := ht.bel hb1
  have HW : Hid (∀ W, Bel w1 W → Calls Tryd.prog 11 #[] W (TrueP W)) := Lib.hid fun W hW => works6_any W (ht1.bel hW)
  have HGr : Hid (∀ W gb, Bel w1 W → W.heap[gb]? = some (.cells #[.int .u8 k, .int .i64 n, .int .i64 v, .int .u8 c, .slice A len cap, .int .u8 k2, .int .i64 n2, .int .i64 v2, .int .u8 c2, .slice A2 len2 cap2] 27 (0, 0)) → Calls Tryd.prog 17 #[.slice (some ⟨gb, 0, none⟩) 2 2] W fun e w' => e = .returned (.bool (decide (5000 < (Fo.cons k n v c kids (.cons k2 n2 v2 c2 kids2 .nil)).grt))) ∧ Bel W w') := Lib.hid fun W gb hW hg =>
    great6_any (some ⟨gb, 0, none⟩) 2 2 _ W (kids_two hg (Array.getElem?_eq_some_iff.1 hg).1 (Nat.le_refl _) (hk1.bel hW) (hk2.bel hW)) (by simp only [Fo.size]; omega)
  have HM1 : Hid (∀ W, Bel w1 W → Calls Tryd.prog 20 #[.agg #[.int .u8 k, .int .i64 n, .int .i64 v, .int .u8 c, .slice A len cap]] W fun e w' => e = .returned (.int .i64 (tyErr (.cons k n v c kids .nil))) ∧ Bel W w') := Lib.hid fun W hW => tmay_any k n v c A len cap kids W (hk1.bel hW) (by omega)
  have HM2 : Hid (∀ W, Bel w1 W → Calls Tryd.prog 20 #[.agg #[.int .u8 k2, .int .i64 n2, .int .i64 v2, .int .u8 c2, .slice A2 len2 cap2]] W fun e w' => e = .returned (.int .i64 (tyErr (.cons k2 n2 v2 c2 kids2 .nil))) ∧ Bel W w') := Lib.hid fun W hW => tmay_any k2 n2 v2 c2 A2 len2 cap2 kids2 W (hk2.bel hW) (by omega)
  have HS : Hid (∀ W, Bel w1 W → Calls Tryd.prog 22 #[.agg #[.int .u8 k, .int .i64 n, .int .i64 v, .int .u8 c, .slice A len cap], .agg #[.int .u8 k2, .int .i64 n2, .int .i64 v2, .int .u8 c2, .slice A2 len2 cap2]] W (SameP (Fo.eqB (.cons k n v c kids .nil) (.cons k2 n2 v2 c2 kids2 .nil)) W)) := Lib.hid fun W hW => same_any k n v c A len cap kids k2 n2 v2 c2 A2 len2 cap2 kids2 W (hk1.bel hW) (hk2.bel hW) (by omega) (by omega)
  have HT1 : Hid (tyErr (.cons k n v c kids .nil) = 0 → ∀ W gn, Bel w1 W → RNm W W.heap.size (some ⟨gn, 0, none⟩) 2 nm2 → Calls Tryd.prog 12 #[.agg #[.int .u8 k, .int .i64 n, .int .i64 v, .int .u8 c, .slice A len cap], .slice (some ⟨gn, 0, none⟩) 2 2] W fun e w' => e = .returned (.string ⟨(Fo.one nm2 (.cons k n v c kids .nil) 0).toArray⟩) ∧ Bel W w') := Lib.hid fun he W gn hW hn => ttext_any k n v c A len cap kids nm2 _ 2 2 W (hk1.bel hW) (tyErr_well he) (by omega) (ht1.bel hW) hn (by omega) (one_len2 (tyErr_well he) (by omega) 0)
  have HT2 : Hid (tyErr (.cons k2 n2 v2 c2 kids2 .nil) = 0 → ∀ W gn, Bel w1 W → RNm W W.heap.size (some ⟨gn, 0, none⟩) 2 nm2 → Calls Tryd.prog 12 #[.agg #[.int .u8 k2, .int .i64 n2, .int .i64 v2, .int .u8 c2, .slice A2 len2 cap2], .slice (some ⟨gn, 0, none⟩) 2 2] W fun e w' => e = .returned (.string ⟨(Fo.one nm2 (.cons k2 n2 v2 c2 kids2 .nil) 0).toArray⟩) ∧ Bel W w') := Lib.hid fun he W gn hW hn => ttext_any k2 n2 v2 c2 A2 len2 cap2 kids2 nm2 _ 2 2 W (hk2.bel hW) (tyErr_well he) (by omega) (ht1.bel hW) hn (by omega) (one_len2 (tyErr_well he) (by omega) 0)
  have HIN : Hid (tyErr (.cons k n v c kids .nil) = 0 → tyErr (.cons k2 n2 v2 c2 kids2 .nil) = 0 → (Fo.one nm2 (.cons k n v c kids .nil) 0 = Fo.one nm2 (.cons k2 n2 v2 c2 kids2 .nil) 0 ↔ Fo.cons k n v c kids .nil = .cons k2 n2 v2 c2 kids2 .nil)) := Lib.hid fun a b => text_inj (tyErr_well a) (tyErr_well b)
  have HEQ := Lib.hid (Fo.eqB_iff (.cons k n v c kids .nil) (.cons k2 n2 v2 c2 kids2 .nil))
  obtain ⟨g, hg⟩ : ∃ g, g = decide (5000 < (Fo.cons k n v c kids (.cons k2 n2 v2 c2 kids2 .nil)).grt) := ⟨_, rfl⟩
  obtain ⟨e1, he1⟩ : ∃ e1, e1 = tyErr (.cons k n v c kids .nil) := ⟨_, rfl⟩
  obtain ⟨e2, he2⟩ : ∃ e2, e2 = tyErr (.cons k2 n2 v2 c2 kids2 .nil) := ⟨_, rfl⟩
  obtain ⟨b, hb⟩ : ∃ b, b = Fo.eqB (.cons k n v c kids .nil) (.cons k2 n2 v2 c2 kids2 .nil) := ⟨_, rfl⟩
  obtain ⟨t1, htt1⟩ : ∃ t, t = Fo.one nm2 (.cons k n v c kids .nil) 0 := ⟨_, rfl⟩
  obtain ⟨t2, htt2⟩ : ∃ t, t = Fo.one nm2 (.cons k2 n2 v2 c2 kids2 .nil) 0 := ⟨_, rfl⟩
  rw [← hg] at HGr
  rw [← he1] at HM1 HT1 HIN
  rw [← he2] at HM2 HT2 HIN
  rw [← hb] at HS HEQ
  rw [← htt1] at HT1 HIN
  rw [← htt2] at HT2 HIN
  have HB1 := Lib.hid hb1
  have HQ1 := Lib.hid q1
  have HS1 := Lib.hid hs1
  have HW1 := Lib.hid hw1
  clear hk1 hk2 ht1 h h2 ht hg he1 he2 hb htt1 htt2 hsz hs1 q1 hb1
  go_enter Tryd.func8, Tryd.ntmps8
  go_wp2_with fail
  rw [← hw1]
  clear hw1
  refine (HGr.out _ _ ((Bel.refl w1).alloc _) (blk_at (by have := HS1.out; omega))).mono ?_
  rintro e w3 ⟨rfl, hb3⟩
  have HB3 := Lib.hid ((((Bel.refl w1).alloc _)).on hb3)
  clear hb3
  obtain ⟨⟨x0, x1, x2, x3, x4⟩, _⟩ := cells5 (HB3.out.blk HQ1.out.1)
  obtain ⟨⟨y0, y1, y2, y3, y4⟩, _⟩ := cells5 (HB3.out.blk HQ1.out.2)
  have xl := Nat.lt_of_lt_of_le (show w.heap.size < w1.heap.size by have := HS1.out; omega) HB3.out.size
  have yl := Nat.lt_of_lt_of_le (show w.heap.size + 1 < w1.heap.size by have := HS1.out; omega) HB3.out.size
  cases g
  case true =>
    go_wp2_with fail
    refine (HW.out _ HB3.out).mono ?_
    rintro e w9 ⟨rfl, hb9⟩
    have HB9 := Lib.hid (HB3.out.on hb9)
    clear hb9
    go_wp2_with fail
    go_ret
    exact ⟨rfl, HB1.out.on HB9.out⟩
  go_wp2_with fail
  refine (HM1.out _ HB3.out).mono ?_
  rintro e w4 ⟨rfl, hb4⟩
  have HB4 := Lib.hid (HB3.out.on hb4)
  clear hb4 x0 x1 x2 x3 x4 y0 y1 y2 y3 y4 xl yl
  obtain ⟨⟨x0, x1, x2, x3, x4⟩, _⟩ := cells5 (HB4.out.blk HQ1.out.1)
  obtain ⟨⟨y0, y1, y2, y3, y4⟩, _⟩ := cells5 (HB4.out.blk HQ1.out.2)
  have xl := Nat.lt_of_lt_of_le (show w.heap.size < w1.heap.size by have := HS1.out; omega) HB4.out.size
  have yl := Nat.lt_of_lt_of_le (show w.heap.size + 1 < w1.heap.size by have := HS1.out; omega) HB4.out.size
  by_cases d1 : e1 = 0
  case neg =>
    have d1' : (e1 != 0) = true := by simpa using d1
    go_wp2_with fail
    refine (HW.out _ HB4.out).mono ?_
    rintro e w9 ⟨rfl, hb9⟩
    have HB9 := Lib.hid (HB4.out.on hb9)
    clear hb9
    go_wp2_with fail
    go_ret
    exact ⟨rfl, HB1.out.on HB9.out⟩
  subst d1
  go_wp2_with fail
  refine (HM2.out _ HB4.out).mono ?_
  rintro e w5 ⟨rfl, hb5⟩
  have HB5 := Lib.hid (HB4.out.on hb5)
  clear hb5 x0 x1 x2 x3 x4 y0 y1 y2 y3 y4 xl yl
  obtain ⟨⟨x0, x1, x2, x3, x4⟩, _⟩ := cells5 (HB5.out.blk HQ1.out.1)
  obtain ⟨⟨y0, y1, y2, y3, y4⟩, _⟩ := cells5 (HB5.out.blk HQ1.out.2)
  have xl := Nat.lt_of_lt_of_le (show w.heap.size < w1.heap.size by have := HS1.out; omega) HB5.out.size
  have yl := Nat.lt_of_lt_of_le (show w.heap.size + 1 < w1.heap.size by have := HS1.out; omega) HB5.out.size
  by_cases d2 : e2 = 0
  case neg =>
    have d2' : (e2 != 0) = true := by simpa using d2
    go_wp2_with fail
    refine (HW.out _ HB5.out).mono ?_
    rintro e w9 ⟨rfl, hb9⟩
    have HB9 := Lib.hid (HB5.out.on hb9)
    clear hb9
    go_wp2_with fail
    go_ret
    exact ⟨rfl, HB1.out.on HB9.out⟩
  subst d2
  have HT1' : Hid (∀ W gn, Bel w1 W → RNm W W.heap.size (some ⟨gn, 0, none⟩) 2 nm2 → Calls Tryd.prog 12 #[.agg #[.int .u8 k, .int .i64 n, .int .i64 v, .int .u8 c, .slice A len cap], .slice (some ⟨gn, 0, none⟩) 2 2] W fun e w' => e = .returned (.string ⟨t1.toArray⟩) ∧ Bel W w') := Lib.hid (HT1.out (by first | trivial | rfl))
  have HT2' : Hid (∀ W gn, Bel w1 W → RNm W W.heap.size (some ⟨gn, 0, none⟩) 2 nm2 → Calls Tryd.prog 12 #[.agg #[.int .u8 k2, .int .i64 n2, .int .i64 v2, .int .u8 c2, .slice A2 len2 cap2], .slice (some ⟨gn, 0, none⟩) 2 2] W fun e w' => e = .returned (.string ⟨t2.toArray⟩) ∧ Bel W w') := Lib.hid (HT2.out (by first | trivial | rfl))
  have HQB : Hid ((t1 = t2) ↔ b = true) := Lib.hid (by rw [HEQ.out]; exact HIN.out (by first | trivial | rfl) (by first | trivial | rfl))
  have HN : Hid (∀ W, Calls Tryd.prog 15 #[] W (NamesP W)) := Lib.hid names_any
  clear HT1 HT2 HIN HEQ HM1 HM2 HGr
  clear HB3 HB4
  have q1 : (t1 = t2) = (b = true) := propext HQB.out
  have q2 : (t1 == t2) = b := by
    cases b
    · rw [beq_eq_false_iff_ne]
      intro h
      rw [q1] at h
      cases h
    · rw [beq_iff_eq, q1]
  have q3 : ((⟨t1.toArray⟩ : ByteArray) == ⟨t2.toArray⟩) = b := by
    cases b
    · exact bb_ne (fun h => by rw [q1] at h; cases h)
    · exact bb_eq (by rw [q1])
  have HD : Hid (Bel w1 w5.drew) := Lib.hid HB5.out.drew
  have HR := Lib.hid (regTt_any (id := 3) w.heap.size (w.heap.size + 1) k n v c A len cap k2 n2 v2 c2 A2 len2 cap2 t1 t2 b)
  go_wp2_with fail
  refine HR.out _ _ _ _ _ _ _ _ _ _ _ _ _ _ _ _ _ _ _ _ _ _ _ _ _ _ _ _ _ _ _ _ _ w5 (HD.out.blk HQ1.out.1) (HD.out.blk HQ1.out.2) HN.out (fun W gn hW hn => HT1'.out W gn (HD.out.on hW) hn) (fun W gn hW hn => HT2'.out W gn (HD.out.on hW) hn) (fun W hW => HS.out W (HD.out.on hW)) (fun W hW => HW.out W (HD.out.on hW)) q1 q2 q3 _ ?_
  intro V w6 hb6 hv
  have HB6 := Lib.hid (HD.out.on hb6)
  simp only [regTt, List.drop_succ_cons, List.drop_zero, acVTt, hv]
  clear hb6 hv HR q1 q2 q3
  go_wp2_with fail
  go_ret
  exact ⟨rfl, HB1.out.on HB6.out⟩
end Go.Proofs.YtomojelaookacaaDoor.Mu

