/-
  The statement TyMay, walked.
-/
import Derived.Test.YtomojelaookacaaDoorTyMayR
import Derived.Test.YtomojelaookacaaDoorTyMkW
namespace Go.Proofs.YtomojelaookacaaDoor.Mu
open Go.ChangeShapes Go.WideShapes Go.ChangeAt Go.RowKit Go.Shelf

attribute [local go_sem] Oper.semAt_some
set_option linter.unusedVariables false

set_option maxRecDepth 100000 in
set_option maxHeartbeats 4000000 in
theorem tyMay_any (k n v c : Int) (A : Option Addr) (len cap : Nat) (kids : Fo) (k2 n2 v2 c2 : Int) (A2 : Option Addr) (len2 cap2 : Nat) (kids2 : Fo) (w : World) (h : KidsAt w (Old w) A len cap kids) (h2 : KidsAt w (Old w) A2 len2 cap2 kids2) (hsz : kids.size + kids2.size ≤ 1300000) (ht : Tabs w) :
    Calls Tryd.prog 4 #[.agg #[.int .u8 k, .int .i64 n, .int .i64 v, .int .u8 c, .slice A len cap], .agg #[.int .u8 k2, .int .i64 n2, .int .i64 v2, .int .u8 c2, .slice A2 len2 cap2]] w (SameP true w) := by
  obtain ⟨w1, hw1⟩ : ∃ w1, w1 = (w.alloc (.cells #[.int .u8 k, .int .i64 n, .int .i64 v, .int .u8 c, .slice A len cap] 27)).alloc (.cells #[.int .u8 k2, .int .i64 n2, .int .i64 v2, .int .u8 c2, .slice A2 len2 cap2] 27) := ⟨_, rfl⟩
  have q1 := blk2 w (.cells #[.int .u8 k, .int .i64 n, .int .i64 v, .int .u8 c, .slice A len cap] 27) (.cells #[.int .u8 k2, .int .i64 n2, .int .i64 v2, .int .u8 c2, .slice A2 len2 cap2] 27)
  have hb1 : Bel w w1 := by rw [hw1]; exact ((Bel.refl w).alloc _).alloc _
  have hs1 : w1.heap.size = w.heap.size + 2 := by rw [hw1]; simp
  rw [← hw1] at q1
  have hk1 := h.bel hb1
  have hk2 := h2.bel hb1
  have ht1 := ht.bel hb1
  have HW : Hid (∀ W, Bel w1 W → Calls Tryd.prog 11 #[] W (SameP true W)) := Lib.hid fun W hW => works6_any W (ht1.bel hW)
  have HGr : Hid (∀ W gb, Bel w1 W → W.heap[gb]? = some (.cells #[.int .u8 k, .int .i64 n, .int .i64 v, .int .u8 c, .slice A len cap, .int .u8 k2, .int .i64 n2, .int .i64 v2, .int .u8 c2, .slice A2 len2 cap2] 27 (0, 0)) → Calls Tryd.prog 17 #[.slice (some ⟨gb, 0, none⟩) 2 2] W fun e w' => e = .returned (.bool (decide (5000 < (Fo.cons k n v c kids (.cons k2 n2 v2 c2 kids2 .nil)).grt))) ∧ Bel W w') := Lib.hid fun W gb hW hg =>
    great6_any (some ⟨gb, 0, none⟩) 2 2 _ W (kids_two hg (Array.getElem?_eq_some_iff.1 hg).1 (Nat.le_refl _) (hk1.bel hW) (hk2.bel hW)) (by simp only [Fo.size]; omega)
  have HZ1 : Hid (∀ W, Bel w1 W → Calls Tryd.prog 18 #[.agg #[.int .u8 k, .int .i64 n, .int .i64 v, .int .u8 c, .slice A len cap]] W fun e w' => e = .returned (.int .i64 ((1 + kids.size : Nat) : Int)) ∧ Bel W w') := Lib.hid fun W hW => size_any k n v c A len cap kids W (hk1.bel hW) (by omega)
  have HZ2 : Hid (∀ W, Bel w1 W → Calls Tryd.prog 19 #[.agg #[.int .u8 k, .int .i64 n, .int .i64 v, .int .u8 c, .slice A len cap]] W fun e w' => e = .returned (.int .i64 ((1 + kids.size : Nat) : Int)) ∧ Bel W w') := Lib.hid fun W hW => rsize_any _ k n v c A len cap kids W rfl (hk1.bel hW) (by omega)
  have HM1 : Hid (∀ W, Bel w1 W → Calls Tryd.prog 20 #[.agg #[.int .u8 k, .int .i64 n, .int .i64 v, .int .u8 c, .slice A len cap]] W fun e w' => e = .returned (.int .i64 (tyErr (.cons k n v c kids .nil))) ∧ Bel W w') := Lib.hid fun W hW => tmay_any k n v c A len cap kids W (hk1.bel hW) (by omega)
  have HM2 : Hid (∀ W, Bel w1 W → Calls Tryd.prog 21 #[.agg #[.int .u8 k, .int .i64 n, .int .i64 v, .int .u8 c, .slice A len cap]] W fun e w' => e = .returned (.int .i64 (tyErr (.cons k n v c kids .nil))) ∧ Bel W w') := Lib.hid fun W hW => rmay6_any k n v c A len cap kids W (hk1.bel hW) (by omega)
  have HS : Hid (∀ W, Bel w1 W → Calls Tryd.prog 22 #[.agg #[.int .u8 k, .int .i64 n, .int .i64 v, .int .u8 c, .slice A len cap], .agg #[.int .u8 k2, .int .i64 n2, .int .i64 v2, .int .u8 c2, .slice A2 len2 cap2]] W (SameP (Fo.eqB (.cons k n v c kids .nil) (.cons k2 n2 v2 c2 kids2 .nil)) W)) := Lib.hid fun W hW => same_any k n v c A len cap kids k2 n2 v2 c2 A2 len2 cap2 kids2 W (hk1.bel hW) (hk2.bel hW) (by omega) (by omega)
  have HS2 : Hid (∀ W, Bel w1 W → Calls Tryd.prog 23 #[.agg #[.int .u8 k, .int .i64 n, .int .i64 v, .int .u8 c, .slice A len cap], .agg #[.int .u8 k2, .int .i64 n2, .int .i64 v2, .int .u8 c2, .slice A2 len2 cap2]] W (SameP (Fo.eqB (.cons k n v c kids .nil) (.cons k2 n2 v2 c2 kids2 .nil)) W)) := Lib.hid fun W hW => rsame_any _ k n v c A len cap kids k2 n2 v2 c2 A2 len2 cap2 kids2 W rfl (hk1.bel hW) (hk2.bel hW) (by omega) (by omega)
  have HS3 : Hid (∀ W, Bel w1 W → Calls Tryd.prog 22 #[.agg #[.int .u8 k, .int .i64 n, .int .i64 v, .int .u8 c, .slice A len cap], .agg #[.int .u8 k, .int .i64 n, .int .i64 v, .int .u8 c, .slice A len cap]] W (SameP true W)) := Lib.hid fun W hW => by
    have h := same_any k n v c A len cap kids k n v c A len cap kids W (hk1.bel hW) (hk1.bel hW) (by omega) (by omega)
    rw [Fo.eqB_refl] at h
    exact h
  obtain ⟨g, hg⟩ : ∃ g, g = decide (5000 < (Fo.cons k n v c kids (.cons k2 n2 v2 c2 kids2 .nil)).grt) := ⟨_, rfl⟩
  obtain ⟨e1, he1⟩ : ∃ e1, e1 = tyErr (.cons k n v c kids .nil) := ⟨_, rfl⟩
  obtain ⟨z, hz⟩ : ∃ z : Int, z = ((1 + kids.size : Nat) : Int) := ⟨_, rfl⟩
  obtain ⟨b, hb⟩ : ∃ b, b = Fo.eqB (.cons k n v c kids .nil) (.cons k2 n2 v2 c2 kids2 .nil) := ⟨_, rfl⟩
  rw [← hg] at HGr
  rw [← he1] at HM1 HM2
  rw [← hb] at HS HS2
  rw [← hz] at HZ1 HZ2
  have HB1 := Lib.hid hb1
  have HQ1 := Lib.hid q1
  have HS1 := Lib.hid hs1
  have HR := Lib.hid (regMy_any (id := 3) w.heap.size (w.heap.size + 1) k n v c A len cap k2 n2 v2 c2 A2 len2 cap2 z e1 b)
  clear hk1 hk2 ht1 h h2 ht hg he1 hz hb hsz hs1 q1 hb1
  go_enter Tryd.func4, Tryd.ntmps4
  go_wp2_with fail
  rw [← hw1]
  clear hw1
  refine (HGr.out _ _ ((Bel.refl w1).alloc _) (blk_at (by have := HS1.out; omega))).mono ?_
  rintro e w3 ⟨rfl, hb3⟩
  have HB3 := Lib.hid ((((Bel.refl w1).alloc _)).on hb3)
  clear hb3
  cases g
  case true =>
    go_wp2_with fail
    refine (HW.out _ HB3.out).mono ?_
    rintro e w9 ⟨rfl, hb9⟩
    have HB9 := Lib.hid (HB3.out.on hb9)
    clear hb9
    go_wp2_with fail
    go_ret
    exact ⟨rfl, HB1.out.on HB9.out⟩
  have HD : Hid (Bel w1 w3.drew) := Lib.hid HB3.out.drew
  go_wp2_with fail
  refine HR.out _ _ _ _ _ _ _ _ _ _ _ _ _ _ _ _ _ _ _ _ _ _ _ _ _ _ _ _ _ _ _ _ _ _ _ _ _ _ w3 (HD.out.blk HQ1.out.1) (HD.out.blk HQ1.out.2) (fun W hW => HZ1.out W (HD.out.on hW)) (fun W hW => HZ2.out W (HD.out.on hW)) (fun W hW => HM1.out W (HD.out.on hW)) (fun W hW => HM2.out W (HD.out.on hW)) (fun W hW => HS.out W (HD.out.on hW)) (fun W hW => HS2.out W (HD.out.on hW)) (fun W hW => HS3.out W (HD.out.on hW)) (fun W hW => HW.out W (HD.out.on hW)) _ ?_
  intro V w6 hb6 hv
  have HB6 := Lib.hid (HD.out.on hb6)
  simp only [regMy, List.drop_succ_cons, List.drop_zero, acVMy, hv]
  clear hb6 hv HR
  go_wp2_with fail
  go_ret
  exact ⟨rfl, HB1.out.on HB6.out⟩
end Go.Proofs.YtomojelaookacaaDoor.Mu

