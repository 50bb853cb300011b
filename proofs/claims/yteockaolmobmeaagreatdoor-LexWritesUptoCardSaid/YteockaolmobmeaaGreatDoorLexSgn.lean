/-
  May of the document, of a word or a sign, and of any token: walked.
-/
import Derived.Test.YteockaolmobmeaaGreatDoorLexPrm
namespace Go.Proofs.YteockaolmobmeaaGreatDoor.Mu
open Go.RowKit Go.Shelf
set_option maxRecDepth 100000
open Classical in
set_option maxHeartbeats 8000000 in
theorem rmay_sgn1 (S : ByteArray) (n a l c : Int) (w : World) (hp : S.data.toList ∈ wordsB) :
    Calls Tryz.prog 30 #[.agg #[.int .u8 5, .string S, .int .i64 n, .int .i64 a, .int .i64 l, .int .i64 c]] w fun e w' => e = .returned (.bool (decide (mayTk (5, S.data.toList, n)))) ∧ Bel w w' := by
  obtain ⟨ans, hans⟩ : ∃ ans, ans = decide (mayTk (5, S.data.toList, n)) := ⟨_, rfl⟩
  rw [← hans]
  have ha : ans = decide (n = 0) := by rw [hans]; exact decide_eq_decide.2 (may_k5.trans ⟨fun h => h.2, fun h => ⟨.inl hp, h⟩⟩)
  have HA := Lib.hid ha
  obtain ⟨w1, hw1⟩ : ∃ w1, w1 = w.alloc (.cells #[.int .u8 5, .string S, .int .i64 n, .int .i64 a, .int .i64 l, .int .i64 c] 44) := ⟨_, rfl⟩
  have HB1 : Hid (Bel w w1) := by rw [hw1]; exact Lib.hid ((Bel.refl w).alloc _)
  have HQ1 : Hid (w1.heap[w.heap.size]? = some (.cells #[.int .u8 5, .string S, .int .i64 n, .int .i64 a, .int .i64 l, .int .i64 c] 44 (0, 0))) := by rw [hw1]; exact Lib.hid (blk1 w _)
  have HP : Hid (∀ (A : Option Addr) (W : World), RL W W.heap.size A 6 wordsB → Calls Tryz.prog 46 #[.slice A 6 6, .string S] W fun e w' => e = .returned (.bool true) ∧ W = w') := Lib.hid fun A W hr => hasS_any S A 6 6 wordsB W (by decide) hr true (by rw [decide_eq_true hp])
  clear ha hans hp
  go_enter Tryz.func30, Tryz.ntmps30
  go_upto_region 11 with fail
  rw [← hw1]
  clear hw1
  obtain ⟨⟨t0, t1, t2, t3, t4, t5⟩, -⟩ := cells6 HQ1.out
  first | (go_region_with (first | (go_at_call 11; refine (rwords_any _).mono ?_; rintro e w2 ⟨⟨A2, rfl, hr2⟩, hb2⟩; (have HR2 := Lib.hid hr2); (have HB2 := Lib.hid (HB1.out.drew.on hb2)); (have hq := Bel.blk ((Bel.refl w1).drew.on hb2) HQ1.out); clear hr2 hb2; (obtain ⟨⟨s0, s1, s2, s3, s4, s5⟩, -⟩ := cells6 hq); clear hq) | (go_at_call 46; refine (HP.out _ _ HR2.out).mono ?_; rintro e w' ⟨rfl, rfl⟩))) | fail
  all_goals go_wp2
  all_goals go_ret
  all_goals exact ⟨by rw [HA.out]; first | rfl | (congr 2; rw [Bool.eq_iff_iff]; simp), HB2.out⟩
open Classical in
set_option maxHeartbeats 8000000 in
theorem rmay_sgn2 (S : ByteArray) (n a l c : Int) (w : World) (hp : S.data.toList ∉ wordsB) :
    Calls Tryz.prog 30 #[.agg #[.int .u8 5, .string S, .int .i64 n, .int .i64 a, .int .i64 l, .int .i64 c]] w fun e w' => e = .returned (.bool (decide (mayTk (5, S.data.toList, n)))) ∧ Bel w w' := by
  obtain ⟨ans, hans⟩ : ∃ ans, ans = decide (mayTk (5, S.data.toList, n)) := ⟨_, rfl⟩
  rw [← hans]
  have ha : ans = decide (S.data.toList ∈ signsB ∧ n = 0) := by rw [hans]; exact decide_eq_decide.2 (may_k5.trans ⟨fun h => ⟨h.1.resolve_left hp, h.2⟩, fun h => ⟨.inr h.1, h.2⟩⟩)
  obtain ⟨q, hq⟩ : ∃ q, q = decide (S.data.toList ∈ signsB) := ⟨_, rfl⟩
  have ha2 : ans = (q && decide (n = 0)) := by rw [ha, hq, Bool.decide_and]
  have HA := Lib.hid ha2
  obtain ⟨w1, hw1⟩ : ∃ w1, w1 = w.alloc (.cells #[.int .u8 5, .string S, .int .i64 n, .int .i64 a, .int .i64 l, .int .i64 c] 44) := ⟨_, rfl⟩
  have HB1 : Hid (Bel w w1) := by rw [hw1]; exact Lib.hid ((Bel.refl w).alloc _)
  have HQ1 : Hid (w1.heap[w.heap.size]? = some (.cells #[.int .u8 5, .string S, .int .i64 n, .int .i64 a, .int .i64 l, .int .i64 c] 44 (0, 0))) := by rw [hw1]; exact Lib.hid (blk1 w _)
  have HP : Hid (∀ (A : Option Addr) (W : World), RL W W.heap.size A 6 wordsB → Calls Tryz.prog 46 #[.slice A 6 6, .string S] W fun e w' => e = .returned (.bool false) ∧ W = w') := Lib.hid fun A W hr => hasS_any S A 6 6 wordsB W (by decide) hr false (by rw [decide_eq_false hp])
  have HS : Hid (∀ (A : Option Addr) (W : World), RL W W.heap.size A 22 signsB → Calls Tryz.prog 46 #[.slice A 22 22, .string S] W fun e w' => e = .returned (.bool q) ∧ W = w') := Lib.hid fun A W hr => hasS_any S A 22 22 signsB W (by decide) hr q hq
  clear ha hans ha2 hp hq
  go_enter Tryz.func30, Tryz.ntmps30
  go_upto_region 11 with fail
  rw [← hw1]
  clear hw1
  obtain ⟨⟨t0, t1, t2, t3, t4, t5⟩, -⟩ := cells6 HQ1.out
  cases q
  all_goals
    first | (go_region_with (first | (go_at_call 11; refine (rwords_any _).mono ?_; rintro e w2 ⟨⟨A2, rfl, hr2⟩, hb2⟩; (have HR2 := Lib.hid hr2); (have HB2 := Lib.hid (HB1.out.drew.on hb2)); (have hq := Bel.blk ((Bel.refl w1).drew.on hb2) HQ1.out); clear hr2 hb2; (have HQ2 := Lib.hid hq); (obtain ⟨⟨s0, s1, s2, s3, s4, s5⟩, -⟩ := cells6 hq); clear hq) | (go_at_call 15; refine (rsigns_any _).mono ?_; rintro e w3 ⟨⟨A3, rfl, hr3⟩, hb3⟩; (have HR3 := Lib.hid hr3); (have HB3 := Lib.hid (HB2.out.on hb3)); (have hq3 := Bel.blk ((Bel.refl w2).on hb3) HQ2.out); clear hr3 hb3; (obtain ⟨⟨r0, r1, r2, r3, r4, r5⟩, -⟩ := cells6 hq3); clear hq3 s0 s1 s2 s3 s4 s5) | (go_at_call 46; (first | (refine (HS.out _ _ HR3.out).mono ?_) | (refine (HP.out _ _ HR2.out).mono ?_)); rintro e w' ⟨rfl, rfl⟩))) | fail
    all_goals go_wp2
    all_goals go_ret
    all_goals exact ⟨by rw [HA.out]; first | rfl | (congr 2; rw [Bool.eq_iff_iff]; simp), HB3.out⟩
open Classical in
/-- What May of the document answers. -/
theorem rmay10_any (k : Int) (S : ByteArray) (hS : S.size ≤ 4000000) (n a l c : Int) (w : World) :
    Calls Tryz.prog 30 #[.agg #[.int .u8 k, .string S, .int .i64 n, .int .i64 a, .int .i64 l, .int .i64 c]] w fun e w' => e = .returned (.bool (decide (mayTk (k, S.data.toList, n)))) ∧ Bel w w' := by
  by_cases k1 : k = 1
  · subst k1; exact rmay_name 1 false (.inl ⟨rfl, rfl⟩) S n a l c w
  by_cases k2 : k = 2
  · subst k2; exact rmay_name 2 true (.inr ⟨rfl, rfl⟩) S n a l c w
  by_cases k3 : k = 3
  · subst k3; exact rmay_num S n a l c w
  by_cases k4 : k = 4
  · subst k4; exact rmay_text S hS n a l c w
  by_cases k5 : k = 5
  · subst k5
    by_cases hp : S.data.toList ∈ wordsB
    · exact rmay_sgn1 S n a l c w hp
    · exact rmay_sgn2 S n a l c w hp
  by_cases k6 : k = 6
  · subst k6; exact rmay_prim S n a l c w
  · exact rmay_else k (by omega) S n a l c w
end Go.Proofs.YteockaolmobmeaaGreatDoor.Mu

